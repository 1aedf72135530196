/- The document's Padded and laid: bytes put behind a message. -/
import Derived.Test.YtojldjckpjokcaaGreatDoorHsum
namespace Go.Proofs.YtojldjckpjokcaaGreatDoor.Sh
open Go.ChangeShapes Go.WideShapes Go.ChangeAt Go.RowKit
open Go.Proofs.YtojldjckpjokcaaGreatDoor.By Go.Proofs.YtojldjckpjokcaaGreatDoor.Wd

theorem rb_one (w : World) (x : Int) (hx : 0 ≤ x ∧ x < 256) : By.RB (w.alloc (.cells #[.int .u8 x] 5)) (.slice (some ⟨w.heap.size, 0, none⟩) 1 1) 1 (fun _ => x) :=
  rb_blk (Blk.newAt w _ (bl 1 (fun _ => x)) 5 _ rfl (by rw [← bl_singleton])) (fun _ => hx) (by decide)
theorem cat_one (n : Nat) (f F : Nat → Int) (x : Int) (h1 : ∀ i, i < n → f i = F i) (h2 : x = F n) (i : Nat) (hi : i < n + 1) : cat n f (fun _ => x) i = F i := by
  unfold cat
  split
  · exact h1 i (by assumption)
  · rw [h2, show i = n from by omega]
theorem p256 (j : Nat) : (2 : Int) ^ (8 * j) = 256 ^ j := by
  have h := congrArg (fun n : Nat => (n : Int)) (pow256 j)
  simp only [Int.natCast_pow] at h
  exact h.symm
theorem be_eq (W : Nat) (x : Int) (k : Nat) : x / 2 ^ (8 * (W - 1 - k)) % 256 = beByte W x k := by unfold beByte; rw [p256]
/-- The padded message. -/
def padf (m : Nat) (f : Nat → Int) : Nat → Int := cat m f (endf m)
theorem padf_bound (m : Nat) (f : Nat → Int) (hf : ∀ i, 0 ≤ f i ∧ f i < 256) (i : Nat) : 0 ≤ padf m f i ∧ padf m f i < 256 := cat_bound hf (endf_bound m) i
theorem padf_m (m : Nat) (f : Nat → Int) (i : Nat) (h : i < m) : padf m f i = f i := by unfold padf cat; rw [if_pos h]
theorem padf_128 (m : Nat) (f : Nat → Int) : padf m f m = 128 := by
  unfold padf endf cat
  rw [if_neg (by omega), if_pos (by omega)]
  show (if m - m = 0 then (128 : Int) else 0) = 128
  rw [if_pos (by omega)]
theorem padf_0 (m : Nat) (f : Nat → Int) (k : Nat) (h0 : 0 < k) (h : k < 1 + zs m) : padf m f (m + k) = 0 := by
  unfold padf endf cat
  rw [if_neg (by omega), if_pos (by omega)]
  show (if m + k - m = 0 then (128 : Int) else 0) = 0
  rw [if_neg (by omega)]
theorem padf_e (m : Nat) (f : Nat → Int) (k : Nat) : padf m f (m + (1 + zs m) + k) = beByte 8 (8 * (m : Int)) k := by
  unfold padf endf cat
  rw [if_neg (by omega), if_neg (by omega)]
  congr 1
  omega
set_option maxRecDepth 4000 in
set_option maxHeartbeats 2000000 in
theorem padded53 (m : Nat) (v : Value) (f : Nat → Int) (w : World) (hr : By.RB w v m f) (hm : m ≤ 900000) :
    Calls Tryz.prog 73 #[v] w fun e w' => ∃ u, e = .returned u ∧ By.Own w' w.heap.size u (m + (1 + zs m + 8)) (padf m f) ∧ Below w.heap.size w w' := by
  have HR := hid hr
  have hf := hid hr.1
  obtain ⟨_, a, cap, rfl, -, -, -⟩ := hr
  have hzs : zs m < 64 := by unfold zs; omega
  have hze : (m + (1 + zs m)) % 64 = 56 := by unfold zs; omega
  have hzn : ∀ k, k < 1 + zs m → 0 < k → (m + k) % 64 ≠ 56 := by unfold zs; intro k h1 h2; omega
  have HZN := hid hzn
  have HZE := hid hze
  clear hzn hze
  go_enter Tryz.func73, Tryz.ntmps73
  go_wp2_with (at_builtin; go_must (refine wpList_cat rfl _ _ rfl w.heap.size 0 m _ _ f f rfl (By.own_nil _ _ _ hf.out) rfl HR.out (by omega) (Nat.le_refl _) ?_))
  intro v1 w1 hv1 hg1
  have O1 := hid (show By.Own w1 w.heap.size v1 m (padf m f) from own_congr (f := cat 0 f f) hv1 (padf_bound m f hf.out) (fun i hi => by rw [padf_m m f i hi, cat0]))
  have b1 := hid (below_grow (Below.refl w.heap.size w) (Nat.le_refl _) (By.own_nil w w.heap.size f hf.out) hg1)
  clear hv1 hg1
  go_wp2_with (at_builtin; go_must (refine wpList_cat rfl _ _ rfl w.heap.size m 1 _ _ (padf m f) (fun _ => 128) rfl (own_below O1.out (below_alloc w1 _)) rfl (rb_one w1 128 (by decide)) (by omega) (Nat.le_trans b1.out.size (below_alloc w1 _).size) ?_))
  intro v2 w2 hv2 hg2
  have O2 := hid (own_congr hv2 (padf_bound m f hf.out) (cat_one m (padf m f) (padf m f) 128 (fun _ _ => rfl) (padf_128 m f).symm))
  have b2 := hid (below_grow (below_next b1.out (below_alloc w1 (.cells #[.int .u8 128] 5))) (Nat.le_trans b1.out.size (below_alloc w1 _).size) (own_below O1.out (below_alloc w1 (.cells #[.int .u8 128] 5))) hg2)
  clear hv2 hg2
  go_wp2_with fail
  go_loopw [3] (fun u wr => ∃ k : Nat, 1 ≤ k ∧ k ≤ 1 + zs m ∧ By.Own wr w.heap.size u (m + k) (padf m f) ∧ Below w.heap.size w wr) (fun u _ => 2000000 - slLen u)
  case atStart => exact ⟨1, by omega, by omega, O2.out, b2.out⟩
  case round =>
    clear O1 O2 b1 b2
    obtain ⟨k, hk0, hk, hown, hbel⟩ := hrel
    have O := hid hown
    have b := hid hbel
    obtain ⟨gg, cc, rfl, -⟩ := own_cells hown (by omega)
    clear hown hbel
    by_cases hlt : k < 1 + zs m
    · have hne : ¬ ((m + k : Nat) : Int) % 64 = 56 := by have := HZN.out k hlt hk0; omega
      go_wp2_with (at_builtin; go_must (refine wpList_cat rfl _ _ rfl w.heap.size (m + k) 1 _ _ (padf m f) (fun _ => 0) rfl (own_below O.out (below_alloc wr _)) rfl (rb_one wr 0 (by decide)) (by omega) (Nat.le_trans b.out.size (below_alloc wr _).size) ?_))
      intro v3 w3 hv3 hg3
      have O3 := hid (own_congr hv3 (padf_bound m f hf.out) (cat_one (m + k) (padf m f) (padf m f) 0 (fun _ _ => rfl) (padf_0 m f k hk0 hlt).symm))
      have b3 := hid (below_grow (below_next b.out (below_alloc wr (.cells #[.int .u8 0] 5))) (Nat.le_trans b.out.size (below_alloc wr _).size) (own_below O.out (below_alloc wr (.cells #[.int .u8 0] 5))) hg3)
      obtain ⟨g3, c3, rfl, -⟩ := own_cells O3.out (by omega)
      clear hv3 hg3
      go_wp2
      exact ⟨⟨k + 1, by omega, by omega, O3.out, b3.out⟩, by simp [slLen]; omega⟩
    · have ek : k = 1 + zs m := by omega
      subst ek
      have he : ((m + (1 + zs m) : Nat) : Int) % 64 = 56 := by have := HZE.out; omega
      go_wp2_with fail
      rw [show (((m : Int) + (1 + (zs m : Int))) % 64 != 56) = false from by have := HZE.out; simp; omega]
      go_loopw [3, 5] (fun u i wr => ∃ k : Nat, k ≤ 8 ∧ i = .int .i64 k ∧ By.Own wr w.heap.size u (m + (1 + zs m) + k) (padf m f) ∧ Below w.heap.size w wr) (fun _ i _ => 8 - (intOf i).toNat)
      case atStart => exact ⟨0, by omega, rfl, O.out, b.out⟩
      case round =>
        clear O b
        obtain ⟨k, hk', rfl, hown, hbel⟩ := hrel
        have O := hid hown
        have b := hid hbel
        clear hown hbel
        by_cases hlk : k < 8
        · have e5 : (56 - 8 * (k : Int)).toNat = 8 * (7 - k) := by omega
          have e6 : (0 : Int) ≤ 56 - 8 * k := by omega
          have hx : Hid (8 * (m : Int) / 2 ^ (8 * (7 - k)) % 256 = padf m f (m + (1 + zs m) + k)) := by
            show 8 * (m : Int) / 2 ^ (8 * (7 - k)) % 256 = padf m f (m + (1 + zs m) + k)
            rw [padf_e]; exact be_eq 8 _ k
          have hxb : Hid (0 ≤ 8 * (m : Int) / 2 ^ (8 * (7 - k)) % 256 ∧ 8 * (m : Int) / 2 ^ (8 * (7 - k)) % 256 < 256) := by
            show 0 ≤ 8 * (m : Int) / 2 ^ (8 * (7 - k)) % 256 ∧ 8 * (m : Int) / 2 ^ (8 * (7 - k)) % 256 < 256; omega
          go_wp2_with (at_builtin; go_must (refine wpList_cat rfl _ _ rfl w.heap.size (m + (1 + zs m) + k) 1 _ _ (padf m f) (fun _ => 8 * (m : Int) / 2 ^ (8 * (7 - k)) % 256) rfl (own_below O.out (below_alloc wr _)) rfl (rb_one wr _ hxb.out) (by omega) (Nat.le_trans b.out.size (below_alloc wr _).size) ?_))
          intro v4 w4 hv4 hg4
          have O4 := hid (own_congr hv4 (padf_bound m f hf.out) (cat_one _ (padf m f) (padf m f) _ (fun _ _ => rfl) hx.out))
          have b4 := hid (below_grow (below_next b.out (below_alloc wr (.cells #[.int .u8 (8 * (m : Int) / 2 ^ (8 * (7 - k)) % 256)] 5))) (Nat.le_trans b.out.size (below_alloc wr _).size) (own_below O.out (below_alloc wr (.cells #[.int .u8 (8 * (m : Int) / 2 ^ (8 * (7 - k)) % 256)] 5))) hg4)
          clear hv4 hg4
          go_wp2
          go_roundw
          case rel => exact ⟨k + 1, by omega, by go_num, O4.out, b4.out⟩
          case measure => simp [intOf]; omega
        · have ek : k = 8 := by omega
          subst ek
          go_wp2
          go_ret
          exact ⟨_, rfl, by rw [← Nat.add_assoc]; exact O.out, b.out⟩

set_option maxRecDepth 4000 in
set_option maxHeartbeats 2000000 in
theorem rlaid65 (h : Nat → Int) (hh : ∀ i, W32 (h i)) (w : World) :
    Calls Tryz.prog 83 #[.agg (wl 8 h).toArray] w fun e w' => ∃ v, e = .returned v ∧ By.Own w' w.heap.size v 32 (lf h) ∧ Below w.heap.size w w' := by
  have HH := hid hh
  clear hh
  go_enter Tryz.func83, Tryz.ntmps83
  go_wp2_with fail
  go_loopw [3, 4] (fun v i wr => ∃ k : Nat, k ≤ 8 ∧ i = .int .i64 k ∧ Blk wr w.heap.size (wl 8 h) 116 ∧ By.Own wr (w.heap.size + 1) v (4 * k) (lf h) ∧ Below w.heap.size w wr) (fun _ i _ => 8 - (intOf i).toNat)
  case atStart => exact ⟨0, by omega, rfl, Blk.new w _ _, By.own_nil _ _ _ (lf_bound h), below_alloc w _⟩
  case round =>
    obtain ⟨k, hk, rfl, b0, hown, hbel⟩ := hrel
    have B0 := hid b0
    have O := hid hown
    have b := hid hbel
    clear b0 hown hbel
    by_cases hlt : k < 8
    · go_wp2_with fail
      rw [show decide ((k : Int) < 8) = true from by simp; omega]
      go_loopw [3, 5] (fun v i wr => ∃ j : Nat, j ≤ 4 ∧ i = .int .i64 j ∧ Blk wr w.heap.size (wl 8 h) 116 ∧ By.Own wr (w.heap.size + 1) v (4 * k + j) (lf h) ∧ Below w.heap.size w wr) (fun _ i _ => 4 - (intOf i).toNat)
      case atStart => exact ⟨0, by omega, rfl, B0.out, O.out, b.out⟩
      case round =>
        clear B0 O b
        obtain ⟨j, hj, rfl, b0, hown, hbel⟩ := hrel
        have B0 := hid b0
        have O := hid hown
        have b := hid hbel
        have z0 := hid b0.lt
        clear b0 hown hbel
        by_cases hlj : j < 4
        · have c1 := B0.out.cell k _ (wl_get 8 h k hlt)
          have e5 : (24 - 8 * (j : Int)).toNat = 8 * (3 - j) := by omega
          have e6 : (0 : Int) ≤ 24 - 8 * j := by omega
          have hx : Hid (h k / 2 ^ (8 * (3 - j)) % 256 = lf h (4 * k + j)) := by
            show h k / 2 ^ (8 * (3 - j)) % 256 = lf h (4 * k + j)
            unfold lf
            rw [show (4 * k + j) / 4 = k from by omega, show (4 * k + j) % 4 = j from by omega]
            exact be_eq 4 _ j
          have hxb : Hid (0 ≤ h k / 2 ^ (8 * (3 - j)) % 256 ∧ h k / 2 ^ (8 * (3 - j)) % 256 < 256) := by
            show 0 ≤ h k / 2 ^ (8 * (3 - j)) % 256 ∧ h k / 2 ^ (8 * (3 - j)) % 256 < 256; omega
          have g1 := (HH.out k).1
          have g2 := (HH.out k).2
          go_wp2_with (at_builtin; go_must (refine wpList_cat rfl _ _ rfl (w.heap.size + 1) (4 * k + j) 1 _ _ (lf h) (fun _ => h k / 2 ^ (8 * (3 - j)) % 256) rfl (own_below O.out (below_alloc wr _)) rfl (rb_one wr _ hxb.out) (by omega) (Nat.le_trans z0.out (below_alloc wr _).size) ?_))
          intro v4 w4 hv4 hg4
          have O4 := hid (own_congr hv4 (lf_bound h) (cat_one _ (lf h) (lf h) _ (fun _ _ => rfl) hx.out))
          have oa := own_below O.out (below_alloc wr (.cells #[.int .u8 (h k / 2 ^ (8 * (3 - j)) % 256)] 5))
          have b4 := hid ((below_next b.out (below_alloc wr (.cells #[.int .u8 (h k / 2 ^ (8 * (3 - j)) % 256)] 5))).grown hg4 (by have := z0.out; simp; omega) (fun q hq => by have := own_row oa q hq; omega))
          have B4 := hid ((B0.out.alloc (.cells #[.int .u8 (h k / 2 ^ (8 * (3 - j)) % 256)] 5)).kept (Kp.of_grown hg4) (fun e => by have := own_row oa _ e; omega))
          clear hv4 hg4 oa
          go_wp2
          go_roundw
          case rel => exact ⟨j + 1, by omega, by go_num, B4.out, O4.out, b4.out⟩
          case measure => simp [intOf]; omega
        · have ej : j = 4 := by omega
          subst ej
          go_wp2
          exact ⟨⟨k + 1, by omega, by go_num, B0.out, O.out, b.out⟩, by simp [intOf]; omega⟩
    · have ek : k = 8 := by omega
      subst ek
      go_wp2
      go_ret
      exact ⟨_, rfl, own_mono O.out (by omega), b.out⟩
end Go.Proofs.YtojldjckpjokcaaGreatDoor.Sh
