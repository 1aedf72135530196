/- The document's Padded and laid: bytes put behind a message. The document's words, Digest, event, and the function Sum. The document's FormOf (SHA-256). -/
import Derived.Test.YtjhhnajgfngbhaaGreatDoorZhd
import Derived.Test.YtjhhnajgfngbhaaGreatDoorZda
import Derived.Test.YtjhhnajgfngbhaaGreatDoorZrr
import Derived.Deep.Cut
namespace Go.Proofs.YtjhhnajgfngbhaaGreatDoor.Sh
open Go.ChangeShapes Go.WideShapes Go.ChangeAt Go.RowKit
open Go.Proofs.YtjhhnajgfngbhaaGreatDoor.By Go.Proofs.YtjhhnajgfngbhaaGreatDoor.Wd

theorem rb_one (w : World) (x : Int) (hx : 0 ≤ x ∧ x < 256) : By.RB (w.alloc (.cells #[.int .u8 x] 5)) (.slice (some ⟨w.heap.size, 0, none⟩) 1 1) 1 (fun _ => x) :=
  rb_blk (Blk.newAt w _ (bl 1 (fun _ => x)) 5 _ rfl (by rw [← bl_singleton])) (fun _ => hx) (by decide)
theorem cat_one (n : Nat) (f F : Nat → Int) (x : Int) (h1 : ∀ i, i < n → f i = F i) (h2 : x = F n) (i : Nat) (hi : i < n + 1) : cat n f (fun _ => x) i = F i := by
  unfold cat
  split
  · exact h1 i (by assumption)
  · rw [h2, show i = n from by omega]
theorem p256 (j : Nat) : (2 : Int) ^ (8 * j) = 256 ^ j := by
  have h := congrArg (fun n : Nat => (n : Int)) (pow256 j)
  simp only [Int.natCast_pow] at h
  exact h.symm
theorem be_eq (W : Nat) (x : Int) (k : Nat) : x / 2 ^ (8 * (W - 1 - k)) % 256 = beByte W x k := by unfold beByte; rw [p256]
/-- The padded message. -/
def padf (m : Nat) (f : Nat → Int) : Nat → Int := cat m f (endf m)
theorem padf_bound (m : Nat) (f : Nat → Int) (hf : ∀ i, 0 ≤ f i ∧ f i < 256) (i : Nat) : 0 ≤ padf m f i ∧ padf m f i < 256 := cat_bound hf (endf_bound m) i
theorem padf_m (m : Nat) (f : Nat → Int) (i : Nat) (h : i < m) : padf m f i = f i := by unfold padf cat; rw [if_pos h]
theorem padf_128 (m : Nat) (f : Nat → Int) : padf m f m = 128 := by
  unfold padf endf cat
  rw [if_neg (by omega), if_pos (by omega)]
  show (if m - m = 0 then (128 : Int) else 0) = 128
  rw [if_pos (by omega)]
theorem padf_0 (m : Nat) (f : Nat → Int) (k : Nat) (h0 : 0 < k) (h : k < 1 + zs m) : padf m f (m + k) = 0 := by
  unfold padf endf cat
  rw [if_neg (by omega), if_pos (by omega)]
  show (if m + k - m = 0 then (128 : Int) else 0) = 0
  rw [if_neg (by omega)]
theorem padf_e (m : Nat) (f : Nat → Int) (k : Nat) : padf m f (m + (1 + zs m) + k) = beByte 8 (8 * (m : Int)) k := by
  unfold padf endf cat
  rw [if_neg (by omega), if_neg (by omega)]
  congr 1
  omega
set_option maxRecDepth 4000 in
set_option maxHeartbeats 2000000 in
theorem padded53 (m : Nat) (v : Value) (f : Nat → Int) (w : World) (hr : By.RB w v m f) (hm : m ≤ 140737488353328) :
    Calls Tryz.prog 107 #[v] w fun e w' => ∃ u, e = .returned u ∧ By.Own w' w.heap.size u (m + (1 + zs m + 8)) (padf m f) ∧ Below w.heap.size w w' := by
  have HR := hid hr
  have hf := hid hr.1
  obtain ⟨_, a, cap, rfl, -, -, -⟩ := hr
  have hzs : zs m < 64 := by unfold zs; omega
  have hze : (m + (1 + zs m)) % 64 = 56 := by unfold zs; omega
  have hzn : ∀ k, k < 1 + zs m → 0 < k → (m + k) % 64 ≠ 56 := by unfold zs; intro k h1 h2; omega
  have HZN := hid hzn
  have HZE := hid hze
  clear hzn hze
  go_enter Tryz.func107, Tryz.ntmps107
  go_wp2_with (at_builtin; go_must (refine wpList_cat rfl _ _ rfl w.heap.size 0 m _ _ f f rfl (By.own_nil _ _ _ hf.out) rfl HR.out (by omega) (Nat.le_refl _) ?_))
  intro v1 w1 hv1 hg1
  have O1 := hid (show By.Own w1 w.heap.size v1 m (padf m f) from own_congr (f := cat 0 f f) hv1 (padf_bound m f hf.out) (fun i hi => by rw [padf_m m f i hi, cat0]))
  have b1 := hid (below_grow (Below.refl w.heap.size w) (Nat.le_refl _) (By.own_nil w w.heap.size f hf.out) hg1)
  clear hv1 hg1
  go_wp2_with (at_builtin; go_must (refine wpList_cat rfl _ _ rfl w.heap.size m 1 _ _ (padf m f) (fun _ => 128) rfl (own_below O1.out (below_alloc w1 _)) rfl (rb_one w1 128 (by decide)) (by omega) (Nat.le_trans b1.out.size (below_alloc w1 _).size) ?_))
  intro v2 w2 hv2 hg2
  have O2 := hid (own_congr hv2 (padf_bound m f hf.out) (cat_one m (padf m f) (padf m f) 128 (fun _ _ => rfl) (padf_128 m f).symm))
  have b2 := hid (below_grow (below_next b1.out (below_alloc w1 (.cells #[.int .u8 128] 5))) (Nat.le_trans b1.out.size (below_alloc w1 _).size) (own_below O1.out (below_alloc w1 (.cells #[.int .u8 128] 5))) hg2)
  clear hv2 hg2
  go_wp2_with fail
  go_loopw [3] (fun u wr => ∃ k : Nat, 1 ≤ k ∧ k ≤ 1 + zs m ∧ By.Own wr w.heap.size u (m + k) (padf m f) ∧ Below w.heap.size w wr) (fun u _ => 281474976710656 - slLen u)
  case atStart => exact ⟨1, by omega, by omega, O2.out, b2.out⟩
  case round =>
    clear O1 O2 b1 b2
    obtain ⟨k, hk0, hk, hown, hbel⟩ := hrel
    have O := hid hown
    have b := hid hbel
    obtain ⟨gg, cc, rfl, -⟩ := own_cells hown (by omega)
    clear hown hbel
    by_cases hlt : k < 1 + zs m
    · have hne : ¬ ((m + k : Nat) : Int) % 64 = 56 := by have := HZN.out k hlt hk0; omega
      go_wp2_with (at_builtin; go_must (refine wpList_cat rfl _ _ rfl w.heap.size (m + k) 1 _ _ (padf m f) (fun _ => 0) rfl (own_below O.out (below_alloc wr _)) rfl (rb_one wr 0 (by decide)) (by omega) (Nat.le_trans b.out.size (below_alloc wr _).size) ?_))
      intro v3 w3 hv3 hg3
      have O3 := hid (own_congr hv3 (padf_bound m f hf.out) (cat_one (m + k) (padf m f) (padf m f) 0 (fun _ _ => rfl) (padf_0 m f k hk0 hlt).symm))
      have b3 := hid (below_grow (below_next b.out (below_alloc wr (.cells #[.int .u8 0] 5))) (Nat.le_trans b.out.size (below_alloc wr _).size) (own_below O.out (below_alloc wr (.cells #[.int .u8 0] 5))) hg3)
      obtain ⟨g3, c3, rfl, -⟩ := own_cells O3.out (by omega)
      clear hv3 hg3
      go_wp2
      exact ⟨⟨k + 1, by omega, by omega, O3.out, b3.out⟩, by simp [slLen]; omega⟩
    · have ek : k = 1 + zs m := by omega
      subst ek
      have he : ((m + (1 + zs m) : Nat) : Int) % 64 = 56 := by have := HZE.out; omega
      go_wp2_with fail
      rw [show (((m : Int) + (1 + (zs m : Int))) % 64 != 56) = false from by have := HZE.out; simp; omega]
      go_loopw [3, 5] (fun u i wr => ∃ k : Nat, k ≤ 8 ∧ i = .int .i64 k ∧ By.Own wr w.heap.size u (m + (1 + zs m) + k) (padf m f) ∧ Below w.heap.size w wr) (fun _ i _ => 8 - (intOf i).toNat)
      case atStart => exact ⟨0, by omega, rfl, O.out, b.out⟩
      case round =>
        clear O b
        obtain ⟨k, hk', rfl, hown, hbel⟩ := hrel
        have O := hid hown
        have b := hid hbel
        clear hown hbel
        by_cases hlk : k < 8
        · have e5 : (56 - 8 * (k : Int)).toNat = 8 * (7 - k) := by omega
          have e6 : (0 : Int) ≤ 56 - 8 * k := by omega
          have hx : Hid (8 * (m : Int) / 2 ^ (8 * (7 - k)) % 256 = padf m f (m + (1 + zs m) + k)) := by
            show 8 * (m : Int) / 2 ^ (8 * (7 - k)) % 256 = padf m f (m + (1 + zs m) + k)
            rw [padf_e]; exact be_eq 8 _ k
          have hxb : Hid (0 ≤ 8 * (m : Int) / 2 ^ (8 * (7 - k)) % 256 ∧ 8 * (m : Int) / 2 ^ (8 * (7 - k)) % 256 < 256) := by
            show 0 ≤ 8 * (m : Int) / 2 ^ (8 * (7 - k)) % 256 ∧ 8 * (m : Int) / 2 ^ (8 * (7 - k)) % 256 < 256; omega
          go_wp2_with (at_builtin; go_must (refine wpList_cat rfl _ _ rfl w.heap.size (m + (1 + zs m) + k) 1 _ _ (padf m f) (fun _ => 8 * (m : Int) / 2 ^ (8 * (7 - k)) % 256) rfl (own_below O.out (below_alloc wr _)) rfl (rb_one wr _ hxb.out) (by omega) (Nat.le_trans b.out.size (below_alloc wr _).size) ?_))
          intro v4 w4 hv4 hg4
          have O4 := hid (own_congr hv4 (padf_bound m f hf.out) (cat_one _ (padf m f) (padf m f) _ (fun _ _ => rfl) hx.out))
          have b4 := hid (below_grow (below_next b.out (below_alloc wr (.cells #[.int .u8 (8 * (m : Int) / 2 ^ (8 * (7 - k)) % 256)] 5))) (Nat.le_trans b.out.size (below_alloc wr _).size) (own_below O.out (below_alloc wr (.cells #[.int .u8 (8 * (m : Int) / 2 ^ (8 * (7 - k)) % 256)] 5))) hg4)
          clear hv4 hg4
          go_wp2
          go_roundw
          case rel => exact ⟨k + 1, by omega, by go_num, O4.out, b4.out⟩
          case measure => simp [intOf]; omega
        · have ek : k = 8 := by omega
          subst ek
          go_wp2
          go_ret
          exact ⟨_, rfl, by rw [← Nat.add_assoc]; exact O.out, b.out⟩

set_option maxRecDepth 4000 in
set_option maxHeartbeats 2000000 in
theorem rlaid65 (h : Nat → Int) (hh : ∀ i, W32 (h i)) (w : World) :
    Calls Tryz.prog 105 #[.agg (wl 8 h).toArray] w fun e w' => ∃ v, e = .returned v ∧ By.Own w' w.heap.size v 32 (lf h) ∧ Below w.heap.size w w' := by
  have HH := hid hh
  clear hh
  go_enter Tryz.func105, Tryz.ntmps105
  go_wp2_with fail
  go_loopw [3, 4] (fun v i wr => ∃ k : Nat, k ≤ 8 ∧ i = .int .i64 k ∧ Blk wr w.heap.size (wl 8 h) 112 ∧ By.Own wr (w.heap.size + 1) v (4 * k) (lf h) ∧ Below w.heap.size w wr) (fun _ i _ => 8 - (intOf i).toNat)
  case atStart => exact ⟨0, by omega, rfl, Blk.new w _ _, By.own_nil _ _ _ (lf_bound h), below_alloc w _⟩
  case round =>
    obtain ⟨k, hk, rfl, b0, hown, hbel⟩ := hrel
    have B0 := hid b0
    have O := hid hown
    have b := hid hbel
    clear b0 hown hbel
    by_cases hlt : k < 8
    · go_wp2_with fail
      rw [show decide ((k : Int) < 8) = true from by simp; omega]
      go_loopw [3, 5] (fun v i wr => ∃ j : Nat, j ≤ 4 ∧ i = .int .i64 j ∧ Blk wr w.heap.size (wl 8 h) 112 ∧ By.Own wr (w.heap.size + 1) v (4 * k + j) (lf h) ∧ Below w.heap.size w wr) (fun _ i _ => 4 - (intOf i).toNat)
      case atStart => exact ⟨0, by omega, rfl, B0.out, O.out, b.out⟩
      case round =>
        clear B0 O b
        obtain ⟨j, hj, rfl, b0, hown, hbel⟩ := hrel
        have B0 := hid b0
        have O := hid hown
        have b := hid hbel
        have z0 := hid b0.lt
        clear b0 hown hbel
        by_cases hlj : j < 4
        · have c1 := B0.out.cell k _ (wl_get 8 h k hlt)
          have e5 : (24 - 8 * (j : Int)).toNat = 8 * (3 - j) := by omega
          have e6 : (0 : Int) ≤ 24 - 8 * j := by omega
          have hx : Hid (h k / 2 ^ (8 * (3 - j)) % 256 = lf h (4 * k + j)) := by
            show h k / 2 ^ (8 * (3 - j)) % 256 = lf h (4 * k + j)
            unfold lf
            rw [show (4 * k + j) / 4 = k from by omega, show (4 * k + j) % 4 = j from by omega]
            exact be_eq 4 _ j
          have hxb : Hid (0 ≤ h k / 2 ^ (8 * (3 - j)) % 256 ∧ h k / 2 ^ (8 * (3 - j)) % 256 < 256) := by
            show 0 ≤ h k / 2 ^ (8 * (3 - j)) % 256 ∧ h k / 2 ^ (8 * (3 - j)) % 256 < 256; omega
          have g1 := (HH.out k).1
          have g2 := (HH.out k).2
          go_wp2_with (at_builtin; go_must (refine wpList_cat rfl _ _ rfl (w.heap.size + 1) (4 * k + j) 1 _ _ (lf h) (fun _ => h k / 2 ^ (8 * (3 - j)) % 256) rfl (own_below O.out (below_alloc wr _)) rfl (rb_one wr _ hxb.out) (by omega) (Nat.le_trans z0.out (below_alloc wr _).size) ?_))
          intro v4 w4 hv4 hg4
          have O4 := hid (own_congr hv4 (lf_bound h) (cat_one _ (lf h) (lf h) _ (fun _ _ => rfl) hx.out))
          have oa := own_below O.out (below_alloc wr (.cells #[.int .u8 (h k / 2 ^ (8 * (3 - j)) % 256)] 5))
          have b4 := hid ((below_next b.out (below_alloc wr (.cells #[.int .u8 (h k / 2 ^ (8 * (3 - j)) % 256)] 5))).grown hg4 (by have := z0.out; simp; omega) (fun q hq => by have := own_row oa q hq; omega))
          have B4 := hid ((B0.out.alloc (.cells #[.int .u8 (h k / 2 ^ (8 * (3 - j)) % 256)] 5)).kept (Kp.of_grown hg4) (fun e => by have := own_row oa _ e; omega))
          clear hv4 hg4 oa
          go_wp2
          go_roundw
          case rel => exact ⟨j + 1, by omega, by go_num, B4.out, O4.out, b4.out⟩
          case measure => simp [intOf]; omega
        · have ej : j = 4 := by omega
          subst ej
          go_wp2
          exact ⟨⟨k + 1, by omega, by go_num, B0.out, O.out, b.out⟩, by simp [intOf]; omega⟩
    · have ek : k = 8 := by omega
      subst ek
      go_wp2
      go_ret
      exact ⟨_, rfl, own_mono O.out (by omega), b.out⟩
end Go.Proofs.YtjhhnajgfngbhaaGreatDoor.Sh
namespace Go.Proofs.YtjhhnajgfngbhaaGreatDoor.Sh
open Go.ChangeShapes Go.WideShapes Go.ChangeAt Go.RowKit
open Go.Proofs.YtjhhnajgfngbhaaGreatDoor.By Go.Proofs.YtjhhnajgfngbhaaGreatDoor.Wd

set_option maxRecDepth 4000 in
set_option maxHeartbeats 400000 in
theorem words66 (n : Nat) (v : Value) (f : Nat → Int) (w : World) (hr : By.RB w v n f) (hn : n ≤ 140737488354328) :
    Calls Tryz.prog 106 #[v] w fun e w' => e = .returned (.agg (wl 8 (hw f (n / 64))).toArray) ∧ Below w.heap.size w w' := by
  have HR := hid hr
  obtain ⟨hf, a, cap, rfl, -, -, -⟩ := hr
  have HF := hid hf
  clear hf
  go_enter Tryz.func106, Tryz.ntmps106
  go_wp2_with fail
  refine (begin72 _).mono ?_
  rintro e w1 ⟨rfl, hb1⟩
  have B0 := hid ((Blk.newAt w _ (wl 8 (fun _ => 0)) 112 w.heap.size rfl h8).below hb1)
  have b1 := hid (below_next (below_alloc w _) hb1)
  clear hb1
  have nb := Blk.newAt w1 _ (wl 8 (fun _ => 0)) 112 w1.heap.size rfl h8
  have x1 := SVh_run (cs := wl 8 bg) (nb.there 0 8 (by rw [wl_length]; omega)) (wl_length _ _) (wl_one _ _)
  have nb2 := nb.put 0 (wl 8 bg)
  rw [put_all _ _ (by rw [wl_length, wl_length])] at nb2
  have NB := hid nb2
  clear nb nb2
  go_upto_region 2 with fail
  obtain ⟨X0, hX0⟩ : ∃ x, World.setCells (w1.alloc (.cells (wl 8 (fun _ => 0)).toArray 112)) w1.heap.size 0 (wl 8 bg) = x := ⟨_, rfl⟩
  have z1 := b1.out.size
  have l0 := B0.out.lt
  have p0 := hid ((B0.out.alloc (.cells (wl 8 (fun _ => 0)).toArray 112)).kept (Kp.setCells w1.heap.size 0 (wl 8 bg)) (by omega))
  have p2 := hid (below_cells (below_next b1.out (below_alloc w1 (.cells (wl 8 (fun _ => 0)).toArray 112))) w1.heap.size 0 (wl 8 bg) z1 (by rw [size_alloc]; omega))
  rw [hX0] at p0 p2
  rw [h8, hX0] at NB
  rw [h8, hX0]
  obtain ⟨gx, hgx⟩ : ∃ x, w1.heap.size = x := ⟨_, rfl⟩
  rw [hgx] at NB
  rw [hgx]
  have hgg : w.heap.size < gx := by rw [← hgx]; exact l0
  clear hX0 hgx l0 z1 B0 b1 x1
  go_wp2_with fail
  go_loopw [4] (fun i wr => ∃ j : Nat, 64 * j ≤ n ∧ i = .int .i64 (64 * (j : Int)) ∧ Blk wr w.heap.size (wl 8 (fun _ => 0)) 112 ∧ Blk wr gx (wl 8 (hw f j)) 112 ∧ Below w.heap.size w wr) (fun i _ => 281474976710656 - (intOf i).toNat)
  case atStart => exact ⟨0, by omega, rfl, p0.out, NB.out, p2.out⟩
  case round =>
    clear p0 NB p2
    obtain ⟨j, hj, rfl, h1, h2, h3⟩ := hrel
    have E0 := hid h1
    have X := hid h2
    have E2 := hid h3
    have zl := h2.lt
    clear h1 h2 h3
    have l1 := LDh_run (X.out.range 0 _ (fun j v h => by rw [Nat.zero_add]; exact h)) (wl_length _ _)
    by_cases hlt : 64 * j + 64 ≤ n
    · have hlt' : 64 * (j : Int) + 64 ≤ n := by omega
      go_wp2_with fail
      rw [show (64 * (j : Int)) = ((64 * j : Nat) : Int) from by omega]
      refine (compressed73 (hw f j) f _ n (64 * j) (hw_w f j) _ (HR.out.below E2.out) hlt hn).mono ?_
      rintro e w4 ⟨rfl, hb4⟩
      have X4 := hid (X.out.below hb4)
      have s1 := SVh_run (cs := wl 8 (comp (hw f j) (fun i => f (64 * j + i)))) (X4.out.there 0 8 (by rw [wl_length]; omega)) (wl_length _ _) (wl_one _ _)
      have E4 := hid (E0.out.below hb4)
      have b4 := hid (E2.out.trans (hb4.mono E2.out.size))
      clear hb4 l1
      go_wp2
      have b5 := X4.out.put 0 (wl 8 (comp (hw f j) (fun i => f (64 * j + i))))
      rw [put_all _ _ (by rw [wl_length, wl_length])] at b5
      refine ⟨⟨j + 1, by omega, by go_num, E4.out.kept (Kp.setCells _ _ _) (by omega), b5, below_cells b4.out _ _ _ (by omega) b4.out.size⟩, by simp [intOf]; omega⟩
    · have ej : n / 64 = j := by omega
      have hlt' : ¬ 64 * (j : Int) + 64 ≤ n := by omega
      have s1 := SVh_run (cs := wl 8 (hw f j)) (E0.out.there 0 8 (by rw [wl_length]; omega)) (wl_length _ _) (wl_one _ _)
      have b3 := E0.out.put 0 (wl 8 (hw f j))
      rw [put_all _ _ (by rw [wl_length, wl_length])] at b3
      have l2 := hid (LDh_run (b3.range 0 _ (fun j v h => by rw [Nat.zero_add]; exact h)) (wl_length _ _))
      have EJ := hid ej
      clear b3 ej
      go_wp2
      refine bodyPost_ret (v := .agg (wl 8 (hw f j)).toArray) ?_ rfl ⟨by rw [EJ.out], below_cells E2.out _ _ _ (Nat.le_refl _) E2.out.size⟩
      exact results_cell1 Tryz.results106 rfl l2.out
theorem digest54 (m : Nat) (v : Value) (f : Nat → Int) (w : World) (hr : By.RB w v m f) (hm : m ≤ 140737488353328) :
    Calls Tryz.prog 93 #[v] w fun e w' => ∃ u, e = .returned u ∧ By.Own w' w.heap.size u 32 (dig m f) ∧ Below w.heap.size w w' := by
  have HR := hid hr
  clear hr
  go_enter Tryz.func93, Tryz.ntmps93
  go_wp2_with fail
  refine (padded53 m v f _ HR.out hm).mono ?_
  rintro e w1 ⟨u1, rfl, hu, hb⟩
  have U1 := hid hu
  have b1 := hid hb
  clear hu hb
  go_wp2_with fail
  refine (words66 _ _ _ _ U1.out.reads (by unfold zs; omega)).mono ?_
  rintro e w2 ⟨rfl, hb⟩
  have b2 := hid (below_next b1.out hb)
  clear hb
  go_wp2_with fail
  refine (rlaid65 _ (hw_w _ _) _).mono ?_
  rintro e w3 ⟨u3, rfl, hu, hb⟩
  have U3 := hid (own_mono hu b2.out.size)
  have b3 := hid (below_next b2.out hb)
  clear hu hb
  go_wp2
  go_ret
  exact ⟨_, rfl, U3.out, b3.out⟩
theorem event52 (w : World) : Calls Tryz.prog 91 #[] w fun e w' => e = .returned (.agg #[.int .u8 1, .int .i64 64]) ∧ Below w.heap.size w w' := by
  go_enter Tryz.func91, Tryz.ntmps91
  go_wp2
  refine bodyPost_ret (v := .agg #[.int .u8 1, .int .i64 64]) (by simp [results, Tryz.results91, go_sem]) rfl ⟨rfl, below_alloc _ _⟩
end Go.Proofs.YtjhhnajgfngbhaaGreatDoor.Sh
namespace Go.Proofs.YtjhhnajgfngbhaaGreatDoor.Sh
open Go.ChangeShapes Go.WideShapes Go.ChangeAt Go.RowKit
open Go.Proofs.YtjhhnajgfngbhaaGreatDoor.By Go.Proofs.YtjhhnajgfngbhaaGreatDoor.Wd
theorem rb_tail {w : World} {a : Option Addr} {n cap : Nat} {f : Nat → Int} (hr : By.RB w (.slice a n cap) n f) : By.RB w (sub a cap ((n : Int) / 64 * 64) (n : Int)) (n % 64) (fun i => f (n / 64 * 64 + i)) := by
  obtain ⟨hf, a', cap', he, h1, h2, hcc⟩ := hr
  simp only [Value.slice.injEq] at he
  obtain ⟨rfl, _, rfl⟩ := he
  have hq : n / 64 * 64 ≤ n := by omega
  refine ⟨fun j => hf _, if cap = n / 64 * 64 then a else a.map (·.add (n / 64 * 64)), cap - n / 64 * 64, ?_, by omega, by omega, ?_⟩
  · unfold sub
    rw [show ((n : Int) / 64 * 64).toNat = n / 64 * 64 from by omega, Int.toNat_natCast, Nat.mul_one, show n - n / 64 * 64 = n % 64 from by omega]
  · rcases hcc with ⟨e, e2⟩ | ⟨b, off, rfl, hcc⟩
    · refine .inl ⟨by omega, fun e3 => ?_⟩
      split at e3
      · have := e2 e3; omega
      · cases a with
        | none => have := e2 rfl; omega
        | some x => simp at e3
    · by_cases h0 : n % 64 = 0
      · refine .inl ⟨h0, fun e3 => ?_⟩
        split at e3
        · cases e3
        · simp at e3
      · refine .inr ⟨b, off + n / 64 * 64, ?_, fun i hi => by rw [Nat.add_assoc]; exact hcc (n / 64 * 64 + i) (by omega)⟩
        rw [if_neg (by omega), Option.map_some, By.add_plain]
theorem formf_a (m : Nat) (f : Nat → Int) (i : Nat) (h : i < 32) : formf m f i = lf (hw f (m / 64)) i := by unfold formf cat; rw [if_pos (by omega), if_pos h]
theorem formf_b (m : Nat) (f : Nat → Int) (k : Nat) (h : k < 8) : formf m f (32 + k) = beByte 8 m k := by unfold formf cat; rw [if_pos (by omega), if_neg (by omega), show 32 + k - 32 = k from by omega]
theorem formf_c (m : Nat) (f : Nat → Int) (k : Nat) : formf m f (40 + k) = wt m f k := by unfold formf cat; rw [if_neg (by omega), show 40 + k - 40 = k from by omega]
theorem formf_bound (m : Nat) (f : Nat → Int) (hf : ∀ i, 0 ≤ f i ∧ f i < 256) (i : Nat) : 0 ≤ formf m f i ∧ formf m f i < 256 := by
  unfold formf cat
  split
  · split
    · exact lf_bound _ _
    · exact beByte_bound _ _ _
  · exact wt_bound m f hf _
theorem cat_tail (m : Nat) (f : Nat → Int) (i : Nat) (hi : i < 40 + m % 64) : cat 40 (formf m f) (fun i => f (m / 64 * 64 + i)) i = formf m f i := by
  by_cases h : i < 40
  · unfold cat; rw [if_pos h]
  · obtain ⟨k, rfl⟩ : ∃ k, i = 40 + k := ⟨i - 40, by omega⟩
    rw [formf_c]; unfold cat wt; rw [if_neg h, if_pos (by omega), show 40 + k - 40 = k from by omega]
theorem formf_d (m : Nat) (f : Nat → Int) (k : Nat) (h : m % 64 ≤ k) : formf m f (40 + k) = 0 := by rw [formf_c]; unfold wt; rw [if_neg (by omega)]
end Go.Proofs.YtjhhnajgfngbhaaGreatDoor.Sh
