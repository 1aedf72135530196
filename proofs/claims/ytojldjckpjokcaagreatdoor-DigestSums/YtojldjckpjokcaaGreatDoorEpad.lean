/- The document's number and laid: numbers as bytes. -/
import Derived.Test.YtojldjckpjokcaaGreatDoorJsum
namespace Go.Proofs.YtojldjckpjokcaaGreatDoor.Sg
open Go.ChangeShapes Go.WideShapes Go.ChangeAt Go.RowKit
open Go.Proofs.YtojldjckpjokcaaGreatDoor.By Go.Proofs.YtojldjckpjokcaaGreatDoor.Wd

theorem rb_one (w : World) (x : Int) (hx : 0 ≤ x ∧ x < 256) : By.RB (w.alloc (.cells #[.int .u8 x] 5)) (.slice (some ⟨w.heap.size, 0, none⟩) 1 1) 1 (fun _ => x) :=
  rb_blk (Blk.newAt w _ (bl 1 (fun _ => x)) 5 _ rfl (by rw [← bl_singleton])) (fun _ => hx) (by decide)
theorem cat_one (n : Nat) (f F : Nat → Int) (x : Int) (h1 : ∀ i, i < n → f i = F i) (h2 : x = F n) (i : Nat) (hi : i < n + 1) : cat n f (fun _ => x) i = F i := by
  unfold cat
  split
  · exact h1 i (by assumption)
  · rw [h2, show i = n from by omega]
theorem p256 (j : Nat) : (2 : Int) ^ (8 * j) = 256 ^ j := by
  have h := congrArg (fun n : Nat => (n : Int)) (pow256 j)
  simp only [Int.natCast_pow] at h
  exact h.symm
theorem be_eq (W : Nat) (x : Int) (k : Nat) : x / 2 ^ (8 * (W - 1 - k)) % 256 = beByte W x k := by unfold beByte; rw [p256]
set_option maxRecDepth 4000 in
set_option maxHeartbeats 2000000 in
theorem number60 (x : Int) (_hx : 0 ≤ x) (w : World) :
    Calls Tryz.prog 85 #[.int .u64 x] w fun e w' => ∃ v, e = .returned v ∧ By.Own w' w.heap.size v 8 (beByte 8 x) ∧ Below w.heap.size w w' := by
  go_enter Tryz.func85, Tryz.ntmps85
  go_wp2_with fail
  go_loopw [3, 4] (fun v i wr => ∃ k : Nat, k ≤ 8 ∧ i = .int .i64 (7 - (k : Int)) ∧ By.Own wr w.heap.size v k (beByte 8 x) ∧ Below w.heap.size w wr) (fun _ i _ => (intOf i + 1).toNat)
  case atStart => exact ⟨0, by omega, rfl, By.own_nil _ _ _ (beByte_bound 8 x), Below.refl _ _⟩
  case round =>
    obtain ⟨k, hk, rfl, hown, hbel⟩ := hrel
    have O := hid hown
    have b := hid hbel
    clear hown hbel
    by_cases hlk : k < 8
    · have e5 : (8 * (7 - (k : Int))).toNat = 8 * (7 - k) := by omega
      have e6 : (0 : Int) ≤ 7 - k := by omega
      have e7 : (0 : Int) ≤ 8 * (7 - k) := by omega
      have hx : Hid (x / 2 ^ (8 * (7 - k)) % 256 = beByte 8 x k) := be_eq 8 x k
      have hxb : Hid (0 ≤ x / 2 ^ (8 * (7 - k)) % 256 ∧ x / 2 ^ (8 * (7 - k)) % 256 < 256) := by
        show 0 ≤ x / 2 ^ (8 * (7 - k)) % 256 ∧ x / 2 ^ (8 * (7 - k)) % 256 < 256; omega
      go_wp2_with (at_builtin; go_must (refine wpList_cat rfl _ _ rfl w.heap.size k 1 _ _ (beByte 8 x) (fun _ => x / 2 ^ (8 * (7 - k)) % 256) rfl (own_below O.out (below_alloc wr _)) rfl (rb_one wr _ hxb.out) (by omega) (Nat.le_trans b.out.size (below_alloc wr _).size) ?_))
      intro v4 w4 hv4 hg4
      have O4 := hid (own_congr hv4 (beByte_bound 8 x) (cat_one _ (beByte 8 x) (beByte 8 x) _ (fun _ _ => rfl) hx.out))
      have b4 := hid (below_grow (below_next b.out (below_alloc wr (.cells #[.int .u8 (x / 2 ^ (8 * (7 - k)) % 256)] 5))) (Nat.le_trans b.out.size (below_alloc wr _).size) (own_below O.out (below_alloc wr (.cells #[.int .u8 (x / 2 ^ (8 * (7 - k)) % 256)] 5))) hg4)
      clear hv4 hg4
      go_wp2
      go_roundw
      case rel => exact ⟨k + 1, by omega, by go_num, O4.out, b4.out⟩
      case measure => simp [intOf]; omega
    · have ek : k = 8 := by omega
      subst ek
      go_wp2
      go_ret
      exact ⟨_, rfl, O.out, b.out⟩

set_option maxRecDepth 4000 in
set_option maxHeartbeats 2000000 in
theorem rlaid58 (h : Nat → Int) (hh : ∀ i, W64 (h i)) (w : World) :
    Calls Tryz.prog 86 #[.agg (wl 8 h).toArray] w fun e w' => ∃ v, e = .returned v ∧ By.Own w' w.heap.size v 64 (lf h) ∧ Below w.heap.size w w' := by
  have HH := hid hh
  clear hh
  go_enter Tryz.func86, Tryz.ntmps86
  go_wp2_with fail
  go_loopw [3, 4] (fun v i wr => ∃ k : Nat, k ≤ 8 ∧ i = .int .i64 k ∧ Blk wr w.heap.size (wl 8 h) 124 ∧ By.Own wr (w.heap.size + 1) v (8 * k) (lf h) ∧ Below w.heap.size w wr) (fun _ i _ => 8 - (intOf i).toNat)
  case atStart => exact ⟨0, by omega, rfl, Blk.new w _ _, By.own_nil _ _ _ (lf_bound h), below_alloc w _⟩
  case round =>
    obtain ⟨k, hk, rfl, b0, hown, hbel⟩ := hrel
    have B0 := hid b0
    have O := hid hown
    have b := hid hbel
    have z0 := hid b0.lt
    clear b0 hown hbel
    by_cases hlt : k < 8
    · have c1 := B0.out.cell k _ (wl_get 8 h k hlt)
      go_wp2_with fail
      refine (number60 (h k) (HH.out k).1 _).mono ?_
      rintro e w1 ⟨u, rfl, hu, hb1⟩
      have HU := hid hu.reads
      have O1 := hid (own_below O.out hb1)
      have b1 := hid (b.out.trans (hb1.mono b.out.size))
      have B1 := hid (B0.out.below hb1)
      have z1 := hid (Nat.lt_of_lt_of_le z0.out hb1.size)
      clear hu hb1 c1
      go_wp2_with (at_builtin; go_must (refine wpList_cat rfl _ _ rfl (w.heap.size + 1) (8 * k) 8 _ _ (lf h) (beByte 8 (h k)) rfl O1.out rfl HU.out (by omega) z1.out ?_))
      intro v4 w4 hv4 hg4
      have O4 := hid (own_congr hv4 (lf_bound h) (fun i hi => by rw [lf_next, if_pos hi]))
      have b4 := hid (b1.out.grown hg4 (by have := z1.out; omega) (fun q hq => by have := own_row O1.out q hq; omega))
      have B4 := hid (B1.out.kept (Kp.of_grown hg4) (fun e => by have := own_row O1.out _ e; omega))
      clear hv4 hg4
      go_wp2
      go_roundw
      case rel => exact ⟨k + 1, by omega, by go_num, B4.out, O4.out, b4.out⟩
      case measure => simp [intOf]; omega
    · have ek : k = 8 := by omega
      subst ek
      go_wp2
      go_ret
      exact ⟨_, rfl, own_mono O.out (by omega), b.out⟩
end Go.Proofs.YtojldjckpjokcaaGreatDoor.Sg
