/- What Gf8Known answers: true: the document's examples; each byte is the S-box of one byte; over all bytes S-boxes and products are the document's. -/
import Derived.Test.YtmliphepjmnjlaaGlaw
import Derived.Below
import Derived.Deep.DeepCutAuto
namespace Go.Proofs.Ytmliphepjmnjlaa.Gf
open Go.ChangeShapes Go.WideShapes Go.ChangeAt Go.RowKit
/-- How many bytes below k have the S-box j. -/
def cnt : Nat → Nat → Nat
  | 0, _ => 0
  | k + 1, j => cnt k j + if box k = j then 1 else 0
theorem cnt_is (k j : Nat) (hk : k ≤ 256) (hj : j < 256) : cnt k j = if back j < k then 1 else 0 := by
  induction k with
  | zero => rfl
  | succ k ih =>
    show cnt k j + (if box k = j then 1 else 0) = _
    rw [ih (by omega)]
    by_cases h : box k = j
    · have : back j = k := by rw [← h, back_box k (by omega)]
      rw [if_pos h, this, if_neg (by omega), if_pos (by omega)]
    · have hne : back j ≠ k := by
        intro e; rw [← e, box_back j hj] at h; exact h rfl
      rw [if_neg h]
      by_cases h2 : back j < k
      · rw [if_pos h2, if_pos (by omega)]
      · rw [if_neg h2, if_neg (by omega)]
theorem cnt_le (k j : Nat) : cnt k j ≤ k := by
  induction k with
  | zero => exact Nat.le_refl _
  | succ k ih =>
    show cnt k j + (if box k = j then 1 else 0) ≤ k + 1
    split <;> omega
theorem cnt_all (j : Nat) (hj : j < 256) : cnt 256 j = 1 := by rw [cnt_is 256 j (Nat.le_refl _) hj, if_pos (back_lt j)]
/-- 256 counts as cells. -/
def il (f : Nat → Nat) : List Value := (List.range 256).map fun i => Value.int .i64 (f i : Int)
theorem il_get (f : Nat → Nat) (i : Nat) (h : i < 256) : (il f)[i]? = some (.int .i64 (f i : Int)) := by simp [il, h]
theorem il_set (f g : Nat → Nat) (k : Nat) (x : Int) (h1 : ∀ i, i < 256 → i ≠ k → f i = g i) (h2 : x = (g k : Int)) : (il f).set k (.int .i64 x) = il g := by
  apply List.ext_getElem?
  intro i
  rw [List.getElem?_set]
  by_cases h : i < 256
  · by_cases e : k = i
    · subst e; rw [if_pos rfl, il_get g k h, if_pos (by simpa [il] using h), h2]
    · rw [if_neg e, il_get f i h, il_get g i h, h1 i h (fun e' => e e'.symm)]
  · have l1 : (il f)[i]? = none := List.getElem?_eq_none (by simp [il]; omega)
    have l2 : (il g)[i]? = none := List.getElem?_eq_none (by simp [il]; omega)
    rw [l2]
    split
    · rw [if_neg (by simp [il]; omega)]
    · exact l1
/-- The call's own 256 counts. -/
def Met (w : World) (B : Nat) (f : Nat → Nat) : Prop := w.ownsRow B 28 1 (.slice (some ⟨B, 0, none⟩) 256 256) 256 (il f)
theorem Met.cell {w : World} {B : Nat} {f : Nat → Nat} (h : Met w B f) (i : Nat) (hi : i < 256) : w.cell? ⟨B, i, none⟩ = some (.int .i64 (f i : Int)) := by
  rw [World.ownsRow.cellAt h i (by omega), il_get f i hi]
theorem Met.store {w : World} {B : Nat} {k : Nat} (h : Met w B (cnt k)) : Met (w.setCell ⟨B, box k, none⟩ (.int .i64 ((cnt k (box k) : Nat) + 1 : Int))) B (cnt (k + 1)) ∧ w.grownBy (w.setCell ⟨B, box k, none⟩ (.int .i64 ((cnt k (box k) : Nat) + 1 : Int))) (some B) := by
  obtain ⟨h1, h2⟩ := World.ownsRow.stored h (box k) (.int .i64 ((cnt k (box k) : Nat) + 1 : Int))
  have e := il_set (cnt k) (cnt (k + 1)) (box k) ((cnt k (box k) : Nat) + 1 : Int) (fun i _ hne => by
      show cnt k i = cnt k i + (if box k = i then 1 else 0)
      rw [if_neg (fun e => hne e.symm)]; rfl) (by
      show _ = ((cnt k (box k) + (if box k = box k then 1 else 0) : Nat) : Int)
      rw [if_pos rfl]; omega)
  rw [e] at h1
  exact ⟨h1, h2⟩
def zeros : Array Value := Array.replicate 256 (.int .i64 0)
theorem zeros_il : zeros.toList = il (cnt 0) := by
  unfold zeros
  rw [Array.toList_replicate]
  apply List.ext_getElem?
  intro i
  by_cases h : i < 256
  · rw [il_get _ i h, List.getElem?_replicate, if_pos h]; rfl
  · rw [List.getElem?_replicate, if_neg h, List.getElem?_eq_none (by unfold il; rw [List.length_map, List.length_range]; omega)]
theorem met_new (w : World) : Met (w.alloc (.cells zeros 28)) w.heap.size (cnt 0) := by
  unfold Met
  rw [← zeros_il]
  exact World.ownsRow_lit w zeros 256 (Nat.le_refl _) (by decide) (by unfold zeros; rw [Array.size_replicate])
theorem zero_run (w : World) : (zeroValue 28).run Try.prog w = .ok (.agg zeros) w := by kernel_rfl
@[go_sem high] theorem zero_alloc (w : World) : (zeroValue 28).run Try.prog w = .ok (.agg zeros) w := zero_run w
theorem below_drewN {B : Nat} {w w' : World} (h : Below B w w') (d : Nat) : Below B w (w'.drewN d) := by
  induction d with
  | zero => exact h
  | succ d ih => exact ih.drew
set_option maxHeartbeats 1000000 in
set_option maxRecDepth 20000 in
theorem known_walk (w : World) : Calls Try.prog 7 #[] w fun e w' => e = .returned (.bool true) ∧ Below w.heap.size w w' := by
  have H1 : Hid (∀ w : World, Calls Try.prog 8 #[.int .u8 87, .int .u8 19] w fun e w' => e = .returned (.int .u8 254) ∧ w' = w) := fun w => mul_is 87 19 254 87 19 254 w (by decide) (by decide) (by decide) (by decide) (by decide) (by decide +kernel)
  have H2 : Hid (∀ w : World, Calls Try.prog 8 #[.int .u8 7, .int .u8 0] w fun e w' => e = .returned (.int .u8 0) ∧ w' = w) := fun w => mul_is 7 0 0 7 0 0 w (by decide) (by decide) (by decide) (by decide) (by decide) (by decide +kernel)
  have H3 : Hid (∀ w : World, Calls Try.prog 10 #[.int .u8 0] w fun e w' => e = .returned (.int .u8 0) ∧ w' = w) := fun w => inv_is 0 0 0 0 w (by decide) (by decide) (by decide) (by decide +kernel)
  have H4 : Hid (∀ w : World, Calls Try.prog 10 #[.int .u8 1] w fun e w' => e = .returned (.int .u8 1) ∧ w' = w) := fun w => inv_is 1 1 1 1 w (by decide) (by decide) (by decide) (by decide +kernel)
  have H5 : Hid (∀ w : World, Calls Try.prog 10 #[.int .u8 202] w fun e w' => e = .returned (.int .u8 83) ∧ w' = w) := fun w => inv_is 202 83 202 83 w (by decide) (by decide) (by decide) (by decide +kernel)
  have H6 : Hid (∀ w : World, Calls Try.prog 12 #[.int .u8 1] w fun e w' => e = .returned (.int .u8 124) ∧ w' = w) := fun w => box_is 1 124 1 124 w (by decide) (by decide) (by decide) (by decide +kernel)
  have H7 : Hid (∀ w : World, Calls Try.prog 12 #[.int .u8 255] w fun e w' => e = .returned (.int .u8 22) ∧ w' = w) := fun w => box_is 255 22 255 22 w (by decide) (by decide) (by decide) (by decide +kernel)
  have H8 : Hid (∀ w : World, Calls Try.prog 14 #[.int .u8 237] w fun e w' => e = .returned (.int .u8 83) ∧ w' = w) := fun w => back_is 237 83 237 83 w (by decide) (by decide) (by decide) (by decide +kernel)
  go_enter Try.func7, Try.ntmps7
  go_upto_region 2 with (first | (go_at_call 8; (first | with_reducible refine (H1.out _).mono ?_ | with_reducible refine (H2.out _).mono ?_); rintro e w' ⟨rfl, rfl⟩) | (go_at_call 10; (first | with_reducible refine (H3.out _).mono ?_ | with_reducible refine (H4.out _).mono ?_ | with_reducible refine (H5.out _).mono ?_); rintro e w' ⟨rfl, rfl⟩) | (go_at_call 12; (first | with_reducible refine (H6.out _).mono ?_ | with_reducible refine (H7.out _).mono ?_); rintro e w' ⟨rfl, rfl⟩) | (go_at_call 14; refine (H8.out _).mono ?_; rintro e w' ⟨rfl, rfl⟩))
  clear H1 H2 H3 H4 H5 H6 H7 H8
  go_upto_region 3 with fail
  have M0 : Hid (Met (w'.alloc (.cells zeros 28)) w'.heap.size (cnt 0)) := met_new w'
  have B0 : Hid (Below w'.heap.size w' (w'.alloc (.cells zeros 28))) := (Below.refl _ _).alloc (Nat.le_refl _) _
  generalize hB : w'.heap.size = B at M0 B0 ⊢
  generalize (w'.alloc (.cells zeros 28)) = w0 at M0 B0 ⊢
  go_wp2
  go_loopw [3] (fun i wr => ∃ k : Nat, k ≤ 256 ∧ i = .int .i64 k ∧ Met wr B (cnt k) ∧ Below B w' wr) (fun i _ => 256 - (intOf i).toNat)
  case atStart => exact ⟨0, by omega, rfl, M0.out, B0.out⟩
  case round =>
    obtain ⟨k, hk, rfl, hm, hb⟩ := hrel
    clear M0 B0
    have HM : Hid (Met wr B (cnt k)) := hm
    have HB : Hid (Below B w' wr) := hb
    clear hm hb
    by_cases hlt : k < 256
    · have S : Hid (Met (wr.setCell ⟨B, box k, none⟩ (.int .i64 ((cnt k (box k) : Nat) + 1 : Int))) B (cnt (k + 1)) ∧ wr.grownBy (wr.setCell ⟨B, box k, none⟩ (.int .i64 ((cnt k (box k) : Nat) + 1 : Int))) (some B)) := HM.out.store
      have HX : Hid (∀ w : World, Calls Try.prog 12 #[.int .u8 k] w fun e w' => e = .returned (.int .u8 (box k : Nat)) ∧ w' = w) := fun w => box_walk k w hlt
      have hX : box k < 256 := box_lt k
      have hc := HM.out.cell (box k) hX
      have hf : wr.frozen? ⟨B, box k, none⟩ = false := World.ownsRow.frozenAt HM.out (box k)
      have hcn : cnt k (box k) ≤ 256 := Nat.le_trans (cnt_le _ _) hk
      generalize cnt k (box k) = C at S hc hcn
      generalize box k = X at S HX hX hc hf
      go_wp2_with (go_at_call 12; refine (HX.out _).mono ?_; rintro e w1 ⟨rfl, rfl⟩)
      refine ⟨⟨k + 1, by omega, by go_num, S.out.1, HB.out.grown S.out.2 (by have := HB.out.size; omega) (fun j hj => by cases hj; exact Nat.le_refl _)⟩, by simp [intOf]; omega⟩
    · have h256 : k = 256 := by omega
      have HC : Hid (∀ i, i < 256 → wr.cell? ⟨B, i, none⟩ = some (.int .i64 1)) := fun i hi => by
        have h := HM.out.cell i hi
        rw [h256, cnt_all i hi] at h
        exact h
      clear HM h256
      go_wp2
      go_loopw [0, 4] (fun _ i wq => ∃ k : Nat, k ≤ 256 ∧ i = .int .i64 k ∧ ∃ d, wq = wr.drewN d) (fun _ i _ => 256 - (intOf i).toNat)
      case atStart => exact ⟨0, by omega, rfl, 0, rfl⟩
      case round =>
        obtain ⟨m, hm, rfl, d, rfl⟩ := hrel
        by_cases hlm : m < 256
        · have hc := HC.out m hlm
          have HX : Hid (∀ w : World, Calls Try.prog 4 #[.int .u8 m] w fun e w' => e = .returned (.bool true) ∧ ∃ d, w' = w.drewN d) := fun w => boxes_walk m w hlm
          have HY : Hid (∀ w : World, Calls Try.prog 3 #[.int .u8 m, .int .u8 (255 - (m : Int))] w fun e w' => e = .returned (.bool true) ∧ ∃ d, w' = w.drewN d) := fun w => by
            rw [show 255 - (m : Int) = ((255 - m : Nat) : Int) by omega]
            exact products_walk m (255 - m) w hlm (by omega)
          go_wp2_with (first | (go_at_call 4; refine (HX.out _).mono ?_; rintro e w1 ⟨rfl, d1, rfl⟩) | (go_at_call 3; refine (HY.out _).mono ?_; rintro e w1 ⟨rfl, d2, rfl⟩))
          go_roundw
          case rel => exact ⟨m + 1, by omega, by go_num, _, rfl⟩
          case measure => simp [intOf]; omega
        · go_wp2_with (go_at_call 16; refine (awake_walk _).mono ?_; rintro e w1 ⟨rfl, rfl⟩)
          go_ret
          exact ⟨rfl, by rw [hB]; exact below_drewN HB.out d⟩
end Go.Proofs.Ytmliphepjmnjlaa.Gf
