/- The statement's walk: numbers, bounds and examples of layer 19. -/
import Derived.Test.YtodihepgfpbonaaTawk
import Derived.Test.YtodihepgfpbonaaTgI
namespace Go.Proofs.Ytodihepgfpbonaa.Tb
open Go.ChangeShapes Go.WideShapes Go.ChangeAt Go.RowKit
/-- The first k numbers stand for their squares. -/
def sq (k : Nat) : Nat → Option I.V := fun j => if j < k then some ((j : Int) * j) else none
theorem least_sq (k : Nat) (h : k < 64) : least (sq k) 64 = some k :=
  least_eq h (by simp [sq]) (fun j hj e => by simp [sq, hj] at e)
theorem add_sq (k : Nat) (h : k < 64) : addH (sq k) 64 ((k : Int) * k) = sq (k + 1) := by
  unfold addH
  rw [least_sq k h]
  funext j
  simp only [uph, sq]
  by_cases e : j = k
  · subst e; simp
  · rw [if_neg e]
    by_cases l : j < k
    · rw [if_pos l, if_pos (by omega)]
    · rw [if_neg l, if_neg (by omega)]
theorem addN_sq (k : Nat) (h : k < 64) : addN (sq k) 64 = k := by unfold addN; rw [least_sq k h]
theorem addE_sq (k : Nat) (h : k < 64) : addE (sq k) 64 = 0 := by unfold addE; rw [least_sq k h]
set_option maxRecDepth 20000 in
set_option maxHeartbeats 1200000 in
theorem known (w : World) : Calls Try.prog 6 #[] w fun e w' => e = .returned (.bool true) ∧ Below w.heap.size w w' := by
  obtain ⟨t0, hg, hz⟩ := gx_zero w
  have G := hid hg
  have Z := hid hz
  clear hg hz
  go_enter Try.func6, Try.ntmps6
  go_wp2_with fail
  refine (I.new_no 0 w (by decide)).mono ?_
  rintro e w1 ⟨rfl, hw⟩
  replace G := hid (hw ▸ G.out)
  obtain rfl := hw
  go_wp2_with fail
  refine (I.new_no 65 _ (by decide)).mono ?_
  rintro e w2 ⟨rfl, rfl⟩
  go_wp2_with fail
  refine (I.gx_new G.out Z.out 1 64 (by decide) (by decide) (by decide)).mono ?_
  rintro e W1 ⟨rfl, t1, hg, hz, ht, -⟩
  obtain ⟨p, hp⟩ : ∃ p, w2.heap.size = p := ⟨_, rfl⟩
  rw [show (fun _ => none : Nat → Option I.V) = sq 0 from by funext j; simp [sq]] at ht
  have INV : Hid (∃ t C, GX w2 w2.heap.size t W1 ∧ t 0 = tK C ∧ I.TT t C 1 p 64 (sq 0)) := ⟨t1, _, hg, hz, hp ▸ ht⟩
  clear hg hz ht G Z
  rw [hp]
  go_wp2_with fail
  go_loopw [7] (fun i wr => ∃ k : Nat, k ≤ 64 ∧ i = .int .i64 k ∧ ∃ t C, GX w2 w2.heap.size t wr ∧ t 0 = tK C ∧ I.TT t C 1 p 64 (sq k)) (fun i _ => 64 - (intOf i).toNat)
  case atStart => exact ⟨0, by omega, rfl, INV.out⟩
  case round =>
    clear INV
    obtain ⟨k, hk, rfl, t, C, hg, hz, ht⟩ := hrel
    have G := hid hg
    have Z := hid hz
    have T := hid ht
    clear hg hz ht
    by_cases hlt : k < 64
    · have l2 : (k : Int) < 64 := by omega
      have HK := hid hlt
      have q1 : (k : Int) * k ≤ 63 * 63 := Int.mul_le_mul (by omega) (by omega) (by omega) (by omega)
      have q2 : (0 : Int) ≤ (k : Int) * k := Int.mul_nonneg (by omega) (by omega)
      go_wp2_with fail
      refine (I.gx_add G.out Z.out (by decide) T.out _).mono ?_
      rintro e W5 ⟨rfl, t', C', hg, hz, -, ht, -⟩
      rw [add_sq k HK.out] at ht
      rw [addN_sq k HK.out, addE_sq k HK.out]
      have X : Hid (∃ t C, GX w2 w2.heap.size t W5 ∧ t 0 = tK C ∧ I.TT t C 1 p 64 (sq (k + 1))) := ⟨t', C', hg, hz, ht⟩
      clear hg hz ht G Z T
      go_wp2
      go_roundw
      case rel => exact ⟨k + 1, HK.out, by have := HK.out; go_num, X.out⟩
      case measure => have := HK.out; simp [intOf]; omega
    · obtain rfl : k = 64 := by omega
      go_wp2_with fail
      refine (I.gx_add G.out Z.out (by decide) T.out 1).mono ?_
      rintro e W5 ⟨rfl, t', C', hg, hz, -, ht, -⟩
      rw [show addN (sq 64) 64 = 0 by kernel_rfl, show addE (sq 64) 64 = 8 by kernel_rfl]
      rw [show addH (sq 64) 64 1 = sq 64 by unfold addH; rw [show least (sq 64) 64 = none by kernel_rfl]] at ht
      clear G Z T
      have G := hid hg
      have Z := hid hz
      have T := hid ht
      clear hg hz ht
      go_wp2_with fail
      refine (I.gx_get G.out Z.out T.out 63).mono ?_
      rintro e W6 ⟨rfl, hg, -⟩
      replace G := hid hg
      clear hg
      rw [show I.gt (hdI (sq 64) 63) = .tuple #[.int .i64 3969, .int .i64 0] by kernel_rfl]
      go_wp2_with fail
      refine (I.gx_get G.out Z.out T.out 64).mono ?_
      rintro e W7 ⟨rfl, hg, -⟩
      replace G := hid hg
      clear hg
      rw [show I.gt (hdI (sq 64) 64) = .tuple #[.int .i64 0, .int .i64 5] by kernel_rfl]
      go_wp2_with fail
      refine (I.gx_get G.out Z.out T.out (-1)).mono ?_
      rintro e W8 ⟨rfl, hg, -⟩
      replace G := hid hg
      clear hg
      rw [show I.gt (hdI (sq 64) (-1)) = .tuple #[.int .i64 0, .int .i64 5] by kernel_rfl]
      go_wp2_with fail
      refine (S.awake W8).mono ?_
      rintro e W9 ⟨rfl, hb⟩
      replace G := hid (G.out.below hb)
      clear hb
      go_wp2_with fail
      refine (I.gx_set G.out Z.out (by decide) T.out 64 1).mono ?_
      rintro e Wa ⟨rfl, t9, C9, hg, -⟩
      rw [show (if (hdI (sq 64) 64).isSome then 0 else 5 : Int) = 5 by kernel_rfl]
      clear G Z T
      have G := hid hg
      clear hg
      go_wp2
      go_ret
      exact ⟨rfl, G.out.bel⟩
end Go.Proofs.Ytodihepgfpbonaa.Tb
