/- How TableScript begins. -/
import Derived.Test.YtodihepgfpbonaaTts
import Derived.Test.YtodihepgfpbonaaTag
namespace Go.Proofs.Ytodihepgfpbonaa.Tb
open Go.ChangeShapes Go.WideShapes Go.ChangeAt Go.RowKit
theorem gx_nilrow {w0 W : World} {B : Nat} {t : Nat → Th} (hG : GX w0 B t W) (i : Nat) (e : TypeId) : ∃ t', GX w0 B t' W ∧ t' i = tW (.slice none 0 0) 0 [] e 1 ∧ But t t' i i :=
  ⟨_, hG.one i (tW (.slice none 0 0) 0 [] e 1) (Kp.refl (fun _ => False) _) (fun _ e => e.elim) (World.ownsRow_nil _ _ _ _) (fun j hj => by cases hj), up_at _ _ _, fun m h1 _ => up_ne _ _ h1⟩
theorem ks_start {w0 W W' : World} {t : Nat → Th} {C : Cn} (hG : GX w0 w0.heap.size t W) (hW : W.alloc (.cells (six (fun _ => .slice none 0 0)).toArray 41) = W') : ∃ t', GX w0 w0.heap.size t' W' ∧ KS t' C W.heap.size 0 0 (fun _ => .slice none 0 0) (fun _ _ => .nilFunc) ∧ ∀ k, k < 9 → t' k = t k := by
  obtain ⟨t9, g9, e9, B9⟩ := gx_alloc hG 9 (six (fun _ => .slice none 0 0)) 41
  rw [hW] at g9
  obtain ⟨t0, g0, e0, B0⟩ := gx_nilrow g9 10 77
  obtain ⟨t1, g1, e1, B1⟩ := gx_nilrow g0 11 88
  obtain ⟨t2, g2, e2, B2⟩ := gx_nilrow g1 12 72
  obtain ⟨t3, g3, e3, B3⟩ := gx_nilrow g2 13 72
  obtain ⟨t4, g4, e4, B4⟩ := gx_nilrow g3 14 72
  obtain ⟨t5, g5, e5, B5⟩ := gx_nilrow g4 15 90
  have b5 : ∀ k, k ≠ 15 → t5 k = t4 k := fun k h => B5 k h h
  have b4 : ∀ k, k ≠ 14 → t4 k = t3 k := fun k h => B4 k h h
  have b3 : ∀ k, k ≠ 13 → t3 k = t2 k := fun k h => B3 k h h
  have b2 : ∀ k, k ≠ 12 → t2 k = t1 k := fun k h => B2 k h h
  have b1 : ∀ k, k ≠ 11 → t1 k = t0 k := fun k h => B1 k h h
  have b0 : ∀ k, k ≠ 10 → t0 k = t9 k := fun k h => B0 k h h
  have b9 : ∀ k, k ≠ 9 → t9 k = t k := fun k h => B9 k h h
  refine ⟨t5, g5, ⟨?_, ?_, ?_, ?_, ?_, ?_, e5, fun j hj => absurd hj (Nat.not_lt_zero _), fun j hj => absurd hj (Nat.not_lt_zero _)⟩, fun k hk => ?_⟩
  · rw [b5 9 (by decide), b4 9 (by decide), b3 9 (by decide), b2 9 (by decide), b1 9 (by decide), b0 9 (by decide), e9]
  · rw [b5 10 (by decide), b4 10 (by decide), b3 10 (by decide), b2 10 (by decide), b1 10 (by decide), e0]; rfl
  · rw [b5 11 (by decide), b4 11 (by decide), b3 11 (by decide), b2 11 (by decide), e1]; rfl
  · rw [b5 12 (by decide), b4 12 (by decide), b3 12 (by decide), e2]; rfl
  · rw [b5 13 (by decide), b4 13 (by decide), e3]; rfl
  · rw [b5 14 (by decide), e4]; rfl
  · rw [b5 k (by omega), b4 k (by omega), b3 k (by omega), b2 k (by omega), b1 k (by omega), b0 k (by omega), b9 k (by omega)]
theorem ts_again {w0 W : World} {u v : Option (Nat × Nat)} {kb n0 n1 : Nat} (s : TS w0 u v kb n0 n1 W) (h0 : n0 ≤ 2000) (h1 : n1 ≤ 2000) : Calls Try.prog 13 #[.pointer (some ⟨kb, 0, none⟩)] W fun e W' => e = .returned (.bool true) ∧ Below w0.heap.size w0 W' := by
  obtain ⟨t, C, l, f, hg, hz, _, _, hk⟩ := s.ex
  exact again_w hg hz hk h0 h1
set_option maxRecDepth 20000 in
theorem script_long (v1 v2 : Value) (a : Option Addr) (n c : Nat) (w : World) (h : 1000 < n) : Calls Try.prog 3 #[v1, v2, .slice a n c] w fun e w' => e = .returned (.bool true) ∧ Below w.heap.size w w' := by
  have d : (1000 : Int) < n := by omega
  go_enter Try.func3, Try.ntmps3
  go_wp2
  go_ret
  exact ⟨rfl, Below.refl _ _⟩
end Go.Proofs.Ytodihepgfpbonaa.Tb
