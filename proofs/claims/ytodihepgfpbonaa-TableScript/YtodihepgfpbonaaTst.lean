/- All that both sides hold while TableScript goes on. -/
import Derived.Test.YtodihepgfpbonaaTks
namespace Go.Proofs.Ytodihepgfpbonaa.Tb
open Go.ChangeShapes Go.WideShapes Go.ChangeAt Go.RowKit
/-- Entries of one cell each. -/
def vals (n : Nat) (ev : Nat → Value) : List Value := (List.range n).map ev
theorem vals_length (n : Nat) (ev : Nat → Value) : (vals n ev).length = n := by simp [vals]
theorem vals_get (n : Nat) (ev : Nat → Value) (i : Nat) (h : i < n) : (vals n ev)[i]? = some (ev i) := by simp [vals, h]
def snoc (n : Nat) (ev : Nat → Value) (v : Value) : Nat → Value := fun i => if i = n then v else ev i
theorem snoc_at (n : Nat) (ev : Nat → Value) (v : Value) : snoc n ev v n = v := if_pos rfl
theorem snoc_ne {n i : Nat} (ev : Nat → Value) (v : Value) (h : i < n) : snoc n ev v i = ev i := if_neg (by omega)
theorem vals_snoc (n : Nat) (ev : Nat → Value) (v : Value) : vals n ev ++ [v] = vals (n + 1) (snoc n ev v) := by
  unfold vals
  rw [List.range_succ, List.map_append, List.map_singleton, snoc_at]
  congr 1
  exact List.map_congr_left (fun i hi => by rw [snoc_ne ev v (List.mem_range.1 hi)])
abbrev six (l : Nat → Value) : List Value := [l 0, l 1, l 2, l 3, l 4, l 5]
/-- The kept iterators: n0 over ints, n1 over pairs. -/
structure KS (t : Nat → Th) (C : Cn) (kb n0 n1 : Nat) (l : Nat → Value) (f : Nat → Nat → Value) : Prop where
  k : t 9 = tC kb (six l) 41
  r0 : t 10 = tW (l 0) n0 (vals n0 (f 0)) 77 1
  r1 : t 11 = tW (l 1) n1 (vals n1 (f 1)) 88 1
  r2 : t 12 = tW (l 2) n0 (vals n0 (f 2)) 72 1
  r3 : t 13 = tW (l 3) n1 (vals n1 (f 3)) 72 1
  r4 : t 14 = tW (l 4) n0 (vals n0 (f 4)) 72 1
  r5 : t 15 = tW (l 5) n1 (vals n1 (f 5)) 90 1
  ki : ∀ j, j < n0 → KI C (f 0 j) (f 2 j) (f 4 j)
  kp : ∀ j, j < n1 → KP C (f 1 j) (f 3 j) (f 5 j)
theorem KS.keep {t t' : Nat → Th} {C C' : Cn} {kb n0 n1 : Nat} {l : Nat → Value} {f : Nat → Nat → Value} (h : KS t C kb n0 n1 l f) (e : ∀ k, k < 7 → t' (9 + k) = t (9 + k)) (hc : Cle C C') : KS t' C' kb n0 n1 l f :=
  ⟨(e 0 (by decide)).trans h.k, (e 1 (by decide)).trans h.r0, (e 2 (by decide)).trans h.r1, (e 3 (by decide)).trans h.r2, (e 4 (by decide)).trans h.r3, (e 5 (by decide)).trans h.r4, (e 6 (by decide)).trans h.r5, fun j hj => (h.ki j hj).mono hc, fun j hj => (h.kp j hj).mono hc⟩
/-- What an act on the ints leaves. -/
structure OI (w0 : World) (t : Nat → Th) (C : Cn) (kb n0 n1 a b hb vb m : Nat) (W' : World) : Prop where
  ex : ∃ t' C' hd' vf' n0' l' f', GX w0 w0.heap.size t' W' ∧ t' 0 = tK C' ∧ Cle C C' ∧ I.TT t' C' 1 a m hd' ∧ DT t' 3 b hb vb m hd' vf' ∧ KS t' C' kb n0' n1 l' f' ∧ n0' ≤ n0 + 1 ∧ t' 2 = t 2 ∧ (∀ k, k < 3 → t' (6 + k) = t (6 + k))
abbrev ph (hd : Nat → Option Int) : Nat → Option P.V := fun j => (hd j).map pr
/-- What an act on the pairs leaves. -/
structure OP (w0 : World) (t : Nat → Th) (C : Cn) (kb n0 n1 a b hb vb m : Nat) (W' : World) : Prop where
  ex : ∃ t' C' hd' vf' n1' l' f', GX w0 w0.heap.size t' W' ∧ t' 0 = tK C' ∧ Cle C C' ∧ P.TT t' C' 2 a m (ph hd') ∧ DT t' 6 b hb vb m hd' vf' ∧ KS t' C' kb n0 n1' l' f' ∧ n1' ≤ n1 + 1 ∧ t' 1 = t 1 ∧ (∀ k, k < 3 → t' (3 + k) = t (3 + k))
end Go.Proofs.Ytodihepgfpbonaa.Tb
