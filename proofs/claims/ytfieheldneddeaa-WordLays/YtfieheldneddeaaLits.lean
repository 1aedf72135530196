/- A list of lists that was just built: what its places hold; lists that were made one behind the other lie apart. -/
import Derived.Test.YtfieheldneddeaaRefXor
namespace Go.Proofs.Ytfieheldneddeaa
open Go.ChangeShapes Go.WideShapes Go.ChangeAt Go.RowKit
theorem inv_cells (w : World) (vs : List Value) (cs : Array Value) (hcs : cs = vs.toArray) (j : Nat) (hj : j < vs.length) : (w.alloc (.cells cs 32)).cell? ⟨w.heap.size, j, none⟩ = some (lv vs j) := by
  subst hcs
  rw [World.cell?_alloc_at _ _ _ _ rfl]
  simp [lv, hj]
theorem drewN_add3 (Z : World) (d x d2 : Nat) : (Z.drewN (d + x)).drewN d2 = Z.drewN (d + (x + d2)) := by
  simp [Nat.add_assoc]
theorem mono_of (S : Nat → Nat) (n : Nat) (h : ∀ j, j < n → S j ≤ S (j + 1)) (i j : Nat) (hij : i ≤ j) (hj : j ≤ n) : S i ≤ S j := by
  induction j with
  | zero => rw [show i = 0 by omega]; exact Nat.le_refl _
  | succ j ih =>
    by_cases e : i = j + 1
    · rw [e]; exact Nat.le_refl _
    · exact Nat.le_trans (ih (by omega) (by omega)) (h j (by omega))
theorem ap_rising (vs : List Value) (L : Nat) (S : Nat → Nat) (hs : ∀ j, j < vs.length → ∀ q, (lv vs j).ownBlock = some q → S j ≤ q ∧ q < S (j + 1)) (hm : ∀ j, j < vs.length → S j ≤ S (j + 1)) (hL : S vs.length ≤ L) : AP vs.length L (lv vs) := by
  refine ap_of vs L (fun i j hij hj => ?_) (fun j hj q hq => ?_)
  · cases h : (lv vs i).ownBlock with
    | none => exact .inl rfl
    | some q =>
      refine .inr fun e => ?_
      have a1 := hs i (by omega) q h
      have a2 := hs j hj q e.symm
      have a3 := mono_of S vs.length hm (i + 1) j (by omega) (by omega)
      omega
  · have a1 := hs j hj q hq
    have a3 := mono_of S vs.length hm (j + 1) vs.length (by omega) (Nat.le_refl _)
    omega
end Go.Proofs.Ytfieheldneddeaa
