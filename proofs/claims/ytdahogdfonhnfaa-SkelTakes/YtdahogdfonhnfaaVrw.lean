/- Rows: cells put in place; rows of unlike types lie apart. -/
import Derived.Test.YtdahogdfonhnfaaUvar
import Derived.Test.YtdahogdfonhnfaaTbk
namespace Go.Proofs.Ytdahogdfonhnfaa.Rw
open Go.ChangeShapes Go.WideShapes Go.ChangeAt Go.RowKit
open Go.Proofs.Ytdahogdfonhnfaa.Tb (put put_get put_length)
theorem row_put {w : World} {base : Nat} {e : TypeId} {size g n cap : Nat} {xs : List Value} (h : w.ownsRow base e size (.slice (some ⟨g, 0, none⟩) n cap) n xs) (vs : List Value) (o : Nat) : (w.setCells g o vs).ownsRow base e size (.slice (some ⟨g, 0, none⟩) n cap) n (put xs o vs) := by
  induction vs generalizing w xs o with
  | nil => exact h
  | cons v r ih => exact ih (h.stored o v).1 (o + 1)
theorem ty_ne {w : World} {B B' : Nat} {e e' : TypeId} {s s' : Nat} {v v' : Value} {n n' : Nat} {xs xs' : List Value} (h : w.ownsRow B e s v n xs) (h' : w.ownsRow B' e' s' v' n' xs') (ht : e ≠ e') : ∀ g, v.ownBlock = some g → ¬ v'.ownBlock = some g := by
  intro g e1 e2
  obtain ⟨_, h1 | ⟨g1, _, cur, rfl, _, hg, _⟩⟩ := h
  · obtain ⟨rfl, _⟩ := h1; cases e1
  · obtain ⟨_, h2 | ⟨g2, _, cur', rfl, _, hg', _⟩⟩ := h'
    · obtain ⟨rfl, _⟩ := h2; cases e2
    · cases e1; cases e2
      have := Option.some.inj (hg.symm.trans hg')
      simp only [Obj.cells.injEq] at this
      exact ht this.2.1
end Go.Proofs.Ytdahogdfonhnfaa.Rw
