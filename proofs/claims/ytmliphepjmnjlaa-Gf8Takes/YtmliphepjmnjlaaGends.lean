/- Two small facts for the ends of layer 4's statements: a byte is a natural number below 256; a world that only drew has grown by nothing. -/
import Derived.Test.YtmliphepjmnjlaaGlaw
namespace Go.Proofs.Ytmliphepjmnjlaa.Gf
open Go.ChangeShapes Go.WideShapes Go.ChangeAt Go.RowKit
theorem byte_of {x : Int} (h : (Lit.int .u8 x).wf = true) : ∃ n : Nat, n < 256 ∧ x = (n : Int) := by
  have hb : 0 ≤ x ∧ x < 256 := by
    simp [Lit.wf, IntKind.min, IntKind.max, IntKind.bits, IntKind.signed] at h; omega
  exact ⟨x.toNat, by omega, by omega⟩
theorem grown_drewN (w : World) (d : Nat) : Grown w (w.drewN d) := by
  induction d with
  | zero => exact Grown.refl _
  | succ d ih => exact ih
end Go.Proofs.Ytmliphepjmnjlaa.Gf
