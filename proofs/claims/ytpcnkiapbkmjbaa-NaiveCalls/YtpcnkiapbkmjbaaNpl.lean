/- NaivePowers, at every argument. -/
import Derived.Test.YtpcnkiapbkmjbaaNwp
namespace Go.Proofs.Ytpcnkiapbkmjbaa.Nv
open Go.ChangeShapes Go.WideShapes Go.ChangeAt Go.RowKit
theorem wf_u64 {z : Int} (h : (Lit.int .u64 z).wf = true) : 0 ≤ z ∧ z < 18446744073709551616 := by
  simp [Lit.wf, IntKind.min, IntKind.max, IntKind.bits, IntKind.signed] at h; omega
theorem wf_u32 {z : Int} (h : (Lit.int .u32 z).wf = true) : 0 ≤ z ∧ z < 4294967296 := by
  simp [Lit.wf, IntKind.min, IntKind.max, IntKind.bits, IntKind.signed] at h; omega
theorem powers_law (b e x : Nat) (w : World) (hb : (b : Int) < 18446744073709551616) (he : (e : Int) < 4294967296) (hx : (x : Int) < 4294967296) :
    Calls Try.prog 5 #[.int .u64 b, .int .u32 e, .int .u32 x] w fun r w' => r = .returned (.bool true) ∧ Below w.heap.size w w' := by
  by_cases h0 : x = 0
  · exact powers_at b e x 4294967296 w (by omega) (by omega) (by omega) (by omega) (.inl ⟨by omega, rfl⟩)
  · exact powers_at b e x x w (by omega) (by omega) (by omega) (by omega) (.inr ⟨rfl, by omega⟩)
end Go.Proofs.Ytpcnkiapbkmjbaa.Nv
