/- Marks that are texts. -/
import Derived.Test.YtnadpglfliiplaaUbq
import Derived.Laws.BytesArg
namespace Go.Proofs.Ytnadpglfliiplaa.Ou
open Go.ChangeShapes Go.WideShapes Go.ChangeAt Go.RowKit
open Go.Proofs.Ytnadpglfliiplaa.By
/-- The text of two bytes. -/
def s2 (x y : Int) : ByteArray := strOfNums [x, y]
/-- Mark i of list k. -/
def mkT (k i : Int) : ByteArray := ⟨#[109, 97, 114, 107]⟩ ++ s2 k i
theorem cvs2 {w : World} {b : Nat} {x y : Int} (h0 : w.cell? ⟨b, 0, none⟩ = some (.int .u8 x)) (h1 : w.cell? ⟨b, 1, none⟩ = some (.int .u8 y)) : (convert 24 9 (.slice (some ⟨b, 0, none⟩) 2 2)).run Try.prog w = .ok (.string (s2 x y)) w := by
  refine run_convert_bytes_arg w 24 5 Try.underlying24 Try.underlying5 b 0 2 2 [x, y] rfl (fun i hi => ?_) 9 Try.underlying9
  match i, hi with
  | 0, _ => exact h0
  | 1, _ => exact h1
set_option maxRecDepth 8000 in
set_option maxHeartbeats 400000 in
theorem mark_ok (k i : Int) (w : World) (k0 : 0 ≤ k) (k1 : k < 256) (i0 : 0 ≤ i) (i1 : i < 256) : Calls Try.prog 46 #[.int .i64 k, .int .i64 i] w fun e w' => e = .returned (.string (mkT k i)) ∧ Below w.heap.size w w' := by
  have e1 : IntKind.u8.wrap k = k := by simp [IntKind.wrap, IntKind.bits, IntKind.signed]; omega
  have e2 : IntKind.u8.wrap i = i := by simp [IntKind.wrap, IntKind.bits, IntKind.signed]; omega
  have cv := cvs2 (w := w.alloc (.cells #[.int .u8 k, .int .u8 i] 5)) (b := w.heap.size) (x := k) (y := i) (by rw [World.cell?_alloc_at _ _ _ _ rfl]; rfl) (by rw [World.cell?_alloc_at _ _ _ _ rfl]; rfl)
  go_enter Try.func46, Try.ntmps46
  go_wp2
  go_ret
  exact ⟨rfl, below_alloc _ _⟩
end Go.Proofs.Ytnadpglfliiplaa.Ou
