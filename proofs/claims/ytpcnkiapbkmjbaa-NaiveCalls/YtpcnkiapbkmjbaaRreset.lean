/- What the program's ledger answers to Reset. -/
import Derived.Test.YtpcnkiapbkmjbaaRled
namespace Go.Proofs.Ytpcnkiapbkmjbaa
open Go.ChangeShapes Go.WideShapes Go.ChangeAt Go.RowKit
set_option maxHeartbeats 1200000 in
theorem reset18 (b : Nat) (rv : Value) (L : List Rn) (w : World) (h : Led w b rv L) :
    Calls Try.prog 30 #[.pointer (some ⟨b, 0, none⟩)] w fun e w' => e = .returned (.tuple #[]) ∧ Led w' b (.slice none 0 0) [] ∧ Kp (fun k => k = b) w w' := by
  have H := hid h
  have h0 := h.cell0
  have h1 := h.cell1
  have f0 := h.frozen 0
  have f1 := h.frozen 1
  clear h
  go_enter Try.func30, Try.ntmps30
  go_wp2
  go_end0
  refine ⟨rfl, ⟨?_, Own.nil _ _, fun q hq => by simp at hq, by simp [tot]⟩, (Kp.setCell _ _ _).trans (Kp.setCell _ _ _) (fun _ _ e => e)⟩
  rw [heap_setCell_same _ b 1 #[.slice none 0 0, .int .i64 (tot L)] 66 _ (by rw [heap_setCell_same _ b 0 _ 66 _ H.out.here]; rfl)]
  rfl
set_option maxHeartbeats 1200000 in
theorem reset18n (w : World) : Calls Try.prog 30 #[.pointer none] w fun e w' => e = .returned (.tuple #[]) ∧ w' = w := by
  go_enter Try.func30, Try.ntmps30
  go_wp2
  go_end0
  exact ⟨rfl, rfl⟩

end Go.Proofs.Ytpcnkiapbkmjbaa
