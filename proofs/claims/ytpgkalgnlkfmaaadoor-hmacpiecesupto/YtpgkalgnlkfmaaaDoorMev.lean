/- The statements' events; a ledger emptied. -/
import Derived.Test.YtpgkalgnlkfmaaaDoorMcall
import Derived.Test.YtpgkalgnlkfmaaaDoorRreset
namespace Go.Proofs.YtpgkalgnlkfmaaaDoor.Dg
open Go.ChangeShapes Go.WideShapes Go.ChangeAt Go.RowKit
open Go.Proofs.YtpgkalgnlkfmaaaDoor.By
open Go.Proofs.YtpgkalgnlkfmaaaDoor.Sh (Blk size_alloc)
theorem GM.resetL {w0 W : World} {B : Nat} {sts : List EM} {l1 l2 : List LE} {lb : Nat} {rv : Value} {L : List Rn} (h : GM w0 B sts (l1 ++ ⟨true, lb, rv, L⟩ :: l2) W) :
    Calls Tryd.prog 13 #[.pointer (some ⟨lb, 0, none⟩)] W fun e w' => e = .returned (.tuple #[]) ∧ GM w0 B sts (l1 ++ ⟨true, lb, .slice none 0 0, []⟩ :: l2) w' ∧ Ko W w' := by
  have hl := h.midL.1
  refine (reset18 lb rv L W hl).mono ?_
  rintro e w' ⟨rfl, h1, h2⟩
  refine ⟨rfl, h.turnL (e' := ⟨true, lb, .slice none 0 0, []⟩) h2 (fun j hj _ => .inl (.inl hj)) h1 (fun j hj => ?_), fun g cs t hg ht => hg.kept h2 (fun e => Blk.ne hg (show Blk W lb _ 55 from hl.here) (oth_l ht (.inr (.inl rfl))) e)⟩
  rcases hj with e | e
  · exact .inl (.inl e)
  · simp [Value.ownBlock] at e
theorem events256 (E : Int) (h0 : 0 ≤ E) (h1 : E ≤ 1000000000) (w : World) : Calls Tryd.prog 12 #[.bool false, .int .i64 E] w fun e w' => ∃ v, e = .returned v ∧ Own w' (w.heap.size + 1) v [⟨1, 64, E⟩] ∧ Below w.heap.size w w' := by
  go_enter Tryd.func12, Tryd.ntmps12
  go_wp2
  go_ret
  have o := own_lit (w.alloc (.cells #[.int .u8 1, .int .i64 64] 58)) [⟨1, 64, E⟩] #[.int .u8 1, .int .i64 64, .int .i64 E] (fun r hr => by
    simp at hr; subst hr
    exact ⟨by show (0 : Int) ≤ 1 ∧ (1 : Int) < 256; decide, by show (-9223372036854775808 : Int) ≤ 64 ∧ (64 : Int) ≤ 9223372036854775807; decide, by show -9223372036854775808 ≤ E ∧ E ≤ 9223372036854775807; omega⟩) rfl (by show 1 ≤ maxLen; decide)
  rw [size_alloc] at o
  exact ⟨_, rfl, o, below_next (below_alloc w _) (below_alloc _ _)⟩
theorem events512 (E : Int) (h0 : 0 ≤ E) (h1 : E ≤ 1000000000) (w : World) : Calls Tryd.prog 12 #[.bool true, .int .i64 E] w fun e w' => ∃ v, e = .returned v ∧ Own w' (w.heap.size + 1) v [⟨2, 128, E⟩] ∧ Below w.heap.size w w' := by
  go_enter Tryd.func12, Tryd.ntmps12
  go_wp2
  go_ret
  have o := own_lit (w.alloc (.cells #[.int .u8 2, .int .i64 128] 58)) [⟨2, 128, E⟩] #[.int .u8 2, .int .i64 128, .int .i64 E] (fun r hr => by
    simp at hr; subst hr
    exact ⟨by show (0 : Int) ≤ 2 ∧ (2 : Int) < 256; decide, by show (-9223372036854775808 : Int) ≤ 128 ∧ (128 : Int) ≤ 9223372036854775807; decide, by show -9223372036854775808 ≤ E ∧ E ≤ 9223372036854775807; omega⟩) rfl (by show 1 ≤ maxLen; decide)
  rw [size_alloc] at o
  exact ⟨_, rfl, o, below_next (below_alloc w _) (below_alloc _ _)⟩
end Go.Proofs.YtpgkalgnlkfmaaaDoor.Dg
