/- The document's steps on a block: its rows turned, its columns mixed, a round key added, bytes put through the box. -/
import Derived.Test.YtnncgniiceglaabDoorYg
namespace Go.Proofs.YtnncgniiceglaabDoor.Ae
open Go.ChangeShapes Go.WideShapes Go.ChangeAt Go.RowKit
open Go.Proofs.YtnncgniiceglaabDoor.By Go.Proofs.YtnncgniiceglaabDoor.Gf
theorem trn_at (y c r : Nat) (b : Nat → Nat) (hr : r < 4) : trn y b (4 * c + r) = b (4 * ((c + r * y) % 4) + r) := by
  unfold trn
  rw [show (4 * c + r) / 4 = c from by omega, show (4 * c + r) % 4 = r from by omega]
theorem fin16 {w W : World} {g q : Nat} {z y : Nat → Nat} (B : Blk W g (bl 16 (cb z)) 34) (Q : Blk W q (bl 16 (cb y)) 34) (hb : Below w.heap.size w W) (hq : w.heap.size ≤ q) :
    (LDb ⟨g, 0, none⟩).run Tryd.prog W = .ok (.agg (bl 16 (cb z)).toArray) W ∧ (SVb ⟨q, 0, none⟩ (.agg (bl 16 (cb z)).toArray)).run Tryd.prog W = .ok () (W.setCells q 0 (bl 16 (cb z))) ∧ (LDb ⟨q, 0, none⟩).run Tryd.prog (W.setCells q 0 (bl 16 (cb z))) = .ok (.agg (bl 16 (cb z)).toArray) (W.setCells q 0 (bl 16 (cb z))) ∧ Below w.heap.size w (W.setCells q 0 (bl 16 (cb z))) := by
  refine ⟨LDb_run (range0 B) (bl_length _ _), SVb_run (Q.there 0 16 (by rw [bl_length]; omega)) (bl_length _ _) (bl_one _ _), ?_, below_cells hb _ _ _ hq hb.size⟩
  have b := Q.put 0 (bl 16 (cb z))
  rw [put_all _ _ (by rw [bl_length, bl_length])] at b
  exact LDb_run (range0 b) (bl_length _ _)
end Go.Proofs.YtnncgniiceglaabDoor.Ae
