/- A new variable that holds a block; no function of the program in it. -/
import Derived.Test.YtnncgniiceglaabDoorVzl
namespace Go.Proofs.YtnncgniiceglaabDoor.Vm
open Go.ChangeShapes Go.WideShapes Go.ChangeAt Go.RowKit
open Go.Proofs.YtnncgniiceglaabDoor.By Go.Proofs.YtnncgniiceglaabDoor.Gf Go.Proofs.YtnncgniiceglaabDoor.Ae
/-- A new variable that holds a block. -/
theorem z_var (w : World) (f : Nat → Nat) : ∃ W, (SVb ⟨w.heap.size, 0, none⟩ (.agg (bl 16 (cb f)).toArray)).run Tryd.prog (w.alloc (.cells z16.toArray 34)) = .ok () W ∧ Blk W w.heap.size (bl 16 (cb f)) 34 ∧ Below w.heap.size w W := by
  obtain ⟨s, b⟩ := z_st (f := f) (z_new w) z16_len
  exact ⟨_, s, b, (below_alloc w (.cells z16.toArray 34)).trans ((Kp.setCells w.heap.size 0 (bl 16 (cb f))).below (by simp) (fun j hj e => by omega))⟩
end Go.Proofs.YtnncgniiceglaabDoor.Vm
