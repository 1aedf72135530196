/- A new variable that holds a block; no function of the program in it. -/
import Derived.Test.YtnncgniiceglaaaDoorVzl
namespace Go.Proofs.YtnncgniiceglaaaDoor.Vm
open Go.ChangeShapes Go.WideShapes Go.ChangeAt Go.RowKit
open Go.Proofs.YtnncgniiceglaaaDoor.By Go.Proofs.YtnncgniiceglaaaDoor.Gf Go.Proofs.YtnncgniiceglaaaDoor.Ae
/-- A new variable that holds a block. -/
theorem z_var (w : World) (f : Nat → Nat) : ∃ W, (SVb ⟨w.heap.size, 0, none⟩ (.agg (bl 16 (cb f)).toArray)).run Tryd.prog (w.alloc (.cells z16.toArray 49)) = .ok () W ∧ Blk W w.heap.size (bl 16 (cb f)) 49 ∧ Below w.heap.size w W := by
  obtain ⟨s, b⟩ := z_st (f := f) (z_new w) z16_len
  exact ⟨_, s, b, (below_alloc w (.cells z16.toArray 49)).trans ((Kp.setCells w.heap.size 0 (bl 16 (cb f))).below (by simp) (fun j hj e => by omega))⟩
end Go.Proofs.YtnncgniiceglaaaDoor.Vm
