/- A block of noughts, short; a block laid anew, and stored; no function of the program in it. -/
import Derived.Test.YtnncgniiceglaabDoorVcel
namespace Go.Proofs.YtnncgniiceglaabDoor.Vm
open Go.ChangeShapes Go.WideShapes Go.ChangeAt Go.RowKit
open Go.Proofs.YtnncgniiceglaabDoor.By Go.Proofs.YtnncgniiceglaabDoor.Gf Go.Proofs.YtnncgniiceglaabDoor.Ae
def z16 : List Value := bl 16 (cb nought)
theorem z16_len : z16.length = 16 := bl_length _ _
@[go_sem high] theorem zlit : #[Value.int IntKind.u8 0, Value.int IntKind.u8 0, Value.int IntKind.u8 0, Value.int IntKind.u8 0, Value.int IntKind.u8 0, Value.int IntKind.u8 0, Value.int IntKind.u8 0, Value.int IntKind.u8 0, Value.int IntKind.u8 0, Value.int IntKind.u8 0, Value.int IntKind.u8 0, Value.int IntKind.u8 0, Value.int IntKind.u8 0, Value.int IntKind.u8 0, Value.int IntKind.u8 0, Value.int IntKind.u8 0] = z16.toArray := by kernel_rfl
/-- A new block. -/
theorem z_new (w : World) : Blk (w.alloc (.cells z16.toArray 34)) w.heap.size z16 34 := Blk.new _ _ _
/-- Stored whole. -/
theorem z_st {W : World} {q : Nat} {cs : List Value} {f : Nat → Nat} (h : Blk W q cs 34) (hl : cs.length = 16) :
    (SVb ⟨q, 0, none⟩ (.agg (bl 16 (cb f)).toArray)).run Tryd.prog W = .ok () (W.setCells q 0 (bl 16 (cb f))) ∧ Blk (W.setCells q 0 (bl 16 (cb f))) q (bl 16 (cb f)) 34 := by
  refine ⟨SVb_run (h.there 0 16 (by omega)) (bl_length _ _) (bl_one _ _), ?_⟩
  have b := h.put 0 (bl 16 (cb f))
  rwa [put_all _ _ (by rw [bl_length]; omega)] at b
theorem z_ld {W : World} {q : Nat} {f : Nat → Nat} (h : Blk W q (bl 16 (cb f)) 34) : (LDb ⟨q, 0, none⟩).run Tryd.prog W = .ok (.agg (bl 16 (cb f)).toArray) W := LDb_run (range0 h) (bl_length _ _)
end Go.Proofs.YtnncgniiceglaabDoor.Vm
