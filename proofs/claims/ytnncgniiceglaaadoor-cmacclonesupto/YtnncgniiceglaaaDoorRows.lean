/-
  NARROWER THAN 'FOR EVERY INPUT', by the rows' own cells (each row's printed sentence says how): CmacScript: laid · CmacNone: laid · CmacPieces: laid · CmacClones: laid · CmacForms: laid.
  DERIVED. THE GIVEN ROWS OF THIS SEAT. 5 by the template 'for every input the law returns true; each argument reads behind the call as it read before'; 0 by the template 'total and deterministic' (their statements: YtnncgniiceglaaaDoorTotals.lean).
  GIVEN WITH THE SEED: the statements are not yours to turn. If you find one false, say at which input.
  Laid BY PROGRAM, IN A SANDBOX (cutbox-rows.mjs): the forced cells as the released guide's own fill.sh prints them over the translation cd6fc3a1e51c61e6… (all of the seat's roots in one cut). By AI agents, Wed Nov 11 2026. No macro, syntax, notation, axiom, sorry.
-/
import Derived.Test.YtnncgniiceglaaaDoorChecked
import GoSem.Claim
import GoSem.ClaimJoined
import GoSem.ClaimMapViews
import Derived.JoinedTies
import Derived.KernelRfl
namespace Go.Proofs.YtnncgniiceglaaaDoor
/- THE CELL 'sum', in the pinned program and in every row, IS THE sha256 OF THE DUMP (.gsa) THAT YtnncgniiceglaaaDoorProg.lean LOADS. Nothing in Lean hashes anything: it is a label: what it is worth is what the hold of that sum in a sandbox is worth. -/
noncomputable def Tryd.pinned : Pinned := { name := "ytnncgniiceglaaadoor", sum := "cd6fc3a1e51c61e66b946dcd52cb6c74f764d0c1bd89b02a002a5e1be3be4964", checked := Tryd.checked }
namespace Rows
def none {H : Type} : Left H := { results := [], args := [] }

/- WHAT THE LISTED PACKAGE-LEVEL VARIABLES READ AS WHEN THE CALL BEGINS. Each datum BY PROGRAM (the guide's laid-datum.mjs) off the statement by which the dump's own 'gosem.cut.vars' lays the variable. In a bare row this is a premise. The card (YtnncgniiceglaaaDoorCards.lean) ties it to the program's text. -/
def laid_turnkey_aes_mixing {H : Type} : DataW H := .agg [.lit (.int .u8 2), .lit (.int .u8 3), .lit (.int .u8 1), .lit (.int .u8 1)]

/-- 'turnkeylaw13.CmacScript': WHATEVER THE INPUT: true; the input reads as it did. -/
def cmacScriptSpec : ChangeSpec := { name := "cmacScript", fn := fun _ => fun
  | [d1, d2, d3] => { results := [.lit (.bool true)], args := [d1, d2, d3] }
  | _ => none }
def cmacScriptRow : OpenClaim := { program := "ytnncgniiceglaaadoor", sum := "cd6fc3a1e51c61e66b946dcd52cb6c74f764d0c1bd89b02a002a5e1be3be4964", func := "turnkey/turnkeylaw13.CmacScript", spec := "cmacScript", unfollowed := true, recurses := true, named := ["turnkey/aes.mixing"], apart := false, laid := [("turnkey/aes.mixing", laid_turnkey_aes_mixing)] }
def CmacScriptSaid : Prop := cmacScriptRow.holds Tryd.pinned (OpenSpec.ofChange cmacScriptSpec)

/-- ITS FALSE NEIGHBOUR: 'it returns false'. Refute it at one input. -/
def cmacScriptWrong : ChangeSpec := { name := "cmacScript", fn := fun _ => fun
  | [d1, d2, d3] => { results := [.lit (.bool false)], args := [d1, d2, d3] }
  | _ => none }
def CmacScriptWrongFalsely : Prop := cmacScriptRow.holds Tryd.pinned (OpenSpec.ofChange cmacScriptWrong)

/-- 'turnkeylaw13.CmacNone': WHATEVER THE INPUT: true; the input reads as it did. -/
def cmacNoneSpec : ChangeSpec := { name := "cmacNone", fn := fun _ => fun
  | [d] => { results := [.lit (.bool true)], args := [d] }
  | _ => none }
def cmacNoneRow : OpenClaim := { program := "ytnncgniiceglaaadoor", sum := "cd6fc3a1e51c61e66b946dcd52cb6c74f764d0c1bd89b02a002a5e1be3be4964", func := "turnkey/turnkeylaw13.CmacNone", spec := "cmacNone", unfollowed := true, recurses := true, named := ["turnkey/aes.mixing"], apart := false, laid := [("turnkey/aes.mixing", laid_turnkey_aes_mixing)] }
def CmacNoneSaid : Prop := cmacNoneRow.holds Tryd.pinned (OpenSpec.ofChange cmacNoneSpec)

/-- ITS FALSE NEIGHBOUR: 'it returns false'. Refute it at one input. -/
def cmacNoneWrong : ChangeSpec := { name := "cmacNone", fn := fun _ => fun
  | [d] => { results := [.lit (.bool false)], args := [d] }
  | _ => none }
def CmacNoneWrongFalsely : Prop := cmacNoneRow.holds Tryd.pinned (OpenSpec.ofChange cmacNoneWrong)

/-- 'turnkeylaw13.CmacPieces': WHATEVER THE INPUT: true; the input reads as it did. -/
def cmacPiecesSpec : ChangeSpec := { name := "cmacPieces", fn := fun _ => fun
  | [d1, d2, d3] => { results := [.lit (.bool true)], args := [d1, d2, d3] }
  | _ => none }
def cmacPiecesRow : OpenClaim := { program := "ytnncgniiceglaaadoor", sum := "cd6fc3a1e51c61e66b946dcd52cb6c74f764d0c1bd89b02a002a5e1be3be4964", func := "turnkey/turnkeylaw13.CmacPieces", spec := "cmacPieces", unfollowed := true, recurses := true, named := ["turnkey/aes.mixing"], apart := false, laid := [("turnkey/aes.mixing", laid_turnkey_aes_mixing)] }
def CmacPiecesSaid : Prop := cmacPiecesRow.holds Tryd.pinned (OpenSpec.ofChange cmacPiecesSpec)

/-- ITS FALSE NEIGHBOUR: 'it returns false'. Refute it at one input. -/
def cmacPiecesWrong : ChangeSpec := { name := "cmacPieces", fn := fun _ => fun
  | [d1, d2, d3] => { results := [.lit (.bool false)], args := [d1, d2, d3] }
  | _ => none }
def CmacPiecesWrongFalsely : Prop := cmacPiecesRow.holds Tryd.pinned (OpenSpec.ofChange cmacPiecesWrong)

/-- 'turnkeylaw13.CmacClones': WHATEVER THE INPUT: true; the input reads as it did. -/
def cmacClonesSpec : ChangeSpec := { name := "cmacClones", fn := fun _ => fun
  | [d1, d2, d3, d4] => { results := [.lit (.bool true)], args := [d1, d2, d3, d4] }
  | _ => none }
def cmacClonesRow : OpenClaim := { program := "ytnncgniiceglaaadoor", sum := "cd6fc3a1e51c61e66b946dcd52cb6c74f764d0c1bd89b02a002a5e1be3be4964", func := "turnkey/turnkeylaw13.CmacClones", spec := "cmacClones", unfollowed := true, recurses := true, named := ["turnkey/aes.mixing"], apart := false, laid := [("turnkey/aes.mixing", laid_turnkey_aes_mixing)] }
def CmacClonesSaid : Prop := cmacClonesRow.holds Tryd.pinned (OpenSpec.ofChange cmacClonesSpec)

/-- ITS FALSE NEIGHBOUR: 'it returns false'. Refute it at one input. -/
def cmacClonesWrong : ChangeSpec := { name := "cmacClones", fn := fun _ => fun
  | [d1, d2, d3, d4] => { results := [.lit (.bool false)], args := [d1, d2, d3, d4] }
  | _ => none }
def CmacClonesWrongFalsely : Prop := cmacClonesRow.holds Tryd.pinned (OpenSpec.ofChange cmacClonesWrong)

/-- 'turnkeylaw13.CmacForms': WHATEVER THE INPUT: true; the input reads as it did. -/
def cmacFormsSpec : ChangeSpec := { name := "cmacForms", fn := fun _ => fun
  | [d] => { results := [.lit (.bool true)], args := [d] }
  | _ => none }
def cmacFormsRow : OpenClaim := { program := "ytnncgniiceglaaadoor", sum := "cd6fc3a1e51c61e66b946dcd52cb6c74f764d0c1bd89b02a002a5e1be3be4964", func := "turnkey/turnkeylaw13.CmacForms", spec := "cmacForms", unfollowed := true, recurses := true, named := ["turnkey/aes.mixing"], apart := false, laid := [("turnkey/aes.mixing", laid_turnkey_aes_mixing)] }
def CmacFormsSaid : Prop := cmacFormsRow.holds Tryd.pinned (OpenSpec.ofChange cmacFormsSpec)

/-- ITS FALSE NEIGHBOUR: 'it returns false'. Refute it at one input. -/
def cmacFormsWrong : ChangeSpec := { name := "cmacForms", fn := fun _ => fun
  | [d] => { results := [.lit (.bool false)], args := [d] }
  | _ => none }
def CmacFormsWrongFalsely : Prop := cmacFormsRow.holds Tryd.pinned (OpenSpec.ofChange cmacFormsWrong)

/- THE SECOND FORM. 'bulk': how many values and letters a reading holds, each counted each time it is reached (what is shared counts as often as it is met; a slice's spare places count too). A statement '..UptoSaid' is the law's where the arguments, and the package variables that the reading takes, are together of bulk at most 1048576: NARROWER than '..Said'. Prove '..Said' where nothing that the law and all that it calls make is longer than what came in: it says more and counts as full. Else prove '..UptoSaid'. A law counts once. -/
mutual
def uptoBulk {H : Type} : DataW H → Nat
  | .lit (.string bytes) => bytes.length + 1
  | .lit _ => 1
  | .nil => 1
  | .ptr d => uptoBulk d + 1
  | .slice elems spare => uptoBulkAll elems + uptoBulkAll spare + 1
  | .agg parts => uptoBulkAll parts + 1
  | .iface _ d => uptoBulk d + 1
  | .map entries => uptoBulkEntries entries + 1
  | .held _ => 1
def uptoBulkAll {H : Type} : List (DataW H) → Nat
  | [] => 0
  | d :: r => uptoBulk d + uptoBulkAll r
def uptoBulkEntries {H : Type} : List (Lit × DataW H) → Nat
  | [] => 0
  | x :: r => uptoBulkEntry x + uptoBulkEntries r
def uptoBulkEntry {H : Type} : Lit × DataW H → Nat
  | (.string bytes, d) => bytes.length + uptoBulk d + 1
  | (_, d) => uptoBulk d + 1
 end
def uptoSmall : (H : Type) → List (DataW H) → Bool := fun _ ds => decide (uptoBulkAll ds ≤ 1048576)
def OpenSpec.upto (s : _root_.Go.ChangeSpec) : _root_.Go.OpenSpec := { _root_.Go.OpenSpec.ofChange s with cond := some uptoSmall }

/-- 'turnkeylaw13.CmacScript', WHERE WHAT IT READS IS OF BULK AT MOST 1048576: true; the input reads as it did. -/
def cmacScriptUptoRow : OpenClaim := { program := "ytnncgniiceglaaadoor", sum := "cd6fc3a1e51c61e66b946dcd52cb6c74f764d0c1bd89b02a002a5e1be3be4964", func := "turnkey/turnkeylaw13.CmacScript", spec := "cmacScript", unfollowed := true, recurses := true, named := ["turnkey/aes.mixing"], apart := false, laid := [("turnkey/aes.mixing", laid_turnkey_aes_mixing)], narrowed := true }
def CmacScriptUptoSaid : Prop := cmacScriptUptoRow.holds Tryd.pinned (OpenSpec.upto cmacScriptSpec)

/-- 'turnkeylaw13.CmacNone', WHERE WHAT IT READS IS OF BULK AT MOST 1048576: true; the input reads as it did. -/
def cmacNoneUptoRow : OpenClaim := { program := "ytnncgniiceglaaadoor", sum := "cd6fc3a1e51c61e66b946dcd52cb6c74f764d0c1bd89b02a002a5e1be3be4964", func := "turnkey/turnkeylaw13.CmacNone", spec := "cmacNone", unfollowed := true, recurses := true, named := ["turnkey/aes.mixing"], apart := false, laid := [("turnkey/aes.mixing", laid_turnkey_aes_mixing)], narrowed := true }
def CmacNoneUptoSaid : Prop := cmacNoneUptoRow.holds Tryd.pinned (OpenSpec.upto cmacNoneSpec)

/-- 'turnkeylaw13.CmacPieces', WHERE WHAT IT READS IS OF BULK AT MOST 1048576: true; the input reads as it did. -/
def cmacPiecesUptoRow : OpenClaim := { program := "ytnncgniiceglaaadoor", sum := "cd6fc3a1e51c61e66b946dcd52cb6c74f764d0c1bd89b02a002a5e1be3be4964", func := "turnkey/turnkeylaw13.CmacPieces", spec := "cmacPieces", unfollowed := true, recurses := true, named := ["turnkey/aes.mixing"], apart := false, laid := [("turnkey/aes.mixing", laid_turnkey_aes_mixing)], narrowed := true }
def CmacPiecesUptoSaid : Prop := cmacPiecesUptoRow.holds Tryd.pinned (OpenSpec.upto cmacPiecesSpec)

/-- 'turnkeylaw13.CmacClones', WHERE WHAT IT READS IS OF BULK AT MOST 1048576: true; the input reads as it did. -/
def cmacClonesUptoRow : OpenClaim := { program := "ytnncgniiceglaaadoor", sum := "cd6fc3a1e51c61e66b946dcd52cb6c74f764d0c1bd89b02a002a5e1be3be4964", func := "turnkey/turnkeylaw13.CmacClones", spec := "cmacClones", unfollowed := true, recurses := true, named := ["turnkey/aes.mixing"], apart := false, laid := [("turnkey/aes.mixing", laid_turnkey_aes_mixing)], narrowed := true }
def CmacClonesUptoSaid : Prop := cmacClonesUptoRow.holds Tryd.pinned (OpenSpec.upto cmacClonesSpec)

/-- 'turnkeylaw13.CmacForms', WHERE WHAT IT READS IS OF BULK AT MOST 1048576: true; the input reads as it did. -/
def cmacFormsUptoRow : OpenClaim := { program := "ytnncgniiceglaaadoor", sum := "cd6fc3a1e51c61e66b946dcd52cb6c74f764d0c1bd89b02a002a5e1be3be4964", func := "turnkey/turnkeylaw13.CmacForms", spec := "cmacForms", unfollowed := true, recurses := true, named := ["turnkey/aes.mixing"], apart := false, laid := [("turnkey/aes.mixing", laid_turnkey_aes_mixing)], narrowed := true }
def CmacFormsUptoSaid : Prop := cmacFormsUptoRow.holds Tryd.pinned (OpenSpec.upto cmacFormsSpec)

end Rows
end Go.Proofs.YtnncgniiceglaaaDoor
