/-
  DERIVED. GIVEN WITH THE SEED: THE CARDS: each row of YtnncgniiceglaaaDoorRows.lean that lists a variable, with what it lists TIED to the program's text (the seventh form; the later family's looks); each row that meets fmt, with fmt's text TOLD by the authors' own Lean function (tested against real Go, not proved from fmt's source: count such statements apart). THE CARD IS WHAT COUNTS. Prove the row's statement (the work); the ties are given (YtnncgniiceglaaaDoorTie.lean); close each card by the builder's one call (the guide's Derived/Test/ToyasCard.lean, 'card_holds'). Laid BY PROGRAM, IN A SANDBOX (cutbox-door.mjs). By AI agents, Wed Nov 11 2026. No macro, syntax, notation, axiom, sorry.
-/
import Derived.Test.YtnncgniiceglaaaDoorRows
import GoSem.ClaimSeven
namespace Go.Proofs.YtnncgniiceglaaaDoor
namespace Rows

/-- THE TIED CARD OF 'turnkeylaw13.CmacScript'. -/
def cmacScriptCard : Claim7 := { stood := { row := cmacScriptRow, standIns := [], harness := (true, "69749734535dd5d25832c489ae878c9aefb95132ee08c0aff70b33568d15c2e6"), looks := false }, kinds := [], alts := [], laidByText := true, laidKinds := [.data], laidTests := true, laidLooks := .later }
def CmacScriptCardSaid : Prop := Claim7.holds Tryd.pinned (.plain (OpenSpec.ofChange cmacScriptSpec)) cmacScriptCard

/-- THE TIED CARD OF 'turnkeylaw13.CmacNone'. -/
def cmacNoneCard : Claim7 := { stood := { row := cmacNoneRow, standIns := [], harness := (true, "69749734535dd5d25832c489ae878c9aefb95132ee08c0aff70b33568d15c2e6"), looks := false }, kinds := [], alts := [], laidByText := true, laidKinds := [.data], laidTests := true, laidLooks := .later }
def CmacNoneCardSaid : Prop := Claim7.holds Tryd.pinned (.plain (OpenSpec.ofChange cmacNoneSpec)) cmacNoneCard

/-- THE TIED CARD OF 'turnkeylaw13.CmacPieces'. -/
def cmacPiecesCard : Claim7 := { stood := { row := cmacPiecesRow, standIns := [], harness := (true, "69749734535dd5d25832c489ae878c9aefb95132ee08c0aff70b33568d15c2e6"), looks := false }, kinds := [], alts := [], laidByText := true, laidKinds := [.data], laidTests := true, laidLooks := .later }
def CmacPiecesCardSaid : Prop := Claim7.holds Tryd.pinned (.plain (OpenSpec.ofChange cmacPiecesSpec)) cmacPiecesCard

/-- THE TIED CARD OF 'turnkeylaw13.CmacClones'. -/
def cmacClonesCard : Claim7 := { stood := { row := cmacClonesRow, standIns := [], harness := (true, "69749734535dd5d25832c489ae878c9aefb95132ee08c0aff70b33568d15c2e6"), looks := false }, kinds := [], alts := [], laidByText := true, laidKinds := [.data], laidTests := true, laidLooks := .later }
def CmacClonesCardSaid : Prop := Claim7.holds Tryd.pinned (.plain (OpenSpec.ofChange cmacClonesSpec)) cmacClonesCard

/-- THE TIED CARD OF 'turnkeylaw13.CmacForms'. -/
def cmacFormsCard : Claim7 := { stood := { row := cmacFormsRow, standIns := [], harness := (true, "69749734535dd5d25832c489ae878c9aefb95132ee08c0aff70b33568d15c2e6"), looks := false }, kinds := [], alts := [], laidByText := true, laidKinds := [.data], laidTests := true, laidLooks := .later }
def CmacFormsCardSaid : Prop := Claim7.holds Tryd.pinned (.plain (OpenSpec.ofChange cmacFormsSpec)) cmacFormsCard

/-- THE SECOND FORM's CARD OF 'turnkeylaw13.CmacScript'. -/
def cmacScriptUptoCard : Claim7 := { stood := { row := cmacScriptUptoRow, standIns := [], harness := (true, "69749734535dd5d25832c489ae878c9aefb95132ee08c0aff70b33568d15c2e6"), looks := false }, kinds := [], alts := [], laidByText := true, laidKinds := [.data], laidTests := true, laidLooks := .later }
def CmacScriptUptoCardSaid : Prop := Claim7.holds Tryd.pinned (.plain (OpenSpec.upto cmacScriptSpec)) cmacScriptUptoCard

/-- THE SECOND FORM's CARD OF 'turnkeylaw13.CmacNone'. -/
def cmacNoneUptoCard : Claim7 := { stood := { row := cmacNoneUptoRow, standIns := [], harness := (true, "69749734535dd5d25832c489ae878c9aefb95132ee08c0aff70b33568d15c2e6"), looks := false }, kinds := [], alts := [], laidByText := true, laidKinds := [.data], laidTests := true, laidLooks := .later }
def CmacNoneUptoCardSaid : Prop := Claim7.holds Tryd.pinned (.plain (OpenSpec.upto cmacNoneSpec)) cmacNoneUptoCard

/-- THE SECOND FORM's CARD OF 'turnkeylaw13.CmacPieces'. -/
def cmacPiecesUptoCard : Claim7 := { stood := { row := cmacPiecesUptoRow, standIns := [], harness := (true, "69749734535dd5d25832c489ae878c9aefb95132ee08c0aff70b33568d15c2e6"), looks := false }, kinds := [], alts := [], laidByText := true, laidKinds := [.data], laidTests := true, laidLooks := .later }
def CmacPiecesUptoCardSaid : Prop := Claim7.holds Tryd.pinned (.plain (OpenSpec.upto cmacPiecesSpec)) cmacPiecesUptoCard

/-- THE SECOND FORM's CARD OF 'turnkeylaw13.CmacClones'. -/
def cmacClonesUptoCard : Claim7 := { stood := { row := cmacClonesUptoRow, standIns := [], harness := (true, "69749734535dd5d25832c489ae878c9aefb95132ee08c0aff70b33568d15c2e6"), looks := false }, kinds := [], alts := [], laidByText := true, laidKinds := [.data], laidTests := true, laidLooks := .later }
def CmacClonesUptoCardSaid : Prop := Claim7.holds Tryd.pinned (.plain (OpenSpec.upto cmacClonesSpec)) cmacClonesUptoCard

/-- THE SECOND FORM's CARD OF 'turnkeylaw13.CmacForms'. -/
def cmacFormsUptoCard : Claim7 := { stood := { row := cmacFormsUptoRow, standIns := [], harness := (true, "69749734535dd5d25832c489ae878c9aefb95132ee08c0aff70b33568d15c2e6"), looks := false }, kinds := [], alts := [], laidByText := true, laidKinds := [.data], laidTests := true, laidLooks := .later }
def CmacFormsUptoCardSaid : Prop := Claim7.holds Tryd.pinned (.plain (OpenSpec.upto cmacFormsSpec)) cmacFormsUptoCard
end Rows
end Go.Proofs.YtnncgniiceglaaaDoor
