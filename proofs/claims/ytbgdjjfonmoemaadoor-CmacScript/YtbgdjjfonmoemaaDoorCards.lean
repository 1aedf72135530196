/-
  DERIVED. GIVEN WITH THE SEED: THE CARDS: each row of YtbgdjjfonmoemaaDoorRows.lean that lists a variable, with what it lists TIED to the program's text (the seventh form; the later family's looks); each row that meets fmt, with fmt's text TOLD by the authors' own Lean function (tested against real Go, not proved from fmt's source: count such statements apart). THE CARD IS WHAT COUNTS. Prove the row's statement (the work); the ties are given (YtbgdjjfonmoemaaDoorTie.lean); close each card by the builder's one call (the guide's Derived/Test/ToyasCard.lean, 'card_holds'). Laid BY PROGRAM, IN A SANDBOX (cutbox-door.mjs). By AI agents, Wed Nov 11 2026. No macro, syntax, notation, axiom, sorry.
-/
import Derived.Test.YtbgdjjfonmoemaaDoorRows
import GoSem.ClaimSeven
namespace Go.Proofs.YtbgdjjfonmoemaaDoor
namespace Rows

/-- THE TIED CARD OF 'turnkeylaw13.CmacScript'. -/
def cmacScriptCard : Claim7 := { stood := { row := cmacScriptRow, standIns := [], harness := (true, "d9c13091ae9ab04f8394d848772d8e95ec4e1cdf30231a7f6cd7e19e719f7b93"), looks := false }, kinds := [], alts := [], laidByText := true, laidKinds := [.data], laidTests := true, laidLooks := .later }
def CmacScriptCardSaid : Prop := Claim7.holds Tryd.pinned (.plain (OpenSpec.ofChange cmacScriptSpec)) cmacScriptCard

/-- THE SECOND FORM's CARD OF 'turnkeylaw13.CmacScript'. -/
def cmacScriptUptoCard : Claim7 := { stood := { row := cmacScriptUptoRow, standIns := [], harness := (true, "d9c13091ae9ab04f8394d848772d8e95ec4e1cdf30231a7f6cd7e19e719f7b93"), looks := false }, kinds := [], alts := [], laidByText := true, laidKinds := [.data], laidTests := true, laidLooks := .later }
def CmacScriptUptoCardSaid : Prop := Claim7.holds Tryd.pinned (.plain (OpenSpec.upto cmacScriptSpec)) cmacScriptUptoCard
end Rows
end Go.Proofs.YtbgdjjfonmoemaaDoor
