/-
  DERIVED. GIVEN WITH THE SEED: THE CARDS: each row of YtehhnneomoddgaaDoorRows.lean that lists a variable, with what it lists TIED to the program's text (the seventh form; the later family's looks); each row that meets fmt, with fmt's text TOLD by the authors' own Lean function (tested against real Go, not proved from fmt's source: count such statements apart). THE CARD IS WHAT COUNTS. Prove the row's statement (the work); the ties are given (YtehhnneomoddgaaDoorTie.lean); close each card by the builder's one call (the guide's Derived/Test/ToyasCard.lean, 'card_holds'). Laid BY PROGRAM, IN A SANDBOX (cutbox-door.mjs). By AI agents, Wed Nov 11 2026. No macro, syntax, notation, axiom, sorry.
-/
import Derived.Test.YtehhnneomoddgaaDoorRows
import GoSem.ClaimSeven
namespace Go.Proofs.YtehhnneomoddgaaDoor
namespace Rows

/-- THE TIED CARD OF 'turnkeylaw10.AesScript'. -/
def aesScriptCard : Claim7 := { stood := { row := aesScriptRow, standIns := [], harness := (true, "d2c5c8a9e9e9e8df189617e385d37a6267fb28190bba6850ed9872ea26535517"), looks := false }, kinds := [], alts := [], laidByText := true, laidKinds := [.data, .data], laidTests := true, laidLooks := .later }
def AesScriptCardSaid : Prop := Claim7.holds Tryd.pinned (.plain (OpenSpec.ofChange aesScriptSpec)) aesScriptCard

/-- THE SECOND FORM's CARD OF 'turnkeylaw10.AesScript'. -/
def aesScriptUptoCard : Claim7 := { stood := { row := aesScriptUptoRow, standIns := [], harness := (true, "d2c5c8a9e9e9e8df189617e385d37a6267fb28190bba6850ed9872ea26535517"), looks := false }, kinds := [], alts := [], laidByText := true, laidKinds := [.data, .data], laidTests := true, laidLooks := .later }
def AesScriptUptoCardSaid : Prop := Claim7.holds Tryd.pinned (.plain (OpenSpec.upto aesScriptSpec)) aesScriptUptoCard
end Rows
end Go.Proofs.YtehhnneomoddgaaDoor
