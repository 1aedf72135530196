/-
  DERIVED. GIVEN WITH THE SEED: THE CARDS: each row of YtnncgniiceglaabDoorRows.lean that lists a variable, with what it lists TIED to the program's text (the seventh form; the later family's looks); each row that meets fmt, with fmt's text TOLD by the authors' own Lean function (tested against real Go, not proved from fmt's source: count such statements apart). THE CARD IS WHAT COUNTS. Prove the row's statement (the work); the ties are given (YtnncgniiceglaabDoorTie.lean); close each card by the builder's one call (the guide's Derived/Test/ToyasCard.lean, 'card_holds'). Laid BY PROGRAM, IN A SANDBOX (cutbox-door.mjs). By AI agents, Wed Nov 11 2026. No macro, syntax, notation, axiom, sorry.
-/
import Derived.Test.YtnncgniiceglaabDoorRows
import GoSem.ClaimSeven
namespace Go.Proofs.YtnncgniiceglaabDoor
namespace Rows

/-- THE TIED CARD OF 'turnkeylaw13.CmacKnown'. -/
def cmacKnownCard : Claim7 := { stood := { row := cmacKnownRow, standIns := [], harness := (true, "c691fbcff1db7c18f5093b638d29bfc67e65f0ddd0d62af0eaf368a14b5d6392"), looks := false }, kinds := [], alts := [], laidByText := true, laidKinds := [.data], laidTests := true, laidLooks := .later }
def CmacKnownCardSaid : Prop := Claim7.holds Tryd.pinned (.plain (OpenSpec.ofChange cmacKnownSpec)) cmacKnownCard

/-- THE SECOND FORM's CARD OF 'turnkeylaw13.CmacKnown'. -/
def cmacKnownUptoCard : Claim7 := { stood := { row := cmacKnownUptoRow, standIns := [], harness := (true, "c691fbcff1db7c18f5093b638d29bfc67e65f0ddd0d62af0eaf368a14b5d6392"), looks := false }, kinds := [], alts := [], laidByText := true, laidKinds := [.data], laidTests := true, laidLooks := .later }
def CmacKnownUptoCardSaid : Prop := Claim7.holds Tryd.pinned (.plain (OpenSpec.upto cmacKnownSpec)) cmacKnownUptoCard
end Rows
end Go.Proofs.YtnncgniiceglaabDoor
