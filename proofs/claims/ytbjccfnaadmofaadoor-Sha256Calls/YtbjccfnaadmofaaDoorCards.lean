/-
  DERIVED. GIVEN WITH THE SEED: THE CARDS: each row of YtbjccfnaadmofaaDoorRows.lean that lists a variable, with what it lists TIED to the program's text (the seventh form; the later family's looks); each row that meets fmt, with fmt's text TOLD by the authors' own Lean function (tested against real Go, not proved from fmt's source: count such statements apart). THE CARD IS WHAT COUNTS. Prove the row's statement (the work); the ties are given (YtbjccfnaadmofaaDoorTie.lean); close each card by the builder's one call (the guide's Derived/Test/ToyasCard.lean, 'card_holds'). Laid BY PROGRAM, IN A SANDBOX (cutbox-door.mjs). By AI agents, Wed Nov 11 2026. No macro, syntax, notation, axiom, sorry.
-/
import Derived.Test.YtbjccfnaadmofaaDoorRows
import GoSem.ClaimSeven
namespace Go.Proofs.YtbjccfnaadmofaaDoor
namespace Rows

/-- THE TIED CARD OF 'turnkeylaw05.Sha256Calls'. -/
def sha256CallsCard : Claim7 := { stood := { row := sha256CallsRow, standIns := [], harness := (true, "cb334a50f2bb71d17b4dc8021ed2d5097b3e88bb416a65a2ef276a2a83155c4d"), looks := false }, kinds := [], alts := [], laidByText := true, laidKinds := [.data], laidTests := true, laidLooks := .later }
def Sha256CallsCardSaid : Prop := Claim7.holds Tryd.pinned (.plain (OpenSpec.ofChange sha256CallsSpec)) sha256CallsCard

/-- THE SECOND FORM's CARD OF 'turnkeylaw05.Sha256Calls'. -/
def sha256CallsUptoCard : Claim7 := { stood := { row := sha256CallsUptoRow, standIns := [], harness := (true, "cb334a50f2bb71d17b4dc8021ed2d5097b3e88bb416a65a2ef276a2a83155c4d"), looks := false }, kinds := [], alts := [], laidByText := true, laidKinds := [.data], laidTests := true, laidLooks := .later }
def Sha256CallsUptoCardSaid : Prop := Claim7.holds Tryd.pinned (.plain (OpenSpec.upto sha256CallsSpec)) sha256CallsUptoCard
end Rows
end Go.Proofs.YtbjccfnaadmofaaDoor
