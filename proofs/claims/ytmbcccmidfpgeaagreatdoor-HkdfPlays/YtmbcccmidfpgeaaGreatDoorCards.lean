/-
  DERIVED. GIVEN WITH THE SEED: THE CARDS: each row of YtmbcccmidfpgeaaGreatDoorRows.lean that lists a variable, with what it lists TIED to the program's text (the seventh form; the later family's looks); each row that meets fmt, with fmt's text TOLD by the authors' own Lean function (tested against real Go, not proved from fmt's source: count such statements apart). THE CARD IS WHAT COUNTS. Prove the row's statement (the work); the ties are given (YtmbcccmidfpgeaaGreatDoorTie.lean); close each card by the builder's one call (the guide's Derived/Test/ToyasCard.lean, 'card_holds'). Laid BY PROGRAM, IN A SANDBOX (cutbox-door.mjs). By AI agents, Wed Nov 11 2026. No macro, syntax, notation, axiom, sorry.
-/
import Derived.Test.YtmbcccmidfpgeaaGreatDoorRows
import GoSem.ClaimSeven
namespace Go.Proofs.YtmbcccmidfpgeaaGreatDoor
namespace Rows

/-- THE TIED CARD OF 'turnkeylaw15.HkdfPlays'. -/
def hkdfPlaysCard : Claim7 := { stood := { row := hkdfPlaysRow, standIns := [], harness := (true, "5141fbcae1fca8e3f1ef7a6bdbf2201d17f6d07bcbdd07b8b3bc4a54b3e847b8"), looks := false }, kinds := [], alts := [], laidByText := true, laidKinds := [.data, .data], laidTests := true, laidLooks := .later }
def HkdfPlaysCardSaid : Prop := Claim7.holds Tryz.pinned (.plain (OpenSpec.ofChange hkdfPlaysSpec)) hkdfPlaysCard

/-- THE SECOND FORM's CARD OF 'turnkeylaw15.HkdfPlays'. -/
def hkdfPlaysUptoCard : Claim7 := { stood := { row := hkdfPlaysUptoRow, standIns := [], harness := (true, "5141fbcae1fca8e3f1ef7a6bdbf2201d17f6d07bcbdd07b8b3bc4a54b3e847b8"), looks := false }, kinds := [], alts := [], laidByText := true, laidKinds := [.data, .data], laidTests := true, laidLooks := .later }
def HkdfPlaysUptoCardSaid : Prop := Claim7.holds Tryz.pinned (.plain (OpenSpec.upto hkdfPlaysSpec)) hkdfPlaysUptoCard
end Rows
end Go.Proofs.YtmbcccmidfpgeaaGreatDoor
