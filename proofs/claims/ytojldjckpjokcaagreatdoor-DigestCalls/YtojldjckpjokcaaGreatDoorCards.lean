/-
  DERIVED. GIVEN WITH THE SEED: THE CARDS: each row of YtojldjckpjokcaaGreatDoorRows.lean that lists a variable, with what it lists TIED to the program's text (the seventh form; the later family's looks); each row that meets fmt, with fmt's text TOLD by the authors' own Lean function (tested against real Go, not proved from fmt's source: count such statements apart). THE CARD IS WHAT COUNTS. Prove the row's statement (the work); the ties are given (YtojldjckpjokcaaGreatDoorTie.lean); close each card by the builder's one call (the guide's Derived/Test/ToyasCard.lean, 'card_holds'). Laid BY PROGRAM, IN A SANDBOX (cutbox-door.mjs). By AI agents, Wed Nov 11 2026. No macro, syntax, notation, axiom, sorry.
-/
import Derived.Test.YtojldjckpjokcaaGreatDoorRows
import GoSem.ClaimSeven
namespace Go.Proofs.YtojldjckpjokcaaGreatDoor
namespace Rows

/-- THE TIED CARD OF 'turnkeylaw11.DigestCalls'. -/
def digestCallsCard : Claim7 := { stood := { row := digestCallsRow, standIns := [], harness := (true, "f96ae2eb1ab07ab1755e2f840cb9ff72e3385959708f275453d4b98d799404b3"), looks := false }, kinds := [], alts := [], laidByText := true, laidKinds := [.data, .data], laidTests := true, laidLooks := .later }
def DigestCallsCardSaid : Prop := Claim7.holds Tryz.pinned (.plain (OpenSpec.ofChange digestCallsSpec)) digestCallsCard

/-- THE TIED CARD OF 'turnkeylaw11.DigestSums'. -/
def digestSumsCard : Claim7 := { stood := { row := digestSumsRow, standIns := [], harness := (true, "f96ae2eb1ab07ab1755e2f840cb9ff72e3385959708f275453d4b98d799404b3"), looks := false }, kinds := [], alts := [], laidByText := true, laidKinds := [.data, .data], laidTests := true, laidLooks := .later }
def DigestSumsCardSaid : Prop := Claim7.holds Tryz.pinned (.plain (OpenSpec.ofChange digestSumsSpec)) digestSumsCard

/-- THE SECOND FORM's CARD OF 'turnkeylaw11.DigestCalls'. -/
def digestCallsUptoCard : Claim7 := { stood := { row := digestCallsUptoRow, standIns := [], harness := (true, "f96ae2eb1ab07ab1755e2f840cb9ff72e3385959708f275453d4b98d799404b3"), looks := false }, kinds := [], alts := [], laidByText := true, laidKinds := [.data, .data], laidTests := true, laidLooks := .later }
def DigestCallsUptoCardSaid : Prop := Claim7.holds Tryz.pinned (.plain (OpenSpec.upto digestCallsSpec)) digestCallsUptoCard

/-- THE SECOND FORM's CARD OF 'turnkeylaw11.DigestSums'. -/
def digestSumsUptoCard : Claim7 := { stood := { row := digestSumsUptoRow, standIns := [], harness := (true, "f96ae2eb1ab07ab1755e2f840cb9ff72e3385959708f275453d4b98d799404b3"), looks := false }, kinds := [], alts := [], laidByText := true, laidKinds := [.data, .data], laidTests := true, laidLooks := .later }
def DigestSumsUptoCardSaid : Prop := Claim7.holds Tryz.pinned (.plain (OpenSpec.upto digestSumsSpec)) digestSumsUptoCard
end Rows
end Go.Proofs.YtojldjckpjokcaaGreatDoor
