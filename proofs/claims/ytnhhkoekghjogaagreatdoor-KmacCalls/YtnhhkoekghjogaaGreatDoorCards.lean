/-
  DERIVED. GIVEN WITH THE SEED: THE CARDS: each row of YtnhhkoekghjogaaGreatDoorRows.lean that lists a variable, with what it lists TIED to the program's text (the seventh form; the later family's looks); each row that meets fmt, with fmt's text TOLD by the authors' own Lean function (tested against real Go, not proved from fmt's source: count such statements apart). THE CARD IS WHAT COUNTS. Prove the row's statement (the work); the ties are given (YtnhhkoekghjogaaGreatDoorTie.lean); close each card by the builder's one call (the guide's Derived/Test/ToyasCard.lean, 'card_holds'). Laid BY PROGRAM, IN A SANDBOX (cutbox-door.mjs). By AI agents, Wed Nov 11 2026. No macro, syntax, notation, axiom, sorry.
-/
import Derived.Test.YtnhhkoekghjogaaGreatDoorRows
import GoSem.ClaimSeven
namespace Go.Proofs.YtnhhkoekghjogaaGreatDoor
namespace Rows

/-- THE TIED CARD OF 'turnkeylaw14.KmacCalls'. -/
def kmacCallsCard : Claim7 := { stood := { row := kmacCallsRow, standIns := [], harness := (true, "007fcc3ab8333928eafc3a148fde3a8d360526a3bea3e6b1b4440fe753bf0f3b"), looks := false }, kinds := [], alts := [], laidByText := true, laidKinds := [.data, .data], laidTests := true, laidLooks := .later }
def KmacCallsCardSaid : Prop := Claim7.holds Tryz.pinned (.plain (OpenSpec.ofChange kmacCallsSpec)) kmacCallsCard

/-- THE SECOND FORM's CARD OF 'turnkeylaw14.KmacCalls'. -/
def kmacCallsUptoCard : Claim7 := { stood := { row := kmacCallsUptoRow, standIns := [], harness := (true, "007fcc3ab8333928eafc3a148fde3a8d360526a3bea3e6b1b4440fe753bf0f3b"), looks := false }, kinds := [], alts := [], laidByText := true, laidKinds := [.data, .data], laidTests := true, laidLooks := .later }
def KmacCallsUptoCardSaid : Prop := Claim7.holds Tryz.pinned (.plain (OpenSpec.upto kmacCallsSpec)) kmacCallsUptoCard
end Rows
end Go.Proofs.YtnhhkoekghjogaaGreatDoor
