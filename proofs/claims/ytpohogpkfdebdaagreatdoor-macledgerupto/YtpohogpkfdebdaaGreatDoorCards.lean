/-
  DERIVED. GIVEN WITH THE SEED: THE CARDS: each row of YtpohogpkfdebdaaGreatDoorRows.lean that lists a variable, with what it lists TIED to the program's text (the seventh form; the later family's looks); each row that meets fmt, with fmt's text TOLD by the authors' own Lean function (tested against real Go, not proved from fmt's source: count such statements apart). THE CARD IS WHAT COUNTS. Prove the row's statement (the work); the ties are given (YtpohogpkfdebdaaGreatDoorTie.lean); close each card by the builder's one call (the guide's Derived/Test/ToyasCard.lean, 'card_holds'). Laid BY PROGRAM, IN A SANDBOX (cutbox-door.mjs). By AI agents, Wed Nov 11 2026. No macro, syntax, notation, axiom, sorry.
-/
import Derived.Test.YtpohogpkfdebdaaGreatDoorRows
import GoSem.ClaimSeven
namespace Go.Proofs.YtpohogpkfdebdaaGreatDoor
namespace Rows

/-- THE TIED CARD OF 'turnkeylaw17.MacCalls'. -/
def macCallsCard : Claim7 := { stood := { row := macCallsRow, standIns := [], harness := (true, "2e651c89391f36c0eb6de02db8c54c2776e836b8a4b1a577e553245b22f38ab8"), looks := false }, kinds := [], alts := [], laidByText := true, laidKinds := [.data, .data, .data, .data, .data], laidTests := true, laidLooks := .later }
def MacCallsCardSaid : Prop := Claim7.holds Tryz.pinned (.plain (OpenSpec.ofChange macCallsSpec)) macCallsCard

/-- THE TIED CARD OF 'turnkeylaw17.MacBegins'. -/
def macBeginsCard : Claim7 := { stood := { row := macBeginsRow, standIns := [], harness := (true, "2e651c89391f36c0eb6de02db8c54c2776e836b8a4b1a577e553245b22f38ab8"), looks := false }, kinds := [], alts := [], laidByText := true, laidKinds := [.data, .data, .data, .data, .data], laidTests := true, laidLooks := .later }
def MacBeginsCardSaid : Prop := Claim7.holds Tryz.pinned (.plain (OpenSpec.ofChange macBeginsSpec)) macBeginsCard

/-- THE TIED CARD OF 'turnkeylaw17.MacPieces'. -/
def macPiecesCard : Claim7 := { stood := { row := macPiecesRow, standIns := [], harness := (true, "2e651c89391f36c0eb6de02db8c54c2776e836b8a4b1a577e553245b22f38ab8"), looks := false }, kinds := [], alts := [], laidByText := true, laidKinds := [.data, .data, .data, .data, .data], laidTests := true, laidLooks := .later }
def MacPiecesCardSaid : Prop := Claim7.holds Tryz.pinned (.plain (OpenSpec.ofChange macPiecesSpec)) macPiecesCard

/-- THE TIED CARD OF 'turnkeylaw17.MacLedger'. -/
def macLedgerCard : Claim7 := { stood := { row := macLedgerRow, standIns := [], harness := (true, "2e651c89391f36c0eb6de02db8c54c2776e836b8a4b1a577e553245b22f38ab8"), looks := false }, kinds := [], alts := [], laidByText := true, laidKinds := [.data, .data, .data, .data, .data], laidTests := true, laidLooks := .later }
def MacLedgerCardSaid : Prop := Claim7.holds Tryz.pinned (.plain (OpenSpec.ofChange macLedgerSpec)) macLedgerCard

/-- THE TIED CARD OF 'turnkeylaw17.MacNone'. -/
def macNoneCard : Claim7 := { stood := { row := macNoneRow, standIns := [], harness := (true, "2e651c89391f36c0eb6de02db8c54c2776e836b8a4b1a577e553245b22f38ab8"), looks := false }, kinds := [], alts := [], laidByText := true, laidKinds := [.data, .data, .data, .data, .data], laidTests := true, laidLooks := .later }
def MacNoneCardSaid : Prop := Claim7.holds Tryz.pinned (.plain (OpenSpec.ofChange macNoneSpec)) macNoneCard

/-- THE TIED CARD OF 'turnkeylaw17.MacNames'. -/
def macNamesCard : Claim7 := { stood := { row := macNamesRow, standIns := [], harness := (true, "2e651c89391f36c0eb6de02db8c54c2776e836b8a4b1a577e553245b22f38ab8"), looks := false }, kinds := [], alts := [], laidByText := true, laidKinds := [.data, .data, .data, .data, .data], laidTests := true, laidLooks := .later }
def MacNamesCardSaid : Prop := Claim7.holds Tryz.pinned (.plain (OpenSpec.ofChange macNamesSpec)) macNamesCard

/-- THE SECOND FORM's CARD OF 'turnkeylaw17.MacCalls'. -/
def macCallsUptoCard : Claim7 := { stood := { row := macCallsUptoRow, standIns := [], harness := (true, "2e651c89391f36c0eb6de02db8c54c2776e836b8a4b1a577e553245b22f38ab8"), looks := false }, kinds := [], alts := [], laidByText := true, laidKinds := [.data, .data, .data, .data, .data], laidTests := true, laidLooks := .later }
def MacCallsUptoCardSaid : Prop := Claim7.holds Tryz.pinned (.plain (OpenSpec.upto macCallsSpec)) macCallsUptoCard

/-- THE SECOND FORM's CARD OF 'turnkeylaw17.MacBegins'. -/
def macBeginsUptoCard : Claim7 := { stood := { row := macBeginsUptoRow, standIns := [], harness := (true, "2e651c89391f36c0eb6de02db8c54c2776e836b8a4b1a577e553245b22f38ab8"), looks := false }, kinds := [], alts := [], laidByText := true, laidKinds := [.data, .data, .data, .data, .data], laidTests := true, laidLooks := .later }
def MacBeginsUptoCardSaid : Prop := Claim7.holds Tryz.pinned (.plain (OpenSpec.upto macBeginsSpec)) macBeginsUptoCard

/-- THE SECOND FORM's CARD OF 'turnkeylaw17.MacPieces'. -/
def macPiecesUptoCard : Claim7 := { stood := { row := macPiecesUptoRow, standIns := [], harness := (true, "2e651c89391f36c0eb6de02db8c54c2776e836b8a4b1a577e553245b22f38ab8"), looks := false }, kinds := [], alts := [], laidByText := true, laidKinds := [.data, .data, .data, .data, .data], laidTests := true, laidLooks := .later }
def MacPiecesUptoCardSaid : Prop := Claim7.holds Tryz.pinned (.plain (OpenSpec.upto macPiecesSpec)) macPiecesUptoCard

/-- THE SECOND FORM's CARD OF 'turnkeylaw17.MacLedger'. -/
def macLedgerUptoCard : Claim7 := { stood := { row := macLedgerUptoRow, standIns := [], harness := (true, "2e651c89391f36c0eb6de02db8c54c2776e836b8a4b1a577e553245b22f38ab8"), looks := false }, kinds := [], alts := [], laidByText := true, laidKinds := [.data, .data, .data, .data, .data], laidTests := true, laidLooks := .later }
def MacLedgerUptoCardSaid : Prop := Claim7.holds Tryz.pinned (.plain (OpenSpec.upto macLedgerSpec)) macLedgerUptoCard

/-- THE SECOND FORM's CARD OF 'turnkeylaw17.MacNone'. -/
def macNoneUptoCard : Claim7 := { stood := { row := macNoneUptoRow, standIns := [], harness := (true, "2e651c89391f36c0eb6de02db8c54c2776e836b8a4b1a577e553245b22f38ab8"), looks := false }, kinds := [], alts := [], laidByText := true, laidKinds := [.data, .data, .data, .data, .data], laidTests := true, laidLooks := .later }
def MacNoneUptoCardSaid : Prop := Claim7.holds Tryz.pinned (.plain (OpenSpec.upto macNoneSpec)) macNoneUptoCard

/-- THE SECOND FORM's CARD OF 'turnkeylaw17.MacNames'. -/
def macNamesUptoCard : Claim7 := { stood := { row := macNamesUptoRow, standIns := [], harness := (true, "2e651c89391f36c0eb6de02db8c54c2776e836b8a4b1a577e553245b22f38ab8"), looks := false }, kinds := [], alts := [], laidByText := true, laidKinds := [.data, .data, .data, .data, .data], laidTests := true, laidLooks := .later }
def MacNamesUptoCardSaid : Prop := Claim7.holds Tryz.pinned (.plain (OpenSpec.upto macNamesSpec)) macNamesUptoCard
end Rows
end Go.Proofs.YtpohogpkfdebdaaGreatDoor
