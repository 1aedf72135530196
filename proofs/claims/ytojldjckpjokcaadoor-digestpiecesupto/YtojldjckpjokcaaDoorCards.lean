/-
  DERIVED. GIVEN WITH THE SEED: THE CARDS: each row of YtojldjckpjokcaaDoorRows.lean that lists a variable, with what it lists TIED to the program's text (the seventh form; the later family's looks); each row that meets fmt, with fmt's text TOLD by the authors' own Lean function (tested against real Go, not proved from fmt's source: count such statements apart). THE CARD IS WHAT COUNTS. Prove the row's statement (the work); the ties are given (YtojldjckpjokcaaDoorTie.lean); close each card by the builder's one call (the guide's Derived/Test/ToyasCard.lean, 'card_holds'). Laid BY PROGRAM, IN A SANDBOX (cutbox-door.mjs). By AI agents, Wed Nov 11 2026. No macro, syntax, notation, axiom, sorry.
-/
import Derived.Test.YtojldjckpjokcaaDoorRows
import GoSem.ClaimSeven
namespace Go.Proofs.YtojldjckpjokcaaDoor
namespace Rows

/-- THE TIED CARD OF 'turnkeylaw11.DigestPieces'. -/
def digestPiecesCard : Claim7 := { stood := { row := digestPiecesRow, standIns := [], harness := (true, "550d333b4a4008cc23c9d9b8d6ace064ae507d2844b8efc0c0421bda6cf7c700"), looks := false }, kinds := [], alts := [], laidByText := true, laidKinds := [.data, .data], laidTests := true, laidLooks := .later }
def DigestPiecesCardSaid : Prop := Claim7.holds Tryd.pinned (.plain (OpenSpec.ofChange digestPiecesSpec)) digestPiecesCard

/-- THE TIED CARD OF 'turnkeylaw11.DigestWiped'. -/
def digestWipedCard : Claim7 := { stood := { row := digestWipedRow, standIns := [], harness := (true, "550d333b4a4008cc23c9d9b8d6ace064ae507d2844b8efc0c0421bda6cf7c700"), looks := false }, kinds := [], alts := [], laidByText := true, laidKinds := [.data, .data], laidTests := true, laidLooks := .later }
def DigestWipedCardSaid : Prop := Claim7.holds Tryd.pinned (.plain (OpenSpec.ofChange digestWipedSpec)) digestWipedCard

/-- THE TIED CARD OF 'turnkeylaw11.DigestNames'. -/
def digestNamesCard : Claim7 := { stood := { row := digestNamesRow, standIns := [], harness := (true, "550d333b4a4008cc23c9d9b8d6ace064ae507d2844b8efc0c0421bda6cf7c700"), looks := false }, kinds := [], alts := [], laidByText := true, laidKinds := [.data, .data], laidTests := true, laidLooks := .later }
def DigestNamesCardSaid : Prop := Claim7.holds Tryd.pinned (.plain (OpenSpec.ofChange digestNamesSpec)) digestNamesCard

/-- THE SECOND FORM's CARD OF 'turnkeylaw11.DigestPieces'. -/
def digestPiecesUptoCard : Claim7 := { stood := { row := digestPiecesUptoRow, standIns := [], harness := (true, "550d333b4a4008cc23c9d9b8d6ace064ae507d2844b8efc0c0421bda6cf7c700"), looks := false }, kinds := [], alts := [], laidByText := true, laidKinds := [.data, .data], laidTests := true, laidLooks := .later }
def DigestPiecesUptoCardSaid : Prop := Claim7.holds Tryd.pinned (.plain (OpenSpec.upto digestPiecesSpec)) digestPiecesUptoCard

/-- THE SECOND FORM's CARD OF 'turnkeylaw11.DigestWiped'. -/
def digestWipedUptoCard : Claim7 := { stood := { row := digestWipedUptoRow, standIns := [], harness := (true, "550d333b4a4008cc23c9d9b8d6ace064ae507d2844b8efc0c0421bda6cf7c700"), looks := false }, kinds := [], alts := [], laidByText := true, laidKinds := [.data, .data], laidTests := true, laidLooks := .later }
def DigestWipedUptoCardSaid : Prop := Claim7.holds Tryd.pinned (.plain (OpenSpec.upto digestWipedSpec)) digestWipedUptoCard

/-- THE SECOND FORM's CARD OF 'turnkeylaw11.DigestNames'. -/
def digestNamesUptoCard : Claim7 := { stood := { row := digestNamesUptoRow, standIns := [], harness := (true, "550d333b4a4008cc23c9d9b8d6ace064ae507d2844b8efc0c0421bda6cf7c700"), looks := false }, kinds := [], alts := [], laidByText := true, laidKinds := [.data, .data], laidTests := true, laidLooks := .later }
def DigestNamesUptoCardSaid : Prop := Claim7.holds Tryd.pinned (.plain (OpenSpec.upto digestNamesSpec)) digestNamesUptoCard
end Rows
end Go.Proofs.YtojldjckpjokcaaDoor
