/-
  DERIVED. GIVEN WITH THE SEED: THE CARDS: each row of YtpgkalgnlkfmaaaDoorRows.lean that lists a variable, with what it lists TIED to the program's text (the seventh form; the later family's looks); each row that meets fmt, with fmt's text TOLD by the authors' own Lean function (tested against real Go, not proved from fmt's source: count such statements apart). THE CARD IS WHAT COUNTS. Prove the row's statement (the work); the ties are given (YtpgkalgnlkfmaaaDoorTie.lean); close each card by the builder's one call (the guide's Derived/Test/ToyasCard.lean, 'card_holds'). Laid BY PROGRAM, IN A SANDBOX (cutbox-door.mjs). By AI agents, Wed Nov 11 2026. No macro, syntax, notation, axiom, sorry.
-/
import Derived.Test.YtpgkalgnlkfmaaaDoorRows
import GoSem.ClaimSeven
namespace Go.Proofs.YtpgkalgnlkfmaaaDoor
namespace Rows

/-- THE TIED CARD OF 'turnkeylaw12.HmacNames'. -/
def hmacNamesCard : Claim7 := { stood := { row := hmacNamesRow, standIns := [], harness := (true, "e42123876ef6f46b3cf2dd62a425425468b2c10d58a73973ab92794debf51f87"), looks := false }, kinds := [], alts := [], laidByText := true, laidKinds := [.data, .data], laidTests := true, laidLooks := .later }
def HmacNamesCardSaid : Prop := Claim7.holds Tryd.pinned (.plain (OpenSpec.ofChange hmacNamesSpec)) hmacNamesCard

/-- THE TIED CARD OF 'turnkeylaw12.HmacPieces'. -/
def hmacPiecesCard : Claim7 := { stood := { row := hmacPiecesRow, standIns := [], harness := (true, "e42123876ef6f46b3cf2dd62a425425468b2c10d58a73973ab92794debf51f87"), looks := false }, kinds := [], alts := [], laidByText := true, laidKinds := [.data, .data], laidTests := true, laidLooks := .later }
def HmacPiecesCardSaid : Prop := Claim7.holds Tryd.pinned (.plain (OpenSpec.ofChange hmacPiecesSpec)) hmacPiecesCard

/-- THE TIED CARD OF 'turnkeylaw12.HmacInside'. -/
def hmacInsideCard : Claim7 := { stood := { row := hmacInsideRow, standIns := [], harness := (true, "e42123876ef6f46b3cf2dd62a425425468b2c10d58a73973ab92794debf51f87"), looks := false }, kinds := [], alts := [], laidByText := true, laidKinds := [.data, .data], laidTests := true, laidLooks := .later }
def HmacInsideCardSaid : Prop := Claim7.holds Tryd.pinned (.plain (OpenSpec.ofChange hmacInsideSpec)) hmacInsideCard

/-- THE SECOND FORM's CARD OF 'turnkeylaw12.HmacNames'. -/
def hmacNamesUptoCard : Claim7 := { stood := { row := hmacNamesUptoRow, standIns := [], harness := (true, "e42123876ef6f46b3cf2dd62a425425468b2c10d58a73973ab92794debf51f87"), looks := false }, kinds := [], alts := [], laidByText := true, laidKinds := [.data, .data], laidTests := true, laidLooks := .later }
def HmacNamesUptoCardSaid : Prop := Claim7.holds Tryd.pinned (.plain (OpenSpec.upto hmacNamesSpec)) hmacNamesUptoCard

/-- THE SECOND FORM's CARD OF 'turnkeylaw12.HmacPieces'. -/
def hmacPiecesUptoCard : Claim7 := { stood := { row := hmacPiecesUptoRow, standIns := [], harness := (true, "e42123876ef6f46b3cf2dd62a425425468b2c10d58a73973ab92794debf51f87"), looks := false }, kinds := [], alts := [], laidByText := true, laidKinds := [.data, .data], laidTests := true, laidLooks := .later }
def HmacPiecesUptoCardSaid : Prop := Claim7.holds Tryd.pinned (.plain (OpenSpec.upto hmacPiecesSpec)) hmacPiecesUptoCard

/-- THE SECOND FORM's CARD OF 'turnkeylaw12.HmacInside'. -/
def hmacInsideUptoCard : Claim7 := { stood := { row := hmacInsideUptoRow, standIns := [], harness := (true, "e42123876ef6f46b3cf2dd62a425425468b2c10d58a73973ab92794debf51f87"), looks := false }, kinds := [], alts := [], laidByText := true, laidKinds := [.data, .data], laidTests := true, laidLooks := .later }
def HmacInsideUptoCardSaid : Prop := Claim7.holds Tryd.pinned (.plain (OpenSpec.upto hmacInsideSpec)) hmacInsideUptoCard
end Rows
end Go.Proofs.YtpgkalgnlkfmaaaDoor
