/-
  DERIVED. GIVEN WITH THE SEED: THE CARDS: each row of YtdhbkekpjojlnaaDoorRows.lean that lists a variable, with what it lists TIED to the program's text (the seventh form; the later family's looks); each row that meets fmt, with fmt's text TOLD by the authors' own Lean function (tested against real Go, not proved from fmt's source: count such statements apart). THE CARD IS WHAT COUNTS. Prove the row's statement (the work); the ties are given (YtdhbkekpjojlnaaDoorTie.lean); close each card by the builder's one call (the guide's Derived/Test/ToyasCard.lean, 'card_holds'). Laid BY PROGRAM, IN A SANDBOX (cutbox-door.mjs). By AI agents, Wed Nov 11 2026. No macro, syntax, notation, axiom, sorry.
-/
import Derived.Test.YtdhbkekpjojlnaaDoorRows
import GoSem.ClaimSeven
namespace Go.Proofs.YtdhbkekpjojlnaaDoor
namespace Rows

/-- THE TIED CARD OF 'turnkeylaw06.Sha512Plays'. -/
def sha512PlaysCard : Claim7 := { stood := { row := sha512PlaysRow, standIns := [], harness := (true, "ac19e69ae655f10f775a0fc70adca959821f471238dce411aa85a446a8b36a6e"), looks := false }, kinds := [], alts := [], laidByText := true, laidKinds := [.data], laidTests := true, laidLooks := .later }
def Sha512PlaysCardSaid : Prop := Claim7.holds Tryd.pinned (.plain (OpenSpec.ofChange sha512PlaysSpec)) sha512PlaysCard

/-- THE SECOND FORM's CARD OF 'turnkeylaw06.Sha512Plays'. -/
def sha512PlaysUptoCard : Claim7 := { stood := { row := sha512PlaysUptoRow, standIns := [], harness := (true, "ac19e69ae655f10f775a0fc70adca959821f471238dce411aa85a446a8b36a6e"), looks := false }, kinds := [], alts := [], laidByText := true, laidKinds := [.data], laidTests := true, laidLooks := .later }
def Sha512PlaysUptoCardSaid : Prop := Claim7.holds Tryd.pinned (.plain (OpenSpec.upto sha512PlaysSpec)) sha512PlaysUptoCard
end Rows
end Go.Proofs.YtdhbkekpjojlnaaDoor
