/-
  DERIVED. GIVEN WITH THE SEED: THE CARDS: each row of YtjhhnajgfngbhaaGreatDoorRows.lean that lists a variable, with what it lists TIED to the program's text (the seventh form; the later family's looks); each row that meets fmt, with fmt's text TOLD by the authors' own Lean function (tested against real Go, not proved from fmt's source: count such statements apart). THE CARD IS WHAT COUNTS. Prove the row's statement (the work); the ties are given (YtjhhnajgfngbhaaGreatDoorTie.lean); close each card by the builder's one call (the guide's Derived/Test/ToyasCard.lean, 'card_holds'). Laid BY PROGRAM, IN A SANDBOX (cutbox-door.mjs). By AI agents, Wed Nov 11 2026. No macro, syntax, notation, axiom, sorry.
-/
import Derived.Test.YtjhhnajgfngbhaaGreatDoorRows
import GoSem.ClaimSeven
namespace Go.Proofs.YtjhhnajgfngbhaaGreatDoor
namespace Rows

/-- THE TIED CARD OF 'turnkeylaw16.Pbkdf2Keys'. -/
def pbkdf2KeysCard : Claim7 := { stood := { row := pbkdf2KeysRow, standIns := [], harness := (true, "db739ec038747c891a1ad2891c9e05da435ea87f4fd455e839f3b3c92b69048c"), looks := false }, kinds := [], alts := [], laidByText := true, laidKinds := [.data, .data], laidTests := true, laidLooks := .later }
def Pbkdf2KeysCardSaid : Prop := Claim7.holds Tryz.pinned (.plain (OpenSpec.ofChange pbkdf2KeysSpec)) pbkdf2KeysCard

/-- THE TIED CARD OF 'turnkeylaw16.Pbkdf2Blocks'. -/
def pbkdf2BlocksCard : Claim7 := { stood := { row := pbkdf2BlocksRow, standIns := [], harness := (true, "db739ec038747c891a1ad2891c9e05da435ea87f4fd455e839f3b3c92b69048c"), looks := false }, kinds := [], alts := [], laidByText := true, laidKinds := [.data, .data], laidTests := true, laidLooks := .later }
def Pbkdf2BlocksCardSaid : Prop := Claim7.holds Tryz.pinned (.plain (OpenSpec.ofChange pbkdf2BlocksSpec)) pbkdf2BlocksCard

/-- THE SECOND FORM's CARD OF 'turnkeylaw16.Pbkdf2Keys'. -/
def pbkdf2KeysUptoCard : Claim7 := { stood := { row := pbkdf2KeysUptoRow, standIns := [], harness := (true, "db739ec038747c891a1ad2891c9e05da435ea87f4fd455e839f3b3c92b69048c"), looks := false }, kinds := [], alts := [], laidByText := true, laidKinds := [.data, .data], laidTests := true, laidLooks := .later }
def Pbkdf2KeysUptoCardSaid : Prop := Claim7.holds Tryz.pinned (.plain (OpenSpec.upto pbkdf2KeysSpec)) pbkdf2KeysUptoCard

/-- THE SECOND FORM's CARD OF 'turnkeylaw16.Pbkdf2Blocks'. -/
def pbkdf2BlocksUptoCard : Claim7 := { stood := { row := pbkdf2BlocksUptoRow, standIns := [], harness := (true, "db739ec038747c891a1ad2891c9e05da435ea87f4fd455e839f3b3c92b69048c"), looks := false }, kinds := [], alts := [], laidByText := true, laidKinds := [.data, .data], laidTests := true, laidLooks := .later }
def Pbkdf2BlocksUptoCardSaid : Prop := Claim7.holds Tryz.pinned (.plain (OpenSpec.upto pbkdf2BlocksSpec)) pbkdf2BlocksUptoCard
end Rows
end Go.Proofs.YtjhhnajgfngbhaaGreatDoor
