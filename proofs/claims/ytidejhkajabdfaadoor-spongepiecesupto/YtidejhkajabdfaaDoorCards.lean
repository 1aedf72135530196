/-
  DERIVED. GIVEN WITH THE SEED: THE CARDS: each row of YtidejhkajabdfaaDoorRows.lean that lists a variable, with what it lists TIED to the program's text (the seventh form; the later family's looks); each row that meets fmt, with fmt's text TOLD by the authors' own Lean function (tested against real Go, not proved from fmt's source: count such statements apart). THE CARD IS WHAT COUNTS. Prove the row's statement (the work); the ties are given (YtidejhkajabdfaaDoorTie.lean); close each card by the builder's one call (the guide's Derived/Test/ToyasCard.lean, 'card_holds'). Laid BY PROGRAM, IN A SANDBOX (cutbox-door.mjs). By AI agents, Wed Nov 11 2026. No macro, syntax, notation, axiom, sorry.
-/
import Derived.Test.YtidejhkajabdfaaDoorRows
import GoSem.ClaimSeven
namespace Go.Proofs.YtidejhkajabdfaaDoor
namespace Rows

/-- THE TIED CARD OF 'turnkeylaw08.SpongeCalls'. -/
def spongeCallsCard : Claim7 := { stood := { row := spongeCallsRow, standIns := [], harness := (true, "4df2a2d5d54ce3bf1b0a3c495648d7ea5eb507c8d82c2b4b647f30457c36fec5"), looks := false }, kinds := [], alts := [], laidByText := true, laidKinds := [.data, .data], laidTests := true, laidLooks := .later }
def SpongeCallsCardSaid : Prop := Claim7.holds Tryd.pinned (.plain (OpenSpec.ofChange spongeCallsSpec)) spongeCallsCard

/-- THE TIED CARD OF 'turnkeylaw08.SpongePieces'. -/
def spongePiecesCard : Claim7 := { stood := { row := spongePiecesRow, standIns := [], harness := (true, "4df2a2d5d54ce3bf1b0a3c495648d7ea5eb507c8d82c2b4b647f30457c36fec5"), looks := false }, kinds := [], alts := [], laidByText := true, laidKinds := [.data, .data], laidTests := true, laidLooks := .later }
def SpongePiecesCardSaid : Prop := Claim7.holds Tryd.pinned (.plain (OpenSpec.ofChange spongePiecesSpec)) spongePiecesCard

/-- THE TIED CARD OF 'turnkeylaw08.SpongeNone'. -/
def spongeNoneCard : Claim7 := { stood := { row := spongeNoneRow, standIns := [], harness := (true, "4df2a2d5d54ce3bf1b0a3c495648d7ea5eb507c8d82c2b4b647f30457c36fec5"), looks := false }, kinds := [], alts := [], laidByText := true, laidKinds := [.data, .data], laidTests := true, laidLooks := .later }
def SpongeNoneCardSaid : Prop := Claim7.holds Tryd.pinned (.plain (OpenSpec.ofChange spongeNoneSpec)) spongeNoneCard

/-- THE TIED CARD OF 'turnkeylaw08.SpongeNames'. -/
def spongeNamesCard : Claim7 := { stood := { row := spongeNamesRow, standIns := [], harness := (true, "4df2a2d5d54ce3bf1b0a3c495648d7ea5eb507c8d82c2b4b647f30457c36fec5"), looks := false }, kinds := [], alts := [], laidByText := true, laidKinds := [.data, .data], laidTests := true, laidLooks := .later }
def SpongeNamesCardSaid : Prop := Claim7.holds Tryd.pinned (.plain (OpenSpec.ofChange spongeNamesSpec)) spongeNamesCard

/-- THE SECOND FORM's CARD OF 'turnkeylaw08.SpongeCalls'. -/
def spongeCallsUptoCard : Claim7 := { stood := { row := spongeCallsUptoRow, standIns := [], harness := (true, "4df2a2d5d54ce3bf1b0a3c495648d7ea5eb507c8d82c2b4b647f30457c36fec5"), looks := false }, kinds := [], alts := [], laidByText := true, laidKinds := [.data, .data], laidTests := true, laidLooks := .later }
def SpongeCallsUptoCardSaid : Prop := Claim7.holds Tryd.pinned (.plain (OpenSpec.upto spongeCallsSpec)) spongeCallsUptoCard

/-- THE SECOND FORM's CARD OF 'turnkeylaw08.SpongePieces'. -/
def spongePiecesUptoCard : Claim7 := { stood := { row := spongePiecesUptoRow, standIns := [], harness := (true, "4df2a2d5d54ce3bf1b0a3c495648d7ea5eb507c8d82c2b4b647f30457c36fec5"), looks := false }, kinds := [], alts := [], laidByText := true, laidKinds := [.data, .data], laidTests := true, laidLooks := .later }
def SpongePiecesUptoCardSaid : Prop := Claim7.holds Tryd.pinned (.plain (OpenSpec.upto spongePiecesSpec)) spongePiecesUptoCard

/-- THE SECOND FORM's CARD OF 'turnkeylaw08.SpongeNone'. -/
def spongeNoneUptoCard : Claim7 := { stood := { row := spongeNoneUptoRow, standIns := [], harness := (true, "4df2a2d5d54ce3bf1b0a3c495648d7ea5eb507c8d82c2b4b647f30457c36fec5"), looks := false }, kinds := [], alts := [], laidByText := true, laidKinds := [.data, .data], laidTests := true, laidLooks := .later }
def SpongeNoneUptoCardSaid : Prop := Claim7.holds Tryd.pinned (.plain (OpenSpec.upto spongeNoneSpec)) spongeNoneUptoCard

/-- THE SECOND FORM's CARD OF 'turnkeylaw08.SpongeNames'. -/
def spongeNamesUptoCard : Claim7 := { stood := { row := spongeNamesUptoRow, standIns := [], harness := (true, "4df2a2d5d54ce3bf1b0a3c495648d7ea5eb507c8d82c2b4b647f30457c36fec5"), looks := false }, kinds := [], alts := [], laidByText := true, laidKinds := [.data, .data], laidTests := true, laidLooks := .later }
def SpongeNamesUptoCardSaid : Prop := Claim7.holds Tryd.pinned (.plain (OpenSpec.upto spongeNamesSpec)) spongeNamesUptoCard
end Rows
end Go.Proofs.YtidejhkajabdfaaDoor
