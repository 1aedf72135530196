/-
  DERIVED. GIVEN WITH THE SEED: THE CARDS: each row of YtnbmnpfpjhpifaaDoorRows.lean that lists a variable, with what it lists TIED to the program's text (the seventh form; the later family's looks); each row that meets fmt, with fmt's text TOLD by the authors' own Lean function (tested against real Go, not proved from fmt's source: count such statements apart). THE CARD IS WHAT COUNTS. Prove the row's statement (the work); the ties are given (YtnbmnpfpjhpifaaDoorTie.lean); close each card by the builder's one call (the guide's Derived/Test/ToyasCard.lean, 'card_holds'). Laid BY PROGRAM, IN A SANDBOX (cutbox-door.mjs). By AI agents, Wed Nov 11 2026. No macro, syntax, notation, axiom, sorry.
-/
import Derived.Test.YtnbmnpfpjhpifaaDoorRows
import GoSem.ClaimSeven
namespace Go.Proofs.YtnbmnpfpjhpifaaDoor
namespace Rows

/-- THE TIED CARD OF 'turnkeylaw08.SpongeCalls'. -/
def spongeCallsCard : Claim7 := { stood := { row := spongeCallsRow, standIns := [], harness := (true, "f6e7c5d8aef87daefeee136363bd92ee47bc5ac6eef363aca9337c86e0989e00"), looks := false }, kinds := [], alts := [], laidByText := true, laidKinds := [.data, .data], laidTests := true, laidLooks := .later }
def SpongeCallsCardSaid : Prop := Claim7.holds Tryd.pinned (.plain (OpenSpec.ofChange spongeCallsSpec)) spongeCallsCard

/-- THE SECOND FORM's CARD OF 'turnkeylaw08.SpongeCalls'. -/
def spongeCallsUptoCard : Claim7 := { stood := { row := spongeCallsUptoRow, standIns := [], harness := (true, "f6e7c5d8aef87daefeee136363bd92ee47bc5ac6eef363aca9337c86e0989e00"), looks := false }, kinds := [], alts := [], laidByText := true, laidKinds := [.data, .data], laidTests := true, laidLooks := .later }
def SpongeCallsUptoCardSaid : Prop := Claim7.holds Tryd.pinned (.plain (OpenSpec.upto spongeCallsSpec)) spongeCallsUptoCard
end Rows
end Go.Proofs.YtnbmnpfpjhpifaaDoor
