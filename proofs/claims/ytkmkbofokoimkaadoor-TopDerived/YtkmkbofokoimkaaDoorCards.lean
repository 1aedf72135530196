/-
  DERIVED. GIVEN WITH THE SEED: THE CARDS: each row of YtkmkbofokoimkaaDoorRows.lean that lists a variable, with what it lists TIED to the program's text (the seventh form; the later family's looks); each row that meets fmt, with fmt's text TOLD by the authors' own Lean function (tested against real Go, not proved from fmt's source: count such statements apart). THE CARD IS WHAT COUNTS. Prove the row's statement (the work); the ties are given (YtkmkbofokoimkaaDoorTie.lean); close each card by the builder's one call (the guide's Derived/Test/ToyasCard.lean, 'card_holds'). Laid BY PROGRAM, IN A SANDBOX (cutbox-door.mjs). By AI agents, Wed Nov 11 2026. No macro, syntax, notation, axiom, sorry.
-/
import Derived.Test.YtkmkbofokoimkaaDoorRows
import GoSem.ClaimSeven
namespace Go.Proofs.YtkmkbofokoimkaaDoor
namespace Rows

/-- THE TIED CARD OF 'turnkeytop.TopDerived'. -/
def topDerivedCard : Claim7 := { stood := { row := topDerivedRow, standIns := [], harness := (true, "2635ca20c12f4fb89d7a1e99a59db842788cd356dc7d16ebc0ac7d7507e33148"), looks := false }, kinds := [], alts := [], laidByText := true, laidKinds := [.data, .data], laidTests := true, laidLooks := .later }
def TopDerivedCardSaid : Prop := Claim7.holds Tryd.pinned (.plain (OpenSpec.ofChange topDerivedSpec)) topDerivedCard

/-- THE SECOND FORM's CARD OF 'turnkeytop.TopDerived'. -/
def topDerivedUptoCard : Claim7 := { stood := { row := topDerivedUptoRow, standIns := [], harness := (true, "2635ca20c12f4fb89d7a1e99a59db842788cd356dc7d16ebc0ac7d7507e33148"), looks := false }, kinds := [], alts := [], laidByText := true, laidKinds := [.data, .data], laidTests := true, laidLooks := .later }
def TopDerivedUptoCardSaid : Prop := Claim7.holds Tryd.pinned (.plain (OpenSpec.upto topDerivedSpec)) topDerivedUptoCard
end Rows
end Go.Proofs.YtkmkbofokoimkaaDoor
