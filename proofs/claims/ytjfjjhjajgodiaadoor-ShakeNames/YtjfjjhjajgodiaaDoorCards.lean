/-
  DERIVED. GIVEN WITH THE SEED: THE CARDS: each row of YtjfjjhjajgodiaaDoorRows.lean that lists a variable, with what it lists TIED to the program's text (the seventh form; the later family's looks); each row that meets fmt, with fmt's text TOLD by the authors' own Lean function (tested against real Go, not proved from fmt's source: count such statements apart). THE CARD IS WHAT COUNTS. Prove the row's statement (the work); the ties are given (YtjfjjhjajgodiaaDoorTie.lean); close each card by the builder's one call (the guide's Derived/Test/ToyasCard.lean, 'card_holds'). Laid BY PROGRAM, IN A SANDBOX (cutbox-door.mjs). By AI agents, Wed Nov 11 2026. No macro, syntax, notation, axiom, sorry.
-/
import Derived.Test.YtjfjjhjajgodiaaDoorRows
import GoSem.ClaimSeven
namespace Go.Proofs.YtjfjjhjajgodiaaDoor
namespace Rows

/-- THE TIED CARD OF 'turnkeylaw09.ShakeReads'. -/
def shakeReadsCard : Claim7 := { stood := { row := shakeReadsRow, standIns := [], harness := (true, "e4ee88dc4fe96aa0478634ebab56cd626b5e5609f76d3a0627a08dfeccd50079"), looks := false }, kinds := [], alts := [], laidByText := true, laidKinds := [.data, .data], laidTests := true, laidLooks := .later }
def ShakeReadsCardSaid : Prop := Claim7.holds Tryd.pinned (.plain (OpenSpec.ofChange shakeReadsSpec)) shakeReadsCard

/-- THE TIED CARD OF 'turnkeylaw09.ShakeBegins'. -/
def shakeBeginsCard : Claim7 := { stood := { row := shakeBeginsRow, standIns := [], harness := (true, "e4ee88dc4fe96aa0478634ebab56cd626b5e5609f76d3a0627a08dfeccd50079"), looks := false }, kinds := [], alts := [], laidByText := true, laidKinds := [.data, .data], laidTests := true, laidLooks := .later }
def ShakeBeginsCardSaid : Prop := Claim7.holds Tryd.pinned (.plain (OpenSpec.ofChange shakeBeginsSpec)) shakeBeginsCard

/-- THE TIED CARD OF 'turnkeylaw09.ShakeNames'. -/
def shakeNamesCard : Claim7 := { stood := { row := shakeNamesRow, standIns := [], harness := (true, "e4ee88dc4fe96aa0478634ebab56cd626b5e5609f76d3a0627a08dfeccd50079"), looks := false }, kinds := [], alts := [], laidByText := true, laidKinds := [.data, .data], laidTests := true, laidLooks := .later }
def ShakeNamesCardSaid : Prop := Claim7.holds Tryd.pinned (.plain (OpenSpec.ofChange shakeNamesSpec)) shakeNamesCard

/-- THE TIED CARD OF 'turnkeylaw09.ShakeParts'. -/
def shakePartsCard : Claim7 := { stood := { row := shakePartsRow, standIns := [], harness := (true, "e4ee88dc4fe96aa0478634ebab56cd626b5e5609f76d3a0627a08dfeccd50079"), looks := false }, kinds := [], alts := [], laidByText := true, laidKinds := [.data, .data], laidTests := true, laidLooks := .later }
def ShakePartsCardSaid : Prop := Claim7.holds Tryd.pinned (.plain (OpenSpec.ofChange shakePartsSpec)) shakePartsCard

/-- THE TIED CARD OF 'turnkeylaw09.ShakeCounts'. -/
def shakeCountsCard : Claim7 := { stood := { row := shakeCountsRow, standIns := [], harness := (true, "e4ee88dc4fe96aa0478634ebab56cd626b5e5609f76d3a0627a08dfeccd50079"), looks := false }, kinds := [], alts := [], laidByText := true, laidKinds := [.data, .data], laidTests := true, laidLooks := .later }
def ShakeCountsCardSaid : Prop := Claim7.holds Tryd.pinned (.plain (OpenSpec.ofChange shakeCountsSpec)) shakeCountsCard

/-- THE SECOND FORM's CARD OF 'turnkeylaw09.ShakeReads'. -/
def shakeReadsUptoCard : Claim7 := { stood := { row := shakeReadsUptoRow, standIns := [], harness := (true, "e4ee88dc4fe96aa0478634ebab56cd626b5e5609f76d3a0627a08dfeccd50079"), looks := false }, kinds := [], alts := [], laidByText := true, laidKinds := [.data, .data], laidTests := true, laidLooks := .later }
def ShakeReadsUptoCardSaid : Prop := Claim7.holds Tryd.pinned (.plain (OpenSpec.upto shakeReadsSpec)) shakeReadsUptoCard

/-- THE SECOND FORM's CARD OF 'turnkeylaw09.ShakeBegins'. -/
def shakeBeginsUptoCard : Claim7 := { stood := { row := shakeBeginsUptoRow, standIns := [], harness := (true, "e4ee88dc4fe96aa0478634ebab56cd626b5e5609f76d3a0627a08dfeccd50079"), looks := false }, kinds := [], alts := [], laidByText := true, laidKinds := [.data, .data], laidTests := true, laidLooks := .later }
def ShakeBeginsUptoCardSaid : Prop := Claim7.holds Tryd.pinned (.plain (OpenSpec.upto shakeBeginsSpec)) shakeBeginsUptoCard

/-- THE SECOND FORM's CARD OF 'turnkeylaw09.ShakeNames'. -/
def shakeNamesUptoCard : Claim7 := { stood := { row := shakeNamesUptoRow, standIns := [], harness := (true, "e4ee88dc4fe96aa0478634ebab56cd626b5e5609f76d3a0627a08dfeccd50079"), looks := false }, kinds := [], alts := [], laidByText := true, laidKinds := [.data, .data], laidTests := true, laidLooks := .later }
def ShakeNamesUptoCardSaid : Prop := Claim7.holds Tryd.pinned (.plain (OpenSpec.upto shakeNamesSpec)) shakeNamesUptoCard

/-- THE SECOND FORM's CARD OF 'turnkeylaw09.ShakeParts'. -/
def shakePartsUptoCard : Claim7 := { stood := { row := shakePartsUptoRow, standIns := [], harness := (true, "e4ee88dc4fe96aa0478634ebab56cd626b5e5609f76d3a0627a08dfeccd50079"), looks := false }, kinds := [], alts := [], laidByText := true, laidKinds := [.data, .data], laidTests := true, laidLooks := .later }
def ShakePartsUptoCardSaid : Prop := Claim7.holds Tryd.pinned (.plain (OpenSpec.upto shakePartsSpec)) shakePartsUptoCard

/-- THE SECOND FORM's CARD OF 'turnkeylaw09.ShakeCounts'. -/
def shakeCountsUptoCard : Claim7 := { stood := { row := shakeCountsUptoRow, standIns := [], harness := (true, "e4ee88dc4fe96aa0478634ebab56cd626b5e5609f76d3a0627a08dfeccd50079"), looks := false }, kinds := [], alts := [], laidByText := true, laidKinds := [.data, .data], laidTests := true, laidLooks := .later }
def ShakeCountsUptoCardSaid : Prop := Claim7.holds Tryd.pinned (.plain (OpenSpec.upto shakeCountsSpec)) shakeCountsUptoCard
end Rows
end Go.Proofs.YtjfjjhjajgodiaaDoor
