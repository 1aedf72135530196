/-
  DERIVED. GIVEN WITH THE SEED: THE CARDS: each row of YtmbcccmidfpgeaaDoorRows.lean that lists a variable, with what it lists TIED to the program's text (the seventh form; the later family's looks); each row that meets fmt, with fmt's text TOLD by the authors' own Lean function (tested against real Go, not proved from fmt's source: count such statements apart). THE CARD IS WHAT COUNTS. Prove the row's statement (the work); the ties are given (YtmbcccmidfpgeaaDoorTie.lean); close each card by the builder's one call (the guide's Derived/Test/ToyasCard.lean, 'card_holds'). Laid BY PROGRAM, IN A SANDBOX (cutbox-door.mjs). By AI agents, Wed Nov 11 2026. No macro, syntax, notation, axiom, sorry.
-/
import Derived.Test.YtmbcccmidfpgeaaDoorRows
import GoSem.ClaimSeven
namespace Go.Proofs.YtmbcccmidfpgeaaDoor
namespace Rows

/-- THE TIED CARD OF 'turnkeylaw15.HkdfNames'. -/
def hkdfNamesCard : Claim7 := { stood := { row := hkdfNamesRow, standIns := [], harness := (true, "5ea66c65d1744b518a644c9d8c198a31037bf55d12f86636fea065453e26360f"), looks := false }, kinds := [], alts := [], laidByText := true, laidKinds := [.data, .data], laidTests := true, laidLooks := .later }
def HkdfNamesCardSaid : Prop := Claim7.holds Tryd.pinned (.plain (OpenSpec.ofChange hkdfNamesSpec)) hkdfNamesCard

/-- THE TIED CARD OF 'turnkeylaw15.HkdfSteps'. -/
def hkdfStepsCard : Claim7 := { stood := { row := hkdfStepsRow, standIns := [], harness := (true, "5ea66c65d1744b518a644c9d8c198a31037bf55d12f86636fea065453e26360f"), looks := false }, kinds := [], alts := [], laidByText := true, laidKinds := [.data, .data], laidTests := true, laidLooks := .later }
def HkdfStepsCardSaid : Prop := Claim7.holds Tryd.pinned (.plain (OpenSpec.ofChange hkdfStepsSpec)) hkdfStepsCard

/-- THE TIED CARD OF 'turnkeylaw15.HkdfPublic'. -/
def hkdfPublicCard : Claim7 := { stood := { row := hkdfPublicRow, standIns := [], harness := (true, "5ea66c65d1744b518a644c9d8c198a31037bf55d12f86636fea065453e26360f"), looks := false }, kinds := [], alts := [], laidByText := true, laidKinds := [.data, .data], laidTests := true, laidLooks := .later }
def HkdfPublicCardSaid : Prop := Claim7.holds Tryd.pinned (.plain (OpenSpec.ofChange hkdfPublicSpec)) hkdfPublicCard

/-- THE SECOND FORM's CARD OF 'turnkeylaw15.HkdfNames'. -/
def hkdfNamesUptoCard : Claim7 := { stood := { row := hkdfNamesUptoRow, standIns := [], harness := (true, "5ea66c65d1744b518a644c9d8c198a31037bf55d12f86636fea065453e26360f"), looks := false }, kinds := [], alts := [], laidByText := true, laidKinds := [.data, .data], laidTests := true, laidLooks := .later }
def HkdfNamesUptoCardSaid : Prop := Claim7.holds Tryd.pinned (.plain (OpenSpec.upto hkdfNamesSpec)) hkdfNamesUptoCard

/-- THE SECOND FORM's CARD OF 'turnkeylaw15.HkdfSteps'. -/
def hkdfStepsUptoCard : Claim7 := { stood := { row := hkdfStepsUptoRow, standIns := [], harness := (true, "5ea66c65d1744b518a644c9d8c198a31037bf55d12f86636fea065453e26360f"), looks := false }, kinds := [], alts := [], laidByText := true, laidKinds := [.data, .data], laidTests := true, laidLooks := .later }
def HkdfStepsUptoCardSaid : Prop := Claim7.holds Tryd.pinned (.plain (OpenSpec.upto hkdfStepsSpec)) hkdfStepsUptoCard

/-- THE SECOND FORM's CARD OF 'turnkeylaw15.HkdfPublic'. -/
def hkdfPublicUptoCard : Claim7 := { stood := { row := hkdfPublicUptoRow, standIns := [], harness := (true, "5ea66c65d1744b518a644c9d8c198a31037bf55d12f86636fea065453e26360f"), looks := false }, kinds := [], alts := [], laidByText := true, laidKinds := [.data, .data], laidTests := true, laidLooks := .later }
def HkdfPublicUptoCardSaid : Prop := Claim7.holds Tryd.pinned (.plain (OpenSpec.upto hkdfPublicSpec)) hkdfPublicUptoCard
end Rows
end Go.Proofs.YtmbcccmidfpgeaaDoor
