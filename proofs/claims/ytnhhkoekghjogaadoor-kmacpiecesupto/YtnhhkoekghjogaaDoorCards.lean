/-
  DERIVED. GIVEN WITH THE SEED: THE CARDS: each row of YtnhhkoekghjogaaDoorRows.lean that lists a variable, with what it lists TIED to the program's text (the seventh form; the later family's looks); each row that meets fmt, with fmt's text TOLD by the authors' own Lean function (tested against real Go, not proved from fmt's source: count such statements apart). THE CARD IS WHAT COUNTS. Prove the row's statement (the work); the ties are given (YtnhhkoekghjogaaDoorTie.lean); close each card by the builder's one call (the guide's Derived/Test/ToyasCard.lean, 'card_holds'). Laid BY PROGRAM, IN A SANDBOX (cutbox-door.mjs). By AI agents, Wed Nov 11 2026. No macro, syntax, notation, axiom, sorry.
-/
import Derived.Test.YtnhhkoekghjogaaDoorRows
import GoSem.ClaimSeven
namespace Go.Proofs.YtnhhkoekghjogaaDoor
namespace Rows

/-- THE TIED CARD OF 'turnkeylaw14.KmacTags'. -/
def kmacTagsCard : Claim7 := { stood := { row := kmacTagsRow, standIns := [], harness := (true, "b7d225290ffed541fb51d1ea489096ef7149a6d87e07dfa346e1f10e3992c1a0"), looks := false }, kinds := [], alts := [], laidByText := true, laidKinds := [.data, .data], laidTests := true, laidLooks := .later }
def KmacTagsCardSaid : Prop := Claim7.holds Tryd.pinned (.plain (OpenSpec.ofChange kmacTagsSpec)) kmacTagsCard

/-- THE TIED CARD OF 'turnkeylaw14.KmacPieces'. -/
def kmacPiecesCard : Claim7 := { stood := { row := kmacPiecesRow, standIns := [], harness := (true, "b7d225290ffed541fb51d1ea489096ef7149a6d87e07dfa346e1f10e3992c1a0"), looks := false }, kinds := [], alts := [], laidByText := true, laidKinds := [.data, .data], laidTests := true, laidLooks := .later }
def KmacPiecesCardSaid : Prop := Claim7.holds Tryd.pinned (.plain (OpenSpec.ofChange kmacPiecesSpec)) kmacPiecesCard

/-- THE TIED CARD OF 'turnkeylaw14.KmacNone'. -/
def kmacNoneCard : Claim7 := { stood := { row := kmacNoneRow, standIns := [], harness := (true, "b7d225290ffed541fb51d1ea489096ef7149a6d87e07dfa346e1f10e3992c1a0"), looks := false }, kinds := [], alts := [], laidByText := true, laidKinds := [.data, .data], laidTests := true, laidLooks := .later }
def KmacNoneCardSaid : Prop := Claim7.holds Tryd.pinned (.plain (OpenSpec.ofChange kmacNoneSpec)) kmacNoneCard

/-- THE TIED CARD OF 'turnkeylaw14.KmacNames'. -/
def kmacNamesCard : Claim7 := { stood := { row := kmacNamesRow, standIns := [], harness := (true, "b7d225290ffed541fb51d1ea489096ef7149a6d87e07dfa346e1f10e3992c1a0"), looks := false }, kinds := [], alts := [], laidByText := true, laidKinds := [.data, .data], laidTests := true, laidLooks := .later }
def KmacNamesCardSaid : Prop := Claim7.holds Tryd.pinned (.plain (OpenSpec.ofChange kmacNamesSpec)) kmacNamesCard

/-- THE SECOND FORM's CARD OF 'turnkeylaw14.KmacTags'. -/
def kmacTagsUptoCard : Claim7 := { stood := { row := kmacTagsUptoRow, standIns := [], harness := (true, "b7d225290ffed541fb51d1ea489096ef7149a6d87e07dfa346e1f10e3992c1a0"), looks := false }, kinds := [], alts := [], laidByText := true, laidKinds := [.data, .data], laidTests := true, laidLooks := .later }
def KmacTagsUptoCardSaid : Prop := Claim7.holds Tryd.pinned (.plain (OpenSpec.upto kmacTagsSpec)) kmacTagsUptoCard

/-- THE SECOND FORM's CARD OF 'turnkeylaw14.KmacPieces'. -/
def kmacPiecesUptoCard : Claim7 := { stood := { row := kmacPiecesUptoRow, standIns := [], harness := (true, "b7d225290ffed541fb51d1ea489096ef7149a6d87e07dfa346e1f10e3992c1a0"), looks := false }, kinds := [], alts := [], laidByText := true, laidKinds := [.data, .data], laidTests := true, laidLooks := .later }
def KmacPiecesUptoCardSaid : Prop := Claim7.holds Tryd.pinned (.plain (OpenSpec.upto kmacPiecesSpec)) kmacPiecesUptoCard

/-- THE SECOND FORM's CARD OF 'turnkeylaw14.KmacNone'. -/
def kmacNoneUptoCard : Claim7 := { stood := { row := kmacNoneUptoRow, standIns := [], harness := (true, "b7d225290ffed541fb51d1ea489096ef7149a6d87e07dfa346e1f10e3992c1a0"), looks := false }, kinds := [], alts := [], laidByText := true, laidKinds := [.data, .data], laidTests := true, laidLooks := .later }
def KmacNoneUptoCardSaid : Prop := Claim7.holds Tryd.pinned (.plain (OpenSpec.upto kmacNoneSpec)) kmacNoneUptoCard

/-- THE SECOND FORM's CARD OF 'turnkeylaw14.KmacNames'. -/
def kmacNamesUptoCard : Claim7 := { stood := { row := kmacNamesUptoRow, standIns := [], harness := (true, "b7d225290ffed541fb51d1ea489096ef7149a6d87e07dfa346e1f10e3992c1a0"), looks := false }, kinds := [], alts := [], laidByText := true, laidKinds := [.data, .data], laidTests := true, laidLooks := .later }
def KmacNamesUptoCardSaid : Prop := Claim7.holds Tryd.pinned (.plain (OpenSpec.upto kmacNamesSpec)) kmacNamesUptoCard
end Rows
end Go.Proofs.YtnhhkoekghjogaaDoor
