/-
  DERIVED. GIVEN WITH THE SEED: THE CARDS: each row of YtpgkalgnlkfmaaaGreatDoorRows.lean that lists a variable, with what it lists TIED to the program's text (the seventh form; the later family's looks); each row that meets fmt, with fmt's text TOLD by the authors' own Lean function (tested against real Go, not proved from fmt's source: count such statements apart). THE CARD IS WHAT COUNTS. Prove the row's statement (the work); the ties are given (YtpgkalgnlkfmaaaGreatDoorTie.lean); close each card by the builder's one call (the guide's Derived/Test/ToyasCard.lean, 'card_holds'). Laid BY PROGRAM, IN A SANDBOX (cutbox-door.mjs). By AI agents, Wed Nov 11 2026. No macro, syntax, notation, axiom, sorry.
-/
import Derived.Test.YtpgkalgnlkfmaaaGreatDoorRows
import GoSem.ClaimSeven
namespace Go.Proofs.YtpgkalgnlkfmaaaGreatDoor
namespace Rows

/-- THE TIED CARD OF 'turnkeylaw12.HmacPlays'. -/
def hmacPlaysCard : Claim7 := { stood := { row := hmacPlaysRow, standIns := [], harness := (true, "9ec1b344b37db7309875ccfb46571134e8580ebed68bbb7037f32ad88eb944e8"), looks := false }, kinds := [], alts := [], laidByText := true, laidKinds := [.data, .data], laidTests := true, laidLooks := .later }
def HmacPlaysCardSaid : Prop := Claim7.holds Tryz.pinned (.plain (OpenSpec.ofChange hmacPlaysSpec)) hmacPlaysCard

/-- THE TIED CARD OF 'turnkeylaw12.HmacTags'. -/
def hmacTagsCard : Claim7 := { stood := { row := hmacTagsRow, standIns := [], harness := (true, "9ec1b344b37db7309875ccfb46571134e8580ebed68bbb7037f32ad88eb944e8"), looks := false }, kinds := [], alts := [], laidByText := true, laidKinds := [.data, .data], laidTests := true, laidLooks := .later }
def HmacTagsCardSaid : Prop := Claim7.holds Tryz.pinned (.plain (OpenSpec.ofChange hmacTagsSpec)) hmacTagsCard

/-- THE SECOND FORM's CARD OF 'turnkeylaw12.HmacPlays'. -/
def hmacPlaysUptoCard : Claim7 := { stood := { row := hmacPlaysUptoRow, standIns := [], harness := (true, "9ec1b344b37db7309875ccfb46571134e8580ebed68bbb7037f32ad88eb944e8"), looks := false }, kinds := [], alts := [], laidByText := true, laidKinds := [.data, .data], laidTests := true, laidLooks := .later }
def HmacPlaysUptoCardSaid : Prop := Claim7.holds Tryz.pinned (.plain (OpenSpec.upto hmacPlaysSpec)) hmacPlaysUptoCard

/-- THE SECOND FORM's CARD OF 'turnkeylaw12.HmacTags'. -/
def hmacTagsUptoCard : Claim7 := { stood := { row := hmacTagsUptoRow, standIns := [], harness := (true, "9ec1b344b37db7309875ccfb46571134e8580ebed68bbb7037f32ad88eb944e8"), looks := false }, kinds := [], alts := [], laidByText := true, laidKinds := [.data, .data], laidTests := true, laidLooks := .later }
def HmacTagsUptoCardSaid : Prop := Claim7.holds Tryz.pinned (.plain (OpenSpec.upto hmacTagsSpec)) hmacTagsUptoCard
end Rows
end Go.Proofs.YtpgkalgnlkfmaaaGreatDoor
