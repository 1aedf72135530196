/-
  DERIVED. GIVEN WITH THE SEED: THE CARDS: each row of YtjalconbhliipaaDoorRows.lean that lists a variable, with what it lists TIED to the program's text (the seventh form; the later family's looks); each row that meets fmt, with fmt's text TOLD by the authors' own Lean function (tested against real Go, not proved from fmt's source: count such statements apart). THE CARD IS WHAT COUNTS. Prove the row's statement (the work); the ties are given (YtjalconbhliipaaDoorTie.lean); close each card by the builder's one call (the guide's Derived/Test/ToyasCard.lean, 'card_holds'). Laid BY PROGRAM, IN A SANDBOX (cutbox-door.mjs). By AI agents, Wed Nov 11 2026. No macro, syntax, notation, axiom, sorry.
-/
import Derived.Test.YtjalconbhliipaaDoorRows
import GoSem.ClaimSeven
namespace Go.Proofs.YtjalconbhliipaaDoor
namespace Rows

/-- THE TIED CARD OF 'turnkeylaw06.Sha512Plays'. -/
def sha512PlaysCard : Claim7 := { stood := { row := sha512PlaysRow, standIns := [], harness := (true, "c26deedef442093b8dcedd89a1889d1a33968bf289a0d11ed3acbf7efe8ec709"), looks := false }, kinds := [], alts := [], laidByText := true, laidKinds := [.data], laidTests := true, laidLooks := .later }
def Sha512PlaysCardSaid : Prop := Claim7.holds Tryd.pinned (.plain (OpenSpec.ofChange sha512PlaysSpec)) sha512PlaysCard

/-- THE TIED CARD OF 'turnkeylaw06.Sha512Sums'. -/
def sha512SumsCard : Claim7 := { stood := { row := sha512SumsRow, standIns := [], harness := (true, "c26deedef442093b8dcedd89a1889d1a33968bf289a0d11ed3acbf7efe8ec709"), looks := false }, kinds := [], alts := [], laidByText := true, laidKinds := [.data], laidTests := true, laidLooks := .later }
def Sha512SumsCardSaid : Prop := Claim7.holds Tryd.pinned (.plain (OpenSpec.ofChange sha512SumsSpec)) sha512SumsCard

/-- THE TIED CARD OF 'turnkeylaw06.Sha512Names'. -/
def sha512NamesCard : Claim7 := { stood := { row := sha512NamesRow, standIns := [], harness := (true, "c26deedef442093b8dcedd89a1889d1a33968bf289a0d11ed3acbf7efe8ec709"), looks := false }, kinds := [], alts := [], laidByText := true, laidKinds := [.data], laidTests := true, laidLooks := .later }
def Sha512NamesCardSaid : Prop := Claim7.holds Tryd.pinned (.plain (OpenSpec.ofChange sha512NamesSpec)) sha512NamesCard

/-- THE TIED CARD OF 'turnkeylaw06.Sha512Pieces'. -/
def sha512PiecesCard : Claim7 := { stood := { row := sha512PiecesRow, standIns := [], harness := (true, "c26deedef442093b8dcedd89a1889d1a33968bf289a0d11ed3acbf7efe8ec709"), looks := false }, kinds := [], alts := [], laidByText := true, laidKinds := [.data], laidTests := true, laidLooks := .later }
def Sha512PiecesCardSaid : Prop := Claim7.holds Tryd.pinned (.plain (OpenSpec.ofChange sha512PiecesSpec)) sha512PiecesCard

/-- THE TIED CARD OF 'turnkeylaw06.Sha512Public'. -/
def sha512PublicCard : Claim7 := { stood := { row := sha512PublicRow, standIns := [], harness := (true, "c26deedef442093b8dcedd89a1889d1a33968bf289a0d11ed3acbf7efe8ec709"), looks := false }, kinds := [], alts := [], laidByText := true, laidKinds := [.data], laidTests := true, laidLooks := .later }
def Sha512PublicCardSaid : Prop := Claim7.holds Tryd.pinned (.plain (OpenSpec.ofChange sha512PublicSpec)) sha512PublicCard

/-- THE SECOND FORM's CARD OF 'turnkeylaw06.Sha512Plays'. -/
def sha512PlaysUptoCard : Claim7 := { stood := { row := sha512PlaysUptoRow, standIns := [], harness := (true, "c26deedef442093b8dcedd89a1889d1a33968bf289a0d11ed3acbf7efe8ec709"), looks := false }, kinds := [], alts := [], laidByText := true, laidKinds := [.data], laidTests := true, laidLooks := .later }
def Sha512PlaysUptoCardSaid : Prop := Claim7.holds Tryd.pinned (.plain (OpenSpec.upto sha512PlaysSpec)) sha512PlaysUptoCard

/-- THE SECOND FORM's CARD OF 'turnkeylaw06.Sha512Sums'. -/
def sha512SumsUptoCard : Claim7 := { stood := { row := sha512SumsUptoRow, standIns := [], harness := (true, "c26deedef442093b8dcedd89a1889d1a33968bf289a0d11ed3acbf7efe8ec709"), looks := false }, kinds := [], alts := [], laidByText := true, laidKinds := [.data], laidTests := true, laidLooks := .later }
def Sha512SumsUptoCardSaid : Prop := Claim7.holds Tryd.pinned (.plain (OpenSpec.upto sha512SumsSpec)) sha512SumsUptoCard

/-- THE SECOND FORM's CARD OF 'turnkeylaw06.Sha512Names'. -/
def sha512NamesUptoCard : Claim7 := { stood := { row := sha512NamesUptoRow, standIns := [], harness := (true, "c26deedef442093b8dcedd89a1889d1a33968bf289a0d11ed3acbf7efe8ec709"), looks := false }, kinds := [], alts := [], laidByText := true, laidKinds := [.data], laidTests := true, laidLooks := .later }
def Sha512NamesUptoCardSaid : Prop := Claim7.holds Tryd.pinned (.plain (OpenSpec.upto sha512NamesSpec)) sha512NamesUptoCard

/-- THE SECOND FORM's CARD OF 'turnkeylaw06.Sha512Pieces'. -/
def sha512PiecesUptoCard : Claim7 := { stood := { row := sha512PiecesUptoRow, standIns := [], harness := (true, "c26deedef442093b8dcedd89a1889d1a33968bf289a0d11ed3acbf7efe8ec709"), looks := false }, kinds := [], alts := [], laidByText := true, laidKinds := [.data], laidTests := true, laidLooks := .later }
def Sha512PiecesUptoCardSaid : Prop := Claim7.holds Tryd.pinned (.plain (OpenSpec.upto sha512PiecesSpec)) sha512PiecesUptoCard

/-- THE SECOND FORM's CARD OF 'turnkeylaw06.Sha512Public'. -/
def sha512PublicUptoCard : Claim7 := { stood := { row := sha512PublicUptoRow, standIns := [], harness := (true, "c26deedef442093b8dcedd89a1889d1a33968bf289a0d11ed3acbf7efe8ec709"), looks := false }, kinds := [], alts := [], laidByText := true, laidKinds := [.data], laidTests := true, laidLooks := .later }
def Sha512PublicUptoCardSaid : Prop := Claim7.holds Tryd.pinned (.plain (OpenSpec.upto sha512PublicSpec)) sha512PublicUptoCard
end Rows
end Go.Proofs.YtjalconbhliipaaDoor
