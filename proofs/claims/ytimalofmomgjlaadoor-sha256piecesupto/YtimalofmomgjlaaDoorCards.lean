/-
  DERIVED. GIVEN WITH THE SEED: THE CARDS: each row of YtimalofmomgjlaaDoorRows.lean that lists a variable, with what it lists TIED to the program's text (the seventh form; the later family's looks); each row that meets fmt, with fmt's text TOLD by the authors' own Lean function (tested against real Go, not proved from fmt's source: count such statements apart). THE CARD IS WHAT COUNTS. Prove the row's statement (the work); the ties are given (YtimalofmomgjlaaDoorTie.lean); close each card by the builder's one call (the guide's Derived/Test/ToyasCard.lean, 'card_holds'). Laid BY PROGRAM, IN A SANDBOX (cutbox-door.mjs). By AI agents, Wed Nov 11 2026. No macro, syntax, notation, axiom, sorry.
-/
import Derived.Test.YtimalofmomgjlaaDoorRows
import GoSem.ClaimSeven
namespace Go.Proofs.YtimalofmomgjlaaDoor
namespace Rows

/-- THE TIED CARD OF 'turnkeylaw05.Sha256Calls'. -/
def sha256CallsCard : Claim7 := { stood := { row := sha256CallsRow, standIns := [], harness := (true, "4e53e654132442bf554c087a4e2a105688da2d935abbfd690ab8397224c8a2ee"), looks := false }, kinds := [], alts := [], laidByText := true, laidKinds := [.data], laidTests := true, laidLooks := .later }
def Sha256CallsCardSaid : Prop := Claim7.holds Tryd.pinned (.plain (OpenSpec.ofChange sha256CallsSpec)) sha256CallsCard

/-- THE TIED CARD OF 'turnkeylaw05.Sha256Sums'. -/
def sha256SumsCard : Claim7 := { stood := { row := sha256SumsRow, standIns := [], harness := (true, "4e53e654132442bf554c087a4e2a105688da2d935abbfd690ab8397224c8a2ee"), looks := false }, kinds := [], alts := [], laidByText := true, laidKinds := [.data], laidTests := true, laidLooks := .later }
def Sha256SumsCardSaid : Prop := Claim7.holds Tryd.pinned (.plain (OpenSpec.ofChange sha256SumsSpec)) sha256SumsCard

/-- THE TIED CARD OF 'turnkeylaw05.Sha256Pieces'. -/
def sha256PiecesCard : Claim7 := { stood := { row := sha256PiecesRow, standIns := [], harness := (true, "4e53e654132442bf554c087a4e2a105688da2d935abbfd690ab8397224c8a2ee"), looks := false }, kinds := [], alts := [], laidByText := true, laidKinds := [.data], laidTests := true, laidLooks := .later }
def Sha256PiecesCardSaid : Prop := Claim7.holds Tryd.pinned (.plain (OpenSpec.ofChange sha256PiecesSpec)) sha256PiecesCard

/-- THE TIED CARD OF 'turnkeylaw05.Sha256None'. -/
def sha256NoneCard : Claim7 := { stood := { row := sha256NoneRow, standIns := [], harness := (true, "4e53e654132442bf554c087a4e2a105688da2d935abbfd690ab8397224c8a2ee"), looks := false }, kinds := [], alts := [], laidByText := true, laidKinds := [.data], laidTests := true, laidLooks := .later }
def Sha256NoneCardSaid : Prop := Claim7.holds Tryd.pinned (.plain (OpenSpec.ofChange sha256NoneSpec)) sha256NoneCard

/-- THE TIED CARD OF 'turnkeylaw05.Sha256Names'. -/
def sha256NamesCard : Claim7 := { stood := { row := sha256NamesRow, standIns := [], harness := (true, "4e53e654132442bf554c087a4e2a105688da2d935abbfd690ab8397224c8a2ee"), looks := false }, kinds := [], alts := [], laidByText := true, laidKinds := [.data], laidTests := true, laidLooks := .later }
def Sha256NamesCardSaid : Prop := Claim7.holds Tryd.pinned (.plain (OpenSpec.ofChange sha256NamesSpec)) sha256NamesCard

/-- THE SECOND FORM's CARD OF 'turnkeylaw05.Sha256Calls'. -/
def sha256CallsUptoCard : Claim7 := { stood := { row := sha256CallsUptoRow, standIns := [], harness := (true, "4e53e654132442bf554c087a4e2a105688da2d935abbfd690ab8397224c8a2ee"), looks := false }, kinds := [], alts := [], laidByText := true, laidKinds := [.data], laidTests := true, laidLooks := .later }
def Sha256CallsUptoCardSaid : Prop := Claim7.holds Tryd.pinned (.plain (OpenSpec.upto sha256CallsSpec)) sha256CallsUptoCard

/-- THE SECOND FORM's CARD OF 'turnkeylaw05.Sha256Sums'. -/
def sha256SumsUptoCard : Claim7 := { stood := { row := sha256SumsUptoRow, standIns := [], harness := (true, "4e53e654132442bf554c087a4e2a105688da2d935abbfd690ab8397224c8a2ee"), looks := false }, kinds := [], alts := [], laidByText := true, laidKinds := [.data], laidTests := true, laidLooks := .later }
def Sha256SumsUptoCardSaid : Prop := Claim7.holds Tryd.pinned (.plain (OpenSpec.upto sha256SumsSpec)) sha256SumsUptoCard

/-- THE SECOND FORM's CARD OF 'turnkeylaw05.Sha256Pieces'. -/
def sha256PiecesUptoCard : Claim7 := { stood := { row := sha256PiecesUptoRow, standIns := [], harness := (true, "4e53e654132442bf554c087a4e2a105688da2d935abbfd690ab8397224c8a2ee"), looks := false }, kinds := [], alts := [], laidByText := true, laidKinds := [.data], laidTests := true, laidLooks := .later }
def Sha256PiecesUptoCardSaid : Prop := Claim7.holds Tryd.pinned (.plain (OpenSpec.upto sha256PiecesSpec)) sha256PiecesUptoCard

/-- THE SECOND FORM's CARD OF 'turnkeylaw05.Sha256None'. -/
def sha256NoneUptoCard : Claim7 := { stood := { row := sha256NoneUptoRow, standIns := [], harness := (true, "4e53e654132442bf554c087a4e2a105688da2d935abbfd690ab8397224c8a2ee"), looks := false }, kinds := [], alts := [], laidByText := true, laidKinds := [.data], laidTests := true, laidLooks := .later }
def Sha256NoneUptoCardSaid : Prop := Claim7.holds Tryd.pinned (.plain (OpenSpec.upto sha256NoneSpec)) sha256NoneUptoCard

/-- THE SECOND FORM's CARD OF 'turnkeylaw05.Sha256Names'. -/
def sha256NamesUptoCard : Claim7 := { stood := { row := sha256NamesUptoRow, standIns := [], harness := (true, "4e53e654132442bf554c087a4e2a105688da2d935abbfd690ab8397224c8a2ee"), looks := false }, kinds := [], alts := [], laidByText := true, laidKinds := [.data], laidTests := true, laidLooks := .later }
def Sha256NamesUptoCardSaid : Prop := Claim7.holds Tryd.pinned (.plain (OpenSpec.upto sha256NamesSpec)) sha256NamesUptoCard
end Rows
end Go.Proofs.YtimalofmomgjlaaDoor
