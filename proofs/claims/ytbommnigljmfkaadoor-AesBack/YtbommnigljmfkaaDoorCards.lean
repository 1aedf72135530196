/-
  DERIVED. GIVEN WITH THE SEED: THE CARDS: each row of YtbommnigljmfkaaDoorRows.lean that lists a variable, with what it lists TIED to the program's text (the seventh form; the later family's looks); each row that meets fmt, with fmt's text TOLD by the authors' own Lean function (tested against real Go, not proved from fmt's source: count such statements apart). THE CARD IS WHAT COUNTS. Prove the row's statement (the work); the ties are given (YtbommnigljmfkaaDoorTie.lean); close each card by the builder's one call (the guide's Derived/Test/ToyasCard.lean, 'card_holds'). Laid BY PROGRAM, IN A SANDBOX (cutbox-door.mjs). By AI agents, Wed Nov 11 2026. No macro, syntax, notation, axiom, sorry.
-/
import Derived.Test.YtbommnigljmfkaaDoorRows
import GoSem.ClaimSeven
namespace Go.Proofs.YtbommnigljmfkaaDoor
namespace Rows

/-- THE TIED CARD OF 'turnkeylaw10.AesScript'. -/
def aesScriptCard : Claim7 := { stood := { row := aesScriptRow, standIns := [], harness := (true, "8dd191fc563ef7c28c775abc8702ab805ca2182800143f350954557a4ef32647"), looks := false }, kinds := [], alts := [], laidByText := true, laidKinds := [.data, .data], laidTests := true, laidLooks := .later }
def AesScriptCardSaid : Prop := Claim7.holds Tryd.pinned (.plain (OpenSpec.ofChange aesScriptSpec)) aesScriptCard

/-- THE TIED CARD OF 'turnkeylaw10.AesNone'. -/
def aesNoneCard : Claim7 := { stood := { row := aesNoneRow, standIns := [], harness := (true, "8dd191fc563ef7c28c775abc8702ab805ca2182800143f350954557a4ef32647"), looks := false }, kinds := [], alts := [], laidByText := true, laidKinds := [.data, .data], laidTests := true, laidLooks := .later }
def AesNoneCardSaid : Prop := Claim7.holds Tryd.pinned (.plain (OpenSpec.ofChange aesNoneSpec)) aesNoneCard

/-- THE TIED CARD OF 'turnkeylaw10.AesBack'. -/
def aesBackCard : Claim7 := { stood := { row := aesBackRow, standIns := [], harness := (true, "8dd191fc563ef7c28c775abc8702ab805ca2182800143f350954557a4ef32647"), looks := false }, kinds := [], alts := [], laidByText := true, laidKinds := [.data, .data], laidTests := true, laidLooks := .later }
def AesBackCardSaid : Prop := Claim7.holds Tryd.pinned (.plain (OpenSpec.ofChange aesBackSpec)) aesBackCard

/-- THE TIED CARD OF 'turnkeylaw10.AesForms'. -/
def aesFormsCard : Claim7 := { stood := { row := aesFormsRow, standIns := [], harness := (true, "8dd191fc563ef7c28c775abc8702ab805ca2182800143f350954557a4ef32647"), looks := false }, kinds := [], alts := [], laidByText := true, laidKinds := [.data], laidTests := true, laidLooks := .later }
def AesFormsCardSaid : Prop := Claim7.holds Tryd.pinned (.plain (OpenSpec.ofChange aesFormsSpec)) aesFormsCard

/-- THE TIED CARD OF 'turnkeylaw10.AesKnown'. -/
def aesKnownCard : Claim7 := { stood := { row := aesKnownRow, standIns := [], harness := (true, "8dd191fc563ef7c28c775abc8702ab805ca2182800143f350954557a4ef32647"), looks := false }, kinds := [], alts := [], laidByText := true, laidKinds := [.data, .data], laidTests := true, laidLooks := .later }
def AesKnownCardSaid : Prop := Claim7.holds Tryd.pinned (.plain (OpenSpec.ofChange aesKnownSpec)) aesKnownCard

/-- THE SECOND FORM's CARD OF 'turnkeylaw10.AesScript'. -/
def aesScriptUptoCard : Claim7 := { stood := { row := aesScriptUptoRow, standIns := [], harness := (true, "8dd191fc563ef7c28c775abc8702ab805ca2182800143f350954557a4ef32647"), looks := false }, kinds := [], alts := [], laidByText := true, laidKinds := [.data, .data], laidTests := true, laidLooks := .later }
def AesScriptUptoCardSaid : Prop := Claim7.holds Tryd.pinned (.plain (OpenSpec.upto aesScriptSpec)) aesScriptUptoCard

/-- THE SECOND FORM's CARD OF 'turnkeylaw10.AesNone'. -/
def aesNoneUptoCard : Claim7 := { stood := { row := aesNoneUptoRow, standIns := [], harness := (true, "8dd191fc563ef7c28c775abc8702ab805ca2182800143f350954557a4ef32647"), looks := false }, kinds := [], alts := [], laidByText := true, laidKinds := [.data, .data], laidTests := true, laidLooks := .later }
def AesNoneUptoCardSaid : Prop := Claim7.holds Tryd.pinned (.plain (OpenSpec.upto aesNoneSpec)) aesNoneUptoCard

/-- THE SECOND FORM's CARD OF 'turnkeylaw10.AesBack'. -/
def aesBackUptoCard : Claim7 := { stood := { row := aesBackUptoRow, standIns := [], harness := (true, "8dd191fc563ef7c28c775abc8702ab805ca2182800143f350954557a4ef32647"), looks := false }, kinds := [], alts := [], laidByText := true, laidKinds := [.data, .data], laidTests := true, laidLooks := .later }
def AesBackUptoCardSaid : Prop := Claim7.holds Tryd.pinned (.plain (OpenSpec.upto aesBackSpec)) aesBackUptoCard

/-- THE SECOND FORM's CARD OF 'turnkeylaw10.AesForms'. -/
def aesFormsUptoCard : Claim7 := { stood := { row := aesFormsUptoRow, standIns := [], harness := (true, "8dd191fc563ef7c28c775abc8702ab805ca2182800143f350954557a4ef32647"), looks := false }, kinds := [], alts := [], laidByText := true, laidKinds := [.data], laidTests := true, laidLooks := .later }
def AesFormsUptoCardSaid : Prop := Claim7.holds Tryd.pinned (.plain (OpenSpec.upto aesFormsSpec)) aesFormsUptoCard

/-- THE SECOND FORM's CARD OF 'turnkeylaw10.AesKnown'. -/
def aesKnownUptoCard : Claim7 := { stood := { row := aesKnownUptoRow, standIns := [], harness := (true, "8dd191fc563ef7c28c775abc8702ab805ca2182800143f350954557a4ef32647"), looks := false }, kinds := [], alts := [], laidByText := true, laidKinds := [.data, .data], laidTests := true, laidLooks := .later }
def AesKnownUptoCardSaid : Prop := Claim7.holds Tryd.pinned (.plain (OpenSpec.upto aesKnownSpec)) aesKnownUptoCard
end Rows
end Go.Proofs.YtbommnigljmfkaaDoor
