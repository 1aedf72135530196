/-
  DERIVED. GIVEN WITH THE SEED: THE CARDS: each row of YtjhhnajgfngbhaaDoorRows.lean that lists a variable, with what it lists TIED to the program's text (the seventh form; the later family's looks); each row that meets fmt, with fmt's text TOLD by the authors' own Lean function (tested against real Go, not proved from fmt's source: count such statements apart). THE CARD IS WHAT COUNTS. Prove the row's statement (the work); the ties are given (YtjhhnajgfngbhaaDoorTie.lean); close each card by the builder's one call (the guide's Derived/Test/ToyasCard.lean, 'card_holds'). Laid BY PROGRAM, IN A SANDBOX (cutbox-door.mjs). By AI agents, Wed Nov 11 2026. No macro, syntax, notation, axiom, sorry.
-/
import Derived.Test.YtjhhnajgfngbhaaDoorRows
import GoSem.ClaimSeven
namespace Go.Proofs.YtjhhnajgfngbhaaDoor
namespace Rows

/-- THE TIED CARD OF 'turnkeylaw16.Pbkdf2Means'. -/
def pbkdf2MeansCard : Claim7 := { stood := { row := pbkdf2MeansRow, standIns := [], harness := (true, "fb4f58f558f36090aea15a3ec10d9b94f0726e7714ab05ed8bd9d599a44c42cc"), looks := false }, kinds := [], alts := [], laidByText := true, laidKinds := [.data, .data], laidTests := true, laidLooks := .later }
def Pbkdf2MeansCardSaid : Prop := Claim7.holds Tryd.pinned (.plain (OpenSpec.ofChange pbkdf2MeansSpec)) pbkdf2MeansCard

/-- THE TIED CARD OF 'turnkeylaw16.Pbkdf2Joins'. -/
def pbkdf2JoinsCard : Claim7 := { stood := { row := pbkdf2JoinsRow, standIns := [], harness := (true, "fb4f58f558f36090aea15a3ec10d9b94f0726e7714ab05ed8bd9d599a44c42cc"), looks := false }, kinds := [], alts := [], laidByText := true, laidKinds := [.data, .data], laidTests := true, laidLooks := .later }
def Pbkdf2JoinsCardSaid : Prop := Claim7.holds Tryd.pinned (.plain (OpenSpec.ofChange pbkdf2JoinsSpec)) pbkdf2JoinsCard

/-- THE TIED CARD OF 'turnkeylaw16.Pbkdf2Hides'. -/
def pbkdf2HidesCard : Claim7 := { stood := { row := pbkdf2HidesRow, standIns := [], harness := (true, "fb4f58f558f36090aea15a3ec10d9b94f0726e7714ab05ed8bd9d599a44c42cc"), looks := false }, kinds := [], alts := [], laidByText := true, laidKinds := [.data, .data], laidTests := true, laidLooks := .later }
def Pbkdf2HidesCardSaid : Prop := Claim7.holds Tryd.pinned (.plain (OpenSpec.ofChange pbkdf2HidesSpec)) pbkdf2HidesCard

/-- THE TIED CARD OF 'turnkeylaw16.Pbkdf2Known'. -/
def pbkdf2KnownCard : Claim7 := { stood := { row := pbkdf2KnownRow, standIns := [], harness := (true, "fb4f58f558f36090aea15a3ec10d9b94f0726e7714ab05ed8bd9d599a44c42cc"), looks := false }, kinds := [], alts := [], laidByText := true, laidKinds := [.data, .data], laidTests := true, laidLooks := .later }
def Pbkdf2KnownCardSaid : Prop := Claim7.holds Tryd.pinned (.plain (OpenSpec.ofChange pbkdf2KnownSpec)) pbkdf2KnownCard

/-- THE SECOND FORM's CARD OF 'turnkeylaw16.Pbkdf2Means'. -/
def pbkdf2MeansUptoCard : Claim7 := { stood := { row := pbkdf2MeansUptoRow, standIns := [], harness := (true, "fb4f58f558f36090aea15a3ec10d9b94f0726e7714ab05ed8bd9d599a44c42cc"), looks := false }, kinds := [], alts := [], laidByText := true, laidKinds := [.data, .data], laidTests := true, laidLooks := .later }
def Pbkdf2MeansUptoCardSaid : Prop := Claim7.holds Tryd.pinned (.plain (OpenSpec.upto pbkdf2MeansSpec)) pbkdf2MeansUptoCard

/-- THE SECOND FORM's CARD OF 'turnkeylaw16.Pbkdf2Joins'. -/
def pbkdf2JoinsUptoCard : Claim7 := { stood := { row := pbkdf2JoinsUptoRow, standIns := [], harness := (true, "fb4f58f558f36090aea15a3ec10d9b94f0726e7714ab05ed8bd9d599a44c42cc"), looks := false }, kinds := [], alts := [], laidByText := true, laidKinds := [.data, .data], laidTests := true, laidLooks := .later }
def Pbkdf2JoinsUptoCardSaid : Prop := Claim7.holds Tryd.pinned (.plain (OpenSpec.upto pbkdf2JoinsSpec)) pbkdf2JoinsUptoCard

/-- THE SECOND FORM's CARD OF 'turnkeylaw16.Pbkdf2Hides'. -/
def pbkdf2HidesUptoCard : Claim7 := { stood := { row := pbkdf2HidesUptoRow, standIns := [], harness := (true, "fb4f58f558f36090aea15a3ec10d9b94f0726e7714ab05ed8bd9d599a44c42cc"), looks := false }, kinds := [], alts := [], laidByText := true, laidKinds := [.data, .data], laidTests := true, laidLooks := .later }
def Pbkdf2HidesUptoCardSaid : Prop := Claim7.holds Tryd.pinned (.plain (OpenSpec.upto pbkdf2HidesSpec)) pbkdf2HidesUptoCard

/-- THE SECOND FORM's CARD OF 'turnkeylaw16.Pbkdf2Known'. -/
def pbkdf2KnownUptoCard : Claim7 := { stood := { row := pbkdf2KnownUptoRow, standIns := [], harness := (true, "fb4f58f558f36090aea15a3ec10d9b94f0726e7714ab05ed8bd9d599a44c42cc"), looks := false }, kinds := [], alts := [], laidByText := true, laidKinds := [.data, .data], laidTests := true, laidLooks := .later }
def Pbkdf2KnownUptoCardSaid : Prop := Claim7.holds Tryd.pinned (.plain (OpenSpec.upto pbkdf2KnownSpec)) pbkdf2KnownUptoCard
end Rows
end Go.Proofs.YtjhhnajgfngbhaaDoor
