/- The law Sha512Plays: any step. -/
import Derived.Test.YtdhbkekpjojlnaaDoorJpl6
import Derived.Test.YtdhbkekpjojlnaaDoorJpl7
import Derived.Test.YtdhbkekpjojlnaaDoorJpl8
namespace Go.Proofs.YtdhbkekpjojlnaaDoor.Sg
open Go.ChangeShapes Go.WideShapes Go.ChangeAt Go.RowKit
open Go.Proofs.YtdhbkekpjojlnaaDoor.By Go.Proofs.YtdhbkekpjojlnaaDoor.Wd
theorem step12 (B xb lb mb T tn ln q : Nat) (tt d : Int) (pa : Option Addr) (pn pc : Nat) (w0 w : World) (hq : q < 256) (h : PG w0 B xb lb mb T tn tt ln w) (ht : tt ≤ 1152921504606800000) (hl : ln ≤ 999990) (htn : tn ≤ 999990) (hTn : T + pn ≤ 140737488351232) (g : Nat → Int) (hp : ∀ w', Below B w0 w' → By.RB w' (.slice pa pn pc) pn g) :
    Calls Tryd.prog 8 #[.pointer (some ⟨xb, 0, none⟩), .agg #[.int .i64 d, .int .u8 q, .slice pa pn pc]] w fun r w' => r = .returned (.bool true) ∧ PG w0 B xb lb mb (T + pn) (tn + 1) (tt + pn + 2) (ln + 1) w' := by
  have fin : ∀ {T' tn' ln' : Nat} {tt' : Int}, T' ≤ T + pn → tn' ≤ tn + 1 → tt' ≤ tt + pn + 2 → ln' ≤ ln + 1 → ∀ r w', (r = Ending.returned (.bool true) ∧ PG w0 B xb lb mb T' tn' tt' ln' w') → r = Ending.returned (.bool true) ∧ PG w0 B xb lb mb (T + pn) (tn + 1) (tt + pn + 2) (ln + 1) w' := fun h1 h2 h3 h4 r w' hr => ⟨hr.1, hr.2.mono h1 h2 h3 h4⟩
  by_cases h1 : d = 1
  · subst h1; exact (step_write B xb lb mb T tn ln q tt pa pn pc w0 w hq h ht hl hTn g hp).mono (fin (by omega) (by omega) (by omega) (by omega))
  by_cases h2 : d = 2
  · subst h2; exact (step_sum B xb lb mb T tn ln q tt pa pn pc w0 w hq h ht hl htn (by omega)).mono (fin (by omega) (by omega) (by omega) (by omega))
  by_cases h3 : d = 3
  · subst h3; exact (step_clone B xb lb mb T tn ln q tt pa pn pc w0 w hq h).mono (fin (by omega) (by omega) (by omega) (by omega))
  by_cases h4 : d = 4
  · subst h4; exact (step_reset B xb lb mb T tn ln q tt pa pn pc w0 w hq h).mono (fin (by omega) (by omega) (by omega) (by omega))
  by_cases h5 : d = 5
  · subst h5; exact (step_wipe B xb lb mb T tn ln q tt pa pn pc w0 w hq h ht hl).mono (fin (by omega) (by omega) (by omega) (by omega))
  by_cases h6 : d = 6
  · subst h6; exact (step_form B xb lb mb T tn ln q tt pa pn pc w0 w hq h htn).mono (fin (by omega) (by omega) (by omega) (by omega))
  by_cases h7 : d = 7
  · subst h7; exact (step_new B xb lb mb T tn ln q tt pa pn pc w0 w hq h).mono (fin (by omega) (by omega) (by omega) (by omega))
  · exact (step_else B xb lb mb T tn ln q d ⟨h1, h2, h3, h4, h5, h6, h7⟩ tt pa pn pc w0 w hq h).mono (fin (by omega) (by omega) (by omega) (by omega))
end Go.Proofs.YtdhbkekpjojlnaaDoor.Sg
