/- The law HmacPlays: any step. -/
import Derived.Test.YtpgkalgnlkfmaaaGreatDoorMp7
import Derived.Test.YtpgkalgnlkfmaaaGreatDoorMp8
import Derived.Test.YtpgkalgnlkfmaaaGreatDoorMp9
import Derived.Test.YtpgkalgnlkfmaaaGreatDoorMpa
import Derived.Test.YtpgkalgnlkfmaaaGreatDoorMpb
import Derived.Test.YtpgkalgnlkfmaaaGreatDoorMpc
import Derived.Test.YtpgkalgnlkfmaaaGreatDoorMpd
import Derived.Test.YtpgkalgnlkfmaaaGreatDoorMpe
namespace Go.Proofs.YtpgkalgnlkfmaaaGreatDoor.Dg
open Go.ChangeShapes Go.WideShapes Go.ChangeAt Go.RowKit
open Go.Proofs.YtpgkalgnlkfmaaaGreatDoor.By
theorem step_any (B xb lb mb T tn q : Nat) (d al tt : Int) (pa qa : Option Addr) (pn pc qn qc : Nat) (w0 w : World) (hq : q < 256) (h : PG w0 B xb lb mb T tn tt (fun _ => False) w) (ht : tt ≤ 50000000) (htn : tn ≤ 999990) (hTn : T + pn + qn ≤ 4000000) (g g2 : Nat → Int) (hp : ∀ w', Below B w0 w' → By.RB w' (.slice pa pn pc) pn g) (hp2 : ∀ w', Below B w0 w' → By.RB w' (.slice qa qn qc) qn g2) :
    Calls Tryz.prog 7 #[.pointer (some ⟨xb, 0, none⟩), .agg #[.int .i64 d, .int .u8 q, .int .u8 al, .slice pa pn pc, .slice qa qn qc]] w fun r w' => r = .returned (.bool true) ∧ PG w0 B xb lb mb (T + pn + qn) (tn + 1) (tt + pn + qn + 7) (fun _ => False) w' := by
  by_cases h1 : d = 1
  · subst h1; exact step_new B xb lb mb T tn q al tt pa qa pn pc qn qc w0 w hq h ht htn hTn g g2 hp hp2
  by_cases h2 : d = 2
  · subst h2; exact step_write B xb lb mb T tn q al tt pa qa pn pc qn qc w0 w hq h ht htn hTn g g2 hp hp2
  by_cases h3 : d = 3
  · subst h3; exact step_sum B xb lb mb T tn q al tt pa qa pn pc qn qc w0 w hq h ht htn hTn g g2 hp hp2
  by_cases h4 : d = 4
  · subst h4; exact step_reset B xb lb mb T tn q al tt pa qa pn pc qn qc w0 w hq h ht htn hTn g g2 hp hp2
  by_cases h5 : d = 5
  · subst h5; exact step_clone B xb lb mb T tn q al tt pa qa pn pc qn qc w0 w hq h ht htn hTn g g2 hp hp2
  by_cases h6 : d = 6
  · subst h6; exact step_wipe B xb lb mb T tn q al tt pa qa pn pc qn qc w0 w hq h ht htn hTn g g2 hp hp2
  by_cases h7 : d = 7
  · subst h7; exact step_form B xb lb mb T tn q al tt pa qa pn pc qn qc w0 w hq h ht htn hTn g g2 hp hp2
  by_cases h8 : d = 8
  · subst h8; exact step_tag B xb lb mb T tn q al tt pa qa pn pc qn qc w0 w hq h ht htn hTn g g2 hp hp2
  · exact step_else B xb lb mb T tn q d al tt pa qa pn pc qn qc w0 w ⟨h1, h2, h3, h4, h5, h6, h7, h8⟩ hq h ht htn hTn g g2 hp hp2
end Go.Proofs.YtpgkalgnlkfmaaaGreatDoor.Dg
