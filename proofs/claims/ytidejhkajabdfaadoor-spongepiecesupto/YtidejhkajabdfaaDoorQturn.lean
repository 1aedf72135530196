/- The program's words of 64 bits, turned. -/
import Derived.Test.YtidejhkajabdfaaDoorQkw
import Derived.Test.YtidejhkajabdfaaDoorKmath
import Derived.Test.YtidejhkajabdfaaDoorBkit0
import Derived.WalkKit
import Derived.ProofKit
import Derived.Deep.QuietTactic
import Derived.BigQuiet
import Derived.WalkLawsBesides
namespace Go.Proofs.YtidejhkajabdfaaDoor.Wd
open Go.ChangeShapes Go.WideShapes Go.ChangeAt Go.RowKit
open Go.Proofs.YtidejhkajabdfaaDoor.By
set_option maxHeartbeats 400000 in
theorem turn64 (x n : Int) (w : World) (hx : 0 ≤ x) (hx2 : x < 18446744073709551616) :
    Calls Tryd.prog 80 #[.int .u64 x, .int .i64 n] w fun e w' => e = .returned (.int .u64 (Rot 64 x n)) ∧ ∃ k, w' = w.drewN k := by
  have hfin := turned64 x n hx hx2
  have hl := and_63 n
  have h0 : 0 ≤ n % 64 := by omega
  have h1 : n % 64 < 64 := by omega
  generalize n % 64 = l at *
  have HF : Hid (bits .or .u64 (x * 2 ^ l.toNat % 18446744073709551616) (x / 2 ^ (64 - l).toNat) = Rot 64 x n) := hfin
  clear hfin
  go_enter Tryd.func80, Tryd.ntmps80
  go_wp2_with (go_at_call 82; refine (width40 _).mono ?_; rintro e w' ⟨rfl, rfl⟩)
  go_quiet ((go_at_call 82; exact Calls.quiet_of_same (width40 _)))
  go_wp2
  go_ret
  exact ⟨congrArg (fun z => Ending.returned (Value.int IntKind.u64 z)) HF.out, _, rfl⟩
end Go.Proofs.YtidejhkajabdfaaDoor.Wd
