/- What refuses a session's beginning. -/
import Derived.Test.YtdmacflcjbkkpabGreatCrc1
import Derived.Test.YtdmacflcjbkkpabGreatCrc2
import Derived.Test.YtdmacflcjbkkpabGreatCrc3
import Derived.Test.YtdmacflcjbkkpabGreatCrc4
import Derived.Test.YtdmacflcjbkkpabGreatCrc5
namespace Go.Proofs.YtdmacflcjbkkpabGreat.Co
open Go.ChangeShapes Go.WideShapes Go.ChangeAt Go.RowKit
open Go.Proofs.YtdmacflcjbkkpabGreat (putL)
open Go.Proofs.YtdmacflcjbkkpabGreat.Ou (Sk sv sL LDk SVk LDk_run SVk_run)
open Go.Proofs.YtdmacflcjbkkpabGreat.Tb (Blk Blk.newAt put_all Kp.setCells results_cell1 results_cell2)
theorem refuseBegin_ok (p gm gk : Nat) (P : St) (s : Sk) (w : World) (hp : PU w p gm gk P) (hs : Sk.Fit s) :
    Calls Tryz.prog 25 #[.pointer (some ⟨p, 0, none⟩), sv s] w fun e w' => e = .returned (.int .i64 (rBegin P s)) ∧ Below w.heap.size w w' := by
  by_cases n0 : 1 ≤ s.a ∧ s.a ≤ 7
  · by_cases a1 : s.a = 1
    · exact refuseBegin_h1 p gm gk P s w hp hs a1
    by_cases a2 : s.a = 2
    · exact refuseBegin_h2 p gm gk P s w hp hs a2
    by_cases a3 : s.a = 3
    · exact refuseBegin_c p gm gk P s w hp hs a3
    by_cases h0 : 0 < s.d
    · exact refuseBegin_ka p gm gk P s w hp hs (by omega) h0
    · exact refuseBegin_kb p gm gk P s w hp hs (by omega) h0
  · exact refuseBegin_no p gm gk P s w hp hs n0
end Go.Proofs.YtdmacflcjbkkpabGreat.Co
