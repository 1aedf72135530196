/- What is done of any operation: the event ahead, the refusal or the deed, the code. -/
import Derived.Test.YtdmacflcjbkkpaaGreatCco
namespace Go.Proofs.YtdmacflcjbkkpaaGreat.Co
open Go.ChangeShapes Go.WideShapes Go.ChangeAt Go.RowKit
open Go.Proofs.YtdmacflcjbkkpaaGreat (putL)
open Go.Proofs.YtdmacflcjbkkpaaGreat.Ou (Sk sv sL LDk SVk LDk_run SVk_run)
open Go.Proofs.YtdmacflcjbkkpaaGreat.Tb (Blk Blk.newAt put_all Kp.setCells results_cell1 results_cell2)
def MX (args : Array Value) : Sem Value := Builtin.max_ #[3, 3] 3 args
@[go_sem ↓ high] theorem mx_ (cs : Array Bool) (args : Array Value) : builtin .max #[3, 3] 3 cs args = (do pure (.value (← MX args))) := rfl
@[go_sem ↓ high] theorem mx_run (a b : Int) (w : World) : (MX #[.int .i64 a, .int .i64 b]).run Tryz.prog w = .ok (.int .i64 (max a b)) w := by
  have e : (if b > a then b else a) = max a b := by split <;> omega
  unfold MX Builtin.max_
  simp [Builtin.max2, e]
/-- What refuses an operation. -/
def Rf (p gm gk : Nat) (P : St) (s : Sk) (n : Nat) : Prop := ∀ V, PU V p gm gk P → Calls Tryz.prog n #[.pointer (some ⟨p, 0, none⟩), sv s] V fun e w' => e = .returned (.int .i64 (cod P s)) ∧ Below V.heap.size V w'
/-- What does it. -/
def Dd (p gm gk : Nat) (P : St) (s : Sk) (n : Nat) : Prop := cod P s = 0 → ∀ V lo L, PU V p gm gk P → LdO V lo L → Apo lo p gm gk → Rm L 4 → Calls Tryz.prog n #[.pointer (some ⟨p, 0, none⟩), lpo lo, sv s] V fun e w' => e = .returned (.tuple #[]) ∧ ∃ lo', CT V w' p gm gk (nxt P s) lo lo' ((mid s ((hat P s.h).getD h0)).foldl putL L)
theorem mid_three (s : Sk) (h : He) : (mid s h).length ≤ 3 := mid_len s h
end Go.Proofs.YtdmacflcjbkkpaaGreat.Co
