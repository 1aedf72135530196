/- The statement's walk: any calls on two tables, whatever their bounds. -/
import Derived.Test.YtodihepgfpbonaaTsc00
import Derived.Test.YtodihepgfpbonaaTsc01
import Derived.Test.YtodihepgfpbonaaTsc10
import Derived.Test.YtodihepgfpbonaaTsc11
namespace Go.Proofs.Ytodihepgfpbonaa.Tb
open Go.ChangeShapes Go.WideShapes Go.ChangeAt Go.RowKit
theorem script_w (most other : Int) (pa : Option Addr) (np cp : Nat) (av : Nat → A.V) (w : World) (ha : ∀ w', Below w.heap.size w w' → AA w' pa np av) : Calls Try.prog 3 #[.int .i64 most, .int .i64 other, .slice pa np cp] w fun e w' => e = .returned (.bool true) ∧ Below w.heap.size w w' := by
  by_cases hn : 1000 < np
  · exact script_long _ _ pa np cp w hn
  by_cases hm : most < 1 ∨ 64 < most
  · by_cases ho : other < 1 ∨ 64 < other
    · exact script00 most hm other ho pa np cp av w ha (by omega)
    · obtain ⟨o, rfl⟩ : ∃ k : Nat, other = k := ⟨other.toNat, by omega⟩
      exact script01 most hm o (by omega) (by omega) pa np cp av w ha (by omega)
  · obtain ⟨m, rfl⟩ : ∃ k : Nat, most = k := ⟨most.toNat, by omega⟩
    by_cases ho : other < 1 ∨ 64 < other
    · exact script10 m (by omega) (by omega) other ho pa np cp av w ha (by omega)
    · obtain ⟨o, rfl⟩ : ∃ k : Nat, other = k := ⟨other.toNat, by omega⟩
      exact script11 m (by omega) (by omega) o (by omega) (by omega) pa np cp av w ha (by omega)
end Go.Proofs.Ytodihepgfpbonaa.Tb
