/- Arrays of five words loaded and stored at once; no function of the program in it. -/
import Derived.Test.YtidejhkajabdfaaDoorRows
import Derived.Test.YtidejhkajabdfaaDoorQcel
import Derived.Test.YtidejhkajabdfaaDoorBkit0
import Derived.Test.YtidejhkajabdfaaDoorQperm
import Derived.Deep.MidRow
import Derived.Deep.WholeRow
namespace Go.Proofs.YtidejhkajabdfaaDoor.Kc
open Go.ChangeShapes Go.WideShapes Go.ChangeAt Go.RowKit
open Go.Proofs.YtidejhkajabdfaaDoor.By Go.Proofs.YtidejhkajabdfaaDoor.Wd
def LDp (a : Addr) : Sem Value := loadVar 113 a
def SVp (a : Addr) (v : Value) : Sem Unit := storeVar 113 a v
@[go_sem ↓ high] theorem ldp (a : Addr) : loadVar 113 a = LDp a := rfl
@[go_sem ↓ high] theorem svp (a : Addr) (v : Value) : storeVar 113 a v = SVp a v := rfl
theorem infop : (Tryd.prog.info? 113).map (·.size) = some 5 := by kernel_rfl
theorem LDp_run {w : World} {g o : Nat} {cs : List Value} (h : w.rangeAt g o cs) (hl : cs.length = 5) : (LDp ⟨g, o, none⟩).run Tryd.prog w = .ok (.agg cs.toArray) w :=
  run_loadVar_mid w g o _ cs _ h Tryd.underlying113 rfl (by rw [hl]; exact infop)
theorem SVp_run {w : World} {g o : Nat} {cs : List Value} (h : w.there g o 5) (hl : cs.length = 5) (h1 : ∀ u ∈ cs, u.oneCell' = true) : (SVp ⟨g, o, none⟩ (.agg cs.toArray)).run Tryd.prog w = .ok () (w.setCells g o cs) :=
  run_storeVar_mid w g o _ cs.toArray (by simpa [hl] using h) (by simpa [hl] using infop) (all_oneCell_toArray h1)
end Go.Proofs.YtidejhkajabdfaaDoor.Kc
