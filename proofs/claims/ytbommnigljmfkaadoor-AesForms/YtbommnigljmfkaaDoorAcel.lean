/- Whole arrays loaded and stored at once; no function of the program in it. -/
import Derived.Test.YtbommnigljmfkaaDoorAcel0
namespace Go.Proofs.YtbommnigljmfkaaDoor.Ae
open Go.ChangeShapes Go.WideShapes Go.ChangeAt Go.RowKit
open Go.Proofs.YtbommnigljmfkaaDoor.By Go.Proofs.YtbommnigljmfkaaDoor.Gf
def LDb (a : Addr) : Sem Value := loadVar 58 a
def SVb (a : Addr) (v : Value) : Sem Unit := storeVar 58 a v
@[go_sem ↓ high] theorem ldb (a : Addr) : loadVar 58 a = LDb a := rfl
@[go_sem ↓ high] theorem svb (a : Addr) (v : Value) : storeVar 58 a v = SVb a v := rfl
theorem infob : (Tryd.prog.info? 58).map (·.size) = some 16 := by kernel_rfl
theorem LDb_run {w : World} {g o : Nat} {cs : List Value} (h : w.rangeAt g o cs) (hl : cs.length = 16) : (LDb ⟨g, o, none⟩).run Tryd.prog w = .ok (.agg cs.toArray) w :=
  run_loadVar_mid w g o _ cs _ h Tryd.underlying58 rfl (by rw [hl]; exact infob)
theorem SVb_run {w : World} {g o : Nat} {cs : List Value} (h : w.there g o 16) (hl : cs.length = 16) (h1 : ∀ u ∈ cs, u.oneCell' = true) : (SVb ⟨g, o, none⟩ (.agg cs.toArray)).run Tryd.prog w = .ok () (w.setCells g o cs) :=
  run_storeVar_mid w g o _ cs.toArray (by simpa [hl] using h) (by simpa [hl] using infob) (all_oneCell_toArray h1)
def LDq (a : Addr) : Sem Value := loadVar 47 a
def SVq (a : Addr) (v : Value) : Sem Unit := storeVar 47 a v
@[go_sem ↓ high] theorem ldq (a : Addr) : loadVar 47 a = LDq a := rfl
@[go_sem ↓ high] theorem svq (a : Addr) (v : Value) : storeVar 47 a v = SVq a v := rfl
theorem infoq : (Tryd.prog.info? 47).map (·.size) = some 4 := by kernel_rfl
theorem LDq_run {w : World} {g o : Nat} {cs : List Value} (h : w.rangeAt g o cs) (hl : cs.length = 4) : (LDq ⟨g, o, none⟩).run Tryd.prog w = .ok (.agg cs.toArray) w :=
  run_loadVar_mid w g o _ cs _ h Tryd.underlying47 rfl (by rw [hl]; exact infoq)
theorem SVq_run {w : World} {g o : Nat} {cs : List Value} (h : w.there g o 4) (hl : cs.length = 4) (h1 : ∀ u ∈ cs, u.oneCell' = true) : (SVq ⟨g, o, none⟩ (.agg cs.toArray)).run Tryd.prog w = .ok () (w.setCells g o cs) :=
  run_storeVar_mid w g o _ cs.toArray (by simpa [hl] using h) (by simpa [hl] using infoq) (all_oneCell_toArray h1)
def LDw (a : Addr) : Sem Value := loadVar 48 a
def SVw (a : Addr) (v : Value) : Sem Unit := storeVar 48 a v
@[go_sem ↓ high] theorem ldw (a : Addr) : loadVar 48 a = LDw a := rfl
@[go_sem ↓ high] theorem svw (a : Addr) (v : Value) : storeVar 48 a v = SVw a v := rfl
theorem infow : (Tryd.prog.info? 48).map (·.size) = some 240 := by kernel_rfl
theorem LDw_run {w : World} {g o : Nat} {cs : List Value} (h : w.rangeAt g o cs) (hl : cs.length = 240) : (LDw ⟨g, o, none⟩).run Tryd.prog w = .ok (.agg cs.toArray) w :=
  run_loadVar_mid w g o _ cs _ h Tryd.underlying48 rfl (by rw [hl]; exact infow)
theorem SVw_run {w : World} {g o : Nat} {cs : List Value} (h : w.there g o 240) (hl : cs.length = 240) (h1 : ∀ u ∈ cs, u.oneCell' = true) : (SVw ⟨g, o, none⟩ (.agg cs.toArray)).run Tryd.prog w = .ok () (w.setCells g o cs) :=
  run_storeVar_mid w g o _ cs.toArray (by simpa [hl] using h) (by simpa [hl] using infow) (all_oneCell_toArray h1)
def LDc (a : Addr) : Sem Value := loadVar 50 a
def SVc (a : Addr) (v : Value) : Sem Unit := storeVar 50 a v
@[go_sem ↓ high] theorem ldc (a : Addr) : loadVar 50 a = LDc a := rfl
@[go_sem ↓ high] theorem svc (a : Addr) (v : Value) : storeVar 50 a v = SVc a v := rfl
theorem infoc : (Tryd.prog.info? 50).map (·.size) = some 241 := by kernel_rfl
theorem LDc_run {w : World} {g o : Nat} {cs : List Value} (h : w.rangeAt g o cs) (hl : cs.length = 241) : (LDc ⟨g, o, none⟩).run Tryd.prog w = .ok (.agg cs.toArray) w :=
  run_loadVar_mid w g o _ cs _ h Tryd.underlying50 rfl (by rw [hl]; exact infoc)
theorem SVc_run {w : World} {g o : Nat} {cs : List Value} (h : w.there g o 241) (hl : cs.length = 241) (h1 : ∀ u ∈ cs, u.oneCell' = true) : (SVc ⟨g, o, none⟩ (.agg cs.toArray)).run Tryd.prog w = .ok () (w.setCells g o cs) :=
  run_storeVar_mid w g o _ cs.toArray (by simpa [hl] using h) (by simpa [hl] using infoc) (all_oneCell_toArray h1)
def LDx (a : Addr) : Sem Value := loadVar 109 a
def SVx (a : Addr) (v : Value) : Sem Unit := storeVar 109 a v
@[go_sem ↓ high] theorem ldx (a : Addr) : loadVar 109 a = LDx a := rfl
@[go_sem ↓ high] theorem svx (a : Addr) (v : Value) : storeVar 109 a v = SVx a v := rfl
theorem infox : (Tryd.prog.info? 109).map (·.size) = some 256 := by kernel_rfl
theorem LDx_run {w : World} {g o : Nat} {cs : List Value} (h : w.rangeAt g o cs) (hl : cs.length = 256) : (LDx ⟨g, o, none⟩).run Tryd.prog w = .ok (.agg cs.toArray) w :=
  run_loadVar_mid w g o _ cs _ h Tryd.underlying109 rfl (by rw [hl]; exact infox)
theorem SVx_run {w : World} {g o : Nat} {cs : List Value} (h : w.there g o 256) (hl : cs.length = 256) (h1 : ∀ u ∈ cs, u.oneCell' = true) : (SVx ⟨g, o, none⟩ (.agg cs.toArray)).run Tryd.prog w = .ok () (w.setCells g o cs) :=
  run_storeVar_mid w g o _ cs.toArray (by simpa [hl] using h) (by simpa [hl] using infox) (all_oneCell_toArray h1)
end Go.Proofs.YtbommnigljmfkaaDoor.Ae
