/- The program's Of: a hash function's numbers and what makes its states. -/
import Derived.Test.YtojldjckpjokcaaDoorHgen
import Derived.Test.YtojldjckpjokcaaDoorJgen
import Derived.Laws.EntriesVeiled
namespace Go.Proofs.YtojldjckpjokcaaDoor.Dg
open Go.ChangeShapes Go.WideShapes Go.ChangeAt Go.RowKit
open Go.Proofs.YtojldjckpjokcaaDoor.By
open Go.Proofs.YtojldjckpjokcaaDoor.Sh (Blk)
/-- The number of an algorithm; bytes of its digest, of its block, of its form. -/
def an : Bool → Int | false => 1 | true => 2
def sz : Bool → Nat | false => 32 | true => 64
def bk : Bool → Nat | false => 64 | true => 128
def fmn : Bool → Nat | false => 104 | true => 200
def fNew : Bool → FuncId | false => 18 | true => 20
def fSum : Bool → FuncId | false => 19 | true => 21
/-- A Hash's cells. -/
def hc (a : Bool) : List Value := [.int .u8 (an a), .int .i64 (sz a), .int .i64 (bk a), .int .u8 (an a), .int .i64 (bk a), .func (.func (fNew a)) #[] #[], .func (.func (fSum a)) #[] #[]]
def hz : List Value := [.int .u8 0, .int .i64 0, .int .i64 0, .int .u8 0, .int .i64 0, .nilFunc, .nilFunc]
theorem results_cell2 {P : Program} {fn : Func} {p q : Tmp} {ty : TypeId} {tmps : Array Value} {w : World} {a : Addr} {v u : Value} (h : fn.results = #[.cell p ty, .tmp q]) (ha : tmps.getD p undef = .pointer (some a)) (hq : tmps.getD q undef = u) (hl : (loadVar ty a).run P w = .ok v w) :
    (results fn tmps).run P w = .ok (.tuple #[v, u]) w := by
  have e1 : tmps[p]?.getD undef = .pointer (some a) := by rw [← ha]; simp [Array.getD_eq_getD_getElem?]
  have e2 : tmps[q]?.getD undef = u := by rw [← hq]; simp [Array.getD_eq_getD_getElem?]
  simp only [results, h]
  simp [e1, e2, asAddr, hl]
theorem infoHs : (Tryd.prog.info? 31).map (·.size) = some 7 := by kernel_rfl
def LDH (a : Addr) : Sem Value := loadVar 31 a
@[go_sem ↓ high] theorem ldh (a : Addr) : loadVar 31 a = LDH a := rfl
theorem ldH {w : World} {g : Nat} {cs : List Value} (h : w.rangeAt g 0 cs) (hl : cs.length = 7) : (LDH ⟨g, 0, none⟩).run Tryd.prog w = .ok (.agg cs.toArray) w :=
  run_loadVar_mid w g 0 _ cs _ h Tryd.underlying31 rfl (by rw [hl]; exact infoHs)
theorem range0 {w : World} {g : Nat} {cs : List Value} {t : TypeId} (h : Blk w g cs t) : w.rangeAt g 0 cs := h.range 0 _ (fun j v h => by rw [Nat.zero_add]; exact h)
theorem of_is (a : Bool) (w : World) : Calls Tryd.prog 7 #[.int .u8 (an a)] w fun e w' => e = .returned (.tuple #[.agg (hc a).toArray, .int .i64 0]) ∧ Below w.heap.size w w' := by
  have L := hid (ldH (range0 (Sh.Blk.new w (hc a) 31)) rfl)
  cases a
  · show Calls Tryd.prog 7 #[.int .u8 1] w _
    go_enter Tryd.func7, Tryd.ntmps7
    go_wp2
    refine bodyPost_ret ?_ rfl ⟨rfl, below_alloc w _⟩
    exact results_cell2 Tryd.results7 rfl rfl L.out
  · show Calls Tryd.prog 7 #[.int .u8 2] w _
    go_enter Tryd.func7, Tryd.ntmps7
    go_wp2
    refine bodyPost_ret ?_ rfl ⟨rfl, below_alloc w _⟩
    exact results_cell2 Tryd.results7 rfl rfl L.out
set_option maxRecDepth 4000 in
theorem of_no (a : Int) (w : World) (h1 : ¬ a = 1) (h2 : ¬ a = 2) : Calls Tryd.prog 7 #[.int .u8 a] w fun e w' => e = .returned (.tuple #[.agg hz.toArray, .int .i64 4]) ∧ Below w.heap.size w w' := by
  have L := hid (ldH (range0 (Sh.Blk.new w hz 31)) rfl)
  go_enter Tryd.func7, Tryd.ntmps7
  go_wp2
  refine bodyPost_ret ?_ rfl ⟨rfl, below_alloc w _⟩
  exact results_cell2 Tryd.results7 rfl rfl L.out
theorem of256 (w : World) : Calls Tryd.prog 7 #[.int .u8 1] w fun e w' => e = .returned (.tuple #[.agg #[.int .u8 1, .int .i64 32, .int .i64 64, .int .u8 1, .int .i64 64, .func (.func 18) #[] #[], .func (.func 19) #[] #[]], .int .i64 0]) ∧ Below w.heap.size w w' := of_is false w
theorem of512 (w : World) : Calls Tryd.prog 7 #[.int .u8 2] w fun e w' => e = .returned (.tuple #[.agg #[.int .u8 2, .int .i64 64, .int .i64 128, .int .u8 2, .int .i64 128, .func (.func 20) #[] #[], .func (.func 21) #[] #[]], .int .i64 0]) ∧ Below w.heap.size w w' := of_is true w
@[go_sem ↓ high] theorem fn_neqA (w : World) (f : Fn) (c d : Array Value) : (binOp .neq 28 (.func f c d) .nilFunc).run Tryd.prog w = .ok (.bool true) w := by kernel_rfl
@[go_sem ↓ high] theorem fn_eqlA (w : World) (f : Fn) (c d : Array Value) : (binOp .eql 28 (.func f c d) .nilFunc).run Tryd.prog w = .ok (.bool false) w := by kernel_rfl
@[go_sem ↓ high] theorem fn_eqlzA (w : World) : (binOp .eql 28 .nilFunc .nilFunc).run Tryd.prog w = .ok (.bool true) w := by kernel_rfl
@[go_sem ↓ high] theorem fn_neqB (w : World) (f : Fn) (c d : Array Value) : (binOp .neq 29 (.func f c d) .nilFunc).run Tryd.prog w = .ok (.bool true) w := by kernel_rfl
@[go_sem ↓ high] theorem fn_eqlB (w : World) (f : Fn) (c d : Array Value) : (binOp .eql 29 (.func f c d) .nilFunc).run Tryd.prog w = .ok (.bool false) w := by kernel_rfl
@[go_sem ↓ high] theorem fn_eqlzB (w : World) : (binOp .eql 29 .nilFunc .nilFunc).run Tryd.prog w = .ok (.bool true) w := by kernel_rfl
end Go.Proofs.YtojldjckpjokcaaDoor.Dg
