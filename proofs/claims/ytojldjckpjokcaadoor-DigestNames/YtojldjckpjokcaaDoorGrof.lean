/- The document's Of; the program's Sum at no algorithm. -/
import Derived.Test.YtojldjckpjokcaaDoorGof
namespace Go.Proofs.YtojldjckpjokcaaDoor.Dg
open Go.ChangeShapes Go.WideShapes Go.ChangeAt Go.RowKit
open Go.Proofs.YtojldjckpjokcaaDoor.By
open Go.Proofs.YtojldjckpjokcaaDoor.Sh (Blk size_alloc)
def rc (a : Bool) : List Value := [.int .u8 (an a), .int .i64 (sz a), .int .i64 (bk a), .int .u8 (an a), .int .i64 (bk a)]
def rz : List Value := [.int .u8 0, .int .i64 0, .int .i64 0, .int .u8 0, .int .i64 0]
theorem infoRh : (Tryd.prog.info? 56).map (·.size) = some 5 := by kernel_rfl
def LDR (a : Addr) : Sem Value := loadVar 56 a
@[go_sem ↓ high] theorem ldr (a : Addr) : loadVar 56 a = LDR a := rfl
theorem ldR {w : World} {g : Nat} {cs : List Value} (h : w.rangeAt g 0 cs) (hl : cs.length = 5) : (LDR ⟨g, 0, none⟩).run Tryd.prog w = .ok (.agg cs.toArray) w :=
  run_loadVar_mid w g 0 _ cs _ h Tryd.underlying56 rfl (by rw [hl]; exact infoRh)
theorem rof256 (w : World) : Calls Tryd.prog 14 #[.int .u8 1] w fun e w' => e = .returned (.tuple #[.agg #[.int .u8 1, .int .i64 32, .int .i64 64, .int .u8 1, .int .i64 64], .int .i64 0]) ∧ Below w.heap.size w w' := by
  have L := hid (ldR (range0 (Sh.Blk.new w (rc false) 56)) rfl)
  go_enter Tryd.func14, Tryd.ntmps14
  go_wp2
  refine bodyPost_ret ?_ rfl ⟨rfl, below_alloc w _⟩
  exact results_cell2 Tryd.results14 rfl rfl L.out
theorem rof512 (w : World) : Calls Tryd.prog 14 #[.int .u8 2] w fun e w' => e = .returned (.tuple #[.agg #[.int .u8 2, .int .i64 64, .int .i64 128, .int .u8 2, .int .i64 128], .int .i64 0]) ∧ Below w.heap.size w w' := by
  have L := hid (ldR (range0 (Sh.Blk.new w (rc true) 56)) rfl)
  go_enter Tryd.func14, Tryd.ntmps14
  go_wp2
  refine bodyPost_ret ?_ rfl ⟨rfl, below_alloc w _⟩
  exact results_cell2 Tryd.results14 rfl rfl L.out
set_option maxRecDepth 4000 in
theorem rof_no (a : Int) (w : World) (h1 : ¬ a = 1) (h2 : ¬ a = 2) : Calls Tryd.prog 14 #[.int .u8 a] w fun e w' => e = .returned (.tuple #[.agg #[.int .u8 0, .int .i64 0, .int .i64 0, .int .u8 0, .int .i64 0], .int .i64 4]) ∧ Below w.heap.size w w' := by
  have L := hid (ldR (range0 (Sh.Blk.new w rz 56)) rfl)
  go_enter Tryd.func14, Tryd.ntmps14
  go_wp2
  refine bodyPost_ret ?_ rfl ⟨rfl, below_alloc w _⟩
  exact results_cell2 Tryd.results14 rfl rfl L.out
theorem u8_int (k : Nat) (h : k < 256) : IntKind.u8.wrap (k : Int) = k := by simp [IntKind.wrap_u8]; omega
theorem of_zero (a : Int) (w : World) (h1 : ¬ a = 1) (h2 : ¬ a = 2) : Calls Tryd.prog 7 #[.int .u8 a] w fun e w' => e = .returned (.tuple #[.agg #[.int .u8 0, .int .i64 0, .int .i64 0, .int .u8 0, .int .i64 0, .nilFunc, .nilFunc], .int .i64 4]) ∧ Below w.heap.size w w' := of_no a w h1 h2
set_option maxRecDepth 4000 in
set_option maxHeartbeats 1200000 in
theorem sumf_no (a : Int) (lp v : Value) (w : World) (h1 : ¬ a = 1) (h2 : ¬ a = 2) : Calls Tryd.prog 17 #[lp, .int .u8 a, v] w fun e w' => e = .returned (.tuple #[.slice none 0 0, .int .i64 4]) ∧ Below w.heap.size w w' := by
  go_enter Tryd.func17, Tryd.ntmps17
  go_wp2_with (go_at_call 7; refine (of_zero a _ h1 h2).mono ?_; rintro e w1 ⟨rfl, hb1⟩; have B1 := hid hb1; clear hb1)
  go_ret2
  exact ⟨rfl, below_next B1.out (below_alloc w1 _)⟩
end Go.Proofs.YtojldjckpjokcaaDoor.Dg
