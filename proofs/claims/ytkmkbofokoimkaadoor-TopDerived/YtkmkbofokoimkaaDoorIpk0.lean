/- Pick, and lists of noughts. -/
import Derived.Test.YtkmkbofokoimkaaDoorIgm0
namespace Go.Proofs.YtkmkbofokoimkaaDoor.Dg
open Go.ChangeShapes Go.WideShapes Go.ChangeAt Go.RowKit
open Go.Proofs.YtkmkbofokoimkaaDoor.By
open Go.Proofs.YtkmkbofokoimkaaDoor.Sh (Blk size_alloc)
theorem rb_nil0 (w : World) : By.RB w (.slice none 0 0) 0 nof := (own_nil w 0 nof nof_b).reads
theorem make_nn (n : Nat) (hn : n ≤ 1000) (w : World) : (Instr.makeSlice 22 (.int .i64 n) (.int .i64 n)).run Tryd.prog w = .ok (.slice (some ⟨w.heap.size, 0, none⟩) n n) (w.alloc (.cells (bl n (fun _ => 0)).toArray 5)) := by
  obtain ⟨i0, hi, hz0, hz1, hz2⟩ := info_parts info5
  have hr := run_make (P := Tryd.prog) w 22 5 i0 (.int .u8 0) Tryd.underlying22 hi hz0 .i64 .i64 n n (by omega) (by omega) (by rw [hz2]; omega) (by omega)
  have e : madeCells #[Value.int .u8 0] n = (bl n (fun _ => 0)).toArray := by rw [← bl_zero]
  simp only [Int.toNat_natCast, hz1, Nat.mul_one, Value.cells, e] at hr
  exact hr
theorem kb_nought (a : Bool) (p : Nat) (hp : p ≤ bk a) : kb a p (fun _ => 0) = kb a 0 nof := by
  funext i
  unfold kb
  rw [if_neg (by omega), if_neg (Nat.not_lt_zero _), if_neg (Nat.not_lt_zero _)]
  split <;> rfl
theorem evs_all (a : Bool) {L : List Rn} (h : Pos L) (n : Nat) (hb : tot L + n ≤ 9000000000000000000) : tot (evs a L n) = tot L + n := by
  cases a
  · exact Sh.evs256_all h n hb
  · exact Sg.evs512_tot h n hb
theorem evs_more (a : Bool) {L : List Rn} (h : Pos L) (n : Nat) (hb : tq L ≤ 4000000000) (hn : n ≤ 1000000000000000) : tot L + n ≤ tot (evs a L n) := by
  have := tq_tot L
  rw [evs_all a h n (by omega)]
  omega
theorem tot_nn {L : List Rn} (h : Pos L) : 0 ≤ tot L := by have := tot_pos h; omega
end Go.Proofs.YtkmkbofokoimkaaDoor.Dg
