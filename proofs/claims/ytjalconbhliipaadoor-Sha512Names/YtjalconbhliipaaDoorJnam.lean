/- The law Sha512Names: the examples' tables. -/
import Derived.Test.YtjalconbhliipaaDoorJpieces
namespace Go.Proofs.YtjalconbhliipaaDoor.Sg
open Go.ChangeShapes Go.WideShapes Go.ChangeAt Go.RowKit
open Go.Proofs.YtjalconbhliipaaDoor.By Go.Proofs.YtjalconbhliipaaDoor.Wd

def szl : List Nat := [111, 112, 127, 128, 129]
def sz (i : Nat) : Nat := szl.getD i 0
def mnl : List Nat := [1, 2, 2, 2, 2]
def mny (i : Nat) : Nat := mnl.getD i 0
def frl : List (List Int) := [[119, 221, 211, 165], [43, 226, 231, 136], [135, 111, 238, 38], [171, 148, 47, 82], [177, 245, 66, 246]]
def fr (i : Nat) : Nat → Int := lst (frl.getD i [])
theorem fr_bound (i j : Nat) : 0 ≤ fr i j ∧ fr i j < 256 := by
  match i with
  | 0 | 1 | 2 | 3 | 4 => exact lst_bound _ (by decide) j
  | i + 5 => exact lst_bound _ (by simp [frl]) j
theorem sz_le (i : Nat) : sz i ≤ 129 := by
  match i with
  | 0 | 1 | 2 | 3 | 4 => decide
  | i + 5 => simp [sz, szl]
theorem sz_mny (i : Nat) (h : i < 5) : sz i / 128 + last (sz i) = mny i := by
  match i, h with
  | 0, _ | 1, _ | 2, _ | 3, _ | 4, _ => decide
theorem mny_pos (i : Nat) (h : i < 5) : 1 ≤ mny i ∧ mny i ≤ 2 := by
  match i, h with
  | 0, _ | 1, _ | 2, _ | 3, _ | 4, _ => decide
theorem d4_111 : ∀ j, j < 4 → lf (wof wz111) j = lst [119, 221, 211, 165] j := by decide +kernel
theorem d4_112 : ∀ j, j < 4 → lf (wof wz112) j = lst [43, 226, 231, 136] j := by decide +kernel
theorem d4_127 : ∀ j, j < 4 → lf (wof wz127) j = lst [135, 111, 238, 38] j := by decide +kernel
theorem d4_128 : ∀ j, j < 4 → lf (wof wz128) j = lst [171, 148, 47, 82] j := by decide +kernel
theorem d4_129 : ∀ j, j < 4 → lf (wof wz129) j = lst [177, 245, 66, 246] j := by decide +kernel
theorem dig_sz (i : Nat) (h : i < 5) (j : Nat) (hj : j < 4) : dig (sz i) zf j = fr i j := by
  match i, h with
  | 0, _ => exact (lf_l8 _ _ (z111_words.trans (by rfl)) j (by omega)).trans (d4_111 j hj)
  | 1, _ => exact (lf_l8 _ _ (z112_words.trans (by rfl)) j (by omega)).trans (d4_112 j hj)
  | 2, _ => exact (lf_l8 _ _ (z127_words.trans (by rfl)) j (by omega)).trans (d4_127 j hj)
  | 3, _ => exact (lf_l8 _ _ (z128_words.trans (by rfl)) j (by omega)).trans (d4_128 j hj)
  | 4, _ => exact (lf_l8 _ _ (z129_words.trans (by rfl)) j (by omega)).trans (d4_129 j hj)
theorem make_i (n : Nat) (h : n ≤ 1000) (w : World) : (Instr.makeSlice 41 (.int .i64 n) (.int .i64 n)).run Tryd.prog w = .ok (.slice (some ⟨w.heap.size, 0, none⟩) n n) (w.alloc (.cells (bl n (fun _ => 0)).toArray 5)) := by
  obtain ⟨i0, hi, hz0, hz1, hz2⟩ := info_parts info5
  have hr := run_make (P := Tryd.prog) w 41 5 i0 (.int .u8 0) Tryd.underlying41 hi hz0 .i64 .i64 n n (by omega) (by omega) (by rw [hz2]; omega) (by omega)
  have e : madeCells #[Value.int .u8 0] n = (bl n (fun _ => 0)).toArray := by rw [← bl_zero]
  simp only [Int.toNat_natCast, hz1, Nat.mul_one, Value.cells, e] at hr
  exact hr
/-- The tables lie there. -/
structure NS (w W : World) : Prop where
  szc : ∀ i, i < 5 → W.cell? ⟨w.heap.size + 1 + 1 + 1 + 1 + 1 + 1, i, none⟩ = some (.int .i64 (sz i))
  mnc : ∀ i, i < 5 → W.cell? ⟨w.heap.size + 1 + 1 + 1 + 1 + 1 + 1 + 1, i, none⟩ = some (.int .i64 (mny i))
  frc : ∀ i, i < 5 → ∃ v, W.cell? ⟨w.heap.size + 1 + 1 + 1 + 1 + 1, i, none⟩ = some v ∧ By.RB W v 4 (fr i)
  bel : Below w.heap.size w W
  far : w.heap.size + 1 + 1 + 1 + 1 + 1 + 1 + 1 < W.heap.size
theorem NS.below {w W W' : World} (h : NS w W) (hb : Below W.heap.size W W') : NS w W' := by
  have hf := h.far
  refine ⟨fun i hi => ?_, fun i hi => ?_, fun i hi => ?_, below_next h.bel hb, Nat.lt_of_lt_of_le hf hb.size⟩
  · exact (hb.cell (p := ⟨w.heap.size + 1 + 1 + 1 + 1 + 1 + 1, i, none⟩) (by show w.heap.size + 1 + 1 + 1 + 1 + 1 + 1 < W.heap.size; omega)).trans (h.szc i hi)
  · exact (hb.cell (p := ⟨w.heap.size + 1 + 1 + 1 + 1 + 1 + 1 + 1, i, none⟩) (by show w.heap.size + 1 + 1 + 1 + 1 + 1 + 1 + 1 < W.heap.size; omega)).trans (h.mnc i hi)
  · obtain ⟨v, h1, h2⟩ := h.frc i hi
    exact ⟨v, (hb.cell (p := ⟨w.heap.size + 1 + 1 + 1 + 1 + 1, i, none⟩) (by show w.heap.size + 1 + 1 + 1 + 1 + 1 < W.heap.size; omega)).trans h1, h2.below hb⟩
theorem rb_four {W : World} {g : Nat} {a b c d : Int} {t : TypeId} (i : Nat) (h : Blk W g [.int .u8 a, .int .u8 b, .int .u8 c, .int .u8 d] t) (e : [a, b, c, d] = frl.getD i []) : By.RB W (.slice (some ⟨g, 0, none⟩) 4 4) 4 (fr i) := by
  refine rb_blk (t := t) ?_ (fr_bound i) (by decide)
  have e2 : bl 4 (fr i) = [.int .u8 a, .int .u8 b, .int .u8 c, .int .u8 d] := by
    unfold fr
    rw [← e]
    rfl
  rw [e2]; exact h
theorem ns_start (w W8 : World) (hW8 : ((((((((w.alloc (.cells #[Value.int .u8 119, .int .u8 221, .int .u8 211, .int .u8 165] 5)).alloc (.cells #[Value.int .u8 43, .int .u8 226, .int .u8 231, .int .u8 136] 5)).alloc (.cells #[Value.int .u8 135, .int .u8 111, .int .u8 238, .int .u8 38] 5)).alloc (.cells #[Value.int .u8 171, .int .u8 148, .int .u8 47, .int .u8 82] 5)).alloc (.cells #[Value.int .u8 177, .int .u8 245, .int .u8 66, .int .u8 246] 5)).alloc (.cells #[Value.slice (some ⟨w.heap.size, 0, none⟩) 4 4, .slice (some ⟨w.heap.size + 1, 0, none⟩) 4 4, .slice (some ⟨w.heap.size + 1 + 1, 0, none⟩) 4 4, .slice (some ⟨w.heap.size + 1 + 1 + 1, 0, none⟩) 4 4, .slice (some ⟨w.heap.size + 1 + 1 + 1 + 1, 0, none⟩) 4 4] 41)).alloc (.cells #[Value.int .i64 111, .int .i64 112, .int .i64 127, .int .i64 128, .int .i64 129] 3)).alloc (.cells #[Value.int .i64 1, .int .i64 2, .int .i64 2, .int .i64 2, .int .i64 2] 3)) = W8) : NS w W8 := by
  have k0 : Blk W8 (w.heap.size) [Value.int .u8 119, .int .u8 221, .int .u8 211, .int .u8 165] 5 := by rw [← hW8]; exact (((((((Blk.newAt w #[Value.int .u8 119, .int .u8 221, .int .u8 211, .int .u8 165] [Value.int .u8 119, .int .u8 221, .int .u8 211, .int .u8 165] 5 (w.heap.size) (by simp) rfl).alloc _).alloc _).alloc _).alloc _).alloc _).alloc _).alloc _
  have k1 : Blk W8 (w.heap.size + 1) [Value.int .u8 43, .int .u8 226, .int .u8 231, .int .u8 136] 5 := by rw [← hW8]; exact ((((((Blk.newAt (w.alloc (.cells #[Value.int .u8 119, .int .u8 221, .int .u8 211, .int .u8 165] 5)) #[Value.int .u8 43, .int .u8 226, .int .u8 231, .int .u8 136] [Value.int .u8 43, .int .u8 226, .int .u8 231, .int .u8 136] 5 (w.heap.size + 1) (by simp) rfl).alloc _).alloc _).alloc _).alloc _).alloc _).alloc _
  have k2 : Blk W8 (w.heap.size + 1 + 1) [Value.int .u8 135, .int .u8 111, .int .u8 238, .int .u8 38] 5 := by rw [← hW8]; exact (((((Blk.newAt ((w.alloc (.cells #[Value.int .u8 119, .int .u8 221, .int .u8 211, .int .u8 165] 5)).alloc (.cells #[Value.int .u8 43, .int .u8 226, .int .u8 231, .int .u8 136] 5)) #[Value.int .u8 135, .int .u8 111, .int .u8 238, .int .u8 38] [Value.int .u8 135, .int .u8 111, .int .u8 238, .int .u8 38] 5 (w.heap.size + 1 + 1) (by simp) rfl).alloc _).alloc _).alloc _).alloc _).alloc _
  have k3 : Blk W8 (w.heap.size + 1 + 1 + 1) [Value.int .u8 171, .int .u8 148, .int .u8 47, .int .u8 82] 5 := by rw [← hW8]; exact ((((Blk.newAt (((w.alloc (.cells #[Value.int .u8 119, .int .u8 221, .int .u8 211, .int .u8 165] 5)).alloc (.cells #[Value.int .u8 43, .int .u8 226, .int .u8 231, .int .u8 136] 5)).alloc (.cells #[Value.int .u8 135, .int .u8 111, .int .u8 238, .int .u8 38] 5)) #[Value.int .u8 171, .int .u8 148, .int .u8 47, .int .u8 82] [Value.int .u8 171, .int .u8 148, .int .u8 47, .int .u8 82] 5 (w.heap.size + 1 + 1 + 1) (by simp) rfl).alloc _).alloc _).alloc _).alloc _
  have k4 : Blk W8 (w.heap.size + 1 + 1 + 1 + 1) [Value.int .u8 177, .int .u8 245, .int .u8 66, .int .u8 246] 5 := by rw [← hW8]; exact (((Blk.newAt ((((w.alloc (.cells #[Value.int .u8 119, .int .u8 221, .int .u8 211, .int .u8 165] 5)).alloc (.cells #[Value.int .u8 43, .int .u8 226, .int .u8 231, .int .u8 136] 5)).alloc (.cells #[Value.int .u8 135, .int .u8 111, .int .u8 238, .int .u8 38] 5)).alloc (.cells #[Value.int .u8 171, .int .u8 148, .int .u8 47, .int .u8 82] 5)) #[Value.int .u8 177, .int .u8 245, .int .u8 66, .int .u8 246] [Value.int .u8 177, .int .u8 245, .int .u8 66, .int .u8 246] 5 (w.heap.size + 1 + 1 + 1 + 1) (by simp) rfl).alloc _).alloc _).alloc _
  have k5 : Blk W8 (w.heap.size + 1 + 1 + 1 + 1 + 1) [Value.slice (some ⟨w.heap.size, 0, none⟩) 4 4, .slice (some ⟨w.heap.size + 1, 0, none⟩) 4 4, .slice (some ⟨w.heap.size + 1 + 1, 0, none⟩) 4 4, .slice (some ⟨w.heap.size + 1 + 1 + 1, 0, none⟩) 4 4, .slice (some ⟨w.heap.size + 1 + 1 + 1 + 1, 0, none⟩) 4 4] 41 := by rw [← hW8]; exact ((Blk.newAt (((((w.alloc (.cells #[Value.int .u8 119, .int .u8 221, .int .u8 211, .int .u8 165] 5)).alloc (.cells #[Value.int .u8 43, .int .u8 226, .int .u8 231, .int .u8 136] 5)).alloc (.cells #[Value.int .u8 135, .int .u8 111, .int .u8 238, .int .u8 38] 5)).alloc (.cells #[Value.int .u8 171, .int .u8 148, .int .u8 47, .int .u8 82] 5)).alloc (.cells #[Value.int .u8 177, .int .u8 245, .int .u8 66, .int .u8 246] 5)) #[Value.slice (some ⟨w.heap.size, 0, none⟩) 4 4, .slice (some ⟨w.heap.size + 1, 0, none⟩) 4 4, .slice (some ⟨w.heap.size + 1 + 1, 0, none⟩) 4 4, .slice (some ⟨w.heap.size + 1 + 1 + 1, 0, none⟩) 4 4, .slice (some ⟨w.heap.size + 1 + 1 + 1 + 1, 0, none⟩) 4 4] [Value.slice (some ⟨w.heap.size, 0, none⟩) 4 4, .slice (some ⟨w.heap.size + 1, 0, none⟩) 4 4, .slice (some ⟨w.heap.size + 1 + 1, 0, none⟩) 4 4, .slice (some ⟨w.heap.size + 1 + 1 + 1, 0, none⟩) 4 4, .slice (some ⟨w.heap.size + 1 + 1 + 1 + 1, 0, none⟩) 4 4] 41 (w.heap.size + 1 + 1 + 1 + 1 + 1) (by simp) rfl).alloc _).alloc _
  have k6 : Blk W8 (w.heap.size + 1 + 1 + 1 + 1 + 1 + 1) [Value.int .i64 111, .int .i64 112, .int .i64 127, .int .i64 128, .int .i64 129] 3 := by rw [← hW8]; exact (Blk.newAt ((((((w.alloc (.cells #[Value.int .u8 119, .int .u8 221, .int .u8 211, .int .u8 165] 5)).alloc (.cells #[Value.int .u8 43, .int .u8 226, .int .u8 231, .int .u8 136] 5)).alloc (.cells #[Value.int .u8 135, .int .u8 111, .int .u8 238, .int .u8 38] 5)).alloc (.cells #[Value.int .u8 171, .int .u8 148, .int .u8 47, .int .u8 82] 5)).alloc (.cells #[Value.int .u8 177, .int .u8 245, .int .u8 66, .int .u8 246] 5)).alloc (.cells #[Value.slice (some ⟨w.heap.size, 0, none⟩) 4 4, .slice (some ⟨w.heap.size + 1, 0, none⟩) 4 4, .slice (some ⟨w.heap.size + 1 + 1, 0, none⟩) 4 4, .slice (some ⟨w.heap.size + 1 + 1 + 1, 0, none⟩) 4 4, .slice (some ⟨w.heap.size + 1 + 1 + 1 + 1, 0, none⟩) 4 4] 41)) #[Value.int .i64 111, .int .i64 112, .int .i64 127, .int .i64 128, .int .i64 129] [Value.int .i64 111, .int .i64 112, .int .i64 127, .int .i64 128, .int .i64 129] 3 (w.heap.size + 1 + 1 + 1 + 1 + 1 + 1) (by simp) rfl).alloc _
  have k7 : Blk W8 (w.heap.size + 1 + 1 + 1 + 1 + 1 + 1 + 1) [Value.int .i64 1, .int .i64 2, .int .i64 2, .int .i64 2, .int .i64 2] 3 := by rw [← hW8]; exact Blk.newAt (((((((w.alloc (.cells #[Value.int .u8 119, .int .u8 221, .int .u8 211, .int .u8 165] 5)).alloc (.cells #[Value.int .u8 43, .int .u8 226, .int .u8 231, .int .u8 136] 5)).alloc (.cells #[Value.int .u8 135, .int .u8 111, .int .u8 238, .int .u8 38] 5)).alloc (.cells #[Value.int .u8 171, .int .u8 148, .int .u8 47, .int .u8 82] 5)).alloc (.cells #[Value.int .u8 177, .int .u8 245, .int .u8 66, .int .u8 246] 5)).alloc (.cells #[Value.slice (some ⟨w.heap.size, 0, none⟩) 4 4, .slice (some ⟨w.heap.size + 1, 0, none⟩) 4 4, .slice (some ⟨w.heap.size + 1 + 1, 0, none⟩) 4 4, .slice (some ⟨w.heap.size + 1 + 1 + 1, 0, none⟩) 4 4, .slice (some ⟨w.heap.size + 1 + 1 + 1 + 1, 0, none⟩) 4 4] 41)).alloc (.cells #[Value.int .i64 111, .int .i64 112, .int .i64 127, .int .i64 128, .int .i64 129] 3)) #[Value.int .i64 1, .int .i64 2, .int .i64 2, .int .i64 2, .int .i64 2] [Value.int .i64 1, .int .i64 2, .int .i64 2, .int .i64 2, .int .i64 2] 3 (w.heap.size + 1 + 1 + 1 + 1 + 1 + 1 + 1) (by simp) rfl
  refine ⟨fun i hi => ?_, fun i hi => ?_, fun i hi => ?_, ?_, k7.lt⟩
  · match i, hi with
    | 0, _ => exact k6.cell 0 _ rfl
    | 1, _ => exact k6.cell 1 _ rfl
    | 2, _ => exact k6.cell 2 _ rfl
    | 3, _ => exact k6.cell 3 _ rfl
    | 4, _ => exact k6.cell 4 _ rfl
  · match i, hi with
    | 0, _ => exact k7.cell 0 _ rfl
    | 1, _ => exact k7.cell 1 _ rfl
    | 2, _ => exact k7.cell 2 _ rfl
    | 3, _ => exact k7.cell 3 _ rfl
    | 4, _ => exact k7.cell 4 _ rfl
  · match i, hi with
    | 0, _ => exact ⟨_, k5.cell 0 _ rfl, rb_four 0 k0 rfl⟩
    | 1, _ => exact ⟨_, k5.cell 1 _ rfl, rb_four 1 k1 rfl⟩
    | 2, _ => exact ⟨_, k5.cell 2 _ rfl, rb_four 2 k2 rfl⟩
    | 3, _ => exact ⟨_, k5.cell 3 _ rfl, rb_four 3 k3 rfl⟩
    | 4, _ => exact ⟨_, k5.cell 4 _ rfl, rb_four 4 k4 rfl⟩
  · rw [← hW8]
    exact below_next (below_next (below_next (below_next (below_next (below_next (below_next (below_alloc w _) (below_alloc _ _)) (below_alloc _ _)) (below_alloc _ _)) (below_alloc _ _)) (below_alloc _ _)) (below_alloc _ _)) (below_alloc _ _)
end Go.Proofs.YtjalconbhliipaaDoor.Sg
