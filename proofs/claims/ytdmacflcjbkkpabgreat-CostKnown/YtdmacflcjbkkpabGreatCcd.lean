/- Codes: the codes of a list of skeletons. -/
import Derived.Test.YtdmacflcjbkkpabGreatCru
namespace Go.Proofs.YtdmacflcjbkkpabGreat.Co
open Go.ChangeShapes Go.WideShapes Go.ChangeAt Go.RowKit
open Go.Proofs.YtdmacflcjbkkpabGreat (putL Pos tot)
open Go.Proofs.YtdmacflcjbkkpabGreat.Ou (Sk sv sL zS LDk SVk LDk_run SVk_run)
open Go.Proofs.YtdmacflcjbkkpabGreat.Tb (Blk Blk.newAt put_all Kp.setCells results_cell1 results_cell2)
theorem made_one (z : Value) (hz : z.cells = #[z]) (n : Nat) : madeCells z.cells n = Array.replicate n z := by
  apply Array.toList_inj.1
  apply List.ext_getElem?
  intro p
  by_cases hp : p < n
  · simp [madeCells, hp, hz]
    have e : p % 1 = 0 := Nat.mod_one p
    rw [e]; rfl
  · rw [List.getElem?_eq_none (by rw [Array.length_toList, size_madeCells]; omega), List.getElem?_eq_none (by simp; omega)]
theorem infoE : (Tryz.prog.info? 25).map (fun i => (i.zero, i.size, i.bytes)) = some (some (.int .i64 0), 1, 8) := by kernel_rfl
theorem infoR : (Tryz.prog.info? 24).map (fun i => (i.zero, i.size, i.bytes)) = some (some (.slice none 0 0), 1, 24) := by kernel_rfl
theorem make_rw (n : Nat) (hn : n ≤ 1000) (w : World) : (Instr.makeSlice 52 (.int .i64 n) (.int .i64 n)).run Tryz.prog w = .ok (.slice (some ⟨w.heap.size, 0, none⟩) n n) (w.alloc (.cells (Array.replicate n (.slice none 0 0)) 24)) := by
  obtain ⟨i0, hi, hz0, hz1, hz2⟩ := info_parts infoR
  have hr := run_make (P := Tryz.prog) w 52 24 i0 (.slice none 0 0) Tryz.underlying52 hi hz0 .i64 .i64 n n (by omega) (by omega) (by rw [hz2]; omega) (by omega)
  simp only [Int.toNat_natCast, hz1, Nat.mul_one] at hr
  rw [made_one _ rfl] at hr
  exact hr
/-- The codes of n skeletons. -/
def cc (f : Nat → Sk) (i : Nat) : Int := cod (aft P00 (lf f i)) (clp (f i))
theorem cds_cc (f : Nat → Sk) : ∀ n, cds P00 (lf f n) = (List.range n).map (cc f)
  | 0 => rfl
  | n + 1 => by rw [lf_succ, cds_snoc, cds_cc f n, List.range_succ, List.map_append]; rfl
/-- The cells of a list that is filled up to k. -/
def fc_ (z : Value) (g : Nat → Value) (n k : Nat) : List Value := (List.range n).map (fun i => if i < k then g i else z)
theorem fc_len (z : Value) (g : Nat → Value) (n k : Nat) : (fc_ z g n k).length = n := by simp [fc_]
theorem fc_zero (z : Value) (g : Nat → Value) (n : Nat) : fc_ z g n 0 = List.replicate n z := by
  apply List.ext_getElem?
  intro i
  simp only [fc_, List.getElem?_map, List.getElem?_replicate]
  by_cases h : i < n
  · simp [h]
  · simp [h]
theorem fc_set (z : Value) (g : Nat → Value) (n k : Nat) : (fc_ z g n k).set k (g k) = fc_ z g n (k + 1) := by
  apply List.ext_getElem?
  intro i
  rw [List.getElem?_set]
  simp only [fc_, List.getElem?_map, List.length_map, List.length_range]
  by_cases h : k = i
  · subst h
    by_cases hk : k < n
    · simp [hk]
    · simp [hk]
  · rw [if_neg h]
    by_cases hi : i < n
    · simp only [List.getElem?_range hi, Option.map_some]
      congr 1
      by_cases h2 : i < k
      · rw [if_pos h2, if_pos (by omega)]
      · rw [if_neg h2, if_neg (by omega)]
    · rw [List.getElem?_eq_none (by simp; omega)]; rfl
theorem fc_full (z : Value) (g : Nat → Value) (n : Nat) : fc_ z g n n = (List.range n).map g := by
  apply List.map_congr_left
  intro i hi
  rw [if_pos (by simpa using hi)]
theorem fc_get (z : Value) (g : Nat → Value) (n k i : Nat) (h : i < n) : (fc_ z g n k)[i]? = some (if i < k then g i else z) := by simp [fc_, h]
end Go.Proofs.YtdmacflcjbkkpabGreat.Co
