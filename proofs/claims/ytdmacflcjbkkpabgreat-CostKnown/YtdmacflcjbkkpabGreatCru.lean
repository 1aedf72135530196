/- Runs: the ledger of a list of skeletons. -/
import Derived.Test.YtdmacflcjbkkpabGreatCnw
import Derived.Test.YtdmacflcjbkkpabGreatCls
namespace Go.Proofs.YtdmacflcjbkkpabGreat.Co
open Go.ChangeShapes Go.WideShapes Go.ChangeAt Go.RowKit
open Go.Proofs.YtdmacflcjbkkpabGreat (putL Pos tot)
open Go.Proofs.YtdmacflcjbkkpabGreat.Ou (Sk sv sL zS LDk SVk LDk_run SVk_run)
open Go.Proofs.YtdmacflcjbkkpabGreat.Tb (Blk Blk.newAt put_all Kp.setCells results_cell1 results_cell2)
/-- The first k of them. -/
def lf (f : Nat → Sk) (k : Nat) : List Sk := (List.range k).map f
theorem lf_succ (f : Nat → Sk) (k : Nat) : lf f (k + 1) = lf f k ++ [f k] := by simp [lf, List.range_succ]
theorem lf_len (f : Nat → Sk) (k : Nat) : (lf f k).length = k := by simp [lf]
/-- What is public of an empty vault. -/
abbrev P00 : St := fun _ => none
theorem tt_tot (L : List Ru) : tt L = tot L := by
  induction L with
  | nil => rfl
  | cons r L ih => show r.c + tt L = r.c + tot L; rw [ih]
theorem st_ok (f : Nat → Sk) (k : Nat) : (aft P00 (lf f k)).Ok := aft_ok start_ok _
theorem st_mg (f : Nat → Sk) (k : Nat) (hk : k ≤ 1000) : Mg 1000000000000 (aft P00 (lf f k)) := fun i h e => by
  have := mg_aft (P := P00) (lf f k) (b := 0) (Int.le_refl 0) (fun i h e => by cases e) i h e
  rw [lf_len] at this
  omega
theorem jn_rm (f : Nat → Sk) (k : Nat) (hk : k ≤ 1000) : Rm (jn [] (rws P00 (lf f k))) 8 := by
  have h := jn_rws (lf f k) P00 [] start_ok (fun q hq => by simp at hq) (by rw [lf_len]; simp only [tt]; omega)
  rw [lf_len] at h
  simp only [tt, List.length_nil] at h
  refine ⟨by rw [← tt_tot]; omega, by omega, fun q hq => h.1 q hq⟩
theorem aft_next (f : Nat → Sk) (k : Nat) : aft P00 (lf f (k + 1)) = stp (aft P00 (lf f k)) (f k) := by rw [lf_succ, aft_snoc]
theorem jn_next (f : Nat → Sk) (k : Nat) : jn [] (rws P00 (lf f (k + 1))) = (row (aft P00 (lf f k)) (f k)).foldl putL (jn [] (rws P00 (lf f k))) := by rw [lf_succ, rws_snoc, jn_snoc]
/-- A skeleton's variable, new. -/
theorem new_sk (w : World) (s : Sk) : ∃ W1, (SVk ⟨w.heap.size, 0, none⟩ (sv s)).run Tryz.prog (w.alloc (.cells (sL zS).toArray 31)) = .ok () W1 ∧ Blk W1 w.heap.size (sL s) 31 ∧ Below w.heap.size w W1 := by
  obtain ⟨W1, s1, k1, hk1⟩ := SVk_run s (Blk.newAt w (sL zS).toArray (sL zS) 31 w.heap.size rfl rfl) rfl
  exact ⟨W1, s1, k1, (below_alloc w _).trans (hk1.below (by simp) (fun k h e => by omega))⟩
end Go.Proofs.YtdmacflcjbkkpabGreat.Co
