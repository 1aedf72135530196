/- A table's cells: its bound, and 64 pointers. No function of the program in it. -/
import Derived.Test.YtodihepgfpbonaaTbk
namespace Go.Proofs.Ytodihepgfpbonaa.Tb
open Go.ChangeShapes Go.WideShapes Go.ChangeAt Go.RowKit
/-- A pointer to a block, or none. -/
def pv (o : Option Nat) : Value := .pointer (o.map fun g => ⟨g, 0, none⟩)
theorem pv_one (o : Option Nat) : (pv o).oneCell' = true := by cases o <;> rfl
/-- Which block each of 64 numbers has. -/
abbrev Ps := Nat → Option Nat
def pl (ps : Ps) : List Value := (List.range 64).map fun i => pv (ps i)
theorem pl_length (ps : Ps) : (pl ps).length = 64 := by simp [pl]
theorem pl_get (ps : Ps) (i : Nat) (h : i < 64) : (pl ps)[i]? = some (pv (ps i)) := by simp [pl, h]
theorem pl_one (ps : Ps) : ∀ u ∈ pl ps, u.oneCell' = true := by
  intro u hu
  simp only [pl, List.mem_map] at hu
  obtain ⟨i, _, rfl⟩ := hu
  exact pv_one _
def tc (m : Int) (ps : Ps) : List Value := .int .i64 m :: pl ps
theorem tc_length (m : Int) (ps : Ps) : (tc m ps).length = 65 := by simp [tc, pl_length]
theorem tc_p (m : Int) (ps : Ps) (i : Nat) (h : i < 64) : (tc m ps)[1 + i]? = some (pv (ps i)) := by
  rw [Nat.add_comm, tc, List.getElem?_cons_succ]; exact pl_get ps i h
theorem tc_v (m : Int) (ps : Ps) (i : Nat) (v : Value) (hv : (pl ps)[i]? = some v) : (tc m ps)[1 + i]? = some v := by
  rw [Nat.add_comm, tc, List.getElem?_cons_succ]; exact hv
/-- One number has another block. -/
def ups (ps : Ps) (i : Nat) (o : Option Nat) : Ps := fun k => if k = i then o else ps k
theorem pl_set (ps : Ps) (i : Nat) (o : Option Nat) : (pl ps).set i (pv o) = pl (ups ps i o) := by
  apply List.ext_getElem?
  intro j
  rw [List.getElem?_set, pl_length]
  by_cases h : j < 64
  · rw [pl_get _ _ h, pl_get _ _ h]
    by_cases e : i = j
    · subst e; simp [h, ups]
    · rw [if_neg e]; simp [ups, Ne.symm e]
  · rw [List.getElem?_eq_none (by rw [pl_length]; omega), List.getElem?_eq_none (by rw [pl_length]; omega)]
    split
    · rw [if_neg (by omega)]
    · rfl
theorem tc_set (m : Int) (ps : Ps) (i : Nat) (o : Option Nat) : (tc m ps).set (1 + i) (pv o) = tc m (ups ps i o) := by
  rw [Nat.add_comm, tc, List.set_cons_succ, pl_set]; rfl
theorem tc0 (m : Int) : tc m (fun _ => none) = .int .i64 m :: List.replicate 64 (.pointer none) := by rfl
/-- All pointers as one value. -/
def av (ps : Ps) : Value := .agg (pl ps).toArray
/-- How many of the first n numbers have a block. -/
def cnt (ps : Ps) : Nat → Nat
  | 0 => 0
  | n + 1 => cnt ps n + (if (ps n).isSome then 1 else 0)
theorem cnt_le (ps : Ps) (n : Nat) : cnt ps n ≤ n := by
  induction n with
  | zero => exact Nat.le_refl _
  | succ n ih => rw [cnt]; split <;> omega
end Go.Proofs.Ytodihepgfpbonaa.Tb
