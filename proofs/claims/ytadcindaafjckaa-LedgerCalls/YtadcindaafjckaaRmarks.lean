/- Marks: what the statements' helper markRuns answers, and lists of marks. -/
import Derived.Test.YtadcindaafjckaaRsince
namespace Go.Proofs.Ytadcindaafjckaa
open Go.ChangeShapes Go.WideShapes Go.ChangeAt Go.RowKit
/-- Mark i of list k. -/
def Mk (k i : Int) : Rn := ⟨0, 0, -1000 * k - i - 7⟩
theorem Mk_ok (k i : Int) (hk : 0 ≤ k ∧ k < 1000000) (hi : 0 ≤ i ∧ i < 1000000000000000000) : (Mk k i).Ok := by
  refine ⟨⟨by simp [Mk], by simp [Mk]⟩, ⟨by simp [Mk], by simp [Mk]⟩, ?_⟩
  show _ ≤ -1000 * k - i - 7 ∧ -1000 * k - i - 7 ≤ _
  omega
theorem mark45 (k i : Int) (w : World) (hk : 0 ≤ k ∧ k < 1000000) (hi : 0 ≤ i ∧ i < 1000000000000000000) :
    Calls Try.prog 30 #[.int .i64 k, .int .i64 i] w fun e w' => e = .returned (.agg #[.int .u8 0, .int .i64 0, .int .i64 (-1000 * k - i - 7)]) ∧ w' = w.alloc (.cells #[.int .u8 0, .int .i64 0, .int .i64 (-1000 * k - i - 7)] 51) := by
  go_enter Try.func30, Try.ntmps30
  have h1 : IntKind.i64.wrap (-1000 * k) = -1000 * k := by rw [IntKind.wrap_i64]; omega
  have h2 : IntKind.i64.wrap (-1000 * k - i) = -1000 * k - i := by rw [IntKind.wrap_i64]; omega
  have h3 : IntKind.i64.wrap (-1000 * k - i - 7) = -1000 * k - i - 7 := by rw [IntKind.wrap_i64]; omega
  go_wp2
  refine bodyPost_ret (v := .agg #[.int .u8 0, .int .i64 0, .int .i64 (-1000 * k - i - 7)]) ?_ rfl ⟨rfl, rfl⟩
  exact results_cell_row rfl _ _ w.heap.size 51 _ (0, 0) _ rfl (heap_alloc_new w _) Try.underlying51 rfl (by kernel_rfl)

/-- n marks of list k. -/
def mks (k n : Nat) : List Rn := (List.range n).map fun (i : Nat) => Mk k i
theorem mks_length (k n : Nat) : (mks k n).length = n := by simp [mks]
theorem mks_succ (k n : Nat) : mks k (n + 1) = mks k n ++ [Mk k n] := by simp [mks, List.range_succ]
theorem mks_get (k n i : Nat) (h : i < n) : (mks k n)[i]? = some (Mk k i) := by simp [mks, h]
theorem mks_ok (k n : Nat) (hk : k < 1000000) (hn : n < 1000000000000000000) : ∀ r ∈ mks k n, r.Ok := by
  intro r hr
  simp [mks] at hr
  obtain ⟨i, hi, rfl⟩ := hr
  exact Mk_ok _ _ (by omega) (by omega)
theorem mks_set (k i : Nat) (L : List Rn) (h : i < L.length) : (mks k i ++ L.drop i).set i (Mk k i) = mks k (i + 1) ++ L.drop (i + 1) := by
  obtain ⟨r, hr⟩ := get_of_lt h
  rw [drop_cons hr, List.set_append_right _ _ (by rw [mks_length]; exact Nat.le_refl _), mks_length, Nat.sub_self, List.set_cons_zero, mks_succ, List.append_assoc]
  rfl

theorem markAt (k i c : Int) (w : World) (hk : 0 ≤ k ∧ k < 1000000) (hi : 0 ≤ i ∧ i < 1000000000000000000) (hc : c = -1000 * k - i - 7) :
    Calls Try.prog 30 #[.int .i64 k, .int .i64 i] w fun e w' => e = .returned (.agg #[.int .u8 0, .int .i64 0, .int .i64 c]) ∧ w' = w.alloc (.cells #[.int .u8 0, .int .i64 0, .int .i64 c] 51) := by
  subst hc; exact mark45 k i w hk hi
end Go.Proofs.Ytadcindaafjckaa
