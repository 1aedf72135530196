/- Noughts put behind a list of bytes that has no room left: append(b, make([]byte, m)...); lists of names held against each other. -/
import Derived.Test.YtnadpglfliiplaaUus
import Derived.Lib.AppendZeros
namespace Go.Proofs.Ytnadpglfliiplaa.Ou
open Go.ChangeShapes Go.WideShapes Go.ChangeAt Go.RowKit
open Go.Proofs.Ytnadpglfliiplaa.By
theorem zeroCells_bl (m : Nat) : Builtin.zeroCells #[Value.int .u8 0] m = (bl m (fun _ => 0)).toArray := by
  apply Array.ext'
  apply List.ext_getElem?
  intro i
  by_cases h : i < m
  · rw [bl_get m _ i h]
    simp [Builtin.zeroCells, h, Nat.mod_one]
  · rw [List.getElem?_eq_none (by simp [Builtin.zeroCells]; omega), List.getElem?_eq_none (by rw [bl_length]; omega)]
theorem run_zeros (w : World) (ty : TypeId) (base g n cap m : Nat) (f : Nat → Int) (hown : By.Own w base (.slice (some ⟨g, 0, none⟩) n cap) n f) (h : n + m ≤ 140737488355328) (hroom' : cap < n + m) (hm0 : 0 < m) (hb : base ≤ w.heap.size) :
    ∃ v' w', (Builtin.append_ #[24, 3] ty #[.slice (some ⟨g, 0, none⟩) n cap, .int .i64 (m : Int)]).run Try.prog w = .ok v' w' ∧ By.Own w' base v' (n + m) (cat n f (fun _ => 0)) ∧ w.grownBy w' (some g) := by
  obtain ⟨i0, hi, hz0, hz1, hz2⟩ := info_parts info5
  have hcat : bl n f ++ bl m (fun _ => 0) = bl (n + m) (cat n f (fun _ => 0)) := bl_append n m f _
  have holds : ∀ j u, (bl n f)[j]? = some u → w.cell? ((⟨g, 0, none⟩ : Addr).add j) = some u := hown.2.cells rfl
  have hf := hown.1
  have hw : IntKind.i64.wrap (m : Int) = m := by rw [IntKind.wrap_i64]; omega
  have hneg : ¬ ((m : Int) < 0) := by omega
  have h48i : ¬ (281474976710656 < (m : Int)) := by omega
  have htn : Try.prog.underlying 3 = some (.int .i64) := Try.underlying3
  have hroom : ¬ n + m ≤ cap := by omega
  have hge := grownCap_ge w (n + m) cap 5
  have hcm2 : grownCap w (n + m) cap 5 ≤ maxLen := grownCap_le_maxLen w (n + m) cap 5 (by simp [maxLen]; omega)
  have hfo := run_firstCells_some (P := Try.prog) w.drew 1 n ⟨g, 0, none⟩ n cap (bl n f) (by rw [bl_length]; omega) (fun j v hj => holds j v hj)
  have h63' : ¬ (9223372036854775807 < ((n : Int) + (m : Int))) := by omega
  have h48' : ¬ (281474976710656 < Builtin.nextslicecap (n + m) cap * 1) := by
    have := growslice_fits (need := n + m) (old := cap) (bytes := 1) (by omega) (by omega); omega
  have hm : m ≠ 0 := by omega
  refine ⟨.slice (some ⟨w.heap.size, 0, none⟩) (n + m) (grownCap w (n + m) cap 5), w.drew.alloc (.cells ((bl n f).toArray ++ (bl m (fun _ => 0)).toArray ++ Builtin.zeroCells #[Value.int .u8 0] (grownCap w (n + m) cap 5 - (n + m))) 5), ?_, ⟨cat_bound hf (fun _ => by decide), by rw [bl_length]; omega, .inr ⟨w.heap.size, _, _, rfl, hb, heap_alloc_last w.drew _, hge, hcm2, ?_, ?_⟩⟩, ?_⟩
  · rw [Nat.mul_one] at h48'
    simp [Builtin.append_, run_underlying Try.underlying24, run_underlying htn, sizeOf, typeInfo, zeroValue, hi, hz0, hz1, hz2, asInt, asIntOf, hw, hneg, h48i, hroom, hm, Value.cells, h63', h48', Question.forced, hfo, newRow, grownCap, zeroCells_bl]
  · simp [size_zeroCells, bl_length]; omega
  · rw [← hcat, Nat.mul_one]
    simp only [Array.toList_append, List.append_assoc]
    rw [← List.append_assoc]
    rw [show n + m = (bl n f ++ bl m (fun _ => 0)).length from by rw [List.length_append, bl_length, bl_length]]
    exact List.take_left
  · refine ⟨rfl, rfl, rfl, by simp, fun k hk _ => ?_⟩
    show (w.drew.heap.push _)[k]? = w.heap[k]?
    rw [Array.getElem?_push, if_neg (show ¬ k = w.drew.heap.size from Nat.ne_of_lt hk)]; rfl
/-- The same within a walk. -/
theorem wpList_zeros {w : World} {ops : Array Oper} {rest : List Oper} {o : Oper} {a : Act} {Q : Exit → Act → World → Prop} (hgd : o.guard = none) (s x : Operand)
    (ho : o.op = .call { callee := .builtin .append, args := #[s, x], argTypes := #[24, 3] })
    (base g n cap m : Nat) (f : Nat → Int) (hs : a.eval s = .slice (some ⟨g, 0, none⟩) n cap) (hv : By.Own w base (.slice (some ⟨g, 0, none⟩) n cap) n f) (hx : a.eval x = .int .i64 (m : Int)) (hn : n + m ≤ 140737488355328) (hr : cap < n + m) (hm : 0 < m) (hb : base ≤ w.heap.size)
    (h : ∀ v' w', By.Own w' base v' (n + m) (cat n f (fun _ => 0)) → w.grownBy w' (some g) → wpList Try.prog ops Q rest (a.put o.dst v') w') : wpList Try.prog ops Q (o :: rest) a w := by
  obtain ⟨v', w', hr, ho', hg'⟩ := run_zeros w o.type base g n cap m f hv hn hr hm hb
  exact Lib.wpList_append_run w hgd s x _ _ ho _ _ hs hx v' w' hr (h v' w' ho' hg')
theorem ol_nb {w : World} {B : Nat} {v : Value} {l : List Nat} (h : OL w B v l) : NB w B v l := by
  rcases h.shape with ⟨rfl, h0⟩ | ⟨g, cap, rfl, hb, _, hnc, _, hc, _⟩
  · have : l = [] := List.eq_nil_of_length_eq_zero h0
    subst this
    exact ⟨none, 0, rfl, Nat.le_refl _, fun j x hx => by simp at hx⟩
  · refine ⟨_, cap, rfl, hnc, fun j x hx => ⟨g, rfl, hb, ?_⟩⟩
    have hj : j < l.length := (List.getElem?_eq_some_iff.1 hx).1
    rw [hc j hj]
    simp [nf, List.getD, hx]
set_option maxRecDepth 4000 in
set_option maxHeartbeats 400000 in
/-- Two lists of the same names. -/
theorem sametexts_ok (l : List Nat) (a b : Value) (B B' : Nat) (w : World) (ha : NB w B a l) (hb : NB w B' b l) (hl : l.length ≤ 10) :
    Calls Try.prog 31 #[a, b] w fun e w' => e = .returned (.bool true) ∧ Below w.heap.size w w' := by
  obtain ⟨a, c, rfl, hc, H1⟩ := ha
  obtain ⟨b, c', rfl, hc', H2⟩ := hb
  have H1 := hid H1
  have H2 := hid H2
  go_enter Try.func31, Try.ntmps31
  go_wp2
  go_loopw [5] (fun i wr => ∃ k : Nat, k ≤ l.length ∧ i = .int .i64 k ∧ ∃ d, wr = w.drewN d) (fun i _ => l.length - (intOf i).toNat)
  case atStart => exact ⟨0, Nat.zero_le _, rfl, 0, rfl⟩
  case round =>
    obtain ⟨k, hk, rfl, d, rfl⟩ := hrel
    by_cases hlt : k < l.length
    · obtain ⟨x, hx⟩ : ∃ x, l[k]? = some x := ⟨_, List.getElem?_eq_getElem hlt⟩
      obtain ⟨g1, rfl, _, c1⟩ := H1.out k x hx
      obtain ⟨g2, rfl, _, c2⟩ := H2.out k x hx
      have l1 : (k : Int) < l.length := by omega
      clear hx
      go_wp2
      go_quiet (fail)
      go_wp2
      go_roundw
      case rel => exact ⟨k + 1, by omega, by go_num, _, rfl⟩
      case measure => simp [intOf]; omega
    · have l1 : ¬ (k : Int) < l.length := by omega
      go_wp2
      go_ret
      exact ⟨rfl, below_drewN _ _⟩
end Go.Proofs.Ytnadpglfliiplaa.Ou
