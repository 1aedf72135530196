/- Noughts put behind a list of bytes that the call owns: append(b, make([]byte, m)...). -/
import Derived.Test.YtnncgniiceglaaaDoorYa
import Derived.Test.YtnncgniiceglaaaDoorYf
import Derived.Lib.AppendZeros
namespace Go.Proofs.YtnncgniiceglaaaDoor.Vm
open Go.ChangeShapes Go.WideShapes Go.ChangeAt Go.RowKit
open Go.Proofs.YtnncgniiceglaaaDoor.By Go.Proofs.YtnncgniiceglaaaDoor.Ae
open Go.Proofs.YtnncgniiceglaaaDoor.Kc (cat cat_bound)
theorem zeroCells_bl (m : Nat) : Builtin.zeroCells #[Value.int .u8 0] m = (bl m (fun _ => 0)).toArray := by
  apply Array.ext'
  apply List.ext_getElem?
  intro i
  by_cases h : i < m
  · rw [bl_get m _ i h]
    simp [Builtin.zeroCells, h, Nat.mod_one]
  · rw [List.getElem?_eq_none (by simp [Builtin.zeroCells]; omega), List.getElem?_eq_none (by rw [bl_length]; omega)]
theorem run_zeros (w : World) (ty : TypeId) (base g n cap m : Nat) (f : Nat → Int) (hown : By.Own w base (.slice (some ⟨g, 0, none⟩) n cap) n f) (h : n + m ≤ 140737488355328) (hb : base ≤ w.heap.size) :
    ∃ v' w', (Builtin.append_ #[22, 3] ty #[.slice (some ⟨g, 0, none⟩) n cap, .int .i64 (m : Int)]).run Tryd.prog w = .ok v' w' ∧ By.Own w' base v' (n + m) (cat n f (fun _ => 0)) ∧ w.grownBy w' (some g) := by
  obtain ⟨i0, hi, hz0, hz1, hz2⟩ := info_parts info5
  have hcat : bl n f ++ bl m (fun _ => 0) = bl (n + m) (cat n f (fun _ => 0)) := bl_append n m f _
  obtain ⟨hf, hl, hc | ⟨g', cap', cur, e, hbg, hg, hnc, hcm, hcs, htake⟩⟩ := hown
  · cases hc.1
  · simp only [Value.slice.injEq, Option.some.injEq, Addr.mk.injEq, and_true, true_and] at e
    obtain ⟨rfl, rfl⟩ := e
    rw [Nat.mul_one] at hcs htake
    have hw : IntKind.i64.wrap (m : Int) = m := by rw [IntKind.wrap_i64]; omega
    have hneg : ¬ ((m : Int) < 0) := by omega
    have hbk : Blk w g cur.toList 5 := by show w.heap[g]? = _; rw [hg]
    have h48i : ¬ (281474976710656 < (m : Int)) := by omega
    have htn : Tryd.prog.underlying 3 = some (.int .i64) := Tryd.underlying3
    by_cases hroom : n + m ≤ cap
    · have hst := run_storeCells_cells (P := Tryd.prog) g n (bl m (fun _ => 0)) 0 w (fun j hj => by rw [bl_length] at hj; exact (hbk.there n m (by simp; omega) j hj).1) (fun j hj => hbk.frozen _) (bl_one m _)
      refine ⟨.slice (some ⟨g, 0, none⟩) (n + m) cap, w.setCells g n (bl m (fun _ => 0)), ?_, ⟨cat_bound hf (fun _ => by decide), by rw [bl_length]; omega, .inr ⟨g, cap, (put cur.toList n (bl m (fun _ => 0))).toArray, rfl, hbg, hbk.put n _, hroom, hcm, ?_, ?_⟩⟩, ?_⟩
      · by_cases hm : m = 0
        · subst hm
          have hw0 : IntKind.i64.wrap 0 = 0 := by rw [IntKind.wrap_i64]; rfl
          simp [Builtin.append_, run_underlying Tryd.underlying22, run_underlying htn, sizeOf, typeInfo, zeroValue, hi, hz0, hz2, asInt, asIntOf, hw0, hnc, storeCells, World.setCells, bl]
        · have hns : ¬ (m * 1 = 0) := by omega
          simp [Builtin.append_, run_underlying Tryd.underlying22, run_underlying htn, sizeOf, typeInfo, zeroValue, hi, hz0, hz1, hz2, asInt, asIntOf, hw, hneg, h48i, hroom, hm, Value.cells, zeroCells_bl, By.add_plain]
          rw [Nat.add_zero] at hst
          rw [hst]
          rfl
      · simp [put_length, hcs]
      · rw [← hcat, Nat.mul_one]
        apply List.ext_getElem?
        intro i
        rw [List.getElem?_take]
        by_cases hi : i < n + m
        · rw [if_pos hi]
          show (put cur.toList n (bl m (fun _ => 0)))[i]? = _
          rw [put_get _ _ _ _ (by rw [bl_length]; simp; omega), bl_length]
          by_cases h2 : i < n
          · rw [if_neg (by omega), List.getElem?_append_left (by rw [bl_length]; omega), ← htake, List.getElem?_take, if_pos h2]
          · rw [if_pos (by omega), List.getElem?_append_right (by rw [bl_length]; omega), bl_length]
        · rw [if_neg hi, List.getElem?_eq_none (by rw [List.length_append, bl_length, bl_length]; omega)]
      · have hk := Kp.setCells (w := w) g n (bl m (fun _ => 0))
        exact ⟨hk.os, hk.tape, hk.output, hk.size, fun k hk' hne => hk.block k hk' (fun e => hne (by rw [show k = g from e]))⟩
    · have hge := grownCap_ge w (n + m) cap 5
      have hcm2 : grownCap w (n + m) cap 5 ≤ maxLen := grownCap_le_maxLen w (n + m) cap 5 (by simp [maxLen]; omega)
      have hfo := run_firstCells_some (P := Tryd.prog) w.drew 1 n ⟨g, 0, none⟩ n cap (bl n f) (by rw [bl_length]; omega) (fun j v hj => by
        obtain ⟨hj1, rfl⟩ := bl_get_inv _ _ _ _ hj
        rw [By.add_plain, Nat.zero_add]
        refine (hbk.drewN 1).cell j _ ?_
        have : (cur.toList.take n)[j]? = some (.int .u8 (f j)) := by rw [htake]; exact bl_get n f j hj1
        rwa [List.getElem?_take, if_pos hj1] at this)
      have h63' : ¬ (9223372036854775807 < ((n : Int) + (m : Int))) := by omega
      have h48' : ¬ (281474976710656 < Builtin.nextslicecap (n + m) cap * 1) := by
        have := growslice_fits (need := n + m) (old := cap) (bytes := 1) (by omega) (by omega); omega
      have hm : m ≠ 0 := by omega
      have hns : ¬ (m * 1 = 0) := by omega
      refine ⟨.slice (some ⟨w.heap.size, 0, none⟩) (n + m) (grownCap w (n + m) cap 5), w.drew.alloc (.cells ((bl n f).toArray ++ (bl m (fun _ => 0)).toArray ++ Builtin.zeroCells #[Value.int .u8 0] (grownCap w (n + m) cap 5 - (n + m))) 5), ?_, ⟨cat_bound hf (fun _ => by decide), by rw [bl_length]; omega, .inr ⟨w.heap.size, _, _, rfl, hb, heap_alloc_last w.drew _, hge, hcm2, ?_, ?_⟩⟩, ?_⟩
      · rw [Nat.mul_one] at h48'
        simp [Builtin.append_, run_underlying Tryd.underlying22, run_underlying htn, sizeOf, typeInfo, zeroValue, hi, hz0, hz1, hz2, asInt, asIntOf, hw, hneg, h48i, hroom, hm, Value.cells, h63', h48', Question.forced, hfo, newRow, grownCap, zeroCells_bl]
      · simp [size_zeroCells, bl_length]; omega
      · rw [← hcat, Nat.mul_one]
        simp only [Array.toList_append, List.append_assoc]
        rw [← List.append_assoc]
        rw [show n + m = (bl n f ++ bl m (fun _ => 0)).length from by rw [List.length_append, bl_length, bl_length]]
        exact List.take_left
      · exact ⟨rfl, rfl, rfl, by simp, fun k hk _ => heap_alloc_old w.drew _ hk⟩
/-- The same within a walk. -/
theorem wpList_zeros {w : World} {ops : Array Oper} {rest : List Oper} {o : Oper} {a : Act} {Q : Exit → Act → World → Prop} (hgd : o.guard = none) (s x : Operand)
    (ho : o.op = .call { callee := .builtin .append, args := #[s, x], argTypes := #[22, 3] })
    (base n m : Nat) (v : Value) (f : Nat → Int) (hs : a.eval s = v) (hv : By.Own w base v n f) (hx : a.eval x = .int .i64 (m : Int)) (h0 : 0 < n) (hn : n + m ≤ 140737488355328) (hb : base ≤ w.heap.size)
    (h : ∀ v' w', By.Own w' base v' (n + m) (cat n f (fun _ => 0)) → w.grownBy w' v.ownBlock → wpList Tryd.prog ops Q rest (a.put o.dst v') w') : wpList Tryd.prog ops Q (o :: rest) a w := by
  obtain ⟨g, cap, rfl, -⟩ := own_cells hv h0
  obtain ⟨v', w', hr, ho', hg'⟩ := run_zeros w o.type base g n cap m f hv hn hb
  exact Lib.wpList_append_run w hgd s x _ _ ho _ _ hs hx v' w' hr (h v' w' ho' hg')
end Go.Proofs.YtnncgniiceglaaaDoor.Vm
