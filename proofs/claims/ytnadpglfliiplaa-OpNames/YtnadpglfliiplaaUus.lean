/- Uses of the program: the names of the fields that a kind uses, in memory of the call's own. -/
import Derived.Test.YtnadpglfliiplaaUta
namespace Go.Proofs.Ytnadpglfliiplaa.Ou
open Go.ChangeShapes Go.WideShapes Go.ChangeAt Go.RowKit
open Go.Proofs.Ytnadpglfliiplaa.Tx (infoT)
/-- Text i of the fields l. -/
def nf (l : List Nat) (i : Nat) : ByteArray := nmS (l.getD i 0)
/-- The names of the fields l, in a list of the call's own. -/
def OL (w : World) (B : Nat) (v : Value) (l : List Nat) : Prop := Tx.Own w B v l.length (nf l)
theorem bl_nf (l : List Nat) : Tx.bl l.length (nf l) = l.map (fun x => Value.string (nmS x)) := by
  apply List.ext_getElem?
  intro i
  by_cases h : i < l.length
  · rw [Tx.bl_get _ _ _ h]; simp [nf, h]
  · rw [List.getElem?_eq_none (by rw [Tx.bl_length]; omega), List.getElem?_eq_none (by simp; omega)]
theorem ol_nil (w : World) (B : Nat) : OL w B (.slice none 0 0) [] := Tx.own_nil _ _ _ (fun _ => trivial)
theorem wpList_name {w : World} {ops : Array Oper} {rest : List Oper} {o : Oper} {a : Act} {Q : Exit → Act → World → Prop} (hgd : o.guard = none) (s x : Operand)
    (ho : o.op = .call { callee := .builtin .append, args := #[s, x], argTypes := #[54, 54] })
    (base y : Nat) (v : Value) (l : List Nat) (t : ByteArray) (ht : t = nmS y) (hs : a.eval s = v) (hv : OL w base v l) (hx : a.eval x = .slice (some ⟨w.heap.size, 0, none⟩) 1 1) (hl : l.length ≤ 10) (hb : base ≤ w.heap.size)
    (h : ∀ v' w', OL w' base v' (l ++ [y]) → w.grownBy w' v.ownBlock → wpList Try.prog ops Q rest (a.put o.dst v') w') : wpList Try.prog ops Q (o :: rest) a (w.alloc (.cells #[.string t] 9)) := by
  obtain ⟨i0, hi, hz0, hz1, hz2⟩ := info_parts infoT
  subst ht
  refine wpList_append_own _ hgd s x 54 ho base 9 i0 (.string ⟨#[]⟩) 1 16 Try.underlying54 hi hz0 hz1 hz2 rfl (by decide) v l.length (Tx.bl l.length (nf l)) hs (hv.2.alloc _) ⟨w.heap.size, 0, none⟩ 1 1 [.string (nmS y)] hx rfl (cell_one_new _ _ _) (by intro v hv; simp at hv; subst hv; rfl) (by simp [maxLen]; omega) (by omega) (by simp; omega) ?_
  intro v' w' hown hgr _
  refine h v' w' ⟨fun _ => trivial, ?_⟩ (By.grown_of_alloc hgr)
  rw [bl_nf, List.length_append, List.map_append, ← bl_nf]
  exact hown
theorem us_cases (k : Int) : (us k = 16 ∧ FL k = [5]) ∨ (us k = 27 ∧ FL k = [1, 2, 4, 5]) ∨ (us k = 17 ∧ FL k = [1, 5]) ∨ (us k = 1 ∧ FL k = [1]) ∨ (us k = 59 ∧ FL k = [1, 2, 4, 5, 6]) ∨ (us k = 31 ∧ FL k = [1, 2, 3, 4, 5]) ∨ (us k = 0 ∧ FL k = []) := by
  unfold us FL
  repeat' split
  all_goals simp
/-- The first j of the six names that are told. -/
def fil (l : List Nat) (j : Nat) : List Nat := l.filter (fun x => decide (x ≤ j))
theorem ix0 (w : World) : (Instr.index 68 (.agg #[.string ⟨#[72, 97, 110, 100, 108, 101]⟩, .string ⟨#[65, 108, 103]⟩, .string ⟨#[67, 111, 117, 110, 116]⟩, .string ⟨#[79, 117, 116]⟩, .string ⟨#[68, 97, 116, 97]⟩, .string ⟨#[77, 111, 114, 101]⟩]) (.int .i64 0)).run Try.prog w = .ok (.string ⟨#[72, 97, 110, 100, 108, 101]⟩) w := by kernel_rfl
theorem ix1 (w : World) : (Instr.index 68 (.agg #[.string ⟨#[72, 97, 110, 100, 108, 101]⟩, .string ⟨#[65, 108, 103]⟩, .string ⟨#[67, 111, 117, 110, 116]⟩, .string ⟨#[79, 117, 116]⟩, .string ⟨#[68, 97, 116, 97]⟩, .string ⟨#[77, 111, 114, 101]⟩]) (.int .i64 1)).run Try.prog w = .ok (.string ⟨#[65, 108, 103]⟩) w := by kernel_rfl
theorem ix2 (w : World) : (Instr.index 68 (.agg #[.string ⟨#[72, 97, 110, 100, 108, 101]⟩, .string ⟨#[65, 108, 103]⟩, .string ⟨#[67, 111, 117, 110, 116]⟩, .string ⟨#[79, 117, 116]⟩, .string ⟨#[68, 97, 116, 97]⟩, .string ⟨#[77, 111, 114, 101]⟩]) (.int .i64 2)).run Try.prog w = .ok (.string ⟨#[67, 111, 117, 110, 116]⟩) w := by kernel_rfl
theorem ix3 (w : World) : (Instr.index 68 (.agg #[.string ⟨#[72, 97, 110, 100, 108, 101]⟩, .string ⟨#[65, 108, 103]⟩, .string ⟨#[67, 111, 117, 110, 116]⟩, .string ⟨#[79, 117, 116]⟩, .string ⟨#[68, 97, 116, 97]⟩, .string ⟨#[77, 111, 114, 101]⟩]) (.int .i64 3)).run Try.prog w = .ok (.string ⟨#[79, 117, 116]⟩) w := by kernel_rfl
theorem ix4 (w : World) : (Instr.index 68 (.agg #[.string ⟨#[72, 97, 110, 100, 108, 101]⟩, .string ⟨#[65, 108, 103]⟩, .string ⟨#[67, 111, 117, 110, 116]⟩, .string ⟨#[79, 117, 116]⟩, .string ⟨#[68, 97, 116, 97]⟩, .string ⟨#[77, 111, 114, 101]⟩]) (.int .i64 4)).run Try.prog w = .ok (.string ⟨#[68, 97, 116, 97]⟩) w := by kernel_rfl
theorem ix5 (w : World) : (Instr.index 68 (.agg #[.string ⟨#[72, 97, 110, 100, 108, 101]⟩, .string ⟨#[65, 108, 103]⟩, .string ⟨#[67, 111, 117, 110, 116]⟩, .string ⟨#[79, 117, 116]⟩, .string ⟨#[68, 97, 116, 97]⟩, .string ⟨#[77, 111, 114, 101]⟩]) (.int .i64 5)).run Try.prog w = .ok (.string ⟨#[77, 111, 114, 101]⟩) w := by kernel_rfl
set_option maxRecDepth 8000 in
set_option maxHeartbeats 2000000 in
theorem uses_16 (k : Int) (w : World) (US : Hid (Calls Try.prog 37 #[.int .u8 k] w fun e w' => e = .returned (.int .u8 16) ∧ w' = w)) : Calls Try.prog 32 #[.int .u8 k] w fun e w' => ∃ v, e = .returned v ∧ OL w' w.heap.size v [5] ∧ Below w.heap.size w w' := by
  go_enter Try.func32, Try.ntmps32
  go_wp2_with fail
  refine US.out.mono ?_
  rintro e W ⟨rfl, rfl⟩
  clear US
  go_wp2
  go_loopw [4, 10] (fun v i wr => ∃ j : Nat, j ≤ 6 ∧ i = .int .i64 j ∧ OL wr W.heap.size v (fil [5] j) ∧ Below W.heap.size W wr) (fun _ i _ => 6 - (intOf i).toNat)
  case atStart => exact ⟨0, by omega, rfl, ol_nil _ _, Below.refl _ _⟩
  case round =>
    obtain ⟨j, hj, rfl, ho, hb⟩ := hrel
    have HB := hid hb
    have hj6 : j = 0 ∨ j = 1 ∨ j = 2 ∨ j = 3 ∨ j = 4 ∨ j = 5 ∨ j = 6 := by omega
    obtain ⟨a4, c4, rfl⟩ : ∃ a c, u4 = .slice a (fil [5] j).length c := by
      obtain ⟨_, a, c, e, _⟩ := ho.reads
      exact ⟨a, c, e⟩
    rcases hj6 with rfl | rfl | rfl | rfl | rfl | rfl | rfl
    · have HO : Hid (OL wr W.heap.size (.slice a4 (fil [5] 0).length c4) []) := hid ho
      clear ho hb hj
      have ix := ix0 wr
      go_wp2
      go_roundw
      case rel => exact ⟨1, by decide, rfl, HO.out, HB.out⟩
      case measure => simp [intOf]
    · have HO : Hid (OL wr W.heap.size (.slice a4 (fil [5] 1).length c4) []) := hid ho
      clear ho hb hj
      have ix := ix1 wr
      go_wp2
      go_roundw
      case rel => exact ⟨2, by decide, rfl, HO.out, HB.out⟩
      case measure => simp [intOf]
    · have HO : Hid (OL wr W.heap.size (.slice a4 (fil [5] 2).length c4) []) := hid ho
      clear ho hb hj
      have ix := ix2 wr
      go_wp2
      go_roundw
      case rel => exact ⟨3, by decide, rfl, HO.out, HB.out⟩
      case measure => simp [intOf]
    · have HO : Hid (OL wr W.heap.size (.slice a4 (fil [5] 3).length c4) []) := hid ho
      clear ho hb hj
      have ix := ix3 wr
      go_wp2
      go_roundw
      case rel => exact ⟨4, by decide, rfl, HO.out, HB.out⟩
      case measure => simp [intOf]
    · have HO : Hid (OL wr W.heap.size (.slice a4 (fil [5] 4).length c4) []) := hid ho
      clear ho hb hj
      have ix := ix4 wr
      go_wp2_with (at_builtin; go_must (refine wpList_name rfl _ _ rfl W.heap.size 5 (.slice a4 (fil [5] 4).length c4) [] _ rfl rfl HO.out rfl (by decide) HB.out.size ?_))
      clear ix
      intro v' w' hv hg
      have HO1 : Hid (OL w' W.heap.size v' (fil [5] 5)) := hid hv
      have HB1 := hid (HB.out.grown hg HB.out.size (Tx.own_row HO.out))
      clear hv hg
      go_wp2
      go_roundw
      case rel => exact ⟨5, by decide, rfl, HO1.out, HB1.out⟩
      case measure => simp [intOf]
    · have HO : Hid (OL wr W.heap.size (.slice a4 (fil [5] 5).length c4) [5]) := hid ho
      clear ho hb hj
      have ix := ix5 wr
      go_wp2
      go_roundw
      case rel => exact ⟨6, by decide, rfl, HO.out, HB.out⟩
      case measure => simp [intOf]
    · have HO : Hid (OL wr W.heap.size (.slice a4 (fil [5] 6).length c4) [5]) := hid ho
      clear ho hb hj
      go_wp2
      go_ret
      exact ⟨_, rfl, HO.out, HB.out⟩
set_option maxRecDepth 8000 in
set_option maxHeartbeats 2000000 in
theorem uses_27 (k : Int) (w : World) (US : Hid (Calls Try.prog 37 #[.int .u8 k] w fun e w' => e = .returned (.int .u8 27) ∧ w' = w)) : Calls Try.prog 32 #[.int .u8 k] w fun e w' => ∃ v, e = .returned v ∧ OL w' w.heap.size v [1, 2, 4, 5] ∧ Below w.heap.size w w' := by
  go_enter Try.func32, Try.ntmps32
  go_wp2_with fail
  refine US.out.mono ?_
  rintro e W ⟨rfl, rfl⟩
  clear US
  go_wp2
  go_loopw [4, 10] (fun v i wr => ∃ j : Nat, j ≤ 6 ∧ i = .int .i64 j ∧ OL wr W.heap.size v (fil [1, 2, 4, 5] j) ∧ Below W.heap.size W wr) (fun _ i _ => 6 - (intOf i).toNat)
  case atStart => exact ⟨0, by omega, rfl, ol_nil _ _, Below.refl _ _⟩
  case round =>
    obtain ⟨j, hj, rfl, ho, hb⟩ := hrel
    have HB := hid hb
    have hj6 : j = 0 ∨ j = 1 ∨ j = 2 ∨ j = 3 ∨ j = 4 ∨ j = 5 ∨ j = 6 := by omega
    obtain ⟨a4, c4, rfl⟩ : ∃ a c, u4 = .slice a (fil [1, 2, 4, 5] j).length c := by
      obtain ⟨_, a, c, e, _⟩ := ho.reads
      exact ⟨a, c, e⟩
    rcases hj6 with rfl | rfl | rfl | rfl | rfl | rfl | rfl
    · have HO : Hid (OL wr W.heap.size (.slice a4 (fil [1, 2, 4, 5] 0).length c4) []) := hid ho
      clear ho hb hj
      have ix := ix0 wr
      go_wp2_with (at_builtin; go_must (refine wpList_name rfl _ _ rfl W.heap.size 1 (.slice a4 (fil [1, 2, 4, 5] 0).length c4) [] _ rfl rfl HO.out rfl (by decide) HB.out.size ?_))
      clear ix
      intro v' w' hv hg
      have HO1 : Hid (OL w' W.heap.size v' (fil [1, 2, 4, 5] 1)) := hid hv
      have HB1 := hid (HB.out.grown hg HB.out.size (Tx.own_row HO.out))
      clear hv hg
      go_wp2
      go_roundw
      case rel => exact ⟨1, by decide, rfl, HO1.out, HB1.out⟩
      case measure => simp [intOf]
    · have HO : Hid (OL wr W.heap.size (.slice a4 (fil [1, 2, 4, 5] 1).length c4) [1]) := hid ho
      clear ho hb hj
      have ix := ix1 wr
      go_wp2_with (at_builtin; go_must (refine wpList_name rfl _ _ rfl W.heap.size 2 (.slice a4 (fil [1, 2, 4, 5] 1).length c4) [1] _ rfl rfl HO.out rfl (by decide) HB.out.size ?_))
      clear ix
      intro v' w' hv hg
      have HO1 : Hid (OL w' W.heap.size v' (fil [1, 2, 4, 5] 2)) := hid hv
      have HB1 := hid (HB.out.grown hg HB.out.size (Tx.own_row HO.out))
      clear hv hg
      go_wp2
      go_roundw
      case rel => exact ⟨2, by decide, rfl, HO1.out, HB1.out⟩
      case measure => simp [intOf]
    · have HO : Hid (OL wr W.heap.size (.slice a4 (fil [1, 2, 4, 5] 2).length c4) [1, 2]) := hid ho
      clear ho hb hj
      have ix := ix2 wr
      go_wp2
      go_roundw
      case rel => exact ⟨3, by decide, rfl, HO.out, HB.out⟩
      case measure => simp [intOf]
    · have HO : Hid (OL wr W.heap.size (.slice a4 (fil [1, 2, 4, 5] 3).length c4) [1, 2]) := hid ho
      clear ho hb hj
      have ix := ix3 wr
      go_wp2_with (at_builtin; go_must (refine wpList_name rfl _ _ rfl W.heap.size 4 (.slice a4 (fil [1, 2, 4, 5] 3).length c4) [1, 2] _ rfl rfl HO.out rfl (by decide) HB.out.size ?_))
      clear ix
      intro v' w' hv hg
      have HO1 : Hid (OL w' W.heap.size v' (fil [1, 2, 4, 5] 4)) := hid hv
      have HB1 := hid (HB.out.grown hg HB.out.size (Tx.own_row HO.out))
      clear hv hg
      go_wp2
      go_roundw
      case rel => exact ⟨4, by decide, rfl, HO1.out, HB1.out⟩
      case measure => simp [intOf]
    · have HO : Hid (OL wr W.heap.size (.slice a4 (fil [1, 2, 4, 5] 4).length c4) [1, 2, 4]) := hid ho
      clear ho hb hj
      have ix := ix4 wr
      go_wp2_with (at_builtin; go_must (refine wpList_name rfl _ _ rfl W.heap.size 5 (.slice a4 (fil [1, 2, 4, 5] 4).length c4) [1, 2, 4] _ rfl rfl HO.out rfl (by decide) HB.out.size ?_))
      clear ix
      intro v' w' hv hg
      have HO1 : Hid (OL w' W.heap.size v' (fil [1, 2, 4, 5] 5)) := hid hv
      have HB1 := hid (HB.out.grown hg HB.out.size (Tx.own_row HO.out))
      clear hv hg
      go_wp2
      go_roundw
      case rel => exact ⟨5, by decide, rfl, HO1.out, HB1.out⟩
      case measure => simp [intOf]
    · have HO : Hid (OL wr W.heap.size (.slice a4 (fil [1, 2, 4, 5] 5).length c4) [1, 2, 4, 5]) := hid ho
      clear ho hb hj
      have ix := ix5 wr
      go_wp2
      go_roundw
      case rel => exact ⟨6, by decide, rfl, HO.out, HB.out⟩
      case measure => simp [intOf]
    · have HO : Hid (OL wr W.heap.size (.slice a4 (fil [1, 2, 4, 5] 6).length c4) [1, 2, 4, 5]) := hid ho
      clear ho hb hj
      go_wp2
      go_ret
      exact ⟨_, rfl, HO.out, HB.out⟩
set_option maxRecDepth 8000 in
set_option maxHeartbeats 2000000 in
theorem uses_17 (k : Int) (w : World) (US : Hid (Calls Try.prog 37 #[.int .u8 k] w fun e w' => e = .returned (.int .u8 17) ∧ w' = w)) : Calls Try.prog 32 #[.int .u8 k] w fun e w' => ∃ v, e = .returned v ∧ OL w' w.heap.size v [1, 5] ∧ Below w.heap.size w w' := by
  go_enter Try.func32, Try.ntmps32
  go_wp2_with fail
  refine US.out.mono ?_
  rintro e W ⟨rfl, rfl⟩
  clear US
  go_wp2
  go_loopw [4, 10] (fun v i wr => ∃ j : Nat, j ≤ 6 ∧ i = .int .i64 j ∧ OL wr W.heap.size v (fil [1, 5] j) ∧ Below W.heap.size W wr) (fun _ i _ => 6 - (intOf i).toNat)
  case atStart => exact ⟨0, by omega, rfl, ol_nil _ _, Below.refl _ _⟩
  case round =>
    obtain ⟨j, hj, rfl, ho, hb⟩ := hrel
    have HB := hid hb
    have hj6 : j = 0 ∨ j = 1 ∨ j = 2 ∨ j = 3 ∨ j = 4 ∨ j = 5 ∨ j = 6 := by omega
    obtain ⟨a4, c4, rfl⟩ : ∃ a c, u4 = .slice a (fil [1, 5] j).length c := by
      obtain ⟨_, a, c, e, _⟩ := ho.reads
      exact ⟨a, c, e⟩
    rcases hj6 with rfl | rfl | rfl | rfl | rfl | rfl | rfl
    · have HO : Hid (OL wr W.heap.size (.slice a4 (fil [1, 5] 0).length c4) []) := hid ho
      clear ho hb hj
      have ix := ix0 wr
      go_wp2_with (at_builtin; go_must (refine wpList_name rfl _ _ rfl W.heap.size 1 (.slice a4 (fil [1, 5] 0).length c4) [] _ rfl rfl HO.out rfl (by decide) HB.out.size ?_))
      clear ix
      intro v' w' hv hg
      have HO1 : Hid (OL w' W.heap.size v' (fil [1, 5] 1)) := hid hv
      have HB1 := hid (HB.out.grown hg HB.out.size (Tx.own_row HO.out))
      clear hv hg
      go_wp2
      go_roundw
      case rel => exact ⟨1, by decide, rfl, HO1.out, HB1.out⟩
      case measure => simp [intOf]
    · have HO : Hid (OL wr W.heap.size (.slice a4 (fil [1, 5] 1).length c4) [1]) := hid ho
      clear ho hb hj
      have ix := ix1 wr
      go_wp2
      go_roundw
      case rel => exact ⟨2, by decide, rfl, HO.out, HB.out⟩
      case measure => simp [intOf]
    · have HO : Hid (OL wr W.heap.size (.slice a4 (fil [1, 5] 2).length c4) [1]) := hid ho
      clear ho hb hj
      have ix := ix2 wr
      go_wp2
      go_roundw
      case rel => exact ⟨3, by decide, rfl, HO.out, HB.out⟩
      case measure => simp [intOf]
    · have HO : Hid (OL wr W.heap.size (.slice a4 (fil [1, 5] 3).length c4) [1]) := hid ho
      clear ho hb hj
      have ix := ix3 wr
      go_wp2
      go_roundw
      case rel => exact ⟨4, by decide, rfl, HO.out, HB.out⟩
      case measure => simp [intOf]
    · have HO : Hid (OL wr W.heap.size (.slice a4 (fil [1, 5] 4).length c4) [1]) := hid ho
      clear ho hb hj
      have ix := ix4 wr
      go_wp2_with (at_builtin; go_must (refine wpList_name rfl _ _ rfl W.heap.size 5 (.slice a4 (fil [1, 5] 4).length c4) [1] _ rfl rfl HO.out rfl (by decide) HB.out.size ?_))
      clear ix
      intro v' w' hv hg
      have HO1 : Hid (OL w' W.heap.size v' (fil [1, 5] 5)) := hid hv
      have HB1 := hid (HB.out.grown hg HB.out.size (Tx.own_row HO.out))
      clear hv hg
      go_wp2
      go_roundw
      case rel => exact ⟨5, by decide, rfl, HO1.out, HB1.out⟩
      case measure => simp [intOf]
    · have HO : Hid (OL wr W.heap.size (.slice a4 (fil [1, 5] 5).length c4) [1, 5]) := hid ho
      clear ho hb hj
      have ix := ix5 wr
      go_wp2
      go_roundw
      case rel => exact ⟨6, by decide, rfl, HO.out, HB.out⟩
      case measure => simp [intOf]
    · have HO : Hid (OL wr W.heap.size (.slice a4 (fil [1, 5] 6).length c4) [1, 5]) := hid ho
      clear ho hb hj
      go_wp2
      go_ret
      exact ⟨_, rfl, HO.out, HB.out⟩
set_option maxRecDepth 8000 in
set_option maxHeartbeats 2000000 in
theorem uses_1 (k : Int) (w : World) (US : Hid (Calls Try.prog 37 #[.int .u8 k] w fun e w' => e = .returned (.int .u8 1) ∧ w' = w)) : Calls Try.prog 32 #[.int .u8 k] w fun e w' => ∃ v, e = .returned v ∧ OL w' w.heap.size v [1] ∧ Below w.heap.size w w' := by
  go_enter Try.func32, Try.ntmps32
  go_wp2_with fail
  refine US.out.mono ?_
  rintro e W ⟨rfl, rfl⟩
  clear US
  go_wp2
  go_loopw [4, 10] (fun v i wr => ∃ j : Nat, j ≤ 6 ∧ i = .int .i64 j ∧ OL wr W.heap.size v (fil [1] j) ∧ Below W.heap.size W wr) (fun _ i _ => 6 - (intOf i).toNat)
  case atStart => exact ⟨0, by omega, rfl, ol_nil _ _, Below.refl _ _⟩
  case round =>
    obtain ⟨j, hj, rfl, ho, hb⟩ := hrel
    have HB := hid hb
    have hj6 : j = 0 ∨ j = 1 ∨ j = 2 ∨ j = 3 ∨ j = 4 ∨ j = 5 ∨ j = 6 := by omega
    obtain ⟨a4, c4, rfl⟩ : ∃ a c, u4 = .slice a (fil [1] j).length c := by
      obtain ⟨_, a, c, e, _⟩ := ho.reads
      exact ⟨a, c, e⟩
    rcases hj6 with rfl | rfl | rfl | rfl | rfl | rfl | rfl
    · have HO : Hid (OL wr W.heap.size (.slice a4 (fil [1] 0).length c4) []) := hid ho
      clear ho hb hj
      have ix := ix0 wr
      go_wp2_with (at_builtin; go_must (refine wpList_name rfl _ _ rfl W.heap.size 1 (.slice a4 (fil [1] 0).length c4) [] _ rfl rfl HO.out rfl (by decide) HB.out.size ?_))
      clear ix
      intro v' w' hv hg
      have HO1 : Hid (OL w' W.heap.size v' (fil [1] 1)) := hid hv
      have HB1 := hid (HB.out.grown hg HB.out.size (Tx.own_row HO.out))
      clear hv hg
      go_wp2
      go_roundw
      case rel => exact ⟨1, by decide, rfl, HO1.out, HB1.out⟩
      case measure => simp [intOf]
    · have HO : Hid (OL wr W.heap.size (.slice a4 (fil [1] 1).length c4) [1]) := hid ho
      clear ho hb hj
      have ix := ix1 wr
      go_wp2
      go_roundw
      case rel => exact ⟨2, by decide, rfl, HO.out, HB.out⟩
      case measure => simp [intOf]
    · have HO : Hid (OL wr W.heap.size (.slice a4 (fil [1] 2).length c4) [1]) := hid ho
      clear ho hb hj
      have ix := ix2 wr
      go_wp2
      go_roundw
      case rel => exact ⟨3, by decide, rfl, HO.out, HB.out⟩
      case measure => simp [intOf]
    · have HO : Hid (OL wr W.heap.size (.slice a4 (fil [1] 3).length c4) [1]) := hid ho
      clear ho hb hj
      have ix := ix3 wr
      go_wp2
      go_roundw
      case rel => exact ⟨4, by decide, rfl, HO.out, HB.out⟩
      case measure => simp [intOf]
    · have HO : Hid (OL wr W.heap.size (.slice a4 (fil [1] 4).length c4) [1]) := hid ho
      clear ho hb hj
      have ix := ix4 wr
      go_wp2
      go_roundw
      case rel => exact ⟨5, by decide, rfl, HO.out, HB.out⟩
      case measure => simp [intOf]
    · have HO : Hid (OL wr W.heap.size (.slice a4 (fil [1] 5).length c4) [1]) := hid ho
      clear ho hb hj
      have ix := ix5 wr
      go_wp2
      go_roundw
      case rel => exact ⟨6, by decide, rfl, HO.out, HB.out⟩
      case measure => simp [intOf]
    · have HO : Hid (OL wr W.heap.size (.slice a4 (fil [1] 6).length c4) [1]) := hid ho
      clear ho hb hj
      go_wp2
      go_ret
      exact ⟨_, rfl, HO.out, HB.out⟩
set_option maxRecDepth 8000 in
set_option maxHeartbeats 2000000 in
theorem uses_59 (k : Int) (w : World) (US : Hid (Calls Try.prog 37 #[.int .u8 k] w fun e w' => e = .returned (.int .u8 59) ∧ w' = w)) : Calls Try.prog 32 #[.int .u8 k] w fun e w' => ∃ v, e = .returned v ∧ OL w' w.heap.size v [1, 2, 4, 5, 6] ∧ Below w.heap.size w w' := by
  go_enter Try.func32, Try.ntmps32
  go_wp2_with fail
  refine US.out.mono ?_
  rintro e W ⟨rfl, rfl⟩
  clear US
  go_wp2
  go_loopw [4, 10] (fun v i wr => ∃ j : Nat, j ≤ 6 ∧ i = .int .i64 j ∧ OL wr W.heap.size v (fil [1, 2, 4, 5, 6] j) ∧ Below W.heap.size W wr) (fun _ i _ => 6 - (intOf i).toNat)
  case atStart => exact ⟨0, by omega, rfl, ol_nil _ _, Below.refl _ _⟩
  case round =>
    obtain ⟨j, hj, rfl, ho, hb⟩ := hrel
    have HB := hid hb
    have hj6 : j = 0 ∨ j = 1 ∨ j = 2 ∨ j = 3 ∨ j = 4 ∨ j = 5 ∨ j = 6 := by omega
    obtain ⟨a4, c4, rfl⟩ : ∃ a c, u4 = .slice a (fil [1, 2, 4, 5, 6] j).length c := by
      obtain ⟨_, a, c, e, _⟩ := ho.reads
      exact ⟨a, c, e⟩
    rcases hj6 with rfl | rfl | rfl | rfl | rfl | rfl | rfl
    · have HO : Hid (OL wr W.heap.size (.slice a4 (fil [1, 2, 4, 5, 6] 0).length c4) []) := hid ho
      clear ho hb hj
      have ix := ix0 wr
      go_wp2_with (at_builtin; go_must (refine wpList_name rfl _ _ rfl W.heap.size 1 (.slice a4 (fil [1, 2, 4, 5, 6] 0).length c4) [] _ rfl rfl HO.out rfl (by decide) HB.out.size ?_))
      clear ix
      intro v' w' hv hg
      have HO1 : Hid (OL w' W.heap.size v' (fil [1, 2, 4, 5, 6] 1)) := hid hv
      have HB1 := hid (HB.out.grown hg HB.out.size (Tx.own_row HO.out))
      clear hv hg
      go_wp2
      go_roundw
      case rel => exact ⟨1, by decide, rfl, HO1.out, HB1.out⟩
      case measure => simp [intOf]
    · have HO : Hid (OL wr W.heap.size (.slice a4 (fil [1, 2, 4, 5, 6] 1).length c4) [1]) := hid ho
      clear ho hb hj
      have ix := ix1 wr
      go_wp2_with (at_builtin; go_must (refine wpList_name rfl _ _ rfl W.heap.size 2 (.slice a4 (fil [1, 2, 4, 5, 6] 1).length c4) [1] _ rfl rfl HO.out rfl (by decide) HB.out.size ?_))
      clear ix
      intro v' w' hv hg
      have HO1 : Hid (OL w' W.heap.size v' (fil [1, 2, 4, 5, 6] 2)) := hid hv
      have HB1 := hid (HB.out.grown hg HB.out.size (Tx.own_row HO.out))
      clear hv hg
      go_wp2
      go_roundw
      case rel => exact ⟨2, by decide, rfl, HO1.out, HB1.out⟩
      case measure => simp [intOf]
    · have HO : Hid (OL wr W.heap.size (.slice a4 (fil [1, 2, 4, 5, 6] 2).length c4) [1, 2]) := hid ho
      clear ho hb hj
      have ix := ix2 wr
      go_wp2
      go_roundw
      case rel => exact ⟨3, by decide, rfl, HO.out, HB.out⟩
      case measure => simp [intOf]
    · have HO : Hid (OL wr W.heap.size (.slice a4 (fil [1, 2, 4, 5, 6] 3).length c4) [1, 2]) := hid ho
      clear ho hb hj
      have ix := ix3 wr
      go_wp2_with (at_builtin; go_must (refine wpList_name rfl _ _ rfl W.heap.size 4 (.slice a4 (fil [1, 2, 4, 5, 6] 3).length c4) [1, 2] _ rfl rfl HO.out rfl (by decide) HB.out.size ?_))
      clear ix
      intro v' w' hv hg
      have HO1 : Hid (OL w' W.heap.size v' (fil [1, 2, 4, 5, 6] 4)) := hid hv
      have HB1 := hid (HB.out.grown hg HB.out.size (Tx.own_row HO.out))
      clear hv hg
      go_wp2
      go_roundw
      case rel => exact ⟨4, by decide, rfl, HO1.out, HB1.out⟩
      case measure => simp [intOf]
    · have HO : Hid (OL wr W.heap.size (.slice a4 (fil [1, 2, 4, 5, 6] 4).length c4) [1, 2, 4]) := hid ho
      clear ho hb hj
      have ix := ix4 wr
      go_wp2_with (at_builtin; go_must (refine wpList_name rfl _ _ rfl W.heap.size 5 (.slice a4 (fil [1, 2, 4, 5, 6] 4).length c4) [1, 2, 4] _ rfl rfl HO.out rfl (by decide) HB.out.size ?_))
      clear ix
      intro v' w' hv hg
      have HO1 : Hid (OL w' W.heap.size v' (fil [1, 2, 4, 5, 6] 5)) := hid hv
      have HB1 := hid (HB.out.grown hg HB.out.size (Tx.own_row HO.out))
      clear hv hg
      go_wp2
      go_roundw
      case rel => exact ⟨5, by decide, rfl, HO1.out, HB1.out⟩
      case measure => simp [intOf]
    · have HO : Hid (OL wr W.heap.size (.slice a4 (fil [1, 2, 4, 5, 6] 5).length c4) [1, 2, 4, 5]) := hid ho
      clear ho hb hj
      have ix := ix5 wr
      go_wp2_with (at_builtin; go_must (refine wpList_name rfl _ _ rfl W.heap.size 6 (.slice a4 (fil [1, 2, 4, 5, 6] 5).length c4) [1, 2, 4, 5] _ rfl rfl HO.out rfl (by decide) HB.out.size ?_))
      clear ix
      intro v' w' hv hg
      have HO1 : Hid (OL w' W.heap.size v' (fil [1, 2, 4, 5, 6] 6)) := hid hv
      have HB1 := hid (HB.out.grown hg HB.out.size (Tx.own_row HO.out))
      clear hv hg
      go_wp2
      go_roundw
      case rel => exact ⟨6, by decide, rfl, HO1.out, HB1.out⟩
      case measure => simp [intOf]
    · have HO : Hid (OL wr W.heap.size (.slice a4 (fil [1, 2, 4, 5, 6] 6).length c4) [1, 2, 4, 5, 6]) := hid ho
      clear ho hb hj
      go_wp2
      go_ret
      exact ⟨_, rfl, HO.out, HB.out⟩
set_option maxRecDepth 8000 in
set_option maxHeartbeats 2000000 in
theorem uses_31 (k : Int) (w : World) (US : Hid (Calls Try.prog 37 #[.int .u8 k] w fun e w' => e = .returned (.int .u8 31) ∧ w' = w)) : Calls Try.prog 32 #[.int .u8 k] w fun e w' => ∃ v, e = .returned v ∧ OL w' w.heap.size v [1, 2, 3, 4, 5] ∧ Below w.heap.size w w' := by
  go_enter Try.func32, Try.ntmps32
  go_wp2_with fail
  refine US.out.mono ?_
  rintro e W ⟨rfl, rfl⟩
  clear US
  go_wp2
  go_loopw [4, 10] (fun v i wr => ∃ j : Nat, j ≤ 6 ∧ i = .int .i64 j ∧ OL wr W.heap.size v (fil [1, 2, 3, 4, 5] j) ∧ Below W.heap.size W wr) (fun _ i _ => 6 - (intOf i).toNat)
  case atStart => exact ⟨0, by omega, rfl, ol_nil _ _, Below.refl _ _⟩
  case round =>
    obtain ⟨j, hj, rfl, ho, hb⟩ := hrel
    have HB := hid hb
    have hj6 : j = 0 ∨ j = 1 ∨ j = 2 ∨ j = 3 ∨ j = 4 ∨ j = 5 ∨ j = 6 := by omega
    obtain ⟨a4, c4, rfl⟩ : ∃ a c, u4 = .slice a (fil [1, 2, 3, 4, 5] j).length c := by
      obtain ⟨_, a, c, e, _⟩ := ho.reads
      exact ⟨a, c, e⟩
    rcases hj6 with rfl | rfl | rfl | rfl | rfl | rfl | rfl
    · have HO : Hid (OL wr W.heap.size (.slice a4 (fil [1, 2, 3, 4, 5] 0).length c4) []) := hid ho
      clear ho hb hj
      have ix := ix0 wr
      go_wp2_with (at_builtin; go_must (refine wpList_name rfl _ _ rfl W.heap.size 1 (.slice a4 (fil [1, 2, 3, 4, 5] 0).length c4) [] _ rfl rfl HO.out rfl (by decide) HB.out.size ?_))
      clear ix
      intro v' w' hv hg
      have HO1 : Hid (OL w' W.heap.size v' (fil [1, 2, 3, 4, 5] 1)) := hid hv
      have HB1 := hid (HB.out.grown hg HB.out.size (Tx.own_row HO.out))
      clear hv hg
      go_wp2
      go_roundw
      case rel => exact ⟨1, by decide, rfl, HO1.out, HB1.out⟩
      case measure => simp [intOf]
    · have HO : Hid (OL wr W.heap.size (.slice a4 (fil [1, 2, 3, 4, 5] 1).length c4) [1]) := hid ho
      clear ho hb hj
      have ix := ix1 wr
      go_wp2_with (at_builtin; go_must (refine wpList_name rfl _ _ rfl W.heap.size 2 (.slice a4 (fil [1, 2, 3, 4, 5] 1).length c4) [1] _ rfl rfl HO.out rfl (by decide) HB.out.size ?_))
      clear ix
      intro v' w' hv hg
      have HO1 : Hid (OL w' W.heap.size v' (fil [1, 2, 3, 4, 5] 2)) := hid hv
      have HB1 := hid (HB.out.grown hg HB.out.size (Tx.own_row HO.out))
      clear hv hg
      go_wp2
      go_roundw
      case rel => exact ⟨2, by decide, rfl, HO1.out, HB1.out⟩
      case measure => simp [intOf]
    · have HO : Hid (OL wr W.heap.size (.slice a4 (fil [1, 2, 3, 4, 5] 2).length c4) [1, 2]) := hid ho
      clear ho hb hj
      have ix := ix2 wr
      go_wp2_with (at_builtin; go_must (refine wpList_name rfl _ _ rfl W.heap.size 3 (.slice a4 (fil [1, 2, 3, 4, 5] 2).length c4) [1, 2] _ rfl rfl HO.out rfl (by decide) HB.out.size ?_))
      clear ix
      intro v' w' hv hg
      have HO1 : Hid (OL w' W.heap.size v' (fil [1, 2, 3, 4, 5] 3)) := hid hv
      have HB1 := hid (HB.out.grown hg HB.out.size (Tx.own_row HO.out))
      clear hv hg
      go_wp2
      go_roundw
      case rel => exact ⟨3, by decide, rfl, HO1.out, HB1.out⟩
      case measure => simp [intOf]
    · have HO : Hid (OL wr W.heap.size (.slice a4 (fil [1, 2, 3, 4, 5] 3).length c4) [1, 2, 3]) := hid ho
      clear ho hb hj
      have ix := ix3 wr
      go_wp2_with (at_builtin; go_must (refine wpList_name rfl _ _ rfl W.heap.size 4 (.slice a4 (fil [1, 2, 3, 4, 5] 3).length c4) [1, 2, 3] _ rfl rfl HO.out rfl (by decide) HB.out.size ?_))
      clear ix
      intro v' w' hv hg
      have HO1 : Hid (OL w' W.heap.size v' (fil [1, 2, 3, 4, 5] 4)) := hid hv
      have HB1 := hid (HB.out.grown hg HB.out.size (Tx.own_row HO.out))
      clear hv hg
      go_wp2
      go_roundw
      case rel => exact ⟨4, by decide, rfl, HO1.out, HB1.out⟩
      case measure => simp [intOf]
    · have HO : Hid (OL wr W.heap.size (.slice a4 (fil [1, 2, 3, 4, 5] 4).length c4) [1, 2, 3, 4]) := hid ho
      clear ho hb hj
      have ix := ix4 wr
      go_wp2_with (at_builtin; go_must (refine wpList_name rfl _ _ rfl W.heap.size 5 (.slice a4 (fil [1, 2, 3, 4, 5] 4).length c4) [1, 2, 3, 4] _ rfl rfl HO.out rfl (by decide) HB.out.size ?_))
      clear ix
      intro v' w' hv hg
      have HO1 : Hid (OL w' W.heap.size v' (fil [1, 2, 3, 4, 5] 5)) := hid hv
      have HB1 := hid (HB.out.grown hg HB.out.size (Tx.own_row HO.out))
      clear hv hg
      go_wp2
      go_roundw
      case rel => exact ⟨5, by decide, rfl, HO1.out, HB1.out⟩
      case measure => simp [intOf]
    · have HO : Hid (OL wr W.heap.size (.slice a4 (fil [1, 2, 3, 4, 5] 5).length c4) [1, 2, 3, 4, 5]) := hid ho
      clear ho hb hj
      have ix := ix5 wr
      go_wp2
      go_roundw
      case rel => exact ⟨6, by decide, rfl, HO.out, HB.out⟩
      case measure => simp [intOf]
    · have HO : Hid (OL wr W.heap.size (.slice a4 (fil [1, 2, 3, 4, 5] 6).length c4) [1, 2, 3, 4, 5]) := hid ho
      clear ho hb hj
      go_wp2
      go_ret
      exact ⟨_, rfl, HO.out, HB.out⟩
set_option maxRecDepth 8000 in
set_option maxHeartbeats 2000000 in
theorem uses_0 (k : Int) (w : World) (US : Hid (Calls Try.prog 37 #[.int .u8 k] w fun e w' => e = .returned (.int .u8 0) ∧ w' = w)) : Calls Try.prog 32 #[.int .u8 k] w fun e w' => ∃ v, e = .returned v ∧ OL w' w.heap.size v [] ∧ Below w.heap.size w w' := by
  go_enter Try.func32, Try.ntmps32
  go_wp2_with fail
  refine US.out.mono ?_
  rintro e W ⟨rfl, rfl⟩
  clear US
  go_wp2
  go_loopw [4, 10] (fun v i wr => ∃ j : Nat, j ≤ 6 ∧ i = .int .i64 j ∧ OL wr W.heap.size v (fil [] j) ∧ Below W.heap.size W wr) (fun _ i _ => 6 - (intOf i).toNat)
  case atStart => exact ⟨0, by omega, rfl, ol_nil _ _, Below.refl _ _⟩
  case round =>
    obtain ⟨j, hj, rfl, ho, hb⟩ := hrel
    have HB := hid hb
    have hj6 : j = 0 ∨ j = 1 ∨ j = 2 ∨ j = 3 ∨ j = 4 ∨ j = 5 ∨ j = 6 := by omega
    obtain ⟨a4, c4, rfl⟩ : ∃ a c, u4 = .slice a (fil [] j).length c := by
      obtain ⟨_, a, c, e, _⟩ := ho.reads
      exact ⟨a, c, e⟩
    rcases hj6 with rfl | rfl | rfl | rfl | rfl | rfl | rfl
    · have HO : Hid (OL wr W.heap.size (.slice a4 (fil [] 0).length c4) []) := hid ho
      clear ho hb hj
      have ix := ix0 wr
      go_wp2
      go_roundw
      case rel => exact ⟨1, by decide, rfl, HO.out, HB.out⟩
      case measure => simp [intOf]
    · have HO : Hid (OL wr W.heap.size (.slice a4 (fil [] 1).length c4) []) := hid ho
      clear ho hb hj
      have ix := ix1 wr
      go_wp2
      go_roundw
      case rel => exact ⟨2, by decide, rfl, HO.out, HB.out⟩
      case measure => simp [intOf]
    · have HO : Hid (OL wr W.heap.size (.slice a4 (fil [] 2).length c4) []) := hid ho
      clear ho hb hj
      have ix := ix2 wr
      go_wp2
      go_roundw
      case rel => exact ⟨3, by decide, rfl, HO.out, HB.out⟩
      case measure => simp [intOf]
    · have HO : Hid (OL wr W.heap.size (.slice a4 (fil [] 3).length c4) []) := hid ho
      clear ho hb hj
      have ix := ix3 wr
      go_wp2
      go_roundw
      case rel => exact ⟨4, by decide, rfl, HO.out, HB.out⟩
      case measure => simp [intOf]
    · have HO : Hid (OL wr W.heap.size (.slice a4 (fil [] 4).length c4) []) := hid ho
      clear ho hb hj
      have ix := ix4 wr
      go_wp2
      go_roundw
      case rel => exact ⟨5, by decide, rfl, HO.out, HB.out⟩
      case measure => simp [intOf]
    · have HO : Hid (OL wr W.heap.size (.slice a4 (fil [] 5).length c4) []) := hid ho
      clear ho hb hj
      have ix := ix5 wr
      go_wp2
      go_roundw
      case rel => exact ⟨6, by decide, rfl, HO.out, HB.out⟩
      case measure => simp [intOf]
    · have HO : Hid (OL wr W.heap.size (.slice a4 (fil [] 6).length c4) []) := hid ho
      clear ho hb hj
      go_wp2
      go_ret
      exact ⟨_, rfl, HO.out, HB.out⟩
theorem uses_ok (k : Int) (w : World) : Calls Try.prog 32 #[.int .u8 k] w fun e w' => ∃ v, e = .returned v ∧ OL w' w.heap.size v (FL k) ∧ Below w.heap.size w w' := by
  have US := hid (used_ok k w)
  obtain ⟨u, hu⟩ : ∃ u, us k = u := ⟨_, rfl⟩
  obtain ⟨l, hl⟩ : ∃ l, FL k = l := ⟨_, rfl⟩
  have hc := us_cases k
  rw [hu, hl] at hc
  rw [hu] at US
  rw [hl]
  clear hu hl
  rcases hc with ⟨rfl, rfl⟩ | ⟨rfl, rfl⟩ | ⟨rfl, rfl⟩ | ⟨rfl, rfl⟩ | ⟨rfl, rfl⟩ | ⟨rfl, rfl⟩ | ⟨rfl, rfl⟩
  · exact uses_16 k w US
  · exact uses_27 k w US
  · exact uses_17 k w US
  · exact uses_1 k w US
  · exact uses_59 k w US
  · exact uses_31 k w US
  · exact uses_0 k w US
end Go.Proofs.Ytnadpglfliiplaa.Ou
