/- What a cipher that is none answers; blocks held against each other; the statements' helpers 'block', 'rising' and 'runs'. -/
import Derived.Test.YtbommnigljmfkaaDoorAops2
import Derived.Test.YtbommnigljmfkaaDoorRreads
import Derived.Test.YtbommnigljmfkaaDoorRlen
import Derived.ChangeKeysEq
namespace Go.Proofs.YtbommnigljmfkaaDoor.Ae
open Go.ChangeShapes Go.WideShapes Go.ChangeAt Go.RowKit
open Go.Proofs.YtbommnigljmfkaaDoor.By Go.Proofs.YtbommnigljmfkaaDoor.Gf
open Go.Proofs.YtbommnigljmfkaaDoor.Kc (own_kept own_mono own8_type cat cat_bound wpList_cat below_grow)
/-- The value is no cipher's. -/
def Nn (w : World) (v : Value) : Prop := v = .pointer none ∨ ∃ g, v = .pointer (some ⟨g, 0, none⟩) ∧ NoCi w g
theorem Nn.below {w w' : World} {v : Value} (h : Nn w v) (hb : Below w.heap.size w w') : Nn w' v := by
  rcases h with h | ⟨g, h, hn⟩
  · exact .inl h
  · exact .inr ⟨g, h, hn.below hb⟩
theorem isNone_nn (v : Value) (w : World) (h : Nn w v) : Calls Tryd.prog 45 #[v] w fun e w' => e = .returned (.bool true) ∧ w' = w := by
  rcases h with rfl | ⟨g, rfl, hn⟩
  · exact isNone_nil w
  · exact isNone_no g w hn.c0
theorem keyLen_nn (v : Value) (w : World) (h : Nn w v) : Calls Tryd.prog 26 #[v] w fun e w' => e = .returned (.int .i64 0) ∧ w' = w := by
  rcases h with rfl | ⟨g, rfl, hn⟩
  · exact keyLen_nil w
  · exact keyLen_no g w hn.c0
theorem form_nn (v : Value) (w : World) (h : Nn w v) : Calls Tryd.prog 27 #[v] w fun e w' => e = .returned (.slice none 0 0) ∧ w' = w := by
  have H := hid h
  clear h
  go_enter Tryd.func27, Tryd.ntmps27
  go_wp2_with (go_at_call 45; refine (isNone_nn v _ H.out).mono ?_; rintro e w' ⟨rfl, hw'⟩; subst w')
  go_ret
  exact ⟨rfl, rfl⟩
theorem clone_nn (v : Value) (w : World) (h : Nn w v) : Calls Tryd.prog 28 #[v] w fun e w' => e = .returned (.tuple #[.pointer none, .int .i64 1]) ∧ w' = w := by
  have H := hid h
  clear h
  go_enter Tryd.func28, Tryd.ntmps28
  go_wp2_with (go_at_call 45; refine (isNone_nn v _ H.out).mono ?_; rintro e w' ⟨rfl, hw'⟩; subst w')
  go_ret2
  exact ⟨rfl, rfl⟩
theorem wipe_nn (v lv : Value) (w : World) (h : Nn w v) : Calls Tryd.prog 19 #[v, lv] w fun e w' => e = .returned (.int .i64 1) ∧ w' = w := by
  have H := hid h
  clear h
  go_enter Tryd.func19, Tryd.ntmps19
  go_wp2_with (go_at_call 45; refine (isNone_nn v _ H.out).mono ?_; rintro e w' ⟨rfl, hw'⟩; subst w')
  go_ret
  exact ⟨rfl, rfl⟩
def nul (_ : Nat) : Nat := 0
theorem zeroN : #[Value.int IntKind.u8 0, Value.int IntKind.u8 0, Value.int IntKind.u8 0, Value.int IntKind.u8 0, Value.int IntKind.u8 0, Value.int IntKind.u8 0, Value.int IntKind.u8 0, Value.int IntKind.u8 0, Value.int IntKind.u8 0, Value.int IntKind.u8 0, Value.int IntKind.u8 0, Value.int IntKind.u8 0, Value.int IntKind.u8 0, Value.int IntKind.u8 0, Value.int IntKind.u8 0, Value.int IntKind.u8 0] = (bl 16 (cb nul)).toArray := rfl
set_option maxRecDepth 8000 in
set_option maxHeartbeats 4000000 in
theorem enc_nn (v lv : Value) (b : Nat → Nat) (w : World) (h : Nn w v) : Calls Tryd.prog 22 #[v, lv, bv b] w fun e w' => e = .returned (.tuple #[bv nul, .int .i64 1]) ∧ Below w.heap.size w w' := by
  have bel := hid ((below_alloc w (.cells (bl 16 (cb b)).toArray 58)).alloc (by simp) (.cells (bl 16 (cb nul)).toArray 58))
  have A1 := hid (Blk.newAt (w.alloc (.cells (bl 16 (cb b)).toArray 58)) _ (bl 16 (cb nul)) 58 (w.heap.size + 1) (by simp) rfl)
  have H := hid (h.below bel.out)
  rw [← zeroN] at bel A1 H
  clear h
  unfold bv
  go_enter Tryd.func22, Tryd.ntmps22
  go_wp2_with fail
  generalize ((w.alloc (Obj.cells (bl 16 (cb b)).toArray 58)).alloc (Obj.cells #[Value.int IntKind.u8 0, Value.int IntKind.u8 0, Value.int IntKind.u8 0, Value.int IntKind.u8 0, Value.int IntKind.u8 0, Value.int IntKind.u8 0, Value.int IntKind.u8 0, Value.int IntKind.u8 0, Value.int IntKind.u8 0, Value.int IntKind.u8 0, Value.int IntKind.u8 0, Value.int IntKind.u8 0, Value.int IntKind.u8 0, Value.int IntKind.u8 0, Value.int IntKind.u8 0, Value.int IntKind.u8 0] 58)) = W2 at *
  refine (isNone_nn v _ H.out).mono ?_
  rintro e w' ⟨rfl, hw'⟩
  subst w'
  have s1 := SVb_run (cs := bl 16 (cb nul)) (A1.out.there 0 16 (by rw [bl_length]; omega)) (bl_length _ _) (bl_one _ _)
  have b1 := A1.out.put 0 (bl 16 (cb nul))
  rw [put_all _ _ rfl] at b1
  have l1 := hid (LDb_run (range0 b1) (bl_length _ _))
  rw [← zeroN] at s1
  clear b1
  go_wp2_with fail
  have hz := A1.out.lt
  refine bodyPost_ret ?_ rfl ⟨rfl, below_cells bel.out _ _ _ (by omega) bel.out.size⟩
  exact results_cell2 Tryd.results22 rfl rfl l1.out
set_option maxRecDepth 8000 in
set_option maxHeartbeats 4000000 in
theorem dec_nn (v lv : Value) (b : Nat → Nat) (w : World) (h : Nn w v) : Calls Tryd.prog 24 #[v, lv, bv b] w fun e w' => e = .returned (.tuple #[bv nul, .int .i64 1]) ∧ Below w.heap.size w w' := by
  have bel := hid ((below_alloc w (.cells (bl 16 (cb b)).toArray 58)).alloc (by simp) (.cells (bl 16 (cb nul)).toArray 58))
  have A1 := hid (Blk.newAt (w.alloc (.cells (bl 16 (cb b)).toArray 58)) _ (bl 16 (cb nul)) 58 (w.heap.size + 1) (by simp) rfl)
  have H := hid (h.below bel.out)
  rw [← zeroN] at bel A1 H
  clear h
  unfold bv
  go_enter Tryd.func24, Tryd.ntmps24
  go_wp2_with fail
  generalize ((w.alloc (Obj.cells (bl 16 (cb b)).toArray 58)).alloc (Obj.cells #[Value.int IntKind.u8 0, Value.int IntKind.u8 0, Value.int IntKind.u8 0, Value.int IntKind.u8 0, Value.int IntKind.u8 0, Value.int IntKind.u8 0, Value.int IntKind.u8 0, Value.int IntKind.u8 0, Value.int IntKind.u8 0, Value.int IntKind.u8 0, Value.int IntKind.u8 0, Value.int IntKind.u8 0, Value.int IntKind.u8 0, Value.int IntKind.u8 0, Value.int IntKind.u8 0, Value.int IntKind.u8 0] 58)) = W2 at *
  refine (isNone_nn v _ H.out).mono ?_
  rintro e w' ⟨rfl, hw'⟩
  subst w'
  have s1 := SVb_run (cs := bl 16 (cb nul)) (A1.out.there 0 16 (by rw [bl_length]; omega)) (bl_length _ _) (bl_one _ _)
  have b1 := A1.out.put 0 (bl 16 (cb nul))
  rw [put_all _ _ rfl] at b1
  have l1 := hid (LDb_run (range0 b1) (bl_length _ _))
  rw [← zeroN] at s1
  clear b1
  go_wp2_with fail
  have hz := A1.out.lt
  refine bodyPost_ret ?_ rfl ⟨rfl, below_cells bel.out _ _ _ (by omega) bel.out.size⟩
  exact results_cell2 Tryd.results24 rfl rfl l1.out
theorem eqItems_run {P : Program} (w : World) (d : Nat) (e : TypeId) (k k' : IntKind) (hu : P.underlying e = some (.int k')) (xs ys : Array Value) (f g : Nat → Int) : ∀ (is : List Nat), (∀ i ∈ is, xs[i]? = some (.int k (f i)) ∧ ys[i]? = some (.int k (g i))) →
    (Op.eqItems (d + 1) e 1 xs ys is).run P w = .ok (is.all fun i => f i == g i) w
  | [], _ => by simp [Op.eqItems]
  | i :: is, h => by
    have h1 := (h i (by simp)).1
    have h2 := (h i (by simp)).2
    have ih := eqItems_run w d e k k' hu xs ys f g is (fun j hj => h j (by simp [hj]))
    have hp : ∀ (cs : Array Value) (v : Value), cs[i]? = some v → (Go.part e cs (i * 1)).run P w = .ok v w := fun cs v hv => by
      simp [Go.part, isAgg, run_underlying hu, hv]
    simp only [Op.eqItems, Sem.run_bind, hp _ _ h1, hp _ _ h2, Result.andThen_ok, run_equalIn_int w d e k k' (f i) (g i) hu]
    by_cases c : f i = g i
    · simp [c, ih]
    · simp [c]
/-- Are two blocks alike? -/
def eqb (f g : Nat → Nat) : Bool := (List.range 16).all fun i => cb f i == cb g i
theorem eqb_iff (f g : Nat → Nat) : eqb f g = true ↔ E16 f g := by
  unfold eqb E16
  rw [List.all_eq_true]
  refine ⟨fun h i hi => ?_, fun h i hi => ?_⟩
  · have := h i (List.mem_range.2 hi)
    rw [beq_iff_eq] at this
    exact Int.ofNat_inj.1 this
  · rw [beq_iff_eq]
    exact congrArg Nat.cast (h i (List.mem_range.1 hi))
theorem eqb_true {f g : Nat → Nat} (h : E16 f g) : eqb f g = true := (eqb_iff f g).2 h
theorem bl_arr (n : Nat) (f : Nat → Int) : ∀ i ∈ List.range n, (bl n f).toArray[i]? = some (.int .u8 (f i)) := fun i hi => by
  rw [List.getElem?_toArray]
  exact bl_get n f i (List.mem_range.1 hi)
theorem cof8 : Tryd.prog.cellsOf 5 = 1 := by kernel_rfl
@[go_sem high] theorem sameB (f g : Nat → Nat) (w : World) : (Op.equalIn 10000 58 (bv f) (bv g)).run Tryd.prog w = .ok (eqb f g) w := by
  obtain ⟨i, hi⟩ : ∃ i, Tryd.prog.info? 5 = some i := Option.isSome_iff_exists.1 (by kernel_rfl)
  have h := run_equalIn_array (P := Tryd.prog) w 9999 (bl 16 (cb f)).toArray (bl 16 (cb g)).toArray Tryd.underlying58 hi
  rw [cof8] at h
  show (Op.equalIn 10000 58 (.agg (bl 16 (cb f)).toArray) (.agg (bl 16 (cb g)).toArray)).run Tryd.prog w = _
  rw [h]
  exact eqItems_run w 9998 5 .u8 .u8 Tryd.underlying5 _ _ (cb f) (cb g) _ (fun i hi => ⟨bl_arr 16 (cb f) i hi, bl_arr 16 (cb g) i hi⟩)
@[go_sem high] theorem guardEq (a b : Operand) (f g : Nat → Nat) (w : World) : (eqGuard .eql 58 a b (bv f) (bv g)).run Tryd.prog w = .ok () w := by
  unfold bv
  simp [go_sem]
@[go_sem high] theorem guardNe (a b : Operand) (f g : Nat → Nat) (w : World) : (eqGuard .neq 58 a b (bv f) (bv g)).run Tryd.prog w = .ok () w := by
  unfold bv
  simp [go_sem]
@[go_sem high] theorem binEq (f g : Nat → Nat) (w : World) : (binOp .eql 58 (bv f) (bv g)).run Tryd.prog w = .ok (.bool (eqb f g)) w := by
  have h := sameB f g w
  unfold bv at h ⊢
  simp [go_sem, h]
@[go_sem high] theorem binNe (f g : Nat → Nat) (w : World) : (binOp .neq 58 (bv f) (bv g)).run Tryd.prog w = .ok (.bool (!eqb f g)) w := by
  have h := sameB f g w
  unfold bv at h ⊢
  simp [go_sem, h]
/-- Sixteen bytes that begin with these. -/
def blk (n : Nat) (f : Nat → Nat) (i : Nat) : Nat := if i < n then f i else 0
theorem blk_b (n : Nat) (f : Nat → Nat) (h : ∀ i, f i < 256) : B16 (blk n f) := fun i _ => by
  unfold blk
  split
  · exact h i
  · decide
end Go.Proofs.YtbommnigljmfkaaDoor.Ae
