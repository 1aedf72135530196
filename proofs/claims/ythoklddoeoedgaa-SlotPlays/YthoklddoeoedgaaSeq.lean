/- Slots held against each other. -/
import Derived.Test.YthoklddoeoedgaaSgx
import Derived.ChangeKeysEq
namespace Go.Proofs.Ythoklddoeoedgaa.Sl
open Go.ChangeShapes Go.WideShapes Go.ChangeAt Go.RowKit
open Go.Proofs.Ythoklddoeoedgaa.By
theorem eqItems_run {P : Program} (w : World) (d : Nat) (e : TypeId) (k k' : IntKind) (hu : P.underlying e = some (.int k')) (xs ys : Array Value) (f g : Nat → Int) : ∀ (is : List Nat), (∀ i ∈ is, xs[i]? = some (.int k (f i)) ∧ ys[i]? = some (.int k (g i))) →
    (Op.eqItems (d + 1) e 1 xs ys is).run P w = .ok (is.all fun i => f i == g i) w
  | [], _ => by simp [Op.eqItems]
  | i :: is, h => by
    have h1 := (h i (by simp)).1
    have h2 := (h i (by simp)).2
    have ih := eqItems_run w d e k k' hu xs ys f g is (fun j hj => h j (by simp [hj]))
    have hp : ∀ (cs : Array Value) (v : Value), cs[i]? = some v → (part e cs (i * 1)).run P w = .ok v w := fun cs v hv => by
      simp [part, isAgg, run_underlying hu, hv]
    simp only [Op.eqItems, Sem.run_bind, hp _ _ h1, hp _ _ h2, Result.andThen_ok, run_equalIn_int w d e k k' (f i) (g i) hu]
    by_cases c : f i = g i
    · simp [c, ih]
    · simp [c]
theorem eqB_range (f g : Nat → Int) : ((List.range 1024).all fun i => f i == g i) = eqB f g 1024 := by
  rw [Bool.eq_iff_iff, eqB_iff]
  simp only [List.all_eq_true, List.mem_range, beq_iff_eq]
theorem bl_arr (n : Nat) (f : Nat → Int) : ∀ i ∈ List.range n, (bl n f).toArray[i]? = some (.int .u8 (f i)) := fun i hi => by
  rw [List.getElem?_toArray]
  exact bl_get n f i (List.mem_range.1 hi)
theorem cof8 : Try.prog.cellsOf 5 = 1 := by kernel_rfl
theorem same1024 (f g : Nat → Int) (w : World) : (Op.equalIn 10000 30 (.agg (bl 1024 f).toArray) (.agg (bl 1024 g).toArray)).run Try.prog w = .ok (eqB f g 1024) w := by
  obtain ⟨i, hi⟩ : ∃ i, Try.prog.info? 5 = some i := Option.isSome_iff_exists.1 (by kernel_rfl)
  have h := run_equalIn_array (P := Try.prog) w 9999 (bl 1024 f).toArray (bl 1024 g).toArray Try.underlying30 hi
  rw [cof8] at h
  rw [h, ← eqB_range]
  exact eqItems_run w 9998 5 .u8 .u8 Try.underlying5 _ _ f g _ (fun i hi => ⟨bl_arr 1024 f i hi, bl_arr 1024 g i hi⟩)
/-- Are two slots alike? -/
def eqS (f g : Nat → Int) : Bool := eqB f g 1024
theorem eqS_iff {f g : Nat → Int} : eqS f g = true ↔ ∀ i, i < 1024 → f i = g i := eqB_iff
theorem eqB_S (f g : Nat → Int) : eqB f g 1024 = eqS f g := rfl
theorem eqS_true {f g : Nat → Int} (h : ∀ i, i < 1024 → f i = g i) : eqS f g = true := eqS_iff.2 h
theorem guardEq (a b : Operand) (f g : Nat → Int) (w : World) : (eqGuard .eql 30 a b (sv f) (sv g)).run Try.prog w = .ok () w := by
  unfold sv
  simp [go_sem]
theorem guardNe (a b : Operand) (f g : Nat → Int) (w : World) : (eqGuard .neq 30 a b (sv f) (sv g)).run Try.prog w = .ok () w := by
  unfold sv
  simp [go_sem]
theorem binEq (f g : Nat → Int) (w : World) : (binOp .eql 30 (sv f) (sv g)).run Try.prog w = .ok (.bool (eqS f g)) w := by
  have h := same1024 f g w
  rw [eqB_S] at h
  unfold sv
  simp [go_sem, h]
theorem binNe (f g : Nat → Int) (w : World) : (binOp .neq 30 (sv f) (sv g)).run Try.prog w = .ok (.bool (!eqS f g)) w := by
  have h := same1024 f g w
  rw [eqB_S] at h
  unfold sv
  simp [go_sem, h]
attribute [go_sem ↓ high] guardEq guardNe binEq binNe
theorem eqB_refl (f : Nat → Int) (n : Nat) : eqB f f n = true := eqB_iff.2 (fun _ _ => rfl)
end Go.Proofs.Ythoklddoeoedgaa.Sl
