/- Arrays of 25 words, and of 200 bytes, held against each other. -/
import Derived.Test.YtofikebacahnjaaDoorQcel
import Derived.ChangeKeysEq
namespace Go.Proofs.YtofikebacahnjaaDoor.Kc
open Go.ChangeShapes Go.WideShapes Go.ChangeAt Go.RowKit
open Go.Proofs.YtofikebacahnjaaDoor.By Go.Proofs.YtofikebacahnjaaDoor.Wd
theorem eqItems_run {P : Program} (w : World) (d : Nat) (e : TypeId) (k k' : IntKind) (hu : P.underlying e = some (.int k')) (xs ys : Array Value) (f g : Nat → Int) : ∀ (is : List Nat), (∀ i ∈ is, xs[i]? = some (.int k (f i)) ∧ ys[i]? = some (.int k (g i))) →
    (Op.eqItems (d + 1) e 1 xs ys is).run P w = .ok (is.all fun i => f i == g i) w
  | [], _ => by simp [Op.eqItems]
  | i :: is, h => by
    have h1 := (h i (by simp)).1
    have h2 := (h i (by simp)).2
    have ih := eqItems_run w d e k k' hu xs ys f g is (fun j hj => h j (by simp [hj]))
    have hp : ∀ (cs : Array Value) (v : Value), cs[i]? = some v → (part e cs (i * 1)).run P w = .ok v w := fun cs v hv => by
      simp [part, isAgg, run_underlying hu, hv]
    simp only [Op.eqItems, Sem.run_bind, hp _ _ h1, hp _ _ h2, Result.andThen_ok, run_equalIn_int w d e k k' (f i) (g i) hu]
    by_cases c : f i = g i
    · simp [c, ih]
    · simp [c]
/-- Are the 25 words alike; the 200 bytes? -/
def eq25 (f g : Nat → Int) : Bool := (List.range 25).all fun i => f i == g i
def eq200 (f g : Nat → Int) : Bool := (List.range 200).all fun i => f i == g i
theorem eq25_iff (f g : Nat → Int) : eq25 f g = true ↔ E25 f g := by
  unfold eq25 E25
  simp
theorem eq200_iff (f g : Nat → Int) : eq200 f g = true ↔ ∀ i, i < 200 → f i = g i := by
  unfold eq200
  simp
theorem eq25_true {f g : Nat → Int} (h : E25 f g) : eq25 f g = true := (eq25_iff f g).2 h
theorem eq200_true {f g : Nat → Int} (h : ∀ i, i < 200 → f i = g i) : eq200 f g = true := (eq200_iff f g).2 h
theorem wl_arr (n : Nat) (f : Nat → Int) : ∀ i ∈ List.range n, (wl n f).toArray[i]? = some (.int .u64 (f i)) := fun i hi => by
  rw [List.getElem?_toArray]
  exact wl_get n f i (List.mem_range.1 hi)
theorem bl_arr (n : Nat) (f : Nat → Int) : ∀ i ∈ List.range n, (bl n f).toArray[i]? = some (.int .u8 (f i)) := fun i hi => by
  rw [List.getElem?_toArray]
  exact bl_get n f i (List.mem_range.1 hi)
theorem cof64 : Tryd.prog.cellsOf 23 = 1 := by kernel_rfl
theorem cof8 : Tryd.prog.cellsOf 5 = 1 := by kernel_rfl
@[go_sem high] theorem sameK (f g : Nat → Int) (w : World) : (Op.equalIn 10000 29 (.agg (wl 25 f).toArray) (.agg (wl 25 g).toArray)).run Tryd.prog w = .ok (eq25 f g) w := by
  obtain ⟨i, hi⟩ : ∃ i, Tryd.prog.info? 23 = some i := Option.isSome_iff_exists.1 (by kernel_rfl)
  have h := run_equalIn_array (P := Tryd.prog) w 9999 (wl 25 f).toArray (wl 25 g).toArray Tryd.underlying29 hi
  rw [cof64] at h
  rw [h]
  exact eqItems_run w 9998 23 .u64 .u64 Tryd.underlying23 _ _ f g _ (fun i hi => ⟨wl_arr 25 f i hi, wl_arr 25 g i hi⟩)
@[go_sem high] theorem same200 (f g : Nat → Int) (w : World) : (Op.equalIn 10000 39 (.agg (bl 200 f).toArray) (.agg (bl 200 g).toArray)).run Tryd.prog w = .ok (eq200 f g) w := by
  obtain ⟨i, hi⟩ : ∃ i, Tryd.prog.info? 5 = some i := Option.isSome_iff_exists.1 (by kernel_rfl)
  have h := run_equalIn_array (P := Tryd.prog) w 9999 (bl 200 f).toArray (bl 200 g).toArray Tryd.underlying39 hi
  rw [cof8] at h
  rw [h]
  exact eqItems_run w 9998 5 .u8 .u8 Tryd.underlying5 _ _ f g _ (fun i hi => ⟨bl_arr 200 f i hi, bl_arr 200 g i hi⟩)
end Go.Proofs.YtofikebacahnjaaDoor.Kc
