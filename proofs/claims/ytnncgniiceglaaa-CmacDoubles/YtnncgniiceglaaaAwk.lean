/- Two blocks alike; a list's bytes as numbers; a block that begins with a list; no function of the program in it. -/
import Derived.Test.YtnncgniiceglaaaVnum
import Derived.ChangeKeysEq
namespace Go.Proofs.Ytnncgniiceglaaa.Ae
open Go.ChangeShapes Go.WideShapes Go.ChangeAt Go.RowKit
open Go.Proofs.Ytnncgniiceglaaa.By Go.Proofs.Ytnncgniiceglaaa.Gf
def nul (_ : Nat) : Nat := 0
theorem eqItems_run {P : Program} (w : World) (d : Nat) (e : TypeId) (k k' : IntKind) (hu : P.underlying e = some (.int k')) (xs ys : Array Value) (f g : Nat → Int) : ∀ (is : List Nat), (∀ i ∈ is, xs[i]? = some (.int k (f i)) ∧ ys[i]? = some (.int k (g i))) →
    (Op.eqItems (d + 1) e 1 xs ys is).run P w = .ok (is.all fun i => f i == g i) w
  | [], _ => by simp [Op.eqItems]
  | i :: is, h => by
    have h1 := (h i (by simp)).1
    have h2 := (h i (by simp)).2
    have ih := eqItems_run w d e k k' hu xs ys f g is (fun j hj => h j (by simp [hj]))
    have hp : ∀ (cs : Array Value) (v : Value), cs[i]? = some v → (Go.part e cs (i * 1)).run P w = .ok v w := fun cs v hv => by
      simp [Go.part, isAgg, run_underlying hu, hv]
    simp only [Op.eqItems, Sem.run_bind, hp _ _ h1, hp _ _ h2, Result.andThen_ok, run_equalIn_int w d e k k' (f i) (g i) hu]
    by_cases c : f i = g i
    · simp [c, ih]
    · simp [c]
/-- Are two blocks alike? -/
def eqb (f g : Nat → Nat) : Bool := (List.range 16).all fun i => cb f i == cb g i
theorem eqb_iff (f g : Nat → Nat) : eqb f g = true ↔ E16 f g := by
  unfold eqb E16
  rw [List.all_eq_true]
  refine ⟨fun h i hi => ?_, fun h i hi => ?_⟩
  · have := h i (List.mem_range.2 hi)
    rw [beq_iff_eq] at this
    exact Int.ofNat_inj.1 this
  · rw [beq_iff_eq]
    exact congrArg Nat.cast (h i (List.mem_range.1 hi))
theorem eqb_true {f g : Nat → Nat} (h : E16 f g) : eqb f g = true := (eqb_iff f g).2 h
theorem bl_arr (n : Nat) (f : Nat → Int) : ∀ i ∈ List.range n, (bl n f).toArray[i]? = some (.int .u8 (f i)) := fun i hi => by
  rw [List.getElem?_toArray]
  exact bl_get n f i (List.mem_range.1 hi)
theorem cof8 : Try.prog.cellsOf 5 = 1 := by kernel_rfl
@[go_sem high] theorem sameB (f g : Nat → Nat) (w : World) : (Op.equalIn 10000 23 (bv f) (bv g)).run Try.prog w = .ok (eqb f g) w := by
  obtain ⟨i, hi⟩ : ∃ i, Try.prog.info? 5 = some i := Option.isSome_iff_exists.1 (by kernel_rfl)
  have h := run_equalIn_array (P := Try.prog) w 9999 (bl 16 (cb f)).toArray (bl 16 (cb g)).toArray Try.underlying23 hi
  rw [cof8] at h
  show (Op.equalIn 10000 23 (.agg (bl 16 (cb f)).toArray) (.agg (bl 16 (cb g)).toArray)).run Try.prog w = _
  rw [h]
  exact eqItems_run w 9998 5 .u8 .u8 Try.underlying5 _ _ (cb f) (cb g) _ (fun i hi => ⟨bl_arr 16 (cb f) i hi, bl_arr 16 (cb g) i hi⟩)
@[go_sem high] theorem guardEq (a b : Operand) (f g : Nat → Nat) (w : World) : (eqGuard .eql 23 a b (bv f) (bv g)).run Try.prog w = .ok () w := by
  unfold bv
  simp [go_sem]
@[go_sem high] theorem guardNe (a b : Operand) (f g : Nat → Nat) (w : World) : (eqGuard .neq 23 a b (bv f) (bv g)).run Try.prog w = .ok () w := by
  unfold bv
  simp [go_sem]
@[go_sem high] theorem binEq (f g : Nat → Nat) (w : World) : (binOp .eql 23 (bv f) (bv g)).run Try.prog w = .ok (.bool (eqb f g)) w := by
  have h := sameB f g w
  unfold bv at h ⊢
  simp [go_sem, h]
@[go_sem high] theorem binNe (f g : Nat → Nat) (w : World) : (binOp .neq 23 (bv f) (bv g)).run Try.prog w = .ok (.bool (!eqb f g)) w := by
  have h := sameB f g w
  unfold bv at h ⊢
  simp [go_sem, h]
/-- Sixteen bytes that begin with these. -/
def blk (n : Nat) (f : Nat → Nat) (i : Nat) : Nat := if i < n then f i else 0
theorem blk_b (n : Nat) (f : Nat → Nat) (h : ∀ i, f i < 256) : B16 (blk n f) := fun i _ => by
  unfold blk
  split
  · exact h i
  · decide
/-- A list's bytes as numbers. -/
def kf (f : Nat → Int) (i : Nat) : Nat := (f i).toNat
theorem kf_eq {f : Nat → Int} (h : ∀ i, 0 ≤ f i ∧ f i < 256) (i : Nat) : ((kf f i : Nat) : Int) = f i := by have := h i; unfold kf; omega
theorem kf_lt {f : Nat → Int} (h : ∀ i, 0 ≤ f i ∧ f i < 256) (i : Nat) : kf f i < 256 := by have := h i; unfold kf; omega
theorem kf_cb (f : Nat → Nat) (i : Nat) : kf (cb f) i = f i := by unfold kf; exact Int.toNat_natCast _
end Go.Proofs.Ytnncgniiceglaaa.Ae
