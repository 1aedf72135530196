/- Skeletons as values; their bound, of the program (cost's seat: without skel's other calls). -/
import Derived.Test.YtdmacflcjbkkpaaGreatTbk
import Derived.Test.YtdmacflcjbkkpaaGreatRput
import Derived.Test.YtdmacflcjbkkpaaGreatKmath
import Derived.Laws.EntriesVeiled
import Derived.Laws.Cover1
namespace Go.Proofs.YtdmacflcjbkkpaaGreat.Ou
open Go.ChangeShapes Go.WideShapes Go.ChangeAt Go.RowKit
open Go.Proofs.YtdmacflcjbkkpaaGreat.Tb (Blk Blk.newAt put_all Kp.setCells)
/-- A skeleton's numbers. -/
structure Sk where
  k : Int
  h : Int
  a : Int
  c : Int
  o : Int
  d : Int
  m : Int
deriving DecidableEq
abbrev sv (s : Sk) : Value := .agg #[.int .u8 s.k, .int .i64 s.h, .int .u8 s.a, .int .i64 s.c, .int .i64 s.o, .int .i64 s.d, .int .i64 s.m]
abbrev sL (s : Sk) : List Value := [.int .u8 s.k, .int .i64 s.h, .int .u8 s.a, .int .i64 s.c, .int .i64 s.o, .int .i64 s.d, .int .i64 s.m]
abbrev zS : Sk := ⟨0, 0, 0, 0, 0, 0, 0⟩
def LDk (a : Addr) : Sem Value := loadVar 40 a
def SVk (a : Addr) (v : Value) : Sem Unit := storeVar 40 a v
@[go_sem ↓ high] theorem ldk (a : Addr) : loadVar 40 a = LDk a := rfl
@[go_sem ↓ high] theorem svk (a : Addr) (v : Value) : storeVar 40 a v = SVk a v := rfl
theorem infok (s : Sk) : (Tryz.prog.info? 40).map (·.size) = some (sL s).length := by kernel_rfl
theorem LDk_run {W : World} {g : Nat} {s : Sk} (h : Blk W g (sL s) 40) : (LDk ⟨g, 0, none⟩).run Tryz.prog W = .ok (sv s) W :=
  run_loadVar_mid W g 0 _ (sL s) _ (h.range 0 _ (fun _ _ hv => by rw [Nat.zero_add]; exact hv)) Tryz.underlying40 rfl (infok s)
theorem sL_one (s : Sk) : ∀ u ∈ sL s, u.oneCell' = true := by
  intro u hu
  simp only [sL, List.mem_cons, List.not_mem_nil, or_false] at hu
  rcases hu with rfl | rfl | rfl | rfl | rfl | rfl | rfl <;> rfl
theorem SVk_run {W : World} {g : Nat} {cs : List Value} (s : Sk) (h : Blk W g cs 40) (hl : cs.length = 7) : ∃ W', (SVk ⟨g, 0, none⟩ (sv s)).run Tryz.prog W = .ok () W' ∧ Blk W' g (sL s) 40 ∧ Kp (fun j => j = g) W W' := by
  refine ⟨W.setCells g 0 (sL s), run_storeVar_mid W g 0 _ (sL s).toArray (h.there 0 _ (by simp [hl])) (by simpa using infok s) (all_oneCell_toArray (sL_one s)), ?_, Kp.setCells g 0 _⟩
  have := h.put 0 (sL s)
  rw [put_all cs (sL s) (by rw [hl]; rfl)] at this
  exact this
def uH (k : Int) : Bool := decide (2 ≤ k) && decide (k ≤ 10)
def uA (k : Int) : Bool := k == 2 || k == 7 || k == 8
def uC (k : Int) : Bool := k == 8
def uO (k : Int) : Bool := k == 2 || k == 7 || k == 8
def uD (k : Int) : Bool := k == 1 || k == 2 || k == 3 || k == 5 || k == 7 || k == 8
def uM (k : Int) : Bool := k == 7
/-- The skeleton without what its kind does not use. -/
def ps (s : Sk) : Sk := ⟨s.k, if uH s.k then s.h else 0, if uA s.k then s.a else 0, if uC s.k then s.c else 0, if uO s.k then s.o else 0, if uD s.k then s.d else 0, if uM s.k then s.m else 0⟩
/-- A number as it counts in a bound. -/
def cn (n : Int) : Int := if n < 0 then 0 else if n > 16777216 then 16777216 else n
theorem cn_b (n : Int) : 0 ≤ cn n ∧ cn n ≤ 16777216 := by unfold cn; split; omega; split <;> omega
/-- B. -/
def bd (s : Sk) : Int := 64 + cn s.d + cn s.o + (cn s.m + 512) * (cn s.o / 32 + 1) / 16 + 4 * cn s.c * (cn s.o / 32 + 1)
theorem bd_96 (s : Sk) : 96 ≤ bd s := by
  have b1 := cn_b s.d
  have b2 := cn_b s.m
  have b3 := cn_b s.o
  have b4 := cn_b s.c
  have m1 : (512 : Int) * 1 ≤ (cn s.m + 512) * (cn s.o / 32 + 1) := Int.mul_le_mul (by omega) (by omega) (by omega) (by omega)
  have m2 : 0 ≤ 4 * cn s.c * (cn s.o / 32 + 1) := Int.mul_nonneg (by omega) (by omega)
  unfold bd
  omega
theorem mul_b (x p : Int) (hx : 0 ≤ x ∧ x ≤ 67108864) (hp : 0 ≤ p ∧ p ≤ 524289) : 0 ≤ x * p ∧ x * p ≤ 70368744177664 := by
  refine ⟨Int.mul_nonneg hx.1 hp.1, ?_⟩
  have h1 : x * p ≤ 67108864 * p := Int.mul_le_mul_of_nonneg_right hx.2 hp.1
  omega
end Go.Proofs.YtdmacflcjbkkpaaGreat.Ou
