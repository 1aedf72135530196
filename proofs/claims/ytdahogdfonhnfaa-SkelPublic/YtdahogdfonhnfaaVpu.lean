/- What a skeleton keeps (pure). -/
import Derived.Test.YtdahogdfonhnfaaVaw
namespace Go.Proofs.Ytdahogdfonhnfaa.Ou
open Go.ChangeShapes Go.WideShapes Go.ChangeAt Go.RowKit
open Go.Proofs.Ytdahogdfonhnfaa.By
theorem ps_ps (s : Sk) : ps (ps s) = ps s := by
  unfold ps
  simp only
  congr 1 <;> (split <;> rfl)
theorem ps_k (s : Sk) : (ps s).k = s.k := rfl
/-- The skeleton of the plain operation. -/
theorem ps_plain (q : Nu) (n m : Nat) : ps (sk (pq q) (pN q n) (pM q m)) = ps (sk q n m) := by
  unfold ps sk pq pN pM
  simp only
  congr 1 <;> (split <;> rfl)
theorem ps_nums (q : Nu) (n m : Nat) : ps (sk q n m) = ⟨q.k, (pq q).h, (pq q).a, (pq q).c, (pq q).o, (pN q n : Int), (pM q m : Int)⟩ := by
  unfold ps sk pq pN pM
  simp only
  congr 1
  · split <;> rfl
  · split <;> rfl
theorem mb_nat {n : Nat} (h : n ≤ 16777215) : mb (n : Int) = true := decide_eq_true (by omega)
/-- Filled by its skeleton. -/
theorem fill_of (q : Nu) (n m : Nat) (h1 : pN q n ≤ 16777215) (h2 : pM q m ≤ 16777215) : fq (ps (sk q n m)) = pq q ∧ fe (ps (sk q n m)) = 0 ∧ fd (ps (sk q n m)) = pN q n ∧ fm (ps (sk q n m)) = pM q m := by
  have e := ps_nums q n m
  have k : fk (ps (sk q n m)) = true := by
    unfold fk
    rw [ps_ps, e]
    show (mb (pN q n : Int) && mb (pM q m : Int)) = true
    rw [mb_nat h1, mb_nat h2]; rfl
  unfold fq fe fd fm
  rw [k, ps_ps, e]
  refine ⟨?_, rfl, ?_, ?_⟩
  · rfl
  · exact Int.toNat_natCast _
  · exact Int.toNat_natCast _
theorem fill_no (q : Nu) (n m : Nat) (h : 16777215 < pN q n ∨ 16777215 < pM q m) : fe (ps (sk q n m)) = 2 := by
  have e := ps_nums q n m
  have k : fk (ps (sk q n m)) = false := by
    unfold fk
    rw [ps_ps, e]
    show (mb (pN q n : Int) && mb (pM q m : Int)) = false
    rcases h with h | h
    · rw [show mb (pN q n : Int) = false from decide_eq_false (by omega)]; rfl
    · rw [show mb (pM q m : Int) = false from decide_eq_false (by omega), Bool.and_false]
  unfold fe
  rw [k]; rfl
/-- More in each is no less. -/
theorem bd_mono {s t : Sk} (h1 : s.d ≤ t.d) (h2 : s.m ≤ t.m) (h3 : s.o ≤ t.o) (h4 : s.c ≤ t.c) : bd s ≤ bd t := by
  have a1 := cn_mono h1
  have a2 := cn_mono h2
  have a3 := cn_mono h3
  have a4 := cn_mono h4
  have b2 := cn_b s.m
  have b3 := cn_b s.o
  have b4 := cn_b s.c
  have p : cn s.o / 32 + 1 ≤ cn t.o / 32 + 1 := by omega
  have p0 : 0 ≤ cn t.o / 32 + 1 := by omega
  have m1 : (cn s.m + 512) * (cn s.o / 32 + 1) ≤ (cn t.m + 512) * (cn t.o / 32 + 1) := Int.mul_le_mul (by omega) p (by omega) (by omega)
  have m2 : 4 * cn s.c * (cn s.o / 32 + 1) ≤ 4 * cn t.c * (cn t.o / 32 + 1) := Int.mul_le_mul (by omega) p (by omega) (by omega)
  unfold bd
  have m3 : (cn s.m + 512) * (cn s.o / 32 + 1) / 16 ≤ (cn t.m + 512) * (cn t.o / 32 + 1) / 16 := by omega
  omega
theorem bd_96 (s : Sk) : 96 ≤ bd s := by
  have b1 := cn_b s.d
  have b2 := cn_b s.m
  have b3 := cn_b s.o
  have b4 := cn_b s.c
  have m1 : (512 : Int) * 1 ≤ (cn s.m + 512) * (cn s.o / 32 + 1) := Int.mul_le_mul (by omega) (by omega) (by omega) (by omega)
  have m2 : 0 ≤ 4 * cn s.c * (cn s.o / 32 + 1) := Int.mul_nonneg (by omega) (by omega)
  unfold bd
  omega
end Go.Proofs.Ytdahogdfonhnfaa.Ou
