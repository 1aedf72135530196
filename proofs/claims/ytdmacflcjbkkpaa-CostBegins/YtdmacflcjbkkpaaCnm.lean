/- The loops' sums (pure), and how large a row's counts are. -/
import Derived.Test.YtdmacflcjbkkpaaCnb
namespace Go.Proofs.Ytdmacflcjbkkpaa.Co
open Go.Proofs.Ytdmacflcjbkkpaa.Ou (Sk cn cn_b bd bd_96)
theorem nbN_step {n : Nat} (h : 256 ≤ n) (h2 : n < 16777216) : nbN n = nbN (n / 256) + 1 := by
  unfold nbN
  rw [if_neg (by omega)]
  by_cases h3 : n < 65536
  · rw [if_pos h3, if_pos (by omega)]
  · rw [if_neg h3, if_neg (by omega), if_pos (by omega)]
/-- Rounds of HKDF: one more while there is something left. -/
theorem rds_lt {a out : Int} (ha : sz a ≠ 0) (k : Nat) : (k : Int) * sz a < out ↔ (k : Int) < rds a out := by
  unfold rds
  rcases sz_cases ha with ⟨_, h⟩ | ⟨_, h⟩ <;> rw [h] <;> omega
theorem rds_17 {a out : Int} (ha : sz a ≠ 0) (h0 : 1 ≤ out) (h1 : out ≤ 512) : 1 ≤ rds a out ∧ rds a out ≤ 16 := by
  unfold rds
  rcases sz_cases ha with ⟨_, h⟩ | ⟨_, h⟩ <;> rw [h] <;> omega
theorem bd_top (s : Sk) : bd s ≤ 70368744177664 := by
  have b1 := cn_b s.d
  have b2 := cn_b s.m
  have b3 := cn_b s.o
  have b4 := cn_b s.c
  have m1 : (cn s.m + 512) * (cn s.o / 32 + 1) ≤ 16777728 * 524289 := Int.mul_le_mul (by omega) (by omega) (by omega) (by omega)
  have m2 : 4 * cn s.c * (cn s.o / 32 + 1) ≤ 67108864 * 524289 := Int.mul_le_mul (by omega) (by omega) (by omega) (by omega)
  unfold bd
  omega
/-- A run's count is at most the row's total. -/
theorem tt_mem {l : List Ru} (h : Nn l) {r : Ru} (hr : r ∈ l) : r.c ≤ tt l := by
  induction l with
  | nil => cases hr
  | cons q l ih =>
    have hl : Nn l := fun x hx => h x (by simp [hx])
    have nn : 0 ≤ tt l := by
      clear ih hr
      induction l with
      | nil => exact Int.le_refl 0
      | cons x l ih2 =>
        have := hl x (by simp)
        have := ih2 (fun y hy => h y (by rcases List.mem_cons.1 hy with rfl | hy <;> simp_all)) (fun y hy => hl y (by simp [hy]))
        simp only [tt]; omega
    have q0 := h q (by simp)
    simp only [tt]
    rcases List.mem_cons.1 hr with rfl | hr
    · omega
    · have := ih hl hr; omega
theorem tt_nn {l : List Ru} (h : Nn l) : 0 ≤ tt l := by
  induction l with
  | nil => exact Int.le_refl 0
  | cons x l ih =>
    have := h x (by simp)
    have := ih (fun y hy => h y (by simp [hy]))
    simp only [tt]; omega
theorem ib {c : Prop} [Decidable c] {x y : Int} (hx : 0 ≤ x ∧ x ≤ 11) (hy : 0 ≤ y ∧ y ≤ 11) : 0 ≤ (if c then x else y) ∧ (if c then x else y) ≤ 11 := by split <;> assumption
theorem bgC_b (s : Sk) (h : He) : 0 ≤ bgC s h ∧ bgC s h ≤ 11 := by
  unfold bgC
  repeat' (first | exact ib (by decide) (by decide) | refine ib (by decide) ?_)
theorem drC_b (s : Sk) : 0 ≤ drC s ∧ drC s ≤ 11 := by
  unfold drC
  repeat' (first | exact ib (by decide) (by decide) | refine ib (by decide) ?_)
theorem fit_b (s : Sk) (h : He) : 0 ≤ fit s h ∧ fit s h ≤ 11 := by
  unfold fit
  refine ib (ib (by decide) (bgC_b s h)) (ib (ib (by decide) (ib (by decide) (by decide))) (ib (ib (by decide) (by decide)) (ib (ib (by decide) (ib (by decide) (by decide))) (ib (ib (by decide) (drC_b s)) (ib (ib (by decide) (by decide)) (by decide))))))
theorem cod_b (P : St) (s : Sk) : 0 ≤ cod P s ∧ cod P s ≤ 11 := by
  unfold cod
  refine ib (by decide) (ib (ib (by decide) (ib (by decide) (by decide))) ?_)
  split
  · decide
  · exact ib (fit_b _ _) (ib (by decide) (by decide))
/-- All of a row fits. -/
theorem row_c {P : St} (hP : P.Ok) (s : Sk) {r : Ru} (hr : r ∈ row P s) : 1 ≤ r.c ∧ r.c ≤ 70368744177664 := by
  have p := (row_ok P s).2
  have n : Nn (row P s) := fun x hx => by have := p x hx; omega
  have h1 := tt_mem n hr
  have h2 := row_b hP s
  have h3 := bd_top s
  have h4 := p r hr
  omega
theorem flt_len (l : List Ru) : (flt l).length ≤ l.length := List.length_filter_le ..
theorem mid_len (s : Sk) (h : He) : (mid s h).length ≤ 3 := by
  have b : ∀ h : He, (bgE h).length ≤ 3 ∧ (∀ n, (tlE h n).length ≤ 3) ∧ (smE h).length = 1 := fun h => by
    refine ⟨?_, fun n => ?_, ?_⟩
    · unfold bgE; split; · simp
      split <;> simp
    · unfold tlE; split; · simp
      split <;> simp
    · obtain ⟨r, e, _⟩ := smE_one h; rw [e]; rfl
  have b1 := b h
  unfold mid
  split; · exact (b _).1
  split; · exact b1.2.1 _
  split; · rw [List.length_append, b1.2.2]; simp
  split; · rw [List.length_append, b1.2.2]; simp
  split; · simp
  split; · simp
  split <;> simp
theorem row_len (P : St) (s : Sk) : 2 ≤ (row P s).length ∧ (row P s).length ≤ 5 := by
  have a := flt_len (mid (clp s) ((hat P s.h).getD h0))
  have b := mid_len (clp s) ((hat P s.h).getD h0)
  unfold row
  split <;> simp only [List.length_append, List.length_cons, List.length_nil] <;> omega
/-- An operation that is refused has two runs. -/
theorem row_no {P : St} {s : Sk} (h : cod P (clp s) ≠ 0) : row P s = [⟨11, s.k, 1⟩, ⟨12, cod P (clp s), 1⟩] ∧ stp P s = P := by
  unfold row stp
  rw [if_neg h, if_neg h]
  exact ⟨rfl, rfl⟩
end Go.Proofs.Ytdmacflcjbkkpaa.Co
