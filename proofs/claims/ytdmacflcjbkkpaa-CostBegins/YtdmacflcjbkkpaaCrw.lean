/- A row is at most B; what is held stays in bounds (pure). -/
import Derived.Test.YtdmacflcjbkkpaaCst
namespace Go.Proofs.Ytdmacflcjbkkpaa.Co
open Go.Proofs.Ytdmacflcjbkkpaa.Ou (Sk cn cn_b bd bd_96)
theorem bgC_zero {s : Sk} {h : He} (e : bgC s h = 0) : 1 ≤ s.a ∧ s.a ≤ 7 ∧ s.d ≤ 64 ∧ 1 ≤ s.o ∧ s.o ≤ 64 := by
  unfold bgC mos at e
  repeat' split at e
  all_goals first
    | (exfalso; omega)
    | omega
theorem drC_zero {s : Sk} (e : drC s = 0) : sz s.a ≠ 0 ∧ s.d ≤ 65536 ∧ (s.k = 7 → s.m ≤ 65536) ∧ (s.k = 8 → 1 ≤ s.c ∧ s.c ≤ 1048576) ∧ 1 ≤ s.o ∧ s.o ≤ 512 := by
  unfold drC at e
  repeat' split at e
  all_goals first
    | (exfalso; omega)
    | (refine ⟨by assumption, ?_, ?_, ?_, ?_, ?_⟩ <;> omega)
/-- What is known where an operation is not refused. -/
inductive Fine (P : St) (s : Sk) : Prop where
  | put (k : s.k = 1) (d : s.d ≤ 512) (f : fre P ≠ none) : Fine P s
  | on (h : He) (e : hat P s.h = some h) (k : 2 ≤ s.k ∧ s.k ≤ 10) (c : fit s h = 0) (f : tks s.k = true → fre P ≠ none) : Fine P s
theorem fine_of {P : St} {s : Sk} (e : cod P s = 0) : Fine P s := by
  unfold cod at e
  by_cases h1 : s.k < 1 ∨ 10 < s.k
  · rw [if_pos h1] at e; exact absurd e (by decide)
  rw [if_neg h1] at e
  by_cases h2 : s.k = 1
  · rw [if_pos h2] at e
    by_cases h3 : 512 < s.d
    · rw [if_pos h3] at e; exact absurd e (by decide)
    rw [if_neg h3] at e
    by_cases h4 : fre P = none
    · rw [if_pos h4] at e; exact absurd e (by decide)
    exact .put h2 (by omega) h4
  rw [if_neg h2] at e
  cases hh : hat P s.h with
  | none => rw [hh] at e; simp only at e; exact absurd e (by decide)
  | some h =>
    rw [hh] at e
    simp only at e
    by_cases h3 : fit s h ≠ 0
    · rw [if_pos h3] at e; exact absurd e h3
    rw [if_neg h3] at e
    have h3' : fit s h = 0 := Decidable.not_not.1 h3
    by_cases h4 : tks s.k = true ∧ fre P = none
    · rw [if_pos h4] at e; exact absurd e (by decide)
    exact .on h hh (by omega) h3' (fun t f => h4 ⟨t, f⟩)
theorem fit_two {s : Sk} {h : He} (k : s.k = 2) (e : fit s h = 0) : h.alg = 0 ∧ bgC s h = 0 := by
  unfold fit at e
  rw [if_pos k] at e
  split at e
  · exact absurd e (by decide)
  · rename_i hh; exact ⟨Decidable.not_not.1 hh, e⟩
theorem fit_three {s : Sk} {h : He} (k : s.k = 3) (e : fit s h = 0) : h.alg ≠ 0 ∧ s.d ≤ 65536 := by
  unfold fit at e
  rw [if_neg (by omega), if_pos k] at e
  split at e
  · exact absurd e (by decide)
  · split at e
    · exact absurd e (by decide)
    · exact ⟨by assumption, by omega⟩
theorem fit_der {s : Sk} {h : He} (k : s.k = 7 ∨ s.k = 8) (e : fit s h = 0) : h.alg = 0 ∧ drC s = 0 := by
  unfold fit at e
  rw [if_neg (by omega), if_neg (by omega), if_neg (by omega), if_neg (by omega), if_pos k] at e
  split at e
  · exact absurd e (by decide)
  · rename_i hh; exact ⟨Decidable.not_not.1 hh, e⟩
theorem upS_ok {P : St} (hP : P.Ok) (i : Nat) {x : Option He} (hx : ∀ h, x = some h → h.Ok) : (upS P i x).Ok := by
  intro j h e
  unfold upS at e
  split at e
  · exact hx h e
  · exact hP j h e
/-- What is held stays in bounds. -/
theorem nxt_ok {P : St} {s : Sk} (hP : P.Ok) (hd : 0 ≤ s.d) (e : cod P s = 0) : (nxt P s).Ok := by
  have F := fine_of e
  unfold nxt
  cases F with
  | put k d f =>
    simp only
    rw [if_neg (by omega), if_neg (by omega)]
    split
    · refine upS_ok hP _ (fun h eh => ?_)
      simp only [Option.some.injEq] at eh
      subst eh
      unfold hel
      rw [if_pos k]
      exact ⟨hd, d, Int.le_refl 0, by show (0:Int) ≤ 7; decide, Int.le_refl 0, by show (0:Int) ≤ 64; decide, Int.le_refl 0, by show (0:Int) ≤ 64; decide, Int.le_refl 0⟩
    · exact hP
  | on h eh k c f =>
    have ho := hat_ok hP eh
    rw [eh]
    simp only [Option.getD_some]
    by_cases k3 : s.k = 3
    · rw [if_pos k3]
      refine upS_ok hP _ (fun g eg => ?_)
      simp only [Option.some.injEq] at eg
      subst eg
      exact ⟨ho.k0, ho.k1, ho.a0, ho.a1, ho.o0, ho.o1, ho.c0, ho.c1, by have := ho.m0; show 0 ≤ h.msg + s.d; omega⟩
    rw [if_neg k3]
    by_cases k4 : s.k = 4 ∨ s.k = 5 ∨ s.k = 10
    · rw [if_pos k4]
      exact upS_ok hP _ (fun g eg => by cases eg)
    rw [if_neg k4]
    split
    · refine upS_ok hP _ (fun g eg => ?_)
      simp only [Option.some.injEq] at eg
      subst eg
      unfold hel
      by_cases k1 : s.k = 1
      · omega
      rw [if_neg k1]
      by_cases k2 : s.k = 2
      · rw [if_pos k2]
        have b := bgC_zero (fit_two k2 c).2
        exact ⟨ho.k0, ho.k1, by show 0 ≤ s.a; omega, by show s.a ≤ 7; omega, by show 0 ≤ s.o; omega, by show s.o ≤ 64; omega, hd, by show s.d ≤ 64; omega, Int.le_refl 0⟩
      rw [if_neg k2]
      by_cases k6 : s.k = 6
      · rw [if_pos k6]; exact ho
      rw [if_neg k6]
      have k78 : s.k = 7 ∨ s.k = 8 := by
        rename_i ht
        unfold tks at ht
        simp at ht
        omega
      have b := drC_zero (fit_der k78 c).2
      exact ⟨by show 0 ≤ s.o; omega, by show s.o ≤ 512; omega, Int.le_refl 0, by show (0:Int) ≤ 7; decide, Int.le_refl 0, by show (0:Int) ≤ 64; decide, Int.le_refl 0, by show (0:Int) ≤ 64; decide, Int.le_refl 0⟩
    · exact hP
theorem stp_ok {P : St} (hP : P.Ok) (s : Sk) : (stp P s).Ok := by
  unfold stp
  split
  · exact nxt_ok hP (by show 0 ≤ max s.d 0; omega) (by assumption)
  · exact hP
theorem start_ok : St.Ok (fun _ => none) := fun i h e => by cases e
end Go.Proofs.Ytdmacflcjbkkpaa.Co
