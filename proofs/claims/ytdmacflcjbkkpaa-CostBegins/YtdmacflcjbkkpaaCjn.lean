/- Runs put behind runs (pure): rows one by one, all rows joined. -/
import Derived.Test.YtdmacflcjbkkpaaCnm
namespace Go.Proofs.Ytdmacflcjbkkpaa.Co
open Go.Proofs.Ytdmacflcjbkkpaa (Rn sm putL)
open Go.Proofs.Ytdmacflcjbkkpaa.Ou (Sk cn cn_b bd bd_96)
theorem putU_new {A : List Ru} {r : Ru} (hr : 1 ≤ r.c) (h : ∀ q, A.getLast? = some q → Ul q r) : putL A r = A ++ [r] := by
  unfold putL
  rw [if_neg (by omega)]
  cases e : A.getLast? with
  | none =>
    rw [List.getLast?_eq_none_iff] at e
    subst e; rfl
  | some q => simp only; rw [if_neg (h q e)]
theorem putU_old {A : List Ru} {q r : Ru} (hr : 1 ≤ r.c) (hk : q.k = r.k) (hs : q.s = r.s) : putL (A ++ [q]) r = A ++ [⟨q.k, q.s, sm q.c r.c⟩] := by
  unfold putL
  rw [if_neg (by omega), List.getLast?_append]
  simp only [List.getLast?_singleton, Option.some_or]
  rw [if_pos ⟨hk, hs⟩]
  simp
theorem putU_0 {A : List Ru} {r : Ru} (hr : r.c < 1) : putL A r = A := by unfold putL; rw [if_pos hr]
theorem nb_tail {r : Ru} {l : List Ru} (h : Nb (r :: l)) : Nb l := by
  cases l with
  | nil => trivial
  | cons q l => exact h.2
theorem nb_at {A : List Ru} {q r : Ru} {l : List Ru} (h : Nb (A ++ q :: r :: l)) : Ul q r := by
  induction A with
  | nil => exact h.1
  | cons a A ih => exact ih (nb_tail h)
/-- A list of unlike neighbours, put run by run, is itself. -/
theorem fold_nb (l : List Ru) : ∀ A : List Ru, Po l → Nb (A ++ l) → l.foldl putL A = A ++ l := by
  induction l with
  | nil => intro A _ _; simp
  | cons r l ih =>
    intro A p n
    have e : putL A r = A ++ [r] := by
      refine putU_new (p r (by simp)) (fun q hq => ?_)
      obtain ⟨B, eB⟩ : ∃ B, A = B ++ [q] := by
        rw [List.getLast?_eq_some_iff] at hq
        exact hq
      rw [eB, List.append_assoc] at n
      exact nb_at (A := B) n
    rw [List.foldl_cons, e, ih _ (fun x hx => p x (by simp [hx])) (by rw [List.append_assoc]; exact n), List.append_assoc]
    rfl
/-- All rows joined. -/
def jn (A : List Ru) : List (List Ru) → List Ru
  | [] => A
  | r :: l => jn (r.foldl putL A) l
theorem jn_one {l : List Ru} (p : Po l) (n : Nb l) : jn [] [l] = l := by
  show l.foldl putL [] = l
  rw [fold_nb l [] p n]; rfl
theorem jn_snoc (l : List (List Ru)) : ∀ (A : List Ru) (r : List Ru), jn A (l ++ [r]) = r.foldl putL (jn A l) := by
  induction l with
  | nil => intro A r; rfl
  | cons x l ih => intro A r; exact ih _ _
theorem putU_po {A : List Ru} {r : Ru} (h : Po A) : Po (putL A r) := by
  by_cases hr : r.c < 1
  · rw [putU_0 hr]; exact h
  · rcases List.eq_nil_or_concat A with e | ⟨B, q, e⟩
    · subst e
      rw [putU_new (by omega) (fun q hq => by cases hq)]
      intro x hx
      simp at hx; subst hx; omega
    · rw [List.concat_eq_append] at e
      subst e
      by_cases hq : q.k = r.k ∧ q.s = r.s
      · rw [putU_old (by omega) hq.1 hq.2]
        have q1 := h q (by simp)
        intro x hx
        rcases List.mem_append.1 hx with hx | hx
        · exact h x (by simp [hx])
        · simp only [List.mem_singleton] at hx
          subst hx
          show 1 ≤ sm q.c r.c
          unfold sm; split <;> omega
      · rw [putU_new (by omega) (fun y hy => by
          rw [List.getLast?_append] at hy
          simp only [List.getLast?_singleton, Option.some_or, Option.some.injEq] at hy
          subst hy; exact hq)]
        intro x hx
        rcases List.mem_append.1 hx with hx | hx
        · exact h x hx
        · simp only [List.mem_singleton] at hx; subst hx; omega
/-- Where the sum is within an int, nothing is lost. -/
theorem putU_tt {A : List Ru} {r : Ru} (h : Po A) (hr : 0 ≤ r.c) (hm : tt A + r.c ≤ 9223372036854775807) : tt (putL A r) = tt A + r.c := by
  by_cases h1 : r.c < 1
  · rw [putU_0 h1]; omega
  · rcases List.eq_nil_or_concat A with e | ⟨B, q, e⟩
    · subst e
      rw [putU_new (by omega) (fun q hq => by cases hq)]
      simp [tt]
    · rw [List.concat_eq_append] at e
      subst e
      by_cases hq : q.k = r.k ∧ q.s = r.s
      · rw [putU_old (by omega) hq.1 hq.2]
        rw [tt_append] at hm
        rw [tt_append, tt_append]
        have nB : 0 ≤ tt B := tt_nn (fun x hx => by have := h x (by simp [hx]); omega)
        have t1 : tt [q] = q.c := by simp [tt]
        have t2 : tt [(⟨q.k, q.s, sm q.c r.c⟩ : Ru)] = sm q.c r.c := by simp [tt]
        rw [t1] at hm
        have e : sm q.c r.c = q.c + r.c := by unfold sm; rw [if_pos (by omega)]
        rw [t1, t2, e]; omega
      · rw [putU_new (by omega) (fun y hy => by
          rw [List.getLast?_append] at hy
          simp only [List.getLast?_singleton, Option.some_or, Option.some.injEq] at hy
          subst hy; exact hq), tt_append]
        simp [tt]
theorem putU_len {A : List Ru} {r : Ru} : (putL A r).length ≤ A.length + 1 := by
  unfold putL
  split
  · omega
  · split
    · split <;> simp
    · simp
theorem fold_all (l : List Ru) : ∀ A : List Ru, Po A → Po l → tt A + tt l ≤ 9223372036854775807 → Po (l.foldl putL A) ∧ tt (l.foldl putL A) = tt A + tt l ∧ (l.foldl putL A).length ≤ A.length + l.length := by
  induction l with
  | nil => intro A p _ _; exact ⟨p, by simp [tt], by simp⟩
  | cons r l ih =>
    intro A p q hm
    have r1 := q r (by simp)
    have ql : Po l := fun x hx => q x (by simp [hx])
    have nl : 0 ≤ tt l := tt_nn (fun x hx => by have := ql x hx; omega)
    simp only [tt] at hm
    have e := putU_tt p (show 0 ≤ r.c by omega) (by omega)
    obtain ⟨h1, h2, h3⟩ := ih (putL A r) (putU_po p) ql (by rw [e]; omega)
    have h4 := putU_len (A := A) (r := r)
    refine ⟨h1, ?_, ?_⟩
    · simp only [List.foldl_cons, tt]; rw [h2, e]; omega
    · simp only [List.foldl_cons, List.length_cons]; omega
/-- All of a list's rows joined: its sum is far within an int; at most five runs a row. -/
theorem jn_rws (l : List Sk) : ∀ (P : St) (A : List Ru), P.Ok → Po A → tt A + 70368744177664 * l.length ≤ 9223372036854775807 → Po (jn A (rws P l)) ∧ tt (jn A (rws P l)) ≤ tt A + 70368744177664 * l.length ∧ (jn A (rws P l)).length ≤ A.length + 5 * l.length := by
  induction l with
  | nil => intro P A _ p _; exact ⟨p, by simp [jn, rws], by simp [jn, rws]⟩
  | cons s l ih =>
    intro P A hP p hm
    simp only [List.length_cons] at hm
    have r1 := row_b hP s
    have r2 := bd_top s
    have r3 := row_len P s
    obtain ⟨h1, h2, h3⟩ := fold_all (row P s) A p (row_ok P s).2 (by omega)
    obtain ⟨k1, k2, k3⟩ := ih (stp P s) ((row P s).foldl putL A) (stp_ok hP s) h1 (by rw [h2]; omega)
    simp only [rws, jn, List.length_cons]
    exact ⟨k1, by rw [h2] at k2; omega, by omega⟩
end Go.Proofs.Ytdmacflcjbkkpaa.Co
