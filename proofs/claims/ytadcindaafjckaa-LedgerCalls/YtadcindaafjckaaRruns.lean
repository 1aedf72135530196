/- Plain facts on lists of runs: one run more, the events from a number on; no program in it. -/
import Derived.Test.YtadcindaafjckaaRsince
import Derived.Test.YtadcindaafjckaaRiter
namespace Go.Proofs.Ytadcindaafjckaa
open Go.ChangeShapes Go.WideShapes Go.ChangeAt Go.RowKit
theorem putL_same {X : List Rn} {q r : Rn} (hr : 1 ≤ r.c) (hk : q.k = r.k) (hs : q.s = r.s) (hb : q.c + r.c ≤ 9223372036854775807) : putL (X ++ [q]) r = X ++ [⟨q.k, q.s, q.c + r.c⟩] := by
  unfold putL
  rw [if_neg (by omega), List.getLast?_append, List.getLast?_singleton]
  simp only [Option.some_or]
  rw [if_pos ⟨hk, hs⟩]
  have e : sm q.c r.c = q.c + r.c := if_pos hb
  rw [e, List.length_append, List.length_singleton, Nat.add_sub_cancel, List.set_append_right _ _ (Nat.le_refl _), Nat.sub_self, List.set_cons_zero]
theorem putL_other {X : List Rn} {q r : Rn} (hr : 1 ≤ r.c) (h : ¬ (q.k = r.k ∧ q.s = r.s)) : putL (X ++ [q]) r = X ++ [q] ++ [r] := by
  unfold putL
  rw [if_neg (by omega), List.getLast?_append, List.getLast?_singleton]
  simp only [Option.some_or]
  rw [if_neg h]
theorem putL_first {r : Rn} (hr : 1 ≤ r.c) : putL [] r = [r] := by
  unfold putL
  rw [if_neg (by omega)]
  rfl
theorem putL_none {X : List Rn} {r : Rn} (hr : r.c < 1) : putL X r = X := by
  unfold putL; rw [if_pos hr]

theorem since_append {X M : List Rn} : ∀ {m : Int}, Pos X → m < tot X → sinceL (X ++ M) m = sinceL X m ++ M := by
  induction X with
  | nil =>
    intro m _ h
    simp [tot] at h
    rw [since_low (by omega), since_low (by omega)]
  | cons r X ih =>
    intro m hp h
    have h1 := hp r (by simp)
    have hp2 : Pos X := fun q hq => hp q (by simp [hq])
    simp only [tot] at h
    rw [List.cons_append]
    unfold sinceL
    by_cases h0 : m ≤ 0
    · rw [if_pos h0, if_pos h0]; rfl
    · rw [if_neg h0, if_neg h0]
      by_cases h2 : r.c ≤ m
      · rw [if_pos h2, if_pos h2]; exact ih hp2 (by omega)
      · rw [if_neg h2, if_neg h2]; rfl
theorem since_past {X M : List Rn} : ∀ {m : Int}, Pos X → tot X ≤ m → sinceL (X ++ M) m = sinceL M (m - tot X) := by
  induction X with
  | nil => intro m _ _; simp [tot]
  | cons r X ih =>
    intro m hp h
    have h1 := hp r (by simp)
    have hp2 : Pos X := fun q hq => hp q (by simp [hq])
    have h3 := tot_pos hp2
    simp only [tot] at h ⊢
    rw [List.cons_append]
    show (if m ≤ 0 then _ else if r.c ≤ m then sinceL (X ++ M) (m - r.c) else _) = _
    rw [if_neg (by omega), if_pos (by omega), ih hp2 (by omega)]
    congr 1; omega
theorem since_one {q : Rn} {m : Int} (h0 : 0 ≤ m) (h : m < q.c) : sinceL [q] m = [⟨q.k, q.s, q.c - m⟩] := by
  show (if m ≤ 0 then _ else if q.c ≤ m then _ else _) = _
  by_cases h1 : m ≤ 0
  · rw [if_pos h1, show q.c - m = q.c by omega]
  · rw [if_neg h1, if_neg (by omega)]

/-- What is told from a mark on, one run more having been put in. -/
theorem evs_length {L : List Rn} (h : Pos L) : ((evs L).length : Int) = tot L := by
  induction L with
  | nil => rfl
  | cons r L ih =>
    have h1 := h r (by simp)
    have h2 := ih (fun q hq => h q (by simp [hq]))
    have e : evs (r :: L) = evs [r] ++ evs L := evs_append [r] L
    rw [e, List.length_append, evs_one, List.length_replicate]
    simp only [tot]
    omega
theorem since_none {X : List Rn} {r : Rn} {m : Int} (hp : Pos X) (hr : 1 ≤ r.c) (h : tot X + r.c ≤ m) : sinceL (X ++ [r]) m = sinceL X m := by
  have h0 := tot_pos hp
  rw [since_past hp (by omega), since_high hp (by omega)]
  exact since_high (fun q hq => by simp at hq; subst hq; exact hr) (by show r.c + 0 ≤ _; omega)
theorem since_part {X : List Rn} {r : Rn} {m : Int} (hp : Pos X) (h1 : tot X < m) (h2 : m < tot X + r.c) : sinceL (X ++ [r]) m = sinceL X m ++ [⟨r.k, r.s, tot X + r.c - m⟩] := by
  rw [since_past hp (by omega), since_high hp (by omega), since_one (by omega) (by omega), show r.c - (m - tot X) = tot X + r.c - m by omega]
  rfl
theorem since_all {X : List Rn} {r : Rn} {m : Int} (hp : Pos X) (h : m ≤ tot X) : sinceL (X ++ [r]) m = sinceL X m ++ [r] := by
  by_cases e : m = tot X
  · rw [since_past hp (by omega), since_high hp (by omega), since_low (by omega)]; rfl
  · exact since_append hp (by omega)
theorem since_neg {L : List Rn} {m : Int} (h : m < 0) : sinceL L m = sinceL L 0 := by rw [since_low (by omega), since_low (by omega)]
theorem since_len {L : List Rn} : ∀ {m : Int}, (sinceL L m).length ≤ L.length := by
  induction L with
  | nil => intro m; exact Nat.le_refl _
  | cons r L ih =>
    intro m
    show (if m ≤ 0 then _ else if r.c ≤ m then _ else _ : List Rn).length ≤ _
    split
    · exact Nat.le_refl _
    · split
      · exact Nat.le_trans ih (Nat.le_succ _)
      · exact Nat.le_refl _
end Go.Proofs.Ytadcindaafjckaa
