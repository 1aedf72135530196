/- Runs put behind runs: what is recorded from a mark on is what Since tells, joined with what was there ahead it is all; counts of all kinds make the whole; runs may be. No function of the program in it. -/
import Derived.Test.YtonggccbgiecmaaSince
import Derived.Test.YtonggccbgiecmaaIter
namespace Go.Proofs.Ytonggccbgiecmaa
open Go.ChangeShapes Go.WideShapes Go.ChangeAt Go.RowKit

/-- Where the last run has the same event. -/
theorem putL_same {X : List Rn} {q r : Rn} (hr : 1 ≤ r.c) (hk : q.k = r.k) (hs : q.s = r.s) (hb : q.c + r.c ≤ 9223372036854775807) : putL (X ++ [q]) r = X ++ [⟨q.k, q.s, q.c + r.c⟩] := by
  unfold putL
  rw [if_neg (by omega), List.getLast?_append, List.getLast?_singleton]
  simp only [Option.some_or]
  rw [if_pos ⟨hk, hs⟩]
  have e : sm q.c r.c = q.c + r.c := if_pos hb
  rw [e, List.length_append, List.length_singleton, Nat.add_sub_cancel, List.set_append_right _ _ (Nat.le_refl _), Nat.sub_self, List.set_cons_zero]
theorem putL_other {X : List Rn} {q r : Rn} (hr : 1 ≤ r.c) (h : ¬ (q.k = r.k ∧ q.s = r.s)) : putL (X ++ [q]) r = X ++ [q] ++ [r] := by
  unfold putL
  rw [if_neg (by omega), List.getLast?_append, List.getLast?_singleton]
  simp only [Option.some_or]
  rw [if_neg h]
theorem putL_first {r : Rn} (hr : 1 ≤ r.c) : putL [] r = [r] := by
  unfold putL
  rw [if_neg (by omega)]
  rfl
theorem putL_none {X : List Rn} {r : Rn} (hr : r.c < 1) : putL X r = X := by
  unfold putL; rw [if_pos hr]

theorem since_append {X M : List Rn} : ∀ {m : Int}, Pos X → m < tot X → sinceL (X ++ M) m = sinceL X m ++ M := by
  induction X with
  | nil =>
    intro m _ h
    simp [tot] at h
    rw [since_low (by omega), since_low (by omega)]
  | cons r X ih =>
    intro m hp h
    have h1 := hp r (by simp)
    have hp2 : Pos X := fun q hq => hp q (by simp [hq])
    simp only [tot] at h
    rw [List.cons_append]
    unfold sinceL
    by_cases h0 : m ≤ 0
    · rw [if_pos h0, if_pos h0]; rfl
    · rw [if_neg h0, if_neg h0]
      by_cases h2 : r.c ≤ m
      · rw [if_pos h2, if_pos h2]; exact ih hp2 (by omega)
      · rw [if_neg h2, if_neg h2]; rfl
theorem since_past {X M : List Rn} : ∀ {m : Int}, Pos X → tot X ≤ m → sinceL (X ++ M) m = sinceL M (m - tot X) := by
  induction X with
  | nil => intro m _ _; simp [tot]
  | cons r X ih =>
    intro m hp h
    have h1 := hp r (by simp)
    have hp2 : Pos X := fun q hq => hp q (by simp [hq])
    have h3 := tot_pos hp2
    simp only [tot] at h ⊢
    rw [List.cons_append]
    show (if m ≤ 0 then _ else if r.c ≤ m then sinceL (X ++ M) (m - r.c) else _) = _
    rw [if_neg (by omega), if_pos (by omega), ih hp2 (by omega)]
    congr 1; omega
theorem since_one {q : Rn} {m : Int} (h0 : 0 ≤ m) (h : m < q.c) : sinceL [q] m = [⟨q.k, q.s, q.c - m⟩] := by
  show (if m ≤ 0 then _ else if q.c ≤ m then _ else _) = _
  by_cases h1 : m ≤ 0
  · rw [if_pos h1, show q.c - m = q.c by omega]
  · rw [if_neg h1, if_neg (by omega)]

/-- What is told from a mark on, one run more having been put in. -/
theorem since_put {X : List Rn} {r : Rn} {m : Int} (hp : Pos X) (h0 : 0 ≤ m) (hm : m ≤ tot X) (hb : tot X + max r.c 0 ≤ 9223372036854775807) : sinceL (putL X r) m = putL (sinceL X m) r := by
  by_cases hr : r.c < 1
  · rw [putL_none hr, putL_none hr]
  rcases List.eq_nil_or_concat X with rfl | ⟨Y, q, rfl⟩
  · simp [tot] at hm
    rw [putL_first (by omega), since_low (by omega), since_low (by omega), putL_first (by omega)]
  · rw [List.concat_eq_append] at *
    have hpY : Pos Y := fun z hz => hp z (by simp [hz])
    have hq := hp q (by simp)
    have ht : tot (Y ++ [q]) = tot Y + q.c := by rw [tot_append]; simp [tot]
    have hY := tot_pos hpY
    rw [ht] at hm hb
    by_cases he : q.k = r.k ∧ q.s = r.s
    · rw [putL_same (by omega) he.1 he.2 (by omega)]
      by_cases h1 : m < tot Y
      · rw [since_append hpY h1, since_append hpY h1, putL_same (by omega) he.1 he.2 (by omega)]
      · rw [since_past hpY (by omega), since_past hpY (by omega)]
        by_cases h2 : m - tot Y < q.c
        · rw [since_one (by omega) (by show _ < q.c + r.c; omega), since_one (by omega) h2]
          have e : putL ([] ++ [⟨q.k, q.s, q.c - (m - tot Y)⟩]) r = [] ++ [⟨q.k, q.s, q.c - (m - tot Y) + r.c⟩] := putL_same (by omega) he.1 he.2 (by show q.c - (m - tot Y) + r.c ≤ _; omega)
          rw [List.nil_append, List.nil_append] at e
          rw [e]
          show [(⟨q.k, q.s, q.c + r.c - (m - tot Y)⟩ : Rn)] = _
          congr 2; omega
        · rw [since_one (by omega) (by show _ < q.c + r.c; omega), since_high (fun z hz => by simp at hz; subst hz; exact hq) (by simp [tot]; omega), putL_first (by omega)]
          show [(⟨q.k, q.s, q.c + r.c - (m - tot Y)⟩ : Rn)] = _
          rw [he.1, he.2, show q.c + r.c - (m - tot Y) = r.c by omega]
    · rw [putL_other (by omega) he]
      by_cases h3 : m < tot Y + q.c
      · rw [since_append hp (by rw [ht]; exact h3)]
        by_cases h1 : m < tot Y
        · rw [since_append hpY h1, putL_other (by omega) he]
        · rw [since_past hpY (by omega), since_one (by omega) (by omega)]
          have e : putL ([] ++ [⟨q.k, q.s, q.c - (m - tot Y)⟩]) r = [] ++ [⟨q.k, q.s, q.c - (m - tot Y)⟩] ++ [r] := putL_other (by omega) he
          rw [List.nil_append] at e
          rw [e]
      · rw [since_past hp (by rw [ht]; omega), since_high hp (by rw [ht]; omega), putL_first (by omega), since_low (by rw [ht]; omega)]

/-- The sum of the counts that are 1 or more. -/
def net (X : List Rn) : Int := tot (X.map fun r => ⟨r.k, r.s, max r.c 0⟩)
theorem net_cons (r : Rn) (X : List Rn) : net (r :: X) = max r.c 0 + net X := rfl
theorem net_pos (X : List Rn) : 0 ≤ net X := by
  induction X with
  | nil => simp [net, tot]
  | cons r X ih => rw [net_cons]; omega
theorem tot_putL {X : List Rn} {r : Rn} (hp : Pos X) (hb : tot X + max r.c 0 ≤ 9223372036854775807) : tot (putL X r) = tot X + max r.c 0 := by
  by_cases hr : r.c < 1
  · rw [putL_none hr]; omega
  · rw [tot_put hp (by omega) (by omega)]; omega
theorem tot_fold {X : List Rn} : ∀ {A : List Rn}, Pos A → tot A + net X ≤ 9223372036854775807 → tot (X.foldl putL A) = tot A + net X := by
  induction X with
  | nil => intro A _ _; simp [net, tot]
  | cons r X ih =>
    intro A hp hb
    rw [net_cons] at hb ⊢
    have h0 := net_pos X
    have h1 := tot_putL (r := r) hp (by omega)
    rw [List.foldl_cons, ih (putL_pos hp) (by rw [h1]; omega), h1]
    omega
theorem since_fold {X : List Rn} : ∀ {A B : List Rn} {m : Int}, Pos A → 0 ≤ m → m ≤ tot A → sinceL A m = B → tot A + net X ≤ 9223372036854775807 → sinceL (X.foldl putL A) m = X.foldl putL B := by
  induction X with
  | nil => intro A B m _ _ _ h _; exact h
  | cons r X ih =>
    intro A B m hp h0 hm h hb
    rw [net_cons] at hb
    have hn := net_pos X
    have h1 := tot_putL (r := r) hp (by omega)
    rw [List.foldl_cons, List.foldl_cons]
    refine ih (putL_pos hp) h0 (by rw [h1]; omega) ?_ (by rw [h1]; omega)
    rw [since_put hp h0 hm (by omega), h]
/-- What is recorded from a mark on is what Since tells. -/
theorem marks_since {A X : List Rn} (hp : Pos A) (hb : tot A + net X ≤ 9223372036854775807) : sinceL (X.foldl putL A) (tot A) = X.foldl putL [] :=
  since_fold hp (by have := tot_pos hp; omega) (Int.le_refl _) (since_high hp (Int.le_refl _)) hb

/-- Two runs with the same event, one behind the other. -/
theorem put_put {X : List Rn} {q r : Rn} (hp : Pos X) (hq : 1 ≤ q.c) (hr : 1 ≤ r.c) (hk : q.k = r.k) (hs : q.s = r.s) (hb : tot X + q.c + r.c ≤ 9223372036854775807) : putL (putL X q) r = putL X ⟨q.k, q.s, q.c + r.c⟩ := by
  rcases List.eq_nil_or_concat X with rfl | ⟨Y, z, rfl⟩
  · simp [tot] at hb
    rw [putL_first hq, putL_first (by show 1 ≤ q.c + r.c; omega)]
    have e := putL_same (X := []) hr hk hs (by omega)
    rw [List.nil_append] at e
    rw [e]; rfl
  · rw [List.concat_eq_append] at *
    have hz := hp z (by simp)
    have hY := tot_pos (L := Y) (fun w hw => hp w (by simp [hw]))
    rw [tot_append] at hb
    simp [tot] at hb
    by_cases he : z.k = q.k ∧ z.s = q.s
    · rw [putL_same hq he.1 he.2 (by omega), putL_same hr (by show z.k = _; rw [he.1, hk]) (by show z.s = _; rw [he.2, hs]) (by show z.c + q.c + r.c ≤ _; omega), putL_same (r := ⟨q.k, q.s, q.c + r.c⟩) (by show 1 ≤ q.c + r.c; omega) he.1 he.2 (by show z.c + (q.c + r.c) ≤ _; omega)]
      congr 3
      show z.c + q.c + r.c = z.c + (q.c + r.c)
      omega
    · rw [putL_other hq he, putL_other (r := ⟨q.k, q.s, q.c + r.c⟩) (by show 1 ≤ q.c + r.c; omega) he, putL_same hr hk hs (by omega)]
theorem fold_put {B : List Rn} {r : Rn} {A : List Rn} (hA : Pos A) (hB : Pos B) (hb : tot A + tot B + max r.c 0 ≤ 9223372036854775807) : (putL B r).foldl putL A = putL (B.foldl putL A) r := by
  by_cases hr : r.c < 1
  · rw [putL_none hr, putL_none hr]
  rcases List.eq_nil_or_concat B with rfl | ⟨Y, q, rfl⟩
  · rw [putL_first (by omega)]; rfl
  · rw [List.concat_eq_append] at *
    have hq := hB q (by simp)
    have hpY : Pos Y := fun z hz => hB z (by simp [hz])
    have hYn : net Y = tot Y := by
      clear hB hb
      induction Y with
      | nil => rfl
      | cons z Y ih => rw [net_cons, ih (fun w hw => hpY w (by simp [hw]))]; have := hpY z (by simp); simp only [tot]; omega
    rw [tot_append] at hb
    simp [tot] at hb
    have hY := tot_pos hpY
    have hA2 := tot_pos hA
    by_cases he : q.k = r.k ∧ q.s = r.s
    · rw [putL_same (by omega) he.1 he.2 (by omega), List.foldl_append, List.foldl_append]
      show putL (Y.foldl putL A) _ = putL (putL (Y.foldl putL A) q) r
      rw [put_put (fold_pos Y A hA) hq (by omega) he.1 he.2 (by rw [tot_fold hA (by rw [hYn]; omega), hYn]; omega)]
    · rw [putL_other (by omega) he, List.foldl_append]
      rfl
theorem fold_fold {X : List Rn} : ∀ {A B : List Rn}, Pos A → Pos B → tot A + tot B + net X ≤ 9223372036854775807 → (X.foldl putL B).foldl putL A = X.foldl putL (B.foldl putL A) := by
  induction X with
  | nil => intro A B _ _ _; rfl
  | cons r X ih =>
    intro A B hA hB hb
    rw [net_cons] at hb
    have hn := net_pos X
    rw [List.foldl_cons, List.foldl_cons, ih hA (putL_pos hB) (by rw [tot_putL hB (by have := tot_pos hA; omega)]; omega), fold_put hA hB (by omega)]

/-- Runs put in one by one may be. -/
theorem chk_put {X : List Rn} {r : Rn} (h : Chk X) : Chk (putL X r) := by
  by_cases hr : r.c < 1
  · rw [putL_none hr]; exact h
  rcases List.eq_nil_or_concat X with rfl | ⟨Y, q, rfl⟩
  · rw [putL_first (by omega)]
    intro i x hi
    cases i with
    | zero => simp at hi; subst hi; exact ⟨by omega, fun q h0 => by omega⟩
    | succ i => simp at hi
  · rw [List.concat_eq_append] at *
    have hq : 1 ≤ q.c := (h Y.length q (by simp)).1
    by_cases he : q.k = r.k ∧ q.s = r.s
    · have e : ∃ c, 1 ≤ c ∧ putL (Y ++ [q]) r = Y ++ [⟨q.k, q.s, c⟩] := by
        refine ⟨sm q.c r.c, (sm_bound hq (by omega)).1, ?_⟩
        unfold putL
        rw [if_neg hr, List.getLast?_append, List.getLast?_singleton]
        simp only [Option.some_or]
        rw [if_pos he, List.length_append, List.length_singleton, Nat.add_sub_cancel, List.set_append_right _ _ (Nat.le_refl _), Nat.sub_self, List.set_cons_zero]
      obtain ⟨c, hc, e⟩ := e
      rw [e]
      intro i x hi
      by_cases hl : i < Y.length
      · have h1 : (Y ++ [q])[i]? = some x := by rw [List.getElem?_append_left hl] at hi ⊢; exact hi
        refine ⟨(h i x h1).1, fun z h0 hz => (h i x h1).2 z h0 ?_⟩
        rw [List.getElem?_append_left (by omega)] at hz ⊢; exact hz
      · have hiY : i = Y.length := by
          have := (List.getElem?_eq_some_iff.1 hi).1
          simp at this; omega
        subst hiY
        simp at hi
        subst hi
        refine ⟨hc, fun z h0 hz => ?_⟩
        have := (h Y.length q (by simp)).2 z h0 (by rw [List.getElem?_append_left (by omega)] at hz ⊢; exact hz)
        exact this
    · rw [putL_other (by omega) he]
      intro i x hi
      by_cases hl : i < (Y ++ [q]).length
      · have h1 : (Y ++ [q])[i]? = some x := by rw [List.getElem?_append_left hl] at hi; exact hi
        refine ⟨(h i x h1).1, fun z h0 hz => (h i x h1).2 z h0 ?_⟩
        rw [List.getElem?_append_left (by omega)] at hz; exact hz
      · have hiY : i = (Y ++ [q]).length := by
          have := (List.getElem?_eq_some_iff.1 hi).1
          rw [List.length_append, List.length_singleton] at this; omega
        subst hiY
        rw [List.getElem?_append_right (Nat.le_refl _), Nat.sub_self] at hi
        simp at hi
        subst hi
        refine ⟨by omega, fun z h0 hz => ?_⟩
        rw [List.getElem?_append_left (by omega), List.length_append, List.length_singleton, Nat.add_sub_cancel, List.getElem?_append_right (Nat.le_refl _), Nat.sub_self] at hz
        simp at hz
        subst hz
        intro e
        exact he ⟨e.1.symm, e.2.symm⟩
theorem chk_nil : Chk [] := fun i r h => by simp at h
theorem chk_fold (X : List Rn) : ∀ A : List Rn, Chk A → Chk (X.foldl putL A) := by
  induction X with
  | nil => intro A h; exact h
  | cons r X ih => intro A h; exact ih _ (chk_put h)
/-- Runs that may be, put in one by one, are themselves. -/
theorem fold_self {X : List Rn} : ∀ {A : List Rn}, Chk (A ++ X) → X.foldl putL A = A ++ X := by
  induction X with
  | nil => intro A _; simp
  | cons r X ih =>
    intro A h
    have hr : 1 ≤ r.c := (h A.length r (by simp)).1
    have e : putL A r = A ++ [r] := by
      rcases List.eq_nil_or_concat A with rfl | ⟨Y, q, rfl⟩
      · rw [putL_first hr]; rfl
      · rw [List.concat_eq_append] at *
        refine putL_other hr (fun e => ?_)
        refine (h (Y ++ [q]).length r (by simp)).2 q (by simp) ?_ ⟨e.1.symm, e.2.symm⟩
        rw [List.getElem?_append_left (by simp), List.length_append, List.length_singleton, Nat.add_sub_cancel, List.getElem?_append_right (Nat.le_refl _), Nat.sub_self]
        rfl
    rw [List.foldl_cons, e, ih (by rw [List.append_assoc]; exact h), List.append_assoc]
    rfl

/-- The sum of the counts of the first n kinds. -/
def cntTo (L : List Rn) : Nat → Int
  | 0 => 0
  | n + 1 => cntTo L n + cnt n L
theorem cntTo_cons (r : Rn) (L : List Rn) (n : Nat) (h : 0 ≤ r.k) : cntTo (r :: L) n = cntTo L n + (if r.k < n then r.c else 0) := by
  induction n with
  | zero => simp [cntTo]; intro h2; omega
  | succ n ih =>
    simp only [cntTo, ih, cnt]
    by_cases h1 : r.k = (n : Int)
    · rw [if_neg (by omega), if_pos h1, if_pos (by omega)]; omega
    · rw [if_neg h1]
      by_cases h2 : r.k < (n : Int)
      · rw [if_pos h2, if_pos (by omega)]; omega
      · rw [if_neg h2, if_neg (by omega)]; omega
theorem cntTo_all {L : List Rn} (h : ∀ r ∈ L, r.Ok) : cntTo L 256 = tot L := by
  induction L with
  | nil => decide +kernel
  | cons r L ih =>
    have h1 := h r (by simp)
    rw [cntTo_cons r L 256 h1.1.1, ih (fun q hq => h q (by simp [hq])), if_pos (by have := h1.1.2; simpa using this)]
    simp [tot]; omega
theorem evs_length {L : List Rn} (h : Pos L) : ((evs L).length : Int) = tot L := by
  induction L with
  | nil => rfl
  | cons r L ih =>
    have h1 := h r (by simp)
    have h2 := ih (fun q hq => h q (by simp [hq]))
    have e : evs (r :: L) = evs [r] ++ evs L := evs_append [r] L
    rw [e, List.length_append, evs_one, List.length_replicate]
    simp only [tot]
    omega
end Go.Proofs.Ytonggccbgiecmaa
