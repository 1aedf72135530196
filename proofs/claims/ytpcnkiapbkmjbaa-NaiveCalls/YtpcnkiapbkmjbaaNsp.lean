/- Bytes put in order by sinking each one, as plain facts: which choices are made, what comes out, how often two change places; no program in it. -/
import Derived.Test.YtpcnkiapbkmjbaaNpu
namespace Go.Proofs.Ytpcnkiapbkmjbaa.Nv
open Go.Proofs.Ytpcnkiapbkmjbaa
/-- The places k - 1 and k (k above 0) change. -/
def swp (f : Nat → Int) (k : Nat) : Nat → Int := fun i => if i = k then f (k + 1) else if i = k + 1 then f k else f i
/-- The byte at place k sinks. -/
def sink (f : Nat → Int) : Nat → (Nat → Int) × List Bool
  | 0 => (f, [])
  | k + 1 => if f (k + 1) < f k then ((sink (swp f k) k).1, true :: (sink (swp f k) k).2) else (f, [false])
/-- The first m bytes put in order. -/
def srt (f : Nat → Int) : Nat → (Nat → Int) × List Bool
  | 0 => (f, [])
  | m + 1 => ((sink (srt f m).1 m).1, (srt f m).2 ++ (sink (srt f m).1 m).2)
theorem srt_one (f : Nat → Int) : srt f 1 = (f, []) := rfl
theorem swp_bound {f : Nat → Int} (h : ∀ i, 0 ≤ f i ∧ f i < 256) (k : Nat) : ∀ i, 0 ≤ swp f k i ∧ swp f k i < 256 := fun i => by
  unfold swp; split
  · exact h _
  · split <;> exact h _
theorem sink_bound (k : Nat) : ∀ {f : Nat → Int}, (∀ i, 0 ≤ f i ∧ f i < 256) → ∀ i, 0 ≤ (sink f k).1 i ∧ (sink f k).1 i < 256 := by
  induction k with
  | zero => intro f h; exact h
  | succ k ih =>
    intro f h
    rw [sink]
    split
    · exact ih (swp_bound h k)
    · exact h
theorem srt_bound {f : Nat → Int} (h : ∀ i, 0 ≤ f i ∧ f i < 256) (m : Nat) : ∀ i, 0 ≤ (srt f m).1 i ∧ (srt f m).1 i < 256 := by
  induction m with
  | zero => exact h
  | succ m ih => exact sink_bound m ih
theorem sink_len (k : Nat) : ∀ (f : Nat → Int), (sink f k).2.length ≤ k := by
  induction k with
  | zero => intro f; exact Nat.le_refl _
  | succ k ih =>
    intro f
    rw [sink]
    split
    · have := ih (swp f k); simp only [List.length_cons]; omega
    · simp
theorem srt_len (f : Nat → Int) (m : Nat) : (srt f m).2.length ≤ m * m := by
  induction m with
  | zero => exact Nat.le_refl _
  | succ m ih =>
    have h := sink_len m (srt f m).1
    rw [srt]
    simp only [List.length_append]
    have : (m + 1) * (m + 1) = m * m + 2 * m + 1 := by rw [Nat.add_mul, Nat.mul_add]; omega
    omega
/-- How many of the first n have a property. -/
def cn (p : Int → Bool) (f : Nat → Int) : Nat → Nat
  | 0 => 0
  | n + 1 => cn p f n + if p (f n) then 1 else 0
theorem cn_congr {p : Int → Bool} {f g : Nat → Int} : ∀ {n : Nat}, (∀ i, i < n → f i = g i) → cn p f n = cn p g n := by
  intro n
  induction n with
  | zero => intro _; rfl
  | succ n ih => intro h; rw [cn, cn, ih fun i hi => h i (by omega), h n (by omega)]
theorem cn_swp (p : Int → Bool) (f : Nat → Int) (k : Nat) : cn p (swp f k) (k + 2) = cn p f (k + 2) := by
  have h : cn p (swp f k) k = cn p f k := cn_congr fun i hi => by unfold swp; rw [if_neg (by omega), if_neg (by omega)]
  have e1 : swp f k k = f (k + 1) := by unfold swp; rw [if_pos rfl]
  have e2 : swp f k (k + 1) = f k := by unfold swp; rw [if_neg (by omega), if_pos rfl]
  rw [cn, cn, cn, cn, h, e1, e2]
  omega
theorem swp_out (f : Nat → Int) {k i : Nat} (h : k + 1 < i) : swp f k i = f i := by
  unfold swp; rw [if_neg (by omega), if_neg (by omega)]
theorem swp_low (f : Nat → Int) {k i : Nat} (h : i < k) : swp f k i = f i := by
  unfold swp; rw [if_neg (by omega), if_neg (by omega)]
theorem sink_out (k : Nat) : ∀ (f : Nat → Int) (i : Nat), k < i → (sink f k).1 i = f i := by
  induction k with
  | zero => intro f i _; rfl
  | succ k ih =>
    intro f i hi
    rw [sink]
    split
    · show (sink (swp f k) k).1 i = f i
      rw [ih _ i (by omega), swp_out f hi]
    · rfl
theorem sink_cn (p : Int → Bool) (k : Nat) : ∀ (f : Nat → Int), cn p (sink f k).1 (k + 1) = cn p f (k + 1) := by
  induction k with
  | zero => intro f; rfl
  | succ k ih =>
    intro f
    rw [sink]
    split
    · show cn p (sink (swp f k) k).1 (k + 2) = cn p f (k + 2)
      rw [cn, ih, sink_out k _ (k + 1) (by omega)]
      exact cn_swp p f k
    · rfl
/-- The first n rise. -/
def Rise (f : Nat → Int) (n : Nat) : Prop := ∀ i j, i ≤ j → j < n → f i ≤ f j
theorem cn_none {p : Int → Bool} {f : Nat → Int} : ∀ {n : Nat}, (∀ i, i < n → p (f i) = false) → cn p f n = 0 := by
  intro n
  induction n with
  | zero => intro _; rfl
  | succ n ih => intro h; rw [cn, ih fun i hi => h i (by omega), h n (by omega)]; rfl
theorem cn_zero {p : Int → Bool} {f : Nat → Int} : ∀ {n : Nat}, cn p f n = 0 → ∀ i, i < n → p (f i) = false := by
  intro n
  induction n with
  | zero => intro _ i hi; omega
  | succ n ih =>
    intro h i hi
    rw [cn] at h
    by_cases e : i = n
    · subst e
      cases hp : p (f i) with
      | false => rfl
      | true => rw [hp] at h; simp at h
    · exact ih (by omega) i (by omega)
theorem sink_rise (k : Nat) : ∀ (f : Nat → Int), Rise f k → Rise (sink f k).1 (k + 1) := by
  induction k with
  | zero => intro f _ i j hij hj; rw [show i = j by omega]; exact Int.le_refl _
  | succ k ih =>
    intro f h
    rw [sink]
    split
    · rename_i hlt
      have hs : Rise (swp f k) k := fun i j hij hj => by rw [swp_low f (show i < k by omega), swp_low f hj]; exact h i j hij (by omega)
      have h1 := ih (swp f k) hs
      have e2 : swp f k (k + 1) = f k := by unfold swp; rw [if_neg (by omega), if_pos rfl]
      have top : (sink (swp f k) k).1 (k + 1) = f k := by rw [sink_out k _ (k + 1) (by omega), e2]
      have low : ∀ i, i < k + 1 → (sink (swp f k) k).1 i ≤ f k := by
        have hz : cn (fun x => decide (f k < x)) (sink (swp f k) k).1 (k + 1) = 0 := by
          rw [sink_cn]
          refine cn_none fun i hi => decide_eq_false ?_
          by_cases e : i = k
          · subst e
            have : swp f i i = f (i + 1) := by unfold swp; rw [if_pos rfl]
            omega
          · rw [swp_low f (show i < k by omega)]
            have := h i k (by omega) (by omega)
            omega
        intro i hi
        have := of_decide_eq_false (cn_zero hz i hi)
        omega
      intro i j hij hj
      show (sink (swp f k) k).1 i ≤ (sink (swp f k) k).1 j
      by_cases e : j = k + 1
      · subst e
        by_cases e2 : i = k + 1
        · subst e2; exact Int.le_refl _
        · rw [top]; exact low i (by omega)
      · exact h1 i j hij (by omega)
    · rename_i hge
      intro i j hij hj
      by_cases e : j = k + 1
      · subst e
        by_cases e2 : i = k + 1
        · subst e2; exact Int.le_refl _
        · have := h i k (by omega) (by omega)
          show f i ≤ f (k + 1)
          omega
      · exact h i j hij (by omega)
theorem sink_nt (k : Nat) : ∀ (f : Nat → Int), Rise f k → nt (sink f k).2 = cn (fun x => decide (f k < x)) f k := by
  induction k with
  | zero => intro f _; rfl
  | succ k ih =>
    intro f h
    rw [sink]
    split
    · rename_i hlt
      have hs : Rise (swp f k) k := fun i j hij hj => by rw [swp_low f (show i < k by omega), swp_low f hj]; exact h i j hij (by omega)
      have e1 : swp f k k = f (k + 1) := by unfold swp; rw [if_pos rfl]
      show nt (true :: (sink (swp f k) k).2) = _
      rw [show true :: (sink (swp f k) k).2 = [true] ++ (sink (swp f k) k).2 from rfl, nt_app, ih _ hs, e1, cn, if_pos (decide_eq_true hlt), cn_congr (fun i hi => swp_low f hi)]
      exact Nat.add_comm _ _
    · rename_i hge
      have hz : cn (fun x => decide (f (k + 1) < x)) f (k + 1) = 0 := cn_none fun i hi => decide_eq_false (by
        have := h i k (by omega) (by omega)
        omega)
      rw [hz]; rfl
theorem srt_out (f : Nat → Int) (m : Nat) : ∀ i, m ≤ i → (srt f m).1 i = f i := by
  induction m with
  | zero => intro i _; rfl
  | succ m ih => intro i hi; rw [srt]; show (sink (srt f m).1 m).1 i = f i; rw [sink_out m _ i (by omega), ih i (by omega)]
theorem srt_cn (p : Int → Bool) (f : Nat → Int) (m : Nat) : cn p (srt f m).1 m = cn p f m := by
  induction m with
  | zero => rfl
  | succ m ih =>
    rw [srt]
    show cn p (sink (srt f m).1 m).1 (m + 1) = _
    rw [sink_cn, cn, cn, ih, srt_out f m m (Nat.le_refl _)]
theorem srt_rise (f : Nat → Int) (m : Nat) : Rise (srt f m).1 m := by
  induction m with
  | zero => intro i j _ hj; omega
  | succ m ih => exact sink_rise m _ ih
/-- How many pairs there are of which the greater stands ahead. -/
def invs (f : Nat → Int) : Nat → Nat
  | 0 => 0
  | m + 1 => invs f m + cn (fun x => decide (f m < x)) f m
theorem srt_nt (f : Nat → Int) (m : Nat) : nt (srt f m).2 = invs f m := by
  induction m with
  | zero => rfl
  | succ m ih =>
    rw [srt, invs]
    show nt ((srt f m).2 ++ (sink (srt f m).1 m).2) = _
    rw [nt_app, ih, sink_nt m _ (srt_rise f m), srt_out f m m (Nat.le_refl _), srt_cn]
end Go.Proofs.Ytpcnkiapbkmjbaa.Nv
