/- Plain facts on bytes: the exclusive or, the mask, which of two lists is less (the highest byte first); no program in it. -/
import Derived.Laws.BitsAllLaws
import Derived.Laws.BitsLemmas
namespace Go.Proofs.Ytdahogdfonhnfaa.By

theorem or_bound (a b : Int) (ha : 0 ≤ a ∧ a < 256) (hb : 0 ≤ b ∧ b < 256) : 0 ≤ bits .or .u8 a b ∧ bits .or .u8 a b < 256 := by
  obtain ⟨A, rfl⟩ := Int.eq_ofNat_of_zero_le ha.1
  obtain ⟨B, rfl⟩ := Int.eq_ofNat_of_zero_le hb.1
  rw [u8_or_nat A B (by omega) (by omega)]
  have : A ||| B < 2 ^ 8 := Nat.or_lt_two_pow (by omega) (by omega)
  omega
theorem xor_bound (a b : Int) (ha : 0 ≤ a ∧ a < 256) (hb : 0 ≤ b ∧ b < 256) : 0 ≤ bits .xor .u8 a b ∧ bits .xor .u8 a b < 256 := by
  obtain ⟨A, rfl⟩ := Int.eq_ofNat_of_zero_le ha.1
  obtain ⟨B, rfl⟩ := Int.eq_ofNat_of_zero_le hb.1
  rw [u8_xor_nat A B (by omega) (by omega)]
  have : A ^^^ B < 2 ^ 8 := Nat.xor_lt_two_pow (by omega) (by omega)
  omega
theorem or_zero (a b : Int) (ha : 0 ≤ a ∧ a < 256) (hb : 0 ≤ b ∧ b < 256) : bits .or .u8 a b = 0 ↔ a = 0 ∧ b = 0 := by
  obtain ⟨A, rfl⟩ := Int.eq_ofNat_of_zero_le ha.1
  obtain ⟨B, rfl⟩ := Int.eq_ofNat_of_zero_le hb.1
  rw [u8_or_nat A B (by omega) (by omega)]
  have h : A ||| B = 0 ↔ A = 0 ∧ B = 0 := Nat.or_eq_zero_iff
  omega
theorem xor_zero (a b : Int) (ha : 0 ≤ a ∧ a < 256) (hb : 0 ≤ b ∧ b < 256) : bits .xor .u8 a b = 0 ↔ a = b := by
  obtain ⟨A, rfl⟩ := Int.eq_ofNat_of_zero_le ha.1
  obtain ⟨B, rfl⟩ := Int.eq_ofNat_of_zero_le hb.1
  rw [u8_xor_nat A B (by omega) (by omega)]
  have h : A ^^^ B = 0 ↔ A = B := ⟨fun e => by have := congrArg (· ^^^ B) e; simpa [Nat.xor_assoc] using this, fun e => by subst e; exact Nat.xor_self A⟩
  omega
/-- What a mask lets pass. -/
theorem pick_yes (a b : Int) (ha : 0 ≤ a ∧ a < 256) (hb : 0 ≤ b ∧ b < 256) : bits .xor .u8 (bits .and .u8 (bits .xor .u8 a b) 255) b = a := by
  obtain ⟨A, rfl⟩ := Int.eq_ofNat_of_zero_le ha.1
  obtain ⟨B, rfl⟩ := Int.eq_ofNat_of_zero_le hb.1
  have h1 : A ^^^ B < 2 ^ 8 := Nat.xor_lt_two_pow (by omega) (by omega)
  have h2 : (A ^^^ B) &&& 255 = A ^^^ B := by
    have := Nat.and_two_pow_sub_one_eq_mod (A ^^^ B) 8
    rw [Nat.mod_eq_of_lt h1] at this
    exact this
  rw [u8_xor_nat A B (by omega) (by omega), show (255 : Int) = ((255 : Nat) : Int) from rfl, u8_and_nat _ 255 (by omega) (by omega), h2, u8_xor_nat _ B (by omega) (by omega), Nat.xor_assoc, Nat.xor_self, Nat.xor_zero]
theorem pick_no (a b : Int) (ha : 0 ≤ a ∧ a < 256) (hb : 0 ≤ b ∧ b < 256) : bits .xor .u8 (bits .and .u8 (bits .xor .u8 a b) 0) b = b := by
  obtain ⟨A, rfl⟩ := Int.eq_ofNat_of_zero_le ha.1
  obtain ⟨B, rfl⟩ := Int.eq_ofNat_of_zero_le hb.1
  have h1 : A ^^^ B < 2 ^ 8 := Nat.xor_lt_two_pow (by omega) (by omega)
  rw [u8_xor_nat A B (by omega) (by omega), show (0 : Int) = ((0 : Nat) : Int) from rfl, u8_and_nat _ 0 (by omega) (by omega), Nat.and_zero, u8_xor_nat 0 B (by omega) (by omega), Nat.zero_xor]

/-- Are the first n bytes the same? -/
def eqB (f g : Nat → Int) (n : Nat) : Bool := decide (∀ i, i < n → f i = g i)
theorem eqB_iff {f g : Nat → Int} {n : Nat} : eqB f g n = true ↔ ∀ i, i < n → f i = g i := by simp [eqB]
theorem eqB_succ (f g : Nat → Int) (n : Nat) : eqB f g (n + 1) = (eqB f g n && decide (f n = g n)) := by
  rw [Bool.eq_iff_iff, Bool.and_eq_true, eqB_iff, eqB_iff, decide_eq_true_iff]
  constructor
  · intro h; exact ⟨fun i hi => h i (by omega), h n (by omega)⟩
  · rintro ⟨h1, h2⟩ i hi
    by_cases e : i = n
    · subst e; exact h2
    · exact h1 i (by omega)
theorem eqB_zero (f g : Nat → Int) : eqB f g 0 = true := eqB_iff.2 (fun i hi => by omega)
/-- Are the first n bytes all 0? -/
def zeroB (f : Nat → Int) (n : Nat) : Bool := eqB f (fun _ => 0) n

/-- Of the last j of n bytes: is f less than g? -/
def lsB (f g : Nat → Int) (n : Nat) : Nat → Bool
  | 0 => false
  | j + 1 => if f (n - 1 - j) < g (n - 1 - j) then true else if f (n - 1 - j) = g (n - 1 - j) then lsB f g n j else false
/-- Is f less than g? -/
def less (f g : Nat → Int) (n : Nat) : Bool := lsB f g n n
def bo (b : Bool) : Int := if b then 1 else 0
theorem bo_bound (b : Bool) : 0 ≤ bo b ∧ bo b ≤ 1 := by cases b <;> simp [bo]
theorem bo_one (b : Bool) : decide (bo b = 1) = b := by cases b <;> rfl
theorem lsB_step (f g : Nat → Int) (n j : Nat) (hf : ∀ i, 0 ≤ f i ∧ f i < 256) (hg : ∀ i, 0 ≤ g i ∧ g i < 256) :
    ((f (n - 1 - j) - g (n - 1 - j) - bo (lsB f g n j)) % 65536) / 32768 = bo (lsB f g n (j + 1)) := by
  have h1 := hf (n - 1 - j)
  have h2 := hg (n - 1 - j)
  have h3 := bo_bound (lsB f g n j)
  rw [show lsB f g n (j + 1) = if f (n - 1 - j) < g (n - 1 - j) then true else if f (n - 1 - j) = g (n - 1 - j) then lsB f g n j else false from rfl]
  generalize lsB f g n j = z at *
  generalize f (n - 1 - j) = x at *
  generalize g (n - 1 - j) = y at *
  by_cases a : x < y
  · rw [if_pos a]; show _ = (1 : Int); omega
  · rw [if_neg a]
    by_cases b : x = y
    · rw [if_pos b]; omega
    · rw [if_neg b]
      show _ = (0 : Int)
      omega
theorem lsB_iff (f g : Nat → Int) (n : Nat) : ∀ j, j ≤ n → (lsB f g n j = true ↔ ∃ i, n - j ≤ i ∧ i < n ∧ f i < g i ∧ ∀ m, n - j ≤ m → m < i → f m = g m) := by
  intro j
  induction j with
  | zero => intro _; simp [lsB]; intro i h1 h2; omega
  | succ j ih =>
    intro hj
    have ih := ih (by omega)
    have e : n - (j + 1) = n - 1 - j := by omega
    have e2 : n - j = n - 1 - j + 1 := by omega
    rw [e2] at ih
    rw [e]
    unfold lsB
    have hk : n - 1 - j < n := by omega
    generalize n - 1 - j = k at *
    by_cases a : f k < g k
    · rw [if_pos a]
      simp only [true_iff]
      exact ⟨k, Nat.le_refl _, hk, a, fun m h1 h2 => by omega⟩
    · rw [if_neg a]
      by_cases b : f k = g k
      · rw [if_pos b, ih]
        constructor
        · rintro ⟨i, h1, h2, h3, h4⟩
          refine ⟨i, by omega, h2, h3, fun m hm1 hm2 => ?_⟩
          by_cases em : m = k
          · subst em; exact b
          · exact h4 m (by omega) hm2
        · rintro ⟨i, h1, h2, h3, h4⟩
          have hne : i ≠ k := by intro e; subst e; exact a h3
          exact ⟨i, by omega, h2, h3, fun m hm1 hm2 => h4 m (by omega) hm2⟩
      · rw [if_neg b]
        simp only [Bool.false_eq_true, false_iff]
        rintro ⟨i, h1, h2, h3, h4⟩
        by_cases hik : i = k
        · subst hik; exact a h3
        · exact b (h4 k (Nat.le_refl _) (by omega))
theorem less_iff (f g : Nat → Int) (n : Nat) : less f g n = true ↔ ∃ i, i < n ∧ f i < g i ∧ ∀ m, m < i → f m = g m := by
  unfold less
  rw [lsB_iff f g n n (Nat.le_refl _)]
  simp
theorem less_at {f g : Nat → Int} {n k : Nat} (h : ∀ i, i < k → f i = g i) (hk : k < n) (hne : f k ≠ g k) : less f g n = decide (f k < g k) := by
  rw [Bool.eq_iff_iff, less_iff, decide_eq_true_iff]
  constructor
  · rintro ⟨i, h1, h2, h3⟩
    rcases Nat.lt_trichotomy i k with h4 | h4 | h4
    · have := h i h4; omega
    · subst h4; exact h2
    · exact absurd (h3 k h4) hne
  · intro hl; exact ⟨k, hk, hl, h⟩
theorem less_same {f g : Nat → Int} {n : Nat} (h : ∀ i, i < n → f i = g i) : less f g n = false := by
  rw [Bool.eq_false_iff]
  intro hl
  obtain ⟨i, h1, h2, _⟩ := (less_iff _ _ _).1 hl
  have := h i h1
  omega
theorem first_diff (f g : Nat → Int) : ∀ n, ¬ (∀ i, i < n → f i = g i) → ∃ k, k < n ∧ f k ≠ g k ∧ ∀ i, i < k → f i = g i := by
  intro n
  induction n with
  | zero => intro h; exact absurd (fun i hi => by omega) h
  | succ n ih =>
    intro h
    by_cases hn : ∀ i, i < n → f i = g i
    · refine ⟨n, by omega, fun e => h (fun i hi => ?_), hn⟩
      by_cases ei : i = n
      · subst ei; exact e
      · exact hn i (by omega)
    · obtain ⟨k, h1, h2, h3⟩ := ih hn
      exact ⟨k, by omega, h2, h3⟩
theorem eqB_false {f g : Nat → Int} {n : Nat} : eqB f g n = false ↔ ¬ ∀ i, i < n → f i = g i := by
  rw [Bool.eq_false_iff]; exact not_congr eqB_iff
/-- Just one of three. -/
theorem one_of_three (f g : Nat → Int) (n : Nat) : (eqB f g n = true ∧ less f g n = false ∧ less g f n = false) ∨ (eqB f g n = false ∧ less f g n = true ∧ less g f n = false) ∨ (eqB f g n = false ∧ less f g n = false ∧ less g f n = true) := by
  by_cases h : ∀ i, i < n → f i = g i
  · exact .inl ⟨eqB_iff.2 h, less_same h, less_same (fun i hi => (h i hi).symm)⟩
  · obtain ⟨k, h1, h2, h3⟩ := first_diff f g n h
    have a := less_at h3 h1 h2
    have b := less_at (f := g) (g := f) (fun i hi => (h3 i hi).symm) h1 (fun e => h2 e.symm)
    by_cases hl : f k < g k
    · exact .inr (.inl ⟨eqB_false.2 h, a.trans (decide_eq_true hl), b.trans (decide_eq_false (by omega))⟩)
    · exact .inr (.inr ⟨eqB_false.2 h, a.trans (decide_eq_false hl), b.trans (decide_eq_true (by omega))⟩)
theorem less_trans {f g h : Nat → Int} {n : Nat} (a : less f g n = true) (b : less g h n = true) : less f h n = true := by
  obtain ⟨i, i1, i2, i3⟩ := (less_iff _ _ _).1 a
  obtain ⟨j, j1, j2, j3⟩ := (less_iff _ _ _).1 b
  rw [less_iff]
  rcases Nat.lt_trichotomy i j with e | e | e
  · exact ⟨i, i1, by rw [← j3 i e]; exact i2, fun m hm => by rw [i3 m hm, j3 m (by omega)]⟩
  · subst e; exact ⟨i, i1, by omega, fun m hm => by rw [i3 m hm, j3 m hm]⟩
  · exact ⟨j, j1, by rw [i3 j e]; exact j2, fun m hm => by rw [i3 m (by omega), j3 m hm]⟩
theorem less_congr {f f' g : Nat → Int} {n : Nat} (h : ∀ i, i < n → f i = f' i) : less f g n = less f' g n := by
  rw [Bool.eq_iff_iff, less_iff, less_iff]
  constructor
  · rintro ⟨i, h1, h2, h3⟩; exact ⟨i, h1, by rw [← h i h1]; exact h2, fun m hm => by rw [← h m (by omega)]; exact h3 m hm⟩
  · rintro ⟨i, h1, h2, h3⟩; exact ⟨i, h1, by rw [h i h1]; exact h2, fun m hm => by rw [h m (by omega)]; exact h3 m hm⟩
theorem eqB_comm (f g : Nat → Int) (n : Nat) : eqB f g n = eqB g f n := by
  rw [Bool.eq_iff_iff, eqB_iff, eqB_iff]
  exact ⟨fun h i hi => (h i hi).symm, fun h i hi => (h i hi).symm⟩
theorem eqB_trans {f g h : Nat → Int} {n : Nat} (a : eqB f g n = true) (b : eqB g h n = true) : eqB f h n = true := by
  rw [eqB_iff] at *
  exact fun i hi => (a i hi).trans (b i hi)
theorem eqB_refl (f : Nat → Int) (n : Nat) : eqB f f n = true := eqB_iff.2 (fun _ _ => rfl)
end Go.Proofs.Ytdahogdfonhnfaa.By
