/- Division of a word pair by a word, digit by digit, as plain facts on numbers: a digit that is guessed too great is made less till it is right; no program in it. -/
import Derived.Laws.BitsAllLaws
import Derived.Laws.BitsLemmas
import Derived.Lib.BitFns
namespace Go.Proofs.Ytpcnkiapbkmjbaa.Nv
/-- A digit under way: it is never too small. -/
structure DI (u d g e q r : Nat) : Prop where
  eq : q * g + r = u
  ge : (u * 4294967296 + d) / (g * 4294967296 + e) ≤ q
  le : q ≤ 4294967297
  rl : r < 4294967296
theorem di_y {g e : Nat} (hg : 2147483648 ≤ g) : 0 < g * 4294967296 + e := by omega
theorem di_start {u d g e : Nat} (hg : 2147483648 ≤ g) (hg2 : g < 4294967296) (he : e < 4294967296) (hd : d < 4294967296) (hu : u < g * 4294967296 + e) : DI u d g e (u / g) (u % g) := by
  have hm := Nat.mod_lt u (show 0 < g by omega)
  refine ⟨by rw [Nat.mul_comm]; exact Nat.div_add_mod u g, ?_, ?_, by omega⟩
  · rw [Nat.le_div_iff_mul_le (by omega)]
    have h := Nat.div_mul_le_self (u * 4294967296 + d) (g * 4294967296 + e)
    generalize (u * 4294967296 + d) / (g * 4294967296 + e) = q at h ⊢
    rw [Nat.mul_add, ← Nat.mul_assoc] at h
    generalize q * g = a at h ⊢
    generalize q * e = b at h
    omega
  · rw [← Nat.lt_succ_iff, Nat.div_lt_iff_lt_mul (by omega)]
    omega
theorem di_stop {u d g e q r : Nat} (hg : 2147483648 ≤ g) (h : DI u d g e q r) (hc : q * e ≤ 4294967296 * r + d) : q = (u * 4294967296 + d) / (g * 4294967296 + e) := by
  refine Nat.le_antisymm ?_ h.ge
  rw [Nat.le_div_iff_mul_le (di_y hg), Nat.mul_add, ← Nat.mul_assoc]
  have := h.eq
  generalize q * g = a at *
  generalize q * e = b at *
  omega
theorem di_gt {u d g e q r : Nat} (hg : 2147483648 ≤ g) (hd : d < 4294967296) (hu : u < g * 4294967296 + e) (h : DI u d g e q r) (hc : 4294967296 ≤ q ∨ 4294967296 * r + d < q * e) : (u * 4294967296 + d) / (g * 4294967296 + e) < q := by
  rw [Nat.div_lt_iff_lt_mul (di_y hg), Nat.mul_add, ← Nat.mul_assoc]
  have := h.eq
  rcases hc with hc | hc
  · have h1 : 4294967296 * (g * 4294967296 + e) ≤ q * (g * 4294967296 + e) := Nat.mul_le_mul_right _ hc
    rw [Nat.mul_add q, ← Nat.mul_assoc] at h1
    generalize q * g = a at *
    generalize q * e = b at *
    omega
  · generalize q * g = a at *
    generalize q * e = b at *
    omega
theorem di_next {u d g e q r : Nat} (hg : 2147483648 ≤ g) (hd : d < 4294967296) (hu : u < g * 4294967296 + e) (h : DI u d g e q r) (hc : 4294967296 ≤ q ∨ 4294967296 * r + d < q * e) (hr : r + g < 4294967296) : DI u d g e (q - 1) (r + g) := by
  have hq := di_gt hg hd hu h hc
  have q0 : 0 < q := Nat.lt_of_le_of_lt (Nat.zero_le _) hq
  refine ⟨?_, by omega, by have := h.le; omega, hr⟩
  obtain ⟨k, rfl⟩ : ∃ k, q = k + 1 := ⟨q - 1, by omega⟩
  have := h.eq
  rw [Nat.add_mul] at this
  simp only [Nat.add_sub_cancel]
  omega
theorem di_last {u d g e q r : Nat} (hg : 2147483648 ≤ g) (he : e < 4294967296) (hd : d < 4294967296) (hu : u < g * 4294967296 + e) (h : DI u d g e q r) (hc : 4294967296 ≤ q ∨ 4294967296 * r + d < q * e) (hr : 4294967296 ≤ r + g) : q - 1 = (u * 4294967296 + d) / (g * 4294967296 + e) := by
  have hq := di_gt hg hd hu h hc
  have q0 : 0 < q := Nat.lt_of_le_of_lt (Nat.zero_le _) hq
  refine Nat.le_antisymm ?_ (by omega)
  obtain ⟨k, rfl⟩ : ∃ k, q = k + 1 := ⟨q - 1, by omega⟩
  simp only [Nat.add_sub_cancel]
  rw [Nat.le_div_iff_mul_le (di_y hg), Nat.mul_add, ← Nat.mul_assoc]
  have h1 := h.eq
  have h2 := h.le
  rw [Nat.add_mul] at h1
  have h3 : k * e ≤ 4294967296 * 4294967295 := Nat.mul_le_mul (by omega) (by omega)
  generalize k * g = a at *
  generalize k * e = b at *
  omega
/-- What is left behind a digit. -/
theorem di_mod {x d p m M y : Nat} (hp : p + m = x + d) (hm : m < y) (hy : y ≤ M) : ((x % M + d) % M + M - p % M) % M = m := by
  have hM : 0 < M := by omega
  rw [Nat.mod_add_mod, ← hp]
  have h1 := Nat.mod_lt p hM
  have e : (p + m) % M = (p % M + m) % M := by rw [Nat.mod_add_mod]
  rw [e]
  generalize p % M = k at *
  by_cases hk : k + m < M
  · rw [Nat.mod_eq_of_lt hk, show k + m + M - k = m + M by omega, Nat.add_mod_right, Nat.mod_eq_of_lt (by omega)]
  · have e2 : (k + m) % M = k + m - M := by rw [Nat.mod_eq_sub_mod (by omega), Nat.mod_eq_of_lt (by omega)]
    rw [e2, show k + m - M + M - k = m by omega, Nat.mod_eq_of_lt (by omega)]
theorem di_rest {u d y : Nat} (hy : y ≤ 18446744073709551616) (hy0 : 0 < y) : ((u * 4294967296 % 18446744073709551616 + d) % 18446744073709551616 + 18446744073709551616 - (u * 4294967296 + d) / y * y % 18446744073709551616) % 18446744073709551616 = (u * 4294967296 + d) % y :=
  di_mod (by rw [Nat.mul_comm _ y]; exact Nat.div_add_mod _ _) (Nat.mod_lt _ hy0) hy
/-- The whole: what is left of a word pair, by way of the greater multiple. -/
theorem dd_whole {hi lo y s : Nat} :
    (((hi * 2 ^ s + lo * 2 ^ s / 18446744073709551616) * 4294967296 + lo * 2 ^ s % 18446744073709551616 / 4294967296) % (y * 2 ^ s) * 4294967296 + lo * 2 ^ s % 18446744073709551616 % 4294967296) % (y * 2 ^ s) / 2 ^ s = (hi * 18446744073709551616 + lo) % y := by
  have hp := Nat.two_pow_pos s
  have e1 : ∀ a b m : Nat, (a % m * 4294967296 + b) % m = (a * 4294967296 + b) % m := fun a b m => by
    rw [Nat.add_mod, Nat.mod_mul_mod, ← Nat.add_mod]
  rw [e1]
  have e2 : ((hi * 2 ^ s + lo * 2 ^ s / 18446744073709551616) * 4294967296 + lo * 2 ^ s % 18446744073709551616 / 4294967296) * 4294967296 + lo * 2 ^ s % 18446744073709551616 % 4294967296 = (hi * 18446744073709551616 + lo) * 2 ^ s := by
    rw [Nat.add_mul (hi * 18446744073709551616), Nat.mul_right_comm hi]
    generalize hi * 2 ^ s = a
    generalize lo * 2 ^ s = b
    omega
  rw [e2, Nat.mul_mod_mul_right, Nat.mul_div_cancel _ hp]
theorem dd_u {hi lo y s : Nat} (hh : hi < y) (hl : lo < 18446744073709551616) : hi * 2 ^ s + lo * 2 ^ s / 18446744073709551616 < y * 2 ^ s := by
  have hp := Nat.two_pow_pos s
  have h1 : (hi + 1) * 2 ^ s ≤ y * 2 ^ s := Nat.mul_le_mul_right _ hh
  have h2 : lo * 2 ^ s / 18446744073709551616 < 2 ^ s := by
    rw [Nat.div_lt_iff_lt_mul (by omega), Nat.mul_comm]
    exact (Nat.mul_lt_mul_left hp).2 hl
  rw [Nat.add_mul] at h1
  omega
/-- How many leading noughts a word has: it is moved just to the top. -/
theorem dd_norm {y : Nat} (h0 : 0 < y) (h1 : y < 18446744073709551616) : ∃ s, s ≤ 63 ∧ (64 - (Lib.bitLen y : Int)) = (s : Nat) ∧ 9223372036854775808 ≤ y * 2 ^ s ∧ y * 2 ^ s < 18446744073709551616 := by
  have hb := Lib.bitLen_le y 64 (by omega) h1
  have hk : ∀ k, y < 2 ^ k → k ≤ 64 → Lib.bitLen y ≤ k := fun k h hk => Lib.bitLen_le y k hk h
  have up : y < 2 ^ Lib.bitLen y := by
    refine Decidable.byContradiction fun hn => ?_
    have h2 : 2 ^ Lib.bitLen y ≤ y := by omega
    have h3 := Lib.bitLen_shift (Lib.bitLen y) y h2 h1
    have h4 : y / 2 ^ Lib.bitLen y ≠ 0 := by
      have := (Nat.le_div_iff_mul_le (Nat.two_pow_pos (Lib.bitLen y))).2 (by rw [Nat.one_mul]; exact h2 : 1 * 2 ^ Lib.bitLen y ≤ y)
      omega
    have h5 : Lib.bitLen (y / 2 ^ Lib.bitLen y) = 0 := by omega
    have h6 := Lib.bitLen_half (y / 2 ^ Lib.bitLen y) h4 (Nat.lt_of_le_of_lt (Nat.div_le_self _ _) h1)
    omega
  have hl : 1 ≤ Lib.bitLen y := by
    refine Decidable.byContradiction fun hn => ?_
    rw [show Lib.bitLen y = 0 by omega] at up
    omega
  have lo : 2 ^ (Lib.bitLen y - 1) ≤ y := by
    refine Decidable.byContradiction fun hn => ?_
    have := hk (Lib.bitLen y - 1) (by omega) (by omega)
    omega
  refine ⟨64 - Lib.bitLen y, by omega, by omega, ?_, ?_⟩
  · have := Nat.mul_le_mul_right (2 ^ (64 - Lib.bitLen y)) lo
    rw [← Nat.pow_add, show Lib.bitLen y - 1 + (64 - Lib.bitLen y) = 63 by omega] at this
    exact this
  · have := (Nat.mul_lt_mul_right (Nat.two_pow_pos (64 - Lib.bitLen y))).2 up
    rw [← Nat.pow_add, show Lib.bitLen y + (64 - Lib.bitLen y) = 64 by omega] at this
    exact this
end Go.Proofs.Ytpcnkiapbkmjbaa.Nv
