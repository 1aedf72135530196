/- Plain facts on numbers: a word turned by l places, bit by bit and as a sum; no program in it. -/
import Derived.Laws.BitsAllLaws
import Derived.Laws.BitsLemmas
namespace Go.Proofs.Ytpcnkiapbkmjbaa.Wd

/-- A number below 2 ^ W, its bits turned by l places (l below W). -/
def rotN (W l x : Nat) : Nat := x * 2 ^ l % 2 ^ W + x * 2 ^ l / 2 ^ W

theorem rotN_zero (W l : Nat) : rotN W l 0 = 0 := by simp [rotN]

theorem rot_div (W l x : Nat) (hl : l ≤ W) : x * 2 ^ l / 2 ^ W = x / 2 ^ (W - l) := by
  have e : (2 : Nat) ^ W = 2 ^ (W - l) * 2 ^ l := by rw [← Nat.pow_add]; congr 1; omega
  rw [e, Nat.mul_div_mul_right _ _ (Nat.two_pow_pos l)]

theorem rot_or (W l x : Nat) (hl : l ≤ W) (hx : x < 2 ^ W) : x * 2 ^ l % 2 ^ W ||| x / 2 ^ (W - l) = rotN W l x := by
  have e : (2 : Nat) ^ W = 2 ^ (W - l) * 2 ^ l := by rw [← Nat.pow_add]; congr 1; omega
  rw [nat_join l]
  · rw [rotN, rot_div W l x hl]
  · rw [e, Nat.mul_mod_mul_right]; exact Nat.mul_mod_left _ _
  · rw [Nat.div_lt_iff_lt_mul (Nat.two_pow_pos _), Nat.mul_comm, ← e]; exact hx

theorem rotN_lt (W l x : Nat) (hl : l ≤ W) (hx : x < 2 ^ W) : rotN W l x < 2 ^ W := by
  rw [← rot_or W l x hl hx]
  exact Nat.or_lt_two_pow (Nat.mod_lt _ (Nat.two_pow_pos _)) (Nat.lt_of_le_of_lt (Nat.div_le_self _ _) hx)

theorem rotN_step (W l x k : Nat) (hl : l < W) (hk : k < W) :
    rotN W l (x % 2 ^ (k + 1)) = rotN W l (x % 2 ^ k) + (x / 2 ^ k % 2) * 2 ^ ((k + l) % W) := by
  have hs : x % 2 ^ (k + 1) = x % 2 ^ k + (x / 2 ^ k % 2) * 2 ^ k := by
    rw [Nat.pow_succ, Nat.mod_mul]; rw [Nat.mul_comm (2 ^ k)]
  have ha : x % 2 ^ k < 2 ^ k := Nat.mod_lt _ (Nat.two_pow_pos _)
  have hb : x / 2 ^ k % 2 < 2 := Nat.mod_lt _ (by omega)
  rw [hs]
  generalize x % 2 ^ k = a at *
  generalize x / 2 ^ k % 2 = b at *
  have hm : (a + b * 2 ^ k) * 2 ^ l = a * 2 ^ l + b * 2 ^ (k + l) := by
    rw [Nat.add_mul, Nat.mul_assoc, ← Nat.pow_add]
  unfold rotN
  rw [hm]
  by_cases h : k + l < W
  · have e1 : (k + l) % W = k + l := Nat.mod_eq_of_lt h
    have h2 : (2 : Nat) ^ (k + l + 1) ≤ 2 ^ W := Nat.pow_le_pow_right (by omega) (by omega)
    have h3 : a * 2 ^ l < 2 ^ (k + l) := by rw [Nat.pow_add]; exact Nat.mul_lt_mul_of_pos_right ha (Nat.two_pow_pos _)
    have h4 : b * 2 ^ (k + l) ≤ 2 ^ (k + l) := by
      have : b * 2 ^ (k + l) ≤ 1 * 2 ^ (k + l) := Nat.mul_le_mul_right _ (by omega)
      simpa using this
    rw [Nat.pow_succ] at h2
    have h5 : a * 2 ^ l + b * 2 ^ (k + l) < 2 ^ W := by omega
    have h6 : a * 2 ^ l < 2 ^ W := by omega
    rw [Nat.mod_eq_of_lt h5, Nat.div_eq_of_lt h5, Nat.mod_eq_of_lt h6, Nat.div_eq_of_lt h6, e1]
    omega
  · have e1 : (k + l) % W = k + l - W := by
      rw [Nat.mod_eq_sub_mod (by omega)]; exact Nat.mod_eq_of_lt (by omega)
    have e2 : b * 2 ^ (k + l) = b * 2 ^ (k + l - W) * 2 ^ W := by
      rw [Nat.mul_assoc, ← Nat.pow_add]; congr 2; omega
    rw [e2, Nat.add_mul_mod_self_right, Nat.add_mul_div_right _ _ (Nat.two_pow_pos _), e1]
    omega

theorem rotN_bit (W l x j : Nat) (hl : l ≤ W) (hx : x < 2 ^ W) :
    (rotN W l x).testBit j = if j < l then x.testBit (j + (W - l)) else (decide (j < W) && x.testBit (j - l)) := by
  have hz : ∀ i, W ≤ i → x.testBit i = false := fun i hi => Nat.testBit_lt_two_pow (Nat.lt_of_lt_of_le hx (Nat.pow_le_pow_right (by omega) hi))
  rw [← rot_or W l x hl hx, Nat.testBit_or, Nat.testBit_mod_two_pow, Nat.mul_comm, Nat.testBit_two_pow_mul, Nat.testBit_div_two_pow]
  by_cases h : j < l
  · have hn : ¬ l ≤ j := by omega
    simp [h, hn]
  · have hz' : x.testBit (W - l + j) = false := hz _ (by omega)
    have hle : l ≤ j := by omega
    simp [h, hle]
    intro h2
    rw [Nat.add_comm] at hz'
    simp [hz'] at h2

theorem rotN_two64 (l m x : Nat) (hl : l < 64) (hm : m < 64) (hx : x < 2 ^ 64) : rotN 64 m (rotN 64 l x) = rotN 64 ((l + m) % 64) x := by
  apply Nat.eq_of_testBit_eq
  intro j
  have h1 := rotN_lt 64 l x (by omega) hx
  rw [rotN_bit 64 m _ j (by omega) h1, rotN_bit 64 ((l + m) % 64) x j (by omega) hx, rotN_bit 64 l x _ (by omega) hx, rotN_bit 64 l x _ (by omega) hx]
  by_cases h64 : j < 64
  · by_cases a : j < m <;> by_cases b : l + m < 64 <;> by_cases c : j < (l + m) % 64 <;> simp only [a, c, if_true, if_false, h64, decide_true, Bool.true_and]
    all_goals (first | (rw [if_pos (by omega)]) | (rw [if_neg (by omega)]))
    all_goals (first | (congr 1; omega) | (rw [decide_eq_true (by omega), Bool.true_and]; congr 1; omega) | (exfalso; omega))
  · simp [h64, show ¬ j < m from by omega, show ¬ j < (l + m) % 64 from by omega]

theorem rotN_two32 (l m x : Nat) (hl : l < 32) (hm : m < 32) (hx : x < 2 ^ 32) : rotN 32 m (rotN 32 l x) = rotN 32 ((l + m) % 32) x := by
  apply Nat.eq_of_testBit_eq
  intro j
  have h1 := rotN_lt 32 l x (by omega) hx
  rw [rotN_bit 32 m _ j (by omega) h1, rotN_bit 32 ((l + m) % 32) x j (by omega) hx, rotN_bit 32 l x _ (by omega) hx, rotN_bit 32 l x _ (by omega) hx]
  by_cases h64 : j < 32
  · by_cases a : j < m <;> by_cases b : l + m < 32 <;> by_cases c : j < (l + m) % 32 <;> simp only [a, c, if_true, if_false, h64, decide_true, Bool.true_and]
    all_goals (first | (rw [if_pos (by omega)]) | (rw [if_neg (by omega)]))
    all_goals (first | (congr 1; omega) | (rw [decide_eq_true (by omega), Bool.true_and]; congr 1; omega) | (exfalso; omega))
  · simp [h64, show ¬ j < m from by omega, show ¬ j < (l + m) % 32 from by omega]

/-- The same over whole numbers: a word x of W bits, turned by n places, whatever n is. -/
def Rot (W : Nat) (x n : Int) : Int := ((rotN W (n % W).toNat x.toNat : Nat) : Int)

theorem and_i64_low (n : Int) (j : Nat) (hj : j < 63) : bits .and .i64 n ((2 ^ j - 1 : Nat) : Int) = n % (2 ^ j : Nat) := by
  have hp : (0 : Int) < (2 ^ j : Nat) := by exact_mod_cast Nat.two_pow_pos j
  have hp' : 0 < 2 ^ j := Nat.two_pow_pos j
  have hle : 2 ^ j ≤ 2 ^ 62 := Nat.pow_le_pow_right (by omega) (by omega)
  have h2 : (BitVec.ofInt 64 ((2 ^ j - 1 : Nat) : Int)).toNat = 2 ^ j - 1 := by
    rw [BitVec.ofInt_natCast, BitVec.toNat_ofNat]; exact Nat.mod_eq_of_lt (by omega)
  have h1 : (BitVec.ofInt 64 n).toNat = (n % 2 ^ 64).toNat := by rw [BitVec.toNat_ofInt]; rfl
  show IntKind.i64.wrap ((BitVec.ofInt 64 n &&& BitVec.ofInt 64 ((2 ^ j - 1 : Nat) : Int)).toNat : Int) = _
  rw [BitVec.toNat_and, h1, h2, Nat.and_two_pow_sub_one_eq_mod]
  have hd : (2 : Int) ^ 64 = ((2 ^ j : Nat) : Int) * ((2 ^ (64 - j) : Nat) : Int) := by
    rw [← Int.natCast_mul, ← Nat.pow_add, show j + (64 - j) = 64 by omega]; rfl
  have hm : (((n % 2 ^ 64).toNat % 2 ^ j : Nat) : Int) = n % (2 ^ j : Nat) := by
    rw [Int.natCast_emod, Int.toNat_of_nonneg (Int.emod_nonneg _ (by decide)), Int.emod_emod_of_dvd _ ⟨_, hd⟩]
  rw [hm]
  have hlt := Int.emod_lt_of_pos n hp
  have h0 := Int.emod_nonneg n (show ((2 ^ j : Nat) : Int) ≠ 0 by omega)
  have hb : 2 ^ j ≤ 4611686018427387904 := hle
  rw [IntKind.wrap_i64]
  omega
theorem and_31 (n : Int) : bits .and .i64 n 31 = n % 32 := and_i64_low n 5 (by decide)
theorem and_63 (n : Int) : bits .and .i64 n 63 = n % 64 := and_i64_low n 6 (by decide)

theorem turned32 (x n : Int) (h0 : 0 ≤ x) (h1 : x < 4294967296) :
    bits .or .u32 (x * 2 ^ (n % 32).toNat % 4294967296) (x / 2 ^ (32 - n % 32).toNat) = Rot 32 x n := by
  have hl : (n % 32).toNat < 32 := by omega
  generalize hg : n % 32 = g at *
  obtain ⟨X, rfl⟩ := Int.eq_ofNat_of_zero_le h0
  obtain ⟨L, rfl⟩ := Int.eq_ofNat_of_zero_le (show 0 ≤ g by omega)
  rw [Int.toNat_natCast, show (32 - (L : Int)).toNat = 32 - L by omega]
  have e1 : (X : Int) * 2 ^ L % 4294967296 = ((X * 2 ^ L % 2 ^ 32 : Nat) : Int) := by rw [Int.natCast_emod, Int.natCast_mul, Int.natCast_pow]; rfl
  have e2 : (X : Int) / 2 ^ (32 - L) = ((X / 2 ^ (32 - L) : Nat) : Int) := by push_cast; rfl
  rw [e1, e2, u32_or_nat _ _ (Nat.mod_lt _ (by decide)) (Nat.lt_of_le_of_lt (Nat.div_le_self _ _) (by omega)), rot_or 32 L X (by omega) (by omega)]
  show _ = ((rotN 32 (n % (32 : Nat)).toNat (X : Int).toNat : Nat) : Int)
  rw [show n % ((32 : Nat) : Int) = (L : Int) from hg]; rfl
theorem turned64 (x n : Int) (h0 : 0 ≤ x) (h1 : x < 18446744073709551616) :
    bits .or .u64 (x * 2 ^ (n % 64).toNat % 18446744073709551616) (x / 2 ^ (64 - n % 64).toNat) = Rot 64 x n := by
  have hl : (n % 64).toNat < 64 := by omega
  generalize hg : n % 64 = g at *
  obtain ⟨X, rfl⟩ := Int.eq_ofNat_of_zero_le h0
  obtain ⟨L, rfl⟩ := Int.eq_ofNat_of_zero_le (show 0 ≤ g by omega)
  rw [Int.toNat_natCast, show (64 - (L : Int)).toNat = 64 - L by omega]
  have e1 : (X : Int) * 2 ^ L % 18446744073709551616 = ((X * 2 ^ L % 2 ^ 64 : Nat) : Int) := by rw [Int.natCast_emod, Int.natCast_mul, Int.natCast_pow]; rfl
  have e2 : (X : Int) / 2 ^ (64 - L) = ((X / 2 ^ (64 - L) : Nat) : Int) := by push_cast; rfl
  rw [e1, e2, u64_or_nat _ _ (Nat.mod_lt _ (by decide)) (Nat.lt_of_le_of_lt (Nat.div_le_self _ _) (by omega)), rot_or 64 L X (by omega) (by omega)]
  show _ = ((rotN 64 (n % (64 : Nat)).toNat (X : Int).toNat : Nat) : Int)
  rw [show n % ((64 : Nat) : Int) = (L : Int) from hg]; rfl

/-- What the turning has come to behind k bits. -/
def RotTo (W : Nat) (x l : Int) (k : Nat) : Int := ((rotN W l.toNat (x.toNat % 2 ^ k) : Nat) : Int)
theorem RotTo_zero (W : Nat) (x l : Int) : RotTo W x l 0 = 0 := by simp [RotTo, Nat.mod_one, rotN_zero]
theorem RotTo_bound (W : Nat) (x l : Int) (k : Nat) (hW : W ≤ 64) (hk : k ≤ W) (hl : l.toNat < W) : 0 ≤ RotTo W x l k ∧ RotTo W x l k < 18446744073709551616 := by
  have h := rotN_lt W l.toNat (x.toNat % 2 ^ k) (by omega) (Nat.lt_of_lt_of_le (Nat.mod_lt _ (Nat.two_pow_pos _)) (Nat.pow_le_pow_right (by omega) hk))
  have h2 : 2 ^ W ≤ 2 ^ 64 := Nat.pow_le_pow_right (by omega) hW
  unfold RotTo
  omega
theorem RotTo_end (W : Nat) (x l : Int) (hx : x.toNat < 2 ^ W) : RotTo W x l W = ((rotN W l.toNat x.toNat : Nat) : Int) := by
  unfold RotTo; rw [Nat.mod_eq_of_lt hx]
theorem bit_of (x : Int) (k : Nat) (h0 : 0 ≤ x) : (x / 2 ^ k).tmod 2 = ((x.toNat / 2 ^ k % 2 : Nat) : Int) := by
  obtain ⟨X, rfl⟩ := Int.eq_ofNat_of_zero_le h0
  rw [Int.toNat_natCast]
  have e2 : (X : Int) / 2 ^ k = ((X / 2 ^ k : Nat) : Int) := by push_cast; rfl
  rw [e2, Int.tmod_eq_emod_of_nonneg (Int.natCast_nonneg _)]; rfl
theorem RotTo_on (W : Nat) (x l : Int) (k : Nat) (hW : W ≤ 64) (hk : k < W) (h0 : 0 ≤ x) (hl0 : 0 ≤ l) (hl : l < W) (hb : ((x / 2 ^ k).tmod 2 == 1) = true) :
    IntKind.u64.wrap (RotTo W x l k + IntKind.u64.wrap (2 ^ (((k : Int) + l) % W).toNat)) = RotTo W x l (k + 1) := by
  have hs := rotN_step W l.toNat x.toNat k (by omega) hk
  have hbit : x.toNat / 2 ^ k % 2 = 1 := by
    rw [bit_of x k h0] at hb
    have := of_decide_eq_true hb
    omega
  have hbd := RotTo_bound W x l (k + 1) hW (by omega) (by omega)
  have e : ((k : Int) + l) % W = (((k + l.toNat) % W : Nat) : Int) := by
    rw [Int.natCast_emod]; congr 1; omega
  have hb1 : (2 : Nat) ^ ((k + l.toNat) % W) < 2 ^ 64 := Nat.pow_lt_pow_right (by omega) (Nat.lt_of_lt_of_le (Nat.mod_lt _ (by omega)) hW)
  rw [hbit, Nat.one_mul] at hs
  have hR : RotTo W x l (k + 1) = RotTo W x l k + ((2 ^ ((k + l.toNat) % W) : Nat) : Int) := by
    unfold RotTo; rw [hs]; exact Int.natCast_add _ _
  rw [e, Int.toNat_natCast]
  have e2 : (2 : Int) ^ ((k + l.toNat) % W) = ((2 ^ ((k + l.toNat) % W) : Nat) : Int) := by push_cast; rfl
  rw [e2, IntKind.wrap_u64, IntKind.wrap_u64]
  rw [hR] at hbd ⊢
  omega
theorem RotTo_off (W : Nat) (x l : Int) (k : Nat) (hk : k < W) (h0 : 0 ≤ x) (hl : l.toNat < W) (hb : ((x / 2 ^ k).tmod 2 == 1) = false) :
    RotTo W x l k = RotTo W x l (k + 1) := by
  have hs := rotN_step W l.toNat x.toNat k hl hk
  have hbit : x.toNat / 2 ^ k % 2 = 0 := by
    rw [bit_of x k h0] at hb
    have := of_decide_eq_false hb
    omega
  unfold RotTo; rw [hs, hbit]; simp

theorem Rot32_bound (x n : Int) (h0 : 0 ≤ x) (h1 : x < 4294967296) : 0 ≤ Rot 32 x n ∧ Rot 32 x n < 4294967296 := by
  have h := rotN_lt 32 (n % (32 : Nat)).toNat x.toNat (by omega) (by omega)
  unfold Rot
  omega
theorem Rot64_bound (x n : Int) (h0 : 0 ≤ x) (h1 : x < 18446744073709551616) : 0 ≤ Rot 64 x n ∧ Rot 64 x n < 18446744073709551616 := by
  have h := rotN_lt 64 (n % (64 : Nat)).toNat x.toNat (by omega) (by omega)
  unfold Rot
  omega
end Go.Proofs.Ytpcnkiapbkmjbaa.Wd
