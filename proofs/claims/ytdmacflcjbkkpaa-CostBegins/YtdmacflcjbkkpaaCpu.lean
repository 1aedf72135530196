/- What a vault records, out of lengths alone (pure): blocks of each call, codes, what is held. -/
import Derived.Test.YtdmacflcjbkkpaaCsk
namespace Go.Proofs.Ytdmacflcjbkkpaa.Co
open Go.Proofs.Ytdmacflcjbkkpaa.Ou (Sk cn cn_b bd bd_96)
/-- How many bytes a hash function's answer has. -/
def sz (a : Int) : Int := if a = 1 then 32 else if a = 2 then 64 else 0
def bk (a : Int) : Int := 2 * sz a
/-- What is recorded of a block. -/
def ek (a : Int) : Int := if a = 1 then 1 else 2
/-- How many blocks the end of a message takes. -/
def lst (b n : Int) : Int := if n % b + 1 + b / 8 ≤ b then 1 else 2
/-- How many blocks are full when a message of n bytes goes on by m. -/
def ful (b n m : Int) : Int := (n + m) / b - n / b
def kyd (a key : Int) : Int := if key > bk a then ful (bk a) 0 key + lst (bk a) key + 2 else 2
def tgd (a n : Int) : Int := lst (bk a) (bk a + n) + lst (bk a) (bk a + sz a)
def hmc (a n : Int) : Int := ful (bk a) 0 n + tgd a n
/-- The first k rounds of HKDF's second half. -/
def hkl (a info : Int) : Nat → Int
  | 0 => 0
  | k + 1 => hkl a info k + hmc a ((if k = 0 then 0 else sz a) + info + 1)
/-- How many rounds there are. -/
def rds (a out : Int) : Int := (out + sz a - 1) / sz a
def hkd (a key salt info out : Int) : Int := kyd a salt + hmc a key + kyd a (sz a) + hkl a info (rds a out).toNat
def pbk (a key salt count out : Int) : Int := kyd a key + rds a out * (hmc a (salt + 4) + (count - 1) * hmc a (sz a))
def rte (a : Int) : Int := if a = 4 ∨ a = 6 then 168 else 136
/-- How many bytes a number (less than 2^24) takes, encoded. -/
def nbN (n : Nat) : Nat := if n < 256 then 2 else if n < 65536 then 3 else 4
def nbr (n : Int) : Int := nbN n.toNat
def txt (n : Int) : Int := nbr (8 * n) + n
def pad (a n : Int) : Int := (nbr (rte a) + n + rte a - 1) / rte a
def chn (n : Int) : Int := max 0 ((n - 1) / 16)
theorem nbN_lt {n : Nat} (h : n < 256) : nbN n = 2 := by unfold nbN; rw [if_pos h]
theorem nbN_le {n : Nat} (_h : n < 16777216) : 2 ≤ nbN n ∧ nbN n ≤ 4 := by unfold nbN; split; omega; split <;> omega
theorem nbr_le {n : Int} (h0 : 0 ≤ n) (h : n < 16777216) : 2 ≤ nbr n ∧ nbr n ≤ 4 := by
  unfold nbr
  have := nbN_le (n := n.toNat) (by omega)
  omega
theorem lst_b (b n : Int) : 1 ≤ lst b n ∧ lst b n ≤ 2 := by unfold lst; split <;> omega
theorem sz_cases {a : Int} (h : sz a ≠ 0) : (a = 1 ∧ sz a = 32) ∨ (a = 2 ∧ sz a = 64) := by
  unfold sz at *
  by_cases h1 : a = 1
  · exact .inl ⟨h1, by rw [if_pos h1]⟩
  · rw [if_neg h1] at h ⊢
    by_cases h2 : a = 2
    · exact .inr ⟨h2, by rw [if_pos h2]⟩
    · rw [if_neg h2] at h; exact absurd rfl h
theorem ful_b {b n m : Int} (hb : 64 ≤ b) (_hn : 0 ≤ n) (hm : 0 ≤ m) : 0 ≤ ful b n m ∧ ful b n m ≤ m / 64 + 1 := by
  unfold ful
  have e1 : (n + m) / b ≤ (n / b) + (m / b) + 1 := by
    have h1 := Int.emod_add_mul_ediv n b
    have h2 := Int.emod_add_mul_ediv m b
    have a1 := Int.emod_lt_of_pos n (show 0 < b by omega)
    have a2 := Int.emod_lt_of_pos m (show 0 < b by omega)
    have : n + m < b * (n / b + m / b + 2) := by
      have e : b * (n / b + m / b + 2) = b * (n / b) + b * (m / b) + b * 2 := by rw [Int.mul_add, Int.mul_add]
      omega
    have := Int.ediv_lt_of_lt_mul (show 0 < b by omega) (by rw [Int.mul_comm] at this; exact this)
    omega
  have e2 : n / b ≤ (n + m) / b := Int.ediv_le_ediv (by omega) (by omega)
  have e3 : m / b ≤ m / 64 := by
    apply Int.le_ediv_of_mul_le (by omega)
    have h0 : 0 ≤ m / b := Int.ediv_nonneg hm (by omega)
    have h1 : m / b * 64 ≤ m / b * b := Int.mul_le_mul_of_nonneg_left hb h0
    have h2 := Int.ediv_mul_le m (show b ≠ 0 by omega)
    omega
  omega
theorem ful_0 {b m : Int} (hb : 64 ≤ b) (hm : 0 ≤ m) : 0 ≤ ful b 0 m ∧ ful b 0 m ≤ m / 64 := by
  unfold ful
  rw [Int.zero_add, Int.zero_ediv, Int.sub_zero]
  have h0 : 0 ≤ m / b := Int.ediv_nonneg hm (by omega)
  refine ⟨h0, ?_⟩
  apply Int.le_ediv_of_mul_le (by omega)
  have h1 : m / b * 64 ≤ m / b * b := Int.mul_le_mul_of_nonneg_left hb h0
  have h2 := Int.ediv_mul_le m (show b ≠ 0 by omega)
  omega
theorem kyd_b {a key : Int} (ha : sz a ≠ 0) (hk : 0 ≤ key) : 2 ≤ kyd a key ∧ kyd a key ≤ key / 64 + 4 := by
  have hb : 64 ≤ bk a := by unfold bk; rcases sz_cases ha with ⟨_, h⟩ | ⟨_, h⟩ <;> omega
  have h1 := ful_0 hb hk
  have h2 := lst_b (bk a) key
  unfold kyd
  split <;> omega
theorem tgd_b (a n : Int) : 2 ≤ tgd a n ∧ tgd a n ≤ 4 := by
  unfold tgd
  have h1 := lst_b (bk a) (bk a + n)
  have h2 := lst_b (bk a) (bk a + sz a)
  omega
theorem hmc_b {a n : Int} (ha : sz a ≠ 0) (hn : 0 ≤ n) : 2 ≤ hmc a n ∧ hmc a n ≤ n / 64 + 4 := by
  have hb : 64 ≤ bk a := by unfold bk; rcases sz_cases ha with ⟨_, h⟩ | ⟨_, h⟩ <;> omega
  have h1 := ful_0 hb hn
  have h2 := tgd_b a n
  unfold hmc
  omega
/-- HMAC of a digest takes two blocks behind the beginning. -/
theorem hmc_sz {a : Int} (ha : sz a ≠ 0) : hmc a (sz a) = 2 := by
  rcases sz_cases ha with ⟨rfl, _⟩ | ⟨rfl, _⟩ <;> decide
theorem hkl_b {a info : Int} (ha : sz a ≠ 0) (hi : 0 ≤ info) (k : Nat) : 0 ≤ hkl a info k ∧ hkl a info k ≤ k * (info / 64 + 6) := by
  have hs : 0 ≤ sz a ∧ sz a ≤ 64 := by rcases sz_cases ha with ⟨_, h⟩ | ⟨_, h⟩ <;> omega
  induction k with
  | zero => simp [hkl]
  | succ k ih =>
    have h1 : 0 ≤ (if k = 0 then 0 else sz a) + info + 1 ∧ (if k = 0 then 0 else sz a) + info + 1 ≤ info + 65 := by split <;> omega
    obtain ⟨t, ht⟩ : ∃ t, (if k = 0 then 0 else sz a) + info + 1 = t := ⟨_, rfl⟩
    rw [ht] at h1
    have h2 := hmc_b ha h1.1
    simp only [hkl, ht]
    have e : ((k + 1 : Nat) : Int) * (info / 64 + 6) = k * (info / 64 + 6) + (info / 64 + 6) := by rw [Int.natCast_add, Int.add_mul]; simp
    rw [e]
    omega
theorem rds_b {a out : Int} (ha : sz a ≠ 0) (h0 : 1 ≤ out) : 1 ≤ rds a out ∧ rds a out ≤ out / 32 + 1 := by
  unfold rds
  rcases sz_cases ha with ⟨_, h⟩ | ⟨_, h⟩ <;> rw [h] <;> omega
end Go.Proofs.Ytdmacflcjbkkpaa.Co
