/- What a vault records, out of lengths alone (pure): blocks of each call, codes, what is held. No operation records more than B (pure). What is public of a vault, operation by operation (pure). A row is at most B; what is held stays in bounds (pure). A row is at most B (pure). What a kind does not use says nothing of a row (pure). Rows are a ledger's (pure): no two neighbours alike, every count 1 or more; lists of operations. The loops' sums (pure), and how large a row's counts are. Runs put behind runs (pure): rows one by one, all rows joined. The document's examples, a full vault, the bytes about a rate (pure). -/
import Derived.Test.YtdmacflcjbkkpaaGreatCsk
namespace Go.Proofs.YtdmacflcjbkkpaaGreat.Co
open Go.Proofs.YtdmacflcjbkkpaaGreat.Ou (Sk cn cn_b bd bd_96)
/-- How many bytes a hash function's answer has. -/
def sz (a : Int) : Int := if a = 1 then 32 else if a = 2 then 64 else 0
def bk (a : Int) : Int := 2 * sz a
/-- What is recorded of a block. -/
def ek (a : Int) : Int := if a = 1 then 1 else 2
/-- How many blocks the end of a message takes. -/
def lst (b n : Int) : Int := if n % b + 1 + b / 8 ≤ b then 1 else 2
/-- How many blocks are full when a message of n bytes goes on by m. -/
def ful (b n m : Int) : Int := (n + m) / b - n / b
def kyd (a key : Int) : Int := if key > bk a then ful (bk a) 0 key + lst (bk a) key + 2 else 2
def tgd (a n : Int) : Int := lst (bk a) (bk a + n) + lst (bk a) (bk a + sz a)
def hmc (a n : Int) : Int := ful (bk a) 0 n + tgd a n
/-- The first k rounds of HKDF's second half. -/
def hkl (a info : Int) : Nat → Int
  | 0 => 0
  | k + 1 => hkl a info k + hmc a ((if k = 0 then 0 else sz a) + info + 1)
/-- How many rounds there are. -/
def rds (a out : Int) : Int := (out + sz a - 1) / sz a
def hkd (a key salt info out : Int) : Int := kyd a salt + hmc a key + kyd a (sz a) + hkl a info (rds a out).toNat
def pbk (a key salt count out : Int) : Int := kyd a key + rds a out * (hmc a (salt + 4) + (count - 1) * hmc a (sz a))
def rte (a : Int) : Int := if a = 4 ∨ a = 6 then 168 else 136
/-- How many bytes a number (less than 2^24) takes, encoded. -/
def nbN (n : Nat) : Nat := if n < 256 then 2 else if n < 65536 then 3 else 4
def nbr (n : Int) : Int := nbN n.toNat
def txt (n : Int) : Int := nbr (8 * n) + n
def pad (a n : Int) : Int := (nbr (rte a) + n + rte a - 1) / rte a
def chn (n : Int) : Int := max 0 ((n - 1) / 16)
theorem nbN_lt {n : Nat} (h : n < 256) : nbN n = 2 := by unfold nbN; rw [if_pos h]
theorem nbN_le {n : Nat} (_h : n < 16777216) : 2 ≤ nbN n ∧ nbN n ≤ 4 := by unfold nbN; split; omega; split <;> omega
theorem nbr_le {n : Int} (h0 : 0 ≤ n) (h : n < 16777216) : 2 ≤ nbr n ∧ nbr n ≤ 4 := by
  unfold nbr
  have := nbN_le (n := n.toNat) (by omega)
  omega
theorem lst_b (b n : Int) : 1 ≤ lst b n ∧ lst b n ≤ 2 := by unfold lst; split <;> omega
theorem sz_cases {a : Int} (h : sz a ≠ 0) : (a = 1 ∧ sz a = 32) ∨ (a = 2 ∧ sz a = 64) := by
  unfold sz at *
  by_cases h1 : a = 1
  · exact .inl ⟨h1, by rw [if_pos h1]⟩
  · rw [if_neg h1] at h ⊢
    by_cases h2 : a = 2
    · exact .inr ⟨h2, by rw [if_pos h2]⟩
    · rw [if_neg h2] at h; exact absurd rfl h
theorem ful_b {b n m : Int} (hb : 64 ≤ b) (_hn : 0 ≤ n) (hm : 0 ≤ m) : 0 ≤ ful b n m ∧ ful b n m ≤ m / 64 + 1 := by
  unfold ful
  have e1 : (n + m) / b ≤ (n / b) + (m / b) + 1 := by
    have h1 := Int.emod_add_mul_ediv n b
    have h2 := Int.emod_add_mul_ediv m b
    have a1 := Int.emod_lt_of_pos n (show 0 < b by omega)
    have a2 := Int.emod_lt_of_pos m (show 0 < b by omega)
    have : n + m < b * (n / b + m / b + 2) := by
      have e : b * (n / b + m / b + 2) = b * (n / b) + b * (m / b) + b * 2 := by rw [Int.mul_add, Int.mul_add]
      omega
    have := Int.ediv_lt_of_lt_mul (show 0 < b by omega) (by rw [Int.mul_comm] at this; exact this)
    omega
  have e2 : n / b ≤ (n + m) / b := Int.ediv_le_ediv (by omega) (by omega)
  have e3 : m / b ≤ m / 64 := by
    apply Int.le_ediv_of_mul_le (by omega)
    have h0 : 0 ≤ m / b := Int.ediv_nonneg hm (by omega)
    have h1 : m / b * 64 ≤ m / b * b := Int.mul_le_mul_of_nonneg_left hb h0
    have h2 := Int.ediv_mul_le m (show b ≠ 0 by omega)
    omega
  omega
theorem ful_0 {b m : Int} (hb : 64 ≤ b) (hm : 0 ≤ m) : 0 ≤ ful b 0 m ∧ ful b 0 m ≤ m / 64 := by
  unfold ful
  rw [Int.zero_add, Int.zero_ediv, Int.sub_zero]
  have h0 : 0 ≤ m / b := Int.ediv_nonneg hm (by omega)
  refine ⟨h0, ?_⟩
  apply Int.le_ediv_of_mul_le (by omega)
  have h1 : m / b * 64 ≤ m / b * b := Int.mul_le_mul_of_nonneg_left hb h0
  have h2 := Int.ediv_mul_le m (show b ≠ 0 by omega)
  omega
theorem kyd_b {a key : Int} (ha : sz a ≠ 0) (hk : 0 ≤ key) : 2 ≤ kyd a key ∧ kyd a key ≤ key / 64 + 4 := by
  have hb : 64 ≤ bk a := by unfold bk; rcases sz_cases ha with ⟨_, h⟩ | ⟨_, h⟩ <;> omega
  have h1 := ful_0 hb hk
  have h2 := lst_b (bk a) key
  unfold kyd
  split <;> omega
theorem tgd_b (a n : Int) : 2 ≤ tgd a n ∧ tgd a n ≤ 4 := by
  unfold tgd
  have h1 := lst_b (bk a) (bk a + n)
  have h2 := lst_b (bk a) (bk a + sz a)
  omega
theorem hmc_b {a n : Int} (ha : sz a ≠ 0) (hn : 0 ≤ n) : 2 ≤ hmc a n ∧ hmc a n ≤ n / 64 + 4 := by
  have hb : 64 ≤ bk a := by unfold bk; rcases sz_cases ha with ⟨_, h⟩ | ⟨_, h⟩ <;> omega
  have h1 := ful_0 hb hn
  have h2 := tgd_b a n
  unfold hmc
  omega
/-- HMAC of a digest takes two blocks behind the beginning. -/
theorem hmc_sz {a : Int} (ha : sz a ≠ 0) : hmc a (sz a) = 2 := by
  rcases sz_cases ha with ⟨rfl, _⟩ | ⟨rfl, _⟩ <;> decide
theorem hkl_b {a info : Int} (ha : sz a ≠ 0) (hi : 0 ≤ info) (k : Nat) : 0 ≤ hkl a info k ∧ hkl a info k ≤ k * (info / 64 + 6) := by
  have hs : 0 ≤ sz a ∧ sz a ≤ 64 := by rcases sz_cases ha with ⟨_, h⟩ | ⟨_, h⟩ <;> omega
  induction k with
  | zero => simp [hkl]
  | succ k ih =>
    have h1 : 0 ≤ (if k = 0 then 0 else sz a) + info + 1 ∧ (if k = 0 then 0 else sz a) + info + 1 ≤ info + 65 := by split <;> omega
    obtain ⟨t, ht⟩ : ∃ t, (if k = 0 then 0 else sz a) + info + 1 = t := ⟨_, rfl⟩
    rw [ht] at h1
    have h2 := hmc_b ha h1.1
    simp only [hkl, ht]
    have e : ((k + 1 : Nat) : Int) * (info / 64 + 6) = k * (info / 64 + 6) + (info / 64 + 6) := by rw [Int.natCast_add, Int.add_mul]; simp
    rw [e]
    omega
theorem rds_b {a out : Int} (ha : sz a ≠ 0) (h0 : 1 ≤ out) : 1 ≤ rds a out ∧ rds a out ≤ out / 32 + 1 := by
  unfold rds
  rcases sz_cases ha with ⟨_, h⟩ | ⟨_, h⟩ <;> rw [h] <;> omega
end Go.Proofs.YtdmacflcjbkkpaaGreat.Co
namespace Go.Proofs.YtdmacflcjbkkpaaGreat.Co
open Go.Proofs.YtdmacflcjbkkpaaGreat.Ou (Sk cn cn_b bd bd_96)
theorem cn_id {n : Int} (h : 0 ≤ n ∧ n ≤ 16777216) : cn n = n := by unfold cn; rw [if_neg (by omega), if_neg (by omega)]
theorem cn_max (n : Int) : cn (max n 0) = cn n := by unfold cn; split <;> split <;> (try split) <;> omega
theorem bd_low (s : Sk) : 64 + cn s.d + cn s.o + 32 * (cn s.o / 32 + 1) ≤ bd s := by
  have b2 := cn_b s.m
  have b3 := cn_b s.o
  have b4 := cn_b s.c
  have m1 : 512 * (cn s.o / 32 + 1) ≤ (cn s.m + 512) * (cn s.o / 32 + 1) := Int.mul_le_mul_of_nonneg_right (by omega) (by omega)
  have m2 : 0 ≤ 4 * cn s.c * (cn s.o / 32 + 1) := Int.mul_nonneg (by omega) (by omega)
  unfold bd
  omega
theorem hkd_b {a key salt info out : Int} (ha : sz a ≠ 0) (hk : 0 ≤ key ∧ key ≤ 512) (hs : 0 ≤ salt) (hi : 0 ≤ info) (ho : 1 ≤ out) : 1 ≤ hkd a key salt info out ∧ hkd a key salt info out ≤ salt / 64 + 21 + (out / 32 + 1) * (info / 64 + 6) := by
  have h1 := kyd_b ha hs
  have h2 := hmc_b ha hk.1
  have z : 0 ≤ sz a ∧ sz a ≤ 64 := by rcases sz_cases ha with ⟨_, h⟩ | ⟨_, h⟩ <;> omega
  have h3 := kyd_b ha z.1
  have h4 := rds_b ha ho
  have h5 := hkl_b ha hi (rds a out).toNat
  have e : (((rds a out).toNat : Nat) : Int) = rds a out := Int.toNat_of_nonneg (by omega)
  rw [e] at h5
  have h6 : rds a out * (info / 64 + 6) ≤ (out / 32 + 1) * (info / 64 + 6) := Int.mul_le_mul_of_nonneg_right h4.2 (by omega)
  unfold hkd
  omega
theorem hkd_bd {s : Sk} {key : Int} (ha : sz s.a ≠ 0) (hk : 0 ≤ key ∧ key ≤ 512) (hd : 0 ≤ s.d ∧ s.d ≤ 65536) (hm : 0 ≤ s.m ∧ s.m ≤ 65536) (ho : 1 ≤ s.o ∧ s.o ≤ 512) : hkd s.a key s.d s.m s.o + 2 ≤ bd s := by
  have h1 := hkd_b (key := key) (salt := s.d) (info := s.m) (out := s.o) ha hk hd.1 hm.1 ho.1
  have b4 := cn_b s.c
  unfold bd
  rw [cn_id (n := s.d) (by omega), cn_id (n := s.m) (by omega), cn_id (n := s.o) (by omega)]
  obtain ⟨p, hp⟩ : ∃ p, s.o / 32 + 1 = p := ⟨_, rfl⟩
  rw [hp] at h1 ⊢
  have p1 : 1 ≤ p ∧ p ≤ 17 := by omega
  have m2 : 0 ≤ 4 * cn s.c * p := Int.mul_nonneg (by omega) (by omega)
  have e1 : (s.m + 512) * p = s.m * p + 512 * p := Int.add_mul ..
  have e2 : p * (s.m / 64 + 6) = s.m / 64 * p + 6 * p := by rw [Int.mul_comm, Int.add_mul]
  have e3 : s.m / 64 * p * 64 ≤ s.m * p := by
    have h := Int.mul_le_mul_of_nonneg_right (Int.ediv_mul_le s.m (show (64 : Int) ≠ 0 by omega)) (show 0 ≤ p by omega)
    have e : s.m / 64 * 64 * p = s.m / 64 * p * 64 := by rw [Int.mul_assoc, Int.mul_comm 64 p, ← Int.mul_assoc]
    omega
  have e4 : 0 ≤ s.m / 64 * p := Int.mul_nonneg (by omega) (by omega)
  rw [e1]
  rw [e2] at h1
  obtain ⟨t, ht⟩ : ∃ t, s.m * p = t := ⟨_, rfl⟩
  obtain ⟨u, hu⟩ : ∃ u, s.m / 64 * p = u := ⟨_, rfl⟩
  obtain ⟨v, hv⟩ : ∃ v, 4 * cn s.c * p = v := ⟨_, rfl⟩
  rw [ht, hu] at e3
  rw [hu] at e4 h1
  rw [hv] at m2
  rw [ht, hv]
  omega
theorem pbk_b {a key salt count out : Int} (ha : sz a ≠ 0) (hk : 0 ≤ key ∧ key ≤ 512) (hs : 0 ≤ salt) (hc : 1 ≤ count) (ho : 1 ≤ out) : 1 ≤ pbk a key salt count out ∧ pbk a key salt count out ≤ 12 + (out / 32 + 1) * ((salt + 4) / 64 + 4 + 2 * (count - 1)) := by
  have h1 := kyd_b ha hk.1
  have h2 := hmc_b ha (show 0 ≤ salt + 4 by omega)
  have h4 := rds_b ha ho
  unfold pbk
  rw [hmc_sz ha]
  have e : (count - 1) * 2 = 2 * (count - 1) := Int.mul_comm ..
  rw [e]
  have h5 : rds a out * (hmc a (salt + 4) + 2 * (count - 1)) ≤ (out / 32 + 1) * ((salt + 4) / 64 + 4 + 2 * (count - 1)) := Int.mul_le_mul h4.2 (by omega) (by omega) (by omega)
  have h6 : 0 ≤ rds a out * (hmc a (salt + 4) + 2 * (count - 1)) := Int.mul_nonneg (by omega) (by omega)
  omega
theorem pbk_bd {s : Sk} {key : Int} (ha : sz s.a ≠ 0) (hk : 0 ≤ key ∧ key ≤ 512) (hd : 0 ≤ s.d ∧ s.d ≤ 65536) (hc : 1 ≤ s.c ∧ s.c ≤ 1048576) (ho : 1 ≤ s.o ∧ s.o ≤ 512) : pbk s.a key s.d s.c s.o + 2 ≤ bd s := by
  have h1 := pbk_b (key := key) (salt := s.d) (count := s.c) (out := s.o) ha hk hd.1 hc.1 ho.1
  have b2 := cn_b s.m
  unfold bd
  rw [cn_id (n := s.d) (by omega), cn_id (n := s.c) (by omega), cn_id (n := s.o) (by omega)]
  obtain ⟨p, hp⟩ : ∃ p, s.o / 32 + 1 = p := ⟨_, rfl⟩
  rw [hp] at h1 ⊢
  have p1 : 1 ≤ p ∧ p ≤ 17 := by omega
  have m1 : 512 * p ≤ (cn s.m + 512) * p := Int.mul_le_mul_of_nonneg_right (by omega) (by omega)
  have e1 : p * ((s.d + 4) / 64 + 4 + 2 * (s.c - 1)) = p * ((s.d + 4) / 64) + 2 * (s.c * p) + 2 * p := by
    rw [Int.mul_add, Int.mul_add]
    have : p * (2 * (s.c - 1)) = 2 * (s.c * p) - 2 * p := by
      rw [Int.mul_comm p, Int.mul_assoc, Int.sub_mul, Int.one_mul]; omega
    omega
  have e2 : p * ((s.d + 4) / 64) ≤ 17 * ((s.d + 4) / 64) := Int.mul_le_mul_of_nonneg_right p1.2 (by omega)
  have e3 : 4 * s.c * p = 4 * (s.c * p) := Int.mul_assoc ..
  have e4 : 0 ≤ s.c * p := Int.mul_nonneg (by omega) (by omega)
  rw [e1] at h1
  rw [e3]
  obtain ⟨t, ht⟩ : ∃ t, s.c * p = t := ⟨_, rfl⟩
  obtain ⟨u, hu⟩ : ∃ u, p * ((s.d + 4) / 64) = u := ⟨_, rfl⟩
  obtain ⟨v, hv⟩ : ∃ v, (cn s.m + 512) * p = v := ⟨_, rfl⟩
  rw [ht, hu] at h1
  rw [hu] at e2
  rw [hv] at m1
  rw [ht] at e4
  rw [hv, ht]
  omega
theorem txt_b {n : Int} (h : 0 ≤ n ∧ n ≤ 1000) : n + 2 ≤ txt n ∧ txt n ≤ n + 4 := by
  unfold txt
  have := nbr_le (n := 8 * n) (by omega) (by omega)
  omega
theorem rte_b (a : Int) : 136 ≤ rte a ∧ rte a ≤ 168 := by unfold rte; split <;> omega
theorem pad_b {a n : Int} (h : 0 ≤ n ∧ n ≤ 2000) : 1 ≤ pad a n ∧ pad a n ≤ 16 := by
  unfold pad
  have r := rte_b a
  have b := nbr_le (n := rte a) (by omega) (by omega)
  constructor
  · apply Int.le_ediv_of_mul_le (by omega); omega
  · have : nbr (rte a) + n + rte a - 1 < 17 * rte a := by omega
    have := Int.ediv_lt_of_lt_mul (show 0 < rte a by omega) this
    omega
end Go.Proofs.YtdmacflcjbkkpaaGreat.Co
namespace Go.Proofs.YtdmacflcjbkkpaaGreat.Co
open Go.Proofs.YtdmacflcjbkkpaaGreat.Ou (Sk cn cn_b bd bd_96)
/-- So many times an event. -/
abbrev Ru := Go.Proofs.YtdmacflcjbkkpaaGreat.Rn
/-- What is public of a handle that is held. -/
structure He where
  key : Int
  alg : Int
  out : Int
  cus : Int
  msg : Int
structure He.Ok (h : He) : Prop where
  k0 : 0 ≤ h.key
  k1 : h.key ≤ 512
  a0 : 0 ≤ h.alg
  a1 : h.alg ≤ 7
  o0 : 0 ≤ h.out
  o1 : h.out ≤ 64
  c0 : 0 ≤ h.cus
  c1 : h.cus ≤ 64
  m0 : 0 ≤ h.msg
abbrev St := Nat → Option He
def St.Ok (P : St) : Prop := ∀ i h, P i = some h → h.Ok
def hat (P : St) (h : Int) : Option He := if 0 ≤ h ∧ h < 64 then P h.toNat else none
/-- The least that is free. -/
def fre (P : St) : Option Nat := (List.range 64).find? (fun i => (P i).isNone)
def upS (P : St) (i : Nat) (x : Option He) : St := fun j => if j = i then x else P j
theorem hat_ok {P : St} (hP : P.Ok) {i : Int} {h : He} (e : hat P i = some h) : h.Ok := by
  unfold hat at e
  split at e
  · exact hP _ _ e
  · cases e
def tks (k : Int) : Bool := k == 1 || k == 2 || k == 6 || k == 7 || k == 8
def mos (a : Int) : Int := if a = 1 then 32 else if a = 3 then 16 else 64
/-- The codes of OpBegin from ErrAlg on. -/
def bgC (s : Sk) (h : He) : Int :=
  if s.a < 1 ∨ 7 < s.a then 4 else if s.a = 3 ∧ h.key ≠ 16 ∧ h.key ≠ 24 ∧ h.key ≠ 32 then 7 else if 0 < s.d ∧ ¬ (4 ≤ s.a ∧ s.a ≤ 7) then 2 else if 64 < s.d then 9 else if s.o < 1 ∨ mos s.a < s.o then 11 else 0
/-- The codes of OpHkdf and OpPbkdf from ErrAlg on. -/
def drC (s : Sk) : Int :=
  if sz s.a = 0 then 4 else if 65536 < s.d then 9 else if (s.k = 7 ∧ (65536 < s.m ∨ 255 * sz s.a < s.o)) ∨ (s.k = 8 ∧ 4294967295 * sz s.a < s.o) then 9 else if s.k = 8 ∧ (s.c < 1 ∨ 1048576 < s.c) then 10 else if s.o < 1 ∨ 512 < s.o then 7 else 0
/-- The codes of an operation on what a handle has. -/
def fit (s : Sk) (h : He) : Int :=
  if s.k = 2 then (if h.alg ≠ 0 then 6 else bgC s h) else if s.k = 3 then (if h.alg = 0 then 6 else if 65536 < s.d then 9 else 0) else if s.k = 4 then (if h.alg = 0 then 6 else 0) else if s.k = 5 then (if h.alg = 0 then 6 else if s.d ≠ h.out then 11 else 0)
  else if s.k = 7 ∨ s.k = 8 then (if h.alg ≠ 0 then 6 else drC s) else if s.k = 9 then (if h.alg ≠ 0 then 6 else 0) else 0
def cod (P : St) (s : Sk) : Int :=
  if s.k < 1 ∨ 10 < s.k then 3 else if s.k = 1 then (if 512 < s.d then 7 else if fre P = none then 8 else 0) else match hat P s.h with
    | none => 5
    | some h => if fit s h ≠ 0 then fit s h else if tks s.k = true ∧ fre P = none then 8 else 0
def bgE (h : He) : List Ru := if sz h.alg ≠ 0 then [⟨ek h.alg, bk h.alg, kyd h.alg h.key⟩] else if h.alg = 3 then [⟨4, h.key, 1⟩, ⟨5, h.key, 1⟩] else [⟨3, 200, pad h.alg (txt 4 + txt h.cus) + pad h.alg (txt h.key)⟩]
def tlE (h : He) (n : Int) : List Ru := if sz h.alg ≠ 0 then [⟨ek h.alg, bk h.alg, ful (bk h.alg) h.msg n⟩] else if h.alg = 3 then [⟨5, h.key, chn (h.msg + n) - chn h.msg⟩] else [⟨3, 200, ful (rte h.alg) h.msg n⟩]
def xof (a : Int) : Bool := a == 6 || a == 7
def smE (h : He) : List Ru := if sz h.alg ≠ 0 then [⟨ek h.alg, bk h.alg, tgd h.alg h.msg⟩] else if h.alg = 3 then [⟨5, h.key, 1⟩] else [⟨3, 200, ful (rte h.alg) h.msg (if xof h.alg then nbr 0 else nbr (8 * h.out)) + 1⟩]
/-- What an operation that is not refused records, between EvOp and EvCode; h: what its handle has. -/
def mid (s : Sk) (h : He) : List Ru :=
  if s.k = 2 then bgE ⟨h.key, s.a, s.o, s.d, 0⟩ else if s.k = 3 then tlE h s.d else if s.k = 4 then smE h ++ [⟨8, 1024, 1⟩] else if s.k = 5 then smE h ++ [⟨6, h.out, 1⟩, ⟨8, 1024, 1⟩]
  else if s.k = 7 then [⟨ek s.a, bk s.a, hkd s.a h.key s.d s.m s.o⟩] else if s.k = 8 then [⟨ek s.a, bk s.a, pbk s.a h.key s.d s.c s.o⟩] else if s.k = 10 then [⟨8, 1024, 1⟩] else []
def flt (l : List Ru) : List Ru := l.filter (fun r => decide (1 ≤ r.c))
/-- What a handle that is taken has. -/
def hel (s : Sk) (h : He) : He := if s.k = 1 then ⟨s.d, 0, 0, 0, 0⟩ else if s.k = 2 then ⟨h.key, s.a, s.o, s.d, 0⟩ else if s.k = 6 then h else ⟨s.o, 0, 0, 0, 0⟩
def h0 : He := ⟨0, 0, 0, 0, 0⟩
def nxt (P : St) (s : Sk) : St :=
  let h := (hat P s.h).getD h0
  if s.k = 3 then upS P s.h.toNat (some ⟨h.key, h.alg, h.out, h.cus, h.msg + s.d⟩) else if s.k = 4 ∨ s.k = 5 ∨ s.k = 10 then upS P s.h.toNat none else if tks s.k then upS P ((fre P).getD 0) (some (hel s h)) else P
/-- Lengths below 0 count as 0. -/
def clp (s : Sk) : Sk := ⟨s.k, s.h, s.a, s.c, s.o, max s.d 0, max s.m 0⟩
def row (P : St) (s : Sk) : List Ru := ⟨11, s.k, 1⟩ :: (if cod P (clp s) = 0 then flt (mid (clp s) ((hat P s.h).getD h0)) else []) ++ [⟨12, cod P (clp s), 1⟩]
def stp (P : St) (s : Sk) : St := if cod P (clp s) = 0 then nxt P (clp s) else P
/-- How many events. -/
def tt : List Ru → Int
  | [] => 0
  | r :: l => r.c + tt l
theorem tt_append (l m : List Ru) : tt (l ++ m) = tt l + tt m := by
  induction l with
  | nil => simp [tt]
  | cons r l ih => simp only [List.cons_append, tt, ih]; omega
theorem tt_flt (l : List Ru) (h : ∀ r ∈ l, 0 ≤ r.c) : tt (flt l) = tt l := by
  induction l with
  | nil => rfl
  | cons r l ih =>
    have h1 := h r (by simp)
    have h2 := ih (fun x hx => h x (by simp [hx]))
    unfold flt at h2 ⊢
    rw [List.filter_cons]
    split
    · simp only [tt, h2]
    · rename_i hd
      simp only [decide_eq_true_eq] at hd
      simp only [tt, h2]; omega
theorem bd_clp (s : Sk) : bd (clp s) = bd s := by unfold bd clp; rw [cn_max, cn_max]
theorem chn_b {m n : Int} (hn : 0 ≤ n) : 0 ≤ chn (m + n) - chn m ∧ chn (m + n) - chn m ≤ n / 16 + 1 := by unfold chn; omega
end Go.Proofs.YtdmacflcjbkkpaaGreat.Co
namespace Go.Proofs.YtdmacflcjbkkpaaGreat.Co
open Go.Proofs.YtdmacflcjbkkpaaGreat.Ou (Sk cn cn_b bd bd_96)
theorem bgC_zero {s : Sk} {h : He} (e : bgC s h = 0) : 1 ≤ s.a ∧ s.a ≤ 7 ∧ s.d ≤ 64 ∧ 1 ≤ s.o ∧ s.o ≤ 64 := by
  unfold bgC mos at e
  repeat' split at e
  all_goals first
    | (exfalso; omega)
    | omega
theorem drC_zero {s : Sk} (e : drC s = 0) : sz s.a ≠ 0 ∧ s.d ≤ 65536 ∧ (s.k = 7 → s.m ≤ 65536) ∧ (s.k = 8 → 1 ≤ s.c ∧ s.c ≤ 1048576) ∧ 1 ≤ s.o ∧ s.o ≤ 512 := by
  unfold drC at e
  repeat' split at e
  all_goals first
    | (exfalso; omega)
    | (refine ⟨by assumption, ?_, ?_, ?_, ?_, ?_⟩ <;> omega)
/-- What is known where an operation is not refused. -/
inductive Fine (P : St) (s : Sk) : Prop where
  | put (k : s.k = 1) (d : s.d ≤ 512) (f : fre P ≠ none) : Fine P s
  | on (h : He) (e : hat P s.h = some h) (k : 2 ≤ s.k ∧ s.k ≤ 10) (c : fit s h = 0) (f : tks s.k = true → fre P ≠ none) : Fine P s
theorem fine_of {P : St} {s : Sk} (e : cod P s = 0) : Fine P s := by
  unfold cod at e
  by_cases h1 : s.k < 1 ∨ 10 < s.k
  · rw [if_pos h1] at e; exact absurd e (by decide)
  rw [if_neg h1] at e
  by_cases h2 : s.k = 1
  · rw [if_pos h2] at e
    by_cases h3 : 512 < s.d
    · rw [if_pos h3] at e; exact absurd e (by decide)
    rw [if_neg h3] at e
    by_cases h4 : fre P = none
    · rw [if_pos h4] at e; exact absurd e (by decide)
    exact .put h2 (by omega) h4
  rw [if_neg h2] at e
  cases hh : hat P s.h with
  | none => rw [hh] at e; simp only at e; exact absurd e (by decide)
  | some h =>
    rw [hh] at e
    simp only at e
    by_cases h3 : fit s h ≠ 0
    · rw [if_pos h3] at e; exact absurd e h3
    rw [if_neg h3] at e
    have h3' : fit s h = 0 := Decidable.not_not.1 h3
    by_cases h4 : tks s.k = true ∧ fre P = none
    · rw [if_pos h4] at e; exact absurd e (by decide)
    exact .on h hh (by omega) h3' (fun t f => h4 ⟨t, f⟩)
theorem fit_two {s : Sk} {h : He} (k : s.k = 2) (e : fit s h = 0) : h.alg = 0 ∧ bgC s h = 0 := by
  unfold fit at e
  rw [if_pos k] at e
  split at e
  · exact absurd e (by decide)
  · rename_i hh; exact ⟨Decidable.not_not.1 hh, e⟩
theorem fit_three {s : Sk} {h : He} (k : s.k = 3) (e : fit s h = 0) : h.alg ≠ 0 ∧ s.d ≤ 65536 := by
  unfold fit at e
  rw [if_neg (by omega), if_pos k] at e
  split at e
  · exact absurd e (by decide)
  · split at e
    · exact absurd e (by decide)
    · exact ⟨by assumption, by omega⟩
theorem fit_der {s : Sk} {h : He} (k : s.k = 7 ∨ s.k = 8) (e : fit s h = 0) : h.alg = 0 ∧ drC s = 0 := by
  unfold fit at e
  rw [if_neg (by omega), if_neg (by omega), if_neg (by omega), if_neg (by omega), if_pos k] at e
  split at e
  · exact absurd e (by decide)
  · rename_i hh; exact ⟨Decidable.not_not.1 hh, e⟩
theorem upS_ok {P : St} (hP : P.Ok) (i : Nat) {x : Option He} (hx : ∀ h, x = some h → h.Ok) : (upS P i x).Ok := by
  intro j h e
  unfold upS at e
  split at e
  · exact hx h e
  · exact hP j h e
/-- What is held stays in bounds. -/
theorem nxt_ok {P : St} {s : Sk} (hP : P.Ok) (hd : 0 ≤ s.d) (e : cod P s = 0) : (nxt P s).Ok := by
  have F := fine_of e
  unfold nxt
  cases F with
  | put k d f =>
    simp only
    rw [if_neg (by omega), if_neg (by omega)]
    split
    · refine upS_ok hP _ (fun h eh => ?_)
      simp only [Option.some.injEq] at eh
      subst eh
      unfold hel
      rw [if_pos k]
      exact ⟨hd, d, Int.le_refl 0, by show (0:Int) ≤ 7; decide, Int.le_refl 0, by show (0:Int) ≤ 64; decide, Int.le_refl 0, by show (0:Int) ≤ 64; decide, Int.le_refl 0⟩
    · exact hP
  | on h eh k c f =>
    have ho := hat_ok hP eh
    rw [eh]
    simp only [Option.getD_some]
    by_cases k3 : s.k = 3
    · rw [if_pos k3]
      refine upS_ok hP _ (fun g eg => ?_)
      simp only [Option.some.injEq] at eg
      subst eg
      exact ⟨ho.k0, ho.k1, ho.a0, ho.a1, ho.o0, ho.o1, ho.c0, ho.c1, by have := ho.m0; show 0 ≤ h.msg + s.d; omega⟩
    rw [if_neg k3]
    by_cases k4 : s.k = 4 ∨ s.k = 5 ∨ s.k = 10
    · rw [if_pos k4]
      exact upS_ok hP _ (fun g eg => by cases eg)
    rw [if_neg k4]
    split
    · refine upS_ok hP _ (fun g eg => ?_)
      simp only [Option.some.injEq] at eg
      subst eg
      unfold hel
      by_cases k1 : s.k = 1
      · omega
      rw [if_neg k1]
      by_cases k2 : s.k = 2
      · rw [if_pos k2]
        have b := bgC_zero (fit_two k2 c).2
        exact ⟨ho.k0, ho.k1, by show 0 ≤ s.a; omega, by show s.a ≤ 7; omega, by show 0 ≤ s.o; omega, by show s.o ≤ 64; omega, hd, by show s.d ≤ 64; omega, Int.le_refl 0⟩
      rw [if_neg k2]
      by_cases k6 : s.k = 6
      · rw [if_pos k6]; exact ho
      rw [if_neg k6]
      have k78 : s.k = 7 ∨ s.k = 8 := by
        rename_i ht
        unfold tks at ht
        simp at ht
        omega
      have b := drC_zero (fit_der k78 c).2
      exact ⟨by show 0 ≤ s.o; omega, by show s.o ≤ 512; omega, Int.le_refl 0, by show (0:Int) ≤ 7; decide, Int.le_refl 0, by show (0:Int) ≤ 64; decide, Int.le_refl 0, by show (0:Int) ≤ 64; decide, Int.le_refl 0⟩
    · exact hP
theorem stp_ok {P : St} (hP : P.Ok) (s : Sk) : (stp P s).Ok := by
  unfold stp
  split
  · exact nxt_ok hP (by show 0 ≤ max s.d 0; omega) (by assumption)
  · exact hP
theorem start_ok : St.Ok (fun _ => none) := fun i h e => by cases e
end Go.Proofs.YtdmacflcjbkkpaaGreat.Co
namespace Go.Proofs.YtdmacflcjbkkpaaGreat.Co
open Go.Proofs.YtdmacflcjbkkpaaGreat.Ou (Sk cn cn_b bd bd_96)
def Nn (l : List Ru) : Prop := ∀ r ∈ l, 0 ≤ r.c
theorem nn_nil : Nn [] := fun r h => by cases h
theorem nn_cons {r : Ru} {l : List Ru} (h : 0 ≤ r.c) (hl : Nn l) : Nn (r :: l) := fun x hx => by
  rcases List.mem_cons.1 hx with rfl | hx
  · exact h
  · exact hl x hx
theorem bk_64 {a : Int} (h : sz a ≠ 0) : 64 ≤ bk a := by unfold bk; rcases sz_cases h with ⟨_, h⟩ | ⟨_, h⟩ <;> omega
theorem bgE_b {h : He} (ho : h.Ok) : Nn (bgE h) ∧ tt (bgE h) ≤ 64 := by
  have k0 := ho.k0
  have k1 := ho.k1
  have c0 := ho.c0
  have c1 := ho.c1
  unfold bgE
  split
  · rename_i a
    have b := kyd_b a k0
    exact ⟨nn_cons (by show 0 ≤ kyd h.alg h.key; omega) nn_nil, by show kyd h.alg h.key + 0 ≤ 64; omega⟩
  · split
    · exact ⟨nn_cons (by show (0:Int) ≤ 1; decide) (nn_cons (by show (0:Int) ≤ 1; decide) nn_nil), by show (1:Int) + (1 + 0) ≤ 64; decide⟩
    · have t4 := txt_b (n := 4) (by omega)
      have t1 := txt_b (n := h.cus) (by omega)
      have t2 := txt_b (n := h.key) (by omega)
      have p1 := pad_b (a := h.alg) (n := txt 4 + txt h.cus) (by omega)
      have p2 := pad_b (a := h.alg) (n := txt h.key) (by omega)
      exact ⟨nn_cons (by show 0 ≤ pad h.alg (txt 4 + txt h.cus) + pad h.alg (txt h.key); omega) nn_nil, by show pad h.alg (txt 4 + txt h.cus) + pad h.alg (txt h.key) + 0 ≤ 64; omega⟩
theorem tlE_b {h : He} (ho : h.Ok) {n : Int} (hn : 0 ≤ n) : Nn (tlE h n) ∧ tt (tlE h n) ≤ n / 16 + 1 := by
  have m0 := ho.m0
  unfold tlE
  split
  · rename_i a
    have b := ful_b (bk_64 a) m0 hn
    exact ⟨nn_cons b.1 nn_nil, by show ful (bk h.alg) h.msg n + 0 ≤ _; omega⟩
  · split
    · have b := chn_b (m := h.msg) hn
      exact ⟨nn_cons b.1 nn_nil, by show chn (h.msg + n) - chn h.msg + 0 ≤ _; omega⟩
    · have r := rte_b h.alg
      have b := ful_b (b := rte h.alg) (by omega) m0 hn
      exact ⟨nn_cons b.1 nn_nil, by show ful (rte h.alg) h.msg n + 0 ≤ _; omega⟩
theorem smE_b {h : He} (ho : h.Ok) : Nn (smE h) ∧ tt (smE h) ≤ 4 := by
  have m0 := ho.m0
  have o0 := ho.o0
  have o1 := ho.o1
  unfold smE
  split
  · rename_i a
    have b := tgd_b h.alg h.msg
    exact ⟨nn_cons (by show 0 ≤ tgd h.alg h.msg; omega) nn_nil, by show tgd h.alg h.msg + 0 ≤ 4; omega⟩
  · split
    · exact ⟨nn_cons (by show (0:Int) ≤ 1; decide) nn_nil, by show (1:Int) + 0 ≤ 4; decide⟩
    · have r := rte_b h.alg
      have n1 : 2 ≤ (if xof h.alg then nbr 0 else nbr (8 * h.out)) ∧ (if xof h.alg then nbr 0 else nbr (8 * h.out)) ≤ 4 := by
        split
        · exact nbr_le (by omega) (by omega)
        · exact nbr_le (by omega) (by omega)
      have b := ful_b (b := rte h.alg) (n := h.msg) (m := if xof h.alg then nbr 0 else nbr (8 * h.out)) (by omega) m0 (by omega)
      exact ⟨nn_cons (by show 0 ≤ ful (rte h.alg) h.msg (if xof h.alg then nbr 0 else nbr (8 * h.out)) + 1; omega) nn_nil, by show ful (rte h.alg) h.msg (if xof h.alg then nbr 0 else nbr (8 * h.out)) + 1 + 0 ≤ 4; omega⟩
theorem nn_app {l m : List Ru} (hl : Nn l) (hm : Nn m) : Nn (l ++ m) := fun x hx => by
  rcases List.mem_append.1 hx with h | h
  · exact hl x h
  · exact hm x h
/-- What an operation that is not refused records is at most B less two. -/
theorem mid_b {P : St} {s : Sk} (hP : P.Ok) (hd : 0 ≤ s.d) (hm : 0 ≤ s.m) (F : Fine P s) : Nn (mid s ((hat P s.h).getD h0)) ∧ tt (mid s ((hat P s.h).getD h0)) + 2 ≤ bd s := by
  have b96 := bd_96 s
  have low := bd_low s
  have co := cn_b s.o
  have i32 : 0 ≤ 32 * (cn s.o / 32 + 1) := by omega
  cases F with
  | put k d f =>
    unfold mid
    rw [if_neg (by omega), if_neg (by omega), if_neg (by omega), if_neg (by omega), if_neg (by omega), if_neg (by omega), if_neg (by omega)]
    exact ⟨nn_nil, by show (0:Int) + 2 ≤ bd s; omega⟩
  | on h eh k c f =>
    have ho := hat_ok hP eh
    rw [eh, Option.getD_some]
    unfold mid
    by_cases k2 : s.k = 2
    · rw [if_pos k2]
      have b := bgC_zero (fit_two k2 c).2
      have g := bgE_b (h := ⟨h.key, s.a, s.o, s.d, 0⟩) ⟨ho.k0, ho.k1, by show 0 ≤ s.a; omega, by show s.a ≤ 7; omega, by show 0 ≤ s.o; omega, by show s.o ≤ 64; omega, hd, by show s.d ≤ 64; omega, Int.le_refl 0⟩
      exact ⟨g.1, by omega⟩
    rw [if_neg k2]
    by_cases k3 : s.k = 3
    · rw [if_pos k3]
      have b := fit_three k3 c
      have g := tlE_b ho hd
      have e := cn_id (n := s.d) ⟨hd, by omega⟩
      rw [e] at low
      exact ⟨g.1, by omega⟩
    rw [if_neg k3]
    have g := smE_b ho
    by_cases k4 : s.k = 4
    · rw [if_pos k4]
      refine ⟨nn_app g.1 (nn_cons (by show (0:Int) ≤ 1; decide) nn_nil), ?_⟩
      rw [tt_append]
      show tt (smE h) + (1 + 0) + 2 ≤ bd s
      omega
    rw [if_neg k4]
    by_cases k5 : s.k = 5
    · rw [if_pos k5]
      refine ⟨nn_app g.1 (nn_cons (by show (0:Int) ≤ 1; decide) (nn_cons (by show (0:Int) ≤ 1; decide) nn_nil)), ?_⟩
      rw [tt_append]
      show tt (smE h) + (1 + (1 + 0)) + 2 ≤ bd s
      omega
    rw [if_neg k5]
    by_cases k7 : s.k = 7
    · rw [if_pos k7]
      have b := drC_zero (fit_der (.inl k7) c).2
      have w := hkd_bd (s := s) (key := h.key) b.1 ⟨ho.k0, ho.k1⟩ ⟨hd, b.2.1⟩ ⟨hm, b.2.2.1 k7⟩ b.2.2.2.2
      have w1 := hkd_b (key := h.key) (salt := s.d) (info := s.m) (out := s.o) b.1 ⟨ho.k0, ho.k1⟩ hd hm b.2.2.2.2.1
      exact ⟨nn_cons (by show 0 ≤ hkd s.a h.key s.d s.m s.o; omega) nn_nil, by show hkd s.a h.key s.d s.m s.o + 0 + 2 ≤ bd s; omega⟩
    rw [if_neg k7]
    by_cases k8 : s.k = 8
    · rw [if_pos k8]
      have b := drC_zero (fit_der (.inr k8) c).2
      have w := pbk_bd (s := s) (key := h.key) b.1 ⟨ho.k0, ho.k1⟩ ⟨hd, b.2.1⟩ (b.2.2.2.1 k8) b.2.2.2.2
      have w1 := pbk_b (key := h.key) (salt := s.d) (count := s.c) (out := s.o) b.1 ⟨ho.k0, ho.k1⟩ hd (b.2.2.2.1 k8).1 b.2.2.2.2.1
      exact ⟨nn_cons (by show 0 ≤ pbk s.a h.key s.d s.c s.o; omega) nn_nil, by show pbk s.a h.key s.d s.c s.o + 0 + 2 ≤ bd s; omega⟩
    rw [if_neg k8]
    by_cases kt : s.k = 10
    · rw [if_pos kt]
      exact ⟨nn_cons (by show (0:Int) ≤ 1; decide) nn_nil, by show (1:Int) + 0 + 2 ≤ bd s; omega⟩
    rw [if_neg kt]
    exact ⟨nn_nil, by show (0:Int) + 2 ≤ bd s; omega⟩
/-- No row has more events than its skeleton's bound. -/
theorem row_b {P : St} (hP : P.Ok) (s : Sk) : tt (row P s) ≤ bd s := by
  have b96 := bd_96 s
  unfold row
  rw [tt_append]
  show (1 : Int) + tt _ + (_ + 0) ≤ bd s
  show (1 : Int) + tt (if cod P (clp s) = 0 then flt (mid (clp s) ((hat P s.h).getD h0)) else []) + (1 + 0) ≤ bd s
  split
  · rename_i e
    have F := fine_of e
    have m := mid_b (P := P) (s := clp s) hP (by show 0 ≤ max s.d 0; omega) (by show 0 ≤ max s.m 0; omega) F
    rw [bd_clp] at m
    have e1 : tt (flt (mid (clp s) ((hat P s.h).getD h0))) = tt (mid (clp s) ((hat P s.h).getD h0)) := tt_flt _ m.1
    have m2 : tt (mid (clp s) ((hat P s.h).getD h0)) + 2 ≤ bd s := m.2
    omega
  · show (1 : Int) + 0 + (1 + 0) ≤ bd s
    omega
end Go.Proofs.YtdmacflcjbkkpaaGreat.Co
namespace Go.Proofs.YtdmacflcjbkkpaaGreat.Co
open Go.Proofs.YtdmacflcjbkkpaaGreat.Ou (Sk ps uH uA uC uO uD uM)
theorem ten {k : Int} (h : ¬ (k < 1 ∨ 10 < k)) : k = 1 ∨ k = 2 ∨ k = 3 ∨ k = 4 ∨ k = 5 ∨ k = 6 ∨ k = 7 ∨ k = 8 ∨ k = 9 ∨ k = 10 := by omega
theorem cod_ps (P : St) (s : Sk) : cod P (clp (ps s)) = cod P (clp s) := by
  obtain ⟨k, h, a, c, o, d, m⟩ := s
  by_cases hk : k < 1 ∨ 10 < k
  · unfold cod clp ps
    simp only
    rw [if_pos hk, if_pos hk]
  · rcases ten hk with rfl | rfl | rfl | rfl | rfl | rfl | rfl | rfl | rfl | rfl <;> simp [cod, clp, ps, fit, bgC, drC, tks, uH, uA, uC, uO, uD, uM] <;> first | rfl | (cases hat P h with
      | none => rfl
      | some g =>
        simp only
        by_cases q1 : g.alg = 0
        · simp [q1]
        · by_cases q2 : max d 0 = g.out <;> simp [q1, q2])
theorem row_ps (P : St) (s : Sk) : row P (ps s) = row P s := by
  unfold row
  rw [cod_ps]
  split
  · rename_i e
    have e' : flt (mid (clp (ps s)) ((hat P (ps s).h).getD h0)) = flt (mid (clp s) ((hat P s.h).getD h0)) := by
      obtain ⟨k, h, a, c, o, d, m⟩ := s
      have hk : ¬ (k < 1 ∨ 10 < k) := by
        intro hk
        unfold cod clp at e
        simp only at e
        rw [if_pos hk] at e
        exact absurd e (by decide)
      rcases ten hk with rfl | rfl | rfl | rfl | rfl | rfl | rfl | rfl | rfl | rfl <;> simp [clp, ps, mid, uH, uA, uC, uO, uD, uM]
    rw [e']; rfl
  · rfl
theorem stp_ps (P : St) (s : Sk) : stp P (ps s) = stp P s := by
  unfold stp
  rw [cod_ps]
  split
  · rename_i e
    obtain ⟨k, h, a, c, o, d, m⟩ := s
    have hk : ¬ (k < 1 ∨ 10 < k) := by
      intro hk
      unfold cod clp at e
      simp only at e
      rw [if_pos hk] at e
      exact absurd e (by decide)
    rcases ten hk with rfl | rfl | rfl | rfl | rfl | rfl | rfl | rfl | rfl | rfl <;> simp [clp, ps, nxt, hel, tks, uH, uA, uC, uO, uD, uM]
  · rfl
/-- Alike where the kind uses them: the same row, the same state behind it. -/
theorem row_alike {P : St} {s t : Sk} (e : ps s = ps t) : row P s = row P t ∧ stp P s = stp P t ∧ cod P (clp s) = cod P (clp t) := by
  refine ⟨?_, ?_, ?_⟩
  · rw [← row_ps P s, ← row_ps P t, e]
  · rw [← stp_ps P s, ← stp_ps P t, e]
  · rw [← cod_ps P s, ← cod_ps P t, e]
end Go.Proofs.YtdmacflcjbkkpaaGreat.Co
namespace Go.Proofs.YtdmacflcjbkkpaaGreat.Co
open Go.Proofs.YtdmacflcjbkkpaaGreat.Ou (Sk cn cn_b bd bd_96)
/-- Two runs of unlike events. -/
def Ul (r q : Ru) : Prop := ¬ (r.k = q.k ∧ r.s = q.s)
/-- No two neighbours alike. -/
def Nb : List Ru → Prop
  | [] => True
  | [_] => True
  | r :: q :: l => Ul r q ∧ Nb (q :: l)
/-- All counts are 1 or more. -/
def Po (l : List Ru) : Prop := ∀ r ∈ l, 1 ≤ r.c
/-- Kinds go up: no two of them are alike. -/
def Up : List Ru → Prop
  | [] => True
  | [_] => True
  | r :: q :: l => r.k < q.k ∧ Up (q :: l)
theorem up_nb : ∀ l : List Ru, Up l → Nb l
  | [], _ => trivial
  | [_], _ => trivial
  | r :: q :: l, h => ⟨fun e => by have := h.1; omega, up_nb (q :: l) h.2⟩
theorem flt_po (l : List Ru) : Po (flt l) := fun r hr => by
  unfold flt at hr
  have := (List.mem_filter.1 hr).2
  simpa using this
/-- All kinds are between two. -/
def Bt (a b : Int) (l : List Ru) : Prop := ∀ r ∈ l, a ≤ r.k ∧ r.k ≤ b
theorem up_all {l : List Ru} : Up l ↔ l.Pairwise (fun r q => r.k < q.k) := by
  induction l with
  | nil => simp [Up]
  | cons r l ih =>
    cases l with
    | nil => simp [Up]
    | cons q l =>
      simp only [Up]
      rw [ih]
      constructor
      · intro h
        refine List.pairwise_cons.2 ⟨fun x hx => ?_, h.2⟩
        rcases List.mem_cons.1 hx with rfl | hx
        · exact h.1
        · have := (List.pairwise_cons.1 h.2).1 x hx
          have := h.1
          omega
      · intro h
        exact ⟨(List.pairwise_cons.1 h).1 q (by simp), (List.pairwise_cons.1 h).2⟩
theorem flt_up {l : List Ru} (h : Up l) : Up (flt l) := up_all.2 ((up_all.1 h).filter _)
theorem flt_bt {a b : Int} {l : List Ru} (h : Bt a b l) : Bt a b (flt l) := fun r hr => h r (List.mem_filter.1 hr).1
theorem ek_b (a : Int) : 1 ≤ ek a ∧ ek a ≤ 2 := by unfold ek; split <;> omega
theorem bgE_up (h : He) : Up (bgE h) ∧ Bt 1 5 (bgE h) := by
  have e := ek_b h.alg
  unfold bgE
  split
  · exact ⟨trivial, fun r hr => by simp only [List.mem_singleton] at hr; subst hr; show 1 ≤ ek h.alg ∧ ek h.alg ≤ 5; omega⟩
  · split
    · refine ⟨⟨by show (4 : Int) < 5; decide, trivial⟩, fun r hr => ?_⟩
      simp only [List.mem_cons, List.not_mem_nil, or_false] at hr
      rcases hr with rfl | rfl
      · show (1 : Int) ≤ 4 ∧ (4 : Int) ≤ 5; decide
      · show (1 : Int) ≤ 5 ∧ (5 : Int) ≤ 5; decide
    · exact ⟨trivial, fun r hr => by simp only [List.mem_singleton] at hr; subst hr; show (1 : Int) ≤ 3 ∧ (3 : Int) ≤ 5; decide⟩
theorem tlE_up (h : He) (n : Int) : Up (tlE h n) ∧ Bt 1 5 (tlE h n) := by
  have e := ek_b h.alg
  unfold tlE
  split
  · exact ⟨trivial, fun r hr => by simp only [List.mem_singleton] at hr; subst hr; show 1 ≤ ek h.alg ∧ ek h.alg ≤ 5; omega⟩
  · split
    · exact ⟨trivial, fun r hr => by simp only [List.mem_singleton] at hr; subst hr; show (1 : Int) ≤ 5 ∧ (5 : Int) ≤ 5; decide⟩
    · exact ⟨trivial, fun r hr => by simp only [List.mem_singleton] at hr; subst hr; show (1 : Int) ≤ 3 ∧ (3 : Int) ≤ 5; decide⟩
theorem smE_one (h : He) : ∃ r : Ru, smE h = [r] ∧ 1 ≤ r.k ∧ r.k ≤ 5 := by
  have e := ek_b h.alg
  unfold smE
  split
  · exact ⟨_, rfl, by show 1 ≤ ek h.alg; omega, by show ek h.alg ≤ 5; omega⟩
  · split
    · exact ⟨_, rfl, by show (1 : Int) ≤ 5; decide, by show (5 : Int) ≤ 5; decide⟩
    · exact ⟨_, rfl, by show (1 : Int) ≤ 3; decide, by show (3 : Int) ≤ 5; decide⟩
/-- What lies between EvOp and EvCode: kinds go up, none of them is EvOp or EvCode. -/
theorem mid_up (s : Sk) (h : He) : Up (mid s h) ∧ Bt 1 8 (mid s h) := by
  have wid : ∀ l : List Ru, Bt 1 5 l → Bt 1 8 l := fun l b r hr => by have := b r hr; omega
  have e := ek_b s.a
  obtain ⟨r, er, r0, r1⟩ := smE_one h
  unfold mid
  split
  · have b := bgE_up ⟨h.key, s.a, s.o, s.d, 0⟩
    exact ⟨b.1, wid _ b.2⟩
  split
  · have b := tlE_up h s.d
    exact ⟨b.1, wid _ b.2⟩
  split
  · rw [er]
    refine ⟨⟨by show r.k < 8; omega, trivial⟩, fun x hx => ?_⟩
    simp only [List.cons_append, List.nil_append, List.mem_cons, List.not_mem_nil, or_false] at hx
    rcases hx with rfl | rfl
    · omega
    · show (1 : Int) ≤ 8 ∧ (8 : Int) ≤ 8; decide
  split
  · rw [er]
    refine ⟨⟨by show r.k < 6; omega, by show (6 : Int) < 8; decide, trivial⟩, fun x hx => ?_⟩
    simp only [List.cons_append, List.nil_append, List.mem_cons, List.not_mem_nil, or_false] at hx
    rcases hx with rfl | rfl | rfl
    · omega
    · show (1 : Int) ≤ 6 ∧ (6 : Int) ≤ 8; decide
    · show (1 : Int) ≤ 8 ∧ (8 : Int) ≤ 8; decide
  split
  · exact ⟨trivial, fun x hx => by simp only [List.mem_singleton] at hx; subst hx; show 1 ≤ ek s.a ∧ ek s.a ≤ 8; omega⟩
  split
  · exact ⟨trivial, fun x hx => by simp only [List.mem_singleton] at hx; subst hx; show 1 ≤ ek s.a ∧ ek s.a ≤ 8; omega⟩
  split
  · exact ⟨trivial, fun x hx => by simp only [List.mem_singleton] at hx; subst hx; show (1 : Int) ≤ 8 ∧ (8 : Int) ≤ 8; decide⟩
  · exact ⟨trivial, fun x hx => by cases hx⟩
theorem nb_frame {a z : Ru} {l : List Ru} (ha : a.k = 11) (hz : z.k = 12) (u : Nb l) (b : Bt 1 8 l) : Nb (a :: l ++ [z]) := by
  have tail : ∀ l : List Ru, Nb l → Bt 1 8 l → Nb (l ++ [z]) := by
    intro l
    induction l with
    | nil => intro _ _; trivial
    | cons r l ih =>
      intro u b
      cases l with
      | nil => exact ⟨fun e => by have := b r (by simp); omega, trivial⟩
      | cons q l => exact ⟨u.1, ih u.2 (fun x hx => b x (by simp [hx]))⟩
  cases l with
  | nil => exact ⟨fun e => by omega, trivial⟩
  | cons r l => exact ⟨fun e => by have := b r (by simp); omega, tail (r :: l) u b⟩
/-- A row is what a ledger could tell. -/
theorem row_ok (P : St) (s : Sk) : Nb (row P s) ∧ Po (row P s) := by
  have m := mid_up (clp s) ((hat P s.h).getD h0)
  have q := flt_po (mid (clp s) ((hat P s.h).getD h0))
  have f : ∀ l : List Ru, Po l → Po (⟨11, s.k, 1⟩ :: l ++ [⟨12, cod P (clp s), 1⟩]) := fun l h r hr => by
    simp only [List.cons_append, List.mem_cons, List.mem_append, List.not_mem_nil, or_false] at hr
    rcases hr with rfl | hr | rfl
    · show (1 : Int) ≤ 1; decide
    · exact h r hr
    · show (1 : Int) ≤ 1; decide
  unfold row
  split
  · exact ⟨nb_frame rfl rfl (up_nb _ (flt_up m.1)) (flt_bt m.2), f _ q⟩
  · exact ⟨nb_frame rfl rfl trivial (fun x hx => by cases hx), f _ (fun x hx => by cases hx)⟩
/-- The state behind a list of operations. -/
def aft (P : St) : List Sk → St
  | [] => P
  | s :: l => aft (stp P s) l
/-- Each operation's row, from a state on. -/
def rws (P : St) : List Sk → List (List Ru)
  | [] => []
  | s :: l => row P s :: rws (stp P s) l
/-- Each operation's code, from a state on. -/
def cds (P : St) : List Sk → List Int
  | [] => []
  | s :: l => cod P (clp s) :: cds (stp P s) l
theorem rws_len (l : List Sk) : ∀ P : St, (rws P l).length = l.length := by
  induction l with
  | nil => intro P; rfl
  | cons s l ih => intro P; simp only [rws, List.length_cons, ih]
theorem cds_len (l : List Sk) : ∀ P : St, (cds P l).length = l.length := by
  induction l with
  | nil => intro P; rfl
  | cons s l ih => intro P; simp only [cds, List.length_cons, ih]
theorem aft_snoc (l : List Sk) : ∀ (P : St) (s : Sk), aft P (l ++ [s]) = stp (aft P l) s := by
  induction l with
  | nil => intro P s; rfl
  | cons t l ih => intro P s; exact ih _ _
theorem rws_snoc (l : List Sk) : ∀ (P : St) (s : Sk), rws P (l ++ [s]) = rws P l ++ [row (aft P l) s] := by
  induction l with
  | nil => intro P s; rfl
  | cons t l ih => intro P s; simp only [List.cons_append, rws, aft, ih]
theorem cds_snoc (l : List Sk) : ∀ (P : St) (s : Sk), cds P (l ++ [s]) = cds P l ++ [cod (aft P l) (clp s)] := by
  induction l with
  | nil => intro P s; rfl
  | cons t l ih => intro P s; simp only [List.cons_append, cds, aft, ih]
theorem rws_take (l : List Sk) : ∀ (P : St) (n : Nat), rws P (l.take n) = (rws P l).take n ∧ cds P (l.take n) = (cds P l).take n := by
  induction l with
  | nil => intro P n; simp [rws, cds]
  | cons t l ih =>
    intro P n
    cases n with
    | zero => exact ⟨rfl, rfl⟩
    | succ n =>
      have := ih (stp P t) n
      simp only [List.take_succ_cons, rws, cds, this, and_self]
theorem aft_ok {P : St} (h : P.Ok) (l : List Sk) : (aft P l).Ok := by
  induction l generalizing P with
  | nil => exact h
  | cons s l ih => exact ih (stp_ok h s)
/-- Each message has at most so many bytes. -/
def Mg (b : Int) (P : St) : Prop := ∀ i h, P i = some h → h.msg ≤ b
theorem mg_up {b : Int} {P : St} (h : Mg b P) (i : Nat) {x : Option He} (hx : ∀ h, x = some h → h.msg ≤ b) : Mg b (upS P i x) := by
  intro j h' e
  unfold upS at e
  split at e
  · exact hx h' e
  · exact h j h' e
theorem mg_hat {b : Int} {P : St} (h : Mg b P) {i : Int} {x : He} (e : hat P i = some x) : x.msg ≤ b := by
  unfold hat at e
  split at e
  · exact h _ _ e
  · cases e
theorem mg_stp {b : Int} {P : St} (hb : 0 ≤ b) (h : Mg b P) (s : Sk) : Mg (b + 65536) (stp P s) := by
  have w : Mg (b + 65536) P := fun i x e => by have := h i x e; omega
  unfold stp
  split
  · rename_i e0
    have F := fine_of e0
    have g0 : ((hat P (clp s).h).getD h0).msg ≤ b := by
      cases hh : hat P (clp s).h with
      | none => exact hb
      | some x => exact mg_hat h hh
    unfold nxt
    simp only
    split
    · rename_i k3
      cases F with
      | put k d f => omega
      | on x ex k c f =>
        have b3 := fit_three k3 c
        refine mg_up w _ (fun g eg => ?_)
        simp only [Option.some.injEq] at eg
        subst eg
        show ((hat P (clp s).h).getD h0).msg + (clp s).d ≤ b + 65536
        omega
    split
    · exact mg_up w _ (fun g eg => by cases eg)
    split
    · refine mg_up w _ (fun g eg => ?_)
      simp only [Option.some.injEq] at eg
      subst eg
      unfold hel
      split
      · show (0 : Int) ≤ b + 65536; omega
      split
      · show (0 : Int) ≤ b + 65536; omega
      split
      · omega
      · show (0 : Int) ≤ b + 65536; omega
    · exact w
  · exact w
theorem mg_aft {P : St} (l : List Sk) {b : Int} (hb : 0 ≤ b) (h : Mg b P) : Mg (b + 65536 * l.length) (aft P l) := by
  induction l generalizing P b with
  | nil => simpa [aft] using h
  | cons s l ih =>
    have := ih (b := b + 65536) (by omega) (mg_stp hb h s)
    have e : b + 65536 * ((s :: l).length : Int) = b + 65536 + 65536 * (l.length : Int) := by rw [List.length_cons]; omega
    rw [e]
    exact this
end Go.Proofs.YtdmacflcjbkkpaaGreat.Co
namespace Go.Proofs.YtdmacflcjbkkpaaGreat.Co
open Go.Proofs.YtdmacflcjbkkpaaGreat.Ou (Sk cn cn_b bd bd_96)
theorem nbN_step {n : Nat} (h : 256 ≤ n) (h2 : n < 16777216) : nbN n = nbN (n / 256) + 1 := by
  unfold nbN
  rw [if_neg (by omega)]
  by_cases h3 : n < 65536
  · rw [if_pos h3, if_pos (by omega)]
  · rw [if_neg h3, if_neg (by omega), if_pos (by omega)]
/-- Rounds of HKDF: one more while there is something left. -/
theorem rds_lt {a out : Int} (ha : sz a ≠ 0) (k : Nat) : (k : Int) * sz a < out ↔ (k : Int) < rds a out := by
  unfold rds
  rcases sz_cases ha with ⟨_, h⟩ | ⟨_, h⟩ <;> rw [h] <;> omega
theorem rds_17 {a out : Int} (ha : sz a ≠ 0) (h0 : 1 ≤ out) (h1 : out ≤ 512) : 1 ≤ rds a out ∧ rds a out ≤ 16 := by
  unfold rds
  rcases sz_cases ha with ⟨_, h⟩ | ⟨_, h⟩ <;> rw [h] <;> omega
theorem bd_top (s : Sk) : bd s ≤ 70368744177664 := by
  have b1 := cn_b s.d
  have b2 := cn_b s.m
  have b3 := cn_b s.o
  have b4 := cn_b s.c
  have m1 : (cn s.m + 512) * (cn s.o / 32 + 1) ≤ 16777728 * 524289 := Int.mul_le_mul (by omega) (by omega) (by omega) (by omega)
  have m2 : 4 * cn s.c * (cn s.o / 32 + 1) ≤ 67108864 * 524289 := Int.mul_le_mul (by omega) (by omega) (by omega) (by omega)
  unfold bd
  omega
/-- A run's count is at most the row's total. -/
theorem tt_mem {l : List Ru} (h : Nn l) {r : Ru} (hr : r ∈ l) : r.c ≤ tt l := by
  induction l with
  | nil => cases hr
  | cons q l ih =>
    have hl : Nn l := fun x hx => h x (by simp [hx])
    have nn : 0 ≤ tt l := by
      clear ih hr
      induction l with
      | nil => exact Int.le_refl 0
      | cons x l ih2 =>
        have := hl x (by simp)
        have := ih2 (fun y hy => h y (by rcases List.mem_cons.1 hy with rfl | hy <;> simp_all)) (fun y hy => hl y (by simp [hy]))
        simp only [tt]; omega
    have q0 := h q (by simp)
    simp only [tt]
    rcases List.mem_cons.1 hr with rfl | hr
    · omega
    · have := ih hl hr; omega
theorem tt_nn {l : List Ru} (h : Nn l) : 0 ≤ tt l := by
  induction l with
  | nil => exact Int.le_refl 0
  | cons x l ih =>
    have := h x (by simp)
    have := ih (fun y hy => h y (by simp [hy]))
    simp only [tt]; omega
theorem ib {c : Prop} [Decidable c] {x y : Int} (hx : 0 ≤ x ∧ x ≤ 11) (hy : 0 ≤ y ∧ y ≤ 11) : 0 ≤ (if c then x else y) ∧ (if c then x else y) ≤ 11 := by split <;> assumption
theorem bgC_b (s : Sk) (h : He) : 0 ≤ bgC s h ∧ bgC s h ≤ 11 := by
  unfold bgC
  repeat' (first | exact ib (by decide) (by decide) | refine ib (by decide) ?_)
theorem drC_b (s : Sk) : 0 ≤ drC s ∧ drC s ≤ 11 := by
  unfold drC
  repeat' (first | exact ib (by decide) (by decide) | refine ib (by decide) ?_)
theorem fit_b (s : Sk) (h : He) : 0 ≤ fit s h ∧ fit s h ≤ 11 := by
  unfold fit
  refine ib (ib (by decide) (bgC_b s h)) (ib (ib (by decide) (ib (by decide) (by decide))) (ib (ib (by decide) (by decide)) (ib (ib (by decide) (ib (by decide) (by decide))) (ib (ib (by decide) (drC_b s)) (ib (ib (by decide) (by decide)) (by decide))))))
theorem cod_b (P : St) (s : Sk) : 0 ≤ cod P s ∧ cod P s ≤ 11 := by
  unfold cod
  refine ib (by decide) (ib (ib (by decide) (ib (by decide) (by decide))) ?_)
  split
  · decide
  · exact ib (fit_b _ _) (ib (by decide) (by decide))
/-- All of a row fits. -/
theorem row_c {P : St} (hP : P.Ok) (s : Sk) {r : Ru} (hr : r ∈ row P s) : 1 ≤ r.c ∧ r.c ≤ 70368744177664 := by
  have p := (row_ok P s).2
  have n : Nn (row P s) := fun x hx => by have := p x hx; omega
  have h1 := tt_mem n hr
  have h2 := row_b hP s
  have h3 := bd_top s
  have h4 := p r hr
  omega
theorem flt_len (l : List Ru) : (flt l).length ≤ l.length := List.length_filter_le ..
theorem mid_len (s : Sk) (h : He) : (mid s h).length ≤ 3 := by
  have b : ∀ h : He, (bgE h).length ≤ 3 ∧ (∀ n, (tlE h n).length ≤ 3) ∧ (smE h).length = 1 := fun h => by
    refine ⟨?_, fun n => ?_, ?_⟩
    · unfold bgE; split; · simp
      split <;> simp
    · unfold tlE; split; · simp
      split <;> simp
    · obtain ⟨r, e, _⟩ := smE_one h; rw [e]; rfl
  have b1 := b h
  unfold mid
  split; · exact (b _).1
  split; · exact b1.2.1 _
  split; · rw [List.length_append, b1.2.2]; simp
  split; · rw [List.length_append, b1.2.2]; simp
  split; · simp
  split; · simp
  split <;> simp
theorem row_len (P : St) (s : Sk) : 2 ≤ (row P s).length ∧ (row P s).length ≤ 5 := by
  have a := flt_len (mid (clp s) ((hat P s.h).getD h0))
  have b := mid_len (clp s) ((hat P s.h).getD h0)
  unfold row
  split <;> simp only [List.length_append, List.length_cons, List.length_nil] <;> omega
/-- An operation that is refused has two runs. -/
theorem row_no {P : St} {s : Sk} (h : cod P (clp s) ≠ 0) : row P s = [⟨11, s.k, 1⟩, ⟨12, cod P (clp s), 1⟩] ∧ stp P s = P := by
  unfold row stp
  rw [if_neg h, if_neg h]
  exact ⟨rfl, rfl⟩
end Go.Proofs.YtdmacflcjbkkpaaGreat.Co
namespace Go.Proofs.YtdmacflcjbkkpaaGreat.Co
open Go.Proofs.YtdmacflcjbkkpaaGreat (Rn sm putL)
open Go.Proofs.YtdmacflcjbkkpaaGreat.Ou (Sk cn cn_b bd bd_96)
theorem putU_new {A : List Ru} {r : Ru} (hr : 1 ≤ r.c) (h : ∀ q, A.getLast? = some q → Ul q r) : putL A r = A ++ [r] := by
  unfold putL
  rw [if_neg (by omega)]
  cases e : A.getLast? with
  | none =>
    rw [List.getLast?_eq_none_iff] at e
    subst e; rfl
  | some q => simp only; rw [if_neg (h q e)]
theorem putU_old {A : List Ru} {q r : Ru} (hr : 1 ≤ r.c) (hk : q.k = r.k) (hs : q.s = r.s) : putL (A ++ [q]) r = A ++ [⟨q.k, q.s, sm q.c r.c⟩] := by
  unfold putL
  rw [if_neg (by omega), List.getLast?_append]
  simp only [List.getLast?_singleton, Option.some_or]
  rw [if_pos ⟨hk, hs⟩]
  simp
theorem putU_0 {A : List Ru} {r : Ru} (hr : r.c < 1) : putL A r = A := by unfold putL; rw [if_pos hr]
theorem nb_tail {r : Ru} {l : List Ru} (h : Nb (r :: l)) : Nb l := by
  cases l with
  | nil => trivial
  | cons q l => exact h.2
theorem nb_at {A : List Ru} {q r : Ru} {l : List Ru} (h : Nb (A ++ q :: r :: l)) : Ul q r := by
  induction A with
  | nil => exact h.1
  | cons a A ih => exact ih (nb_tail h)
/-- A list of unlike neighbours, put run by run, is itself. -/
theorem fold_nb (l : List Ru) : ∀ A : List Ru, Po l → Nb (A ++ l) → l.foldl putL A = A ++ l := by
  induction l with
  | nil => intro A _ _; simp
  | cons r l ih =>
    intro A p n
    have e : putL A r = A ++ [r] := by
      refine putU_new (p r (by simp)) (fun q hq => ?_)
      obtain ⟨B, eB⟩ : ∃ B, A = B ++ [q] := by
        rw [List.getLast?_eq_some_iff] at hq
        exact hq
      rw [eB, List.append_assoc] at n
      exact nb_at (A := B) n
    rw [List.foldl_cons, e, ih _ (fun x hx => p x (by simp [hx])) (by rw [List.append_assoc]; exact n), List.append_assoc]
    rfl
/-- All rows joined. -/
def jn (A : List Ru) : List (List Ru) → List Ru
  | [] => A
  | r :: l => jn (r.foldl putL A) l
theorem jn_one {l : List Ru} (p : Po l) (n : Nb l) : jn [] [l] = l := by
  show l.foldl putL [] = l
  rw [fold_nb l [] p n]; rfl
theorem jn_snoc (l : List (List Ru)) : ∀ (A : List Ru) (r : List Ru), jn A (l ++ [r]) = r.foldl putL (jn A l) := by
  induction l with
  | nil => intro A r; rfl
  | cons x l ih => intro A r; exact ih _ _
theorem putU_po {A : List Ru} {r : Ru} (h : Po A) : Po (putL A r) := by
  by_cases hr : r.c < 1
  · rw [putU_0 hr]; exact h
  · rcases List.eq_nil_or_concat A with e | ⟨B, q, e⟩
    · subst e
      rw [putU_new (by omega) (fun q hq => by cases hq)]
      intro x hx
      simp at hx; subst hx; omega
    · rw [List.concat_eq_append] at e
      subst e
      by_cases hq : q.k = r.k ∧ q.s = r.s
      · rw [putU_old (by omega) hq.1 hq.2]
        have q1 := h q (by simp)
        intro x hx
        rcases List.mem_append.1 hx with hx | hx
        · exact h x (by simp [hx])
        · simp only [List.mem_singleton] at hx
          subst hx
          show 1 ≤ sm q.c r.c
          unfold sm; split <;> omega
      · rw [putU_new (by omega) (fun y hy => by
          rw [List.getLast?_append] at hy
          simp only [List.getLast?_singleton, Option.some_or, Option.some.injEq] at hy
          subst hy; exact hq)]
        intro x hx
        rcases List.mem_append.1 hx with hx | hx
        · exact h x hx
        · simp only [List.mem_singleton] at hx; subst hx; omega
/-- Where the sum is within an int, nothing is lost. -/
theorem putU_tt {A : List Ru} {r : Ru} (h : Po A) (hr : 0 ≤ r.c) (hm : tt A + r.c ≤ 9223372036854775807) : tt (putL A r) = tt A + r.c := by
  by_cases h1 : r.c < 1
  · rw [putU_0 h1]; omega
  · rcases List.eq_nil_or_concat A with e | ⟨B, q, e⟩
    · subst e
      rw [putU_new (by omega) (fun q hq => by cases hq)]
      simp [tt]
    · rw [List.concat_eq_append] at e
      subst e
      by_cases hq : q.k = r.k ∧ q.s = r.s
      · rw [putU_old (by omega) hq.1 hq.2]
        rw [tt_append] at hm
        rw [tt_append, tt_append]
        have nB : 0 ≤ tt B := tt_nn (fun x hx => by have := h x (by simp [hx]); omega)
        have t1 : tt [q] = q.c := by simp [tt]
        have t2 : tt [(⟨q.k, q.s, sm q.c r.c⟩ : Ru)] = sm q.c r.c := by simp [tt]
        rw [t1] at hm
        have e : sm q.c r.c = q.c + r.c := by unfold sm; rw [if_pos (by omega)]
        rw [t1, t2, e]; omega
      · rw [putU_new (by omega) (fun y hy => by
          rw [List.getLast?_append] at hy
          simp only [List.getLast?_singleton, Option.some_or, Option.some.injEq] at hy
          subst hy; exact hq), tt_append]
        simp [tt]
theorem putU_len {A : List Ru} {r : Ru} : (putL A r).length ≤ A.length + 1 := by
  unfold putL
  split
  · omega
  · split
    · split <;> simp
    · simp
theorem fold_all (l : List Ru) : ∀ A : List Ru, Po A → Po l → tt A + tt l ≤ 9223372036854775807 → Po (l.foldl putL A) ∧ tt (l.foldl putL A) = tt A + tt l ∧ (l.foldl putL A).length ≤ A.length + l.length := by
  induction l with
  | nil => intro A p _ _; exact ⟨p, by simp [tt], by simp⟩
  | cons r l ih =>
    intro A p q hm
    have r1 := q r (by simp)
    have ql : Po l := fun x hx => q x (by simp [hx])
    have nl : 0 ≤ tt l := tt_nn (fun x hx => by have := ql x hx; omega)
    simp only [tt] at hm
    have e := putU_tt p (show 0 ≤ r.c by omega) (by omega)
    obtain ⟨h1, h2, h3⟩ := ih (putL A r) (putU_po p) ql (by rw [e]; omega)
    have h4 := putU_len (A := A) (r := r)
    refine ⟨h1, ?_, ?_⟩
    · simp only [List.foldl_cons, tt]; rw [h2, e]; omega
    · simp only [List.foldl_cons, List.length_cons]; omega
/-- All of a list's rows joined: its sum is far within an int; at most five runs a row. -/
theorem jn_rws (l : List Sk) : ∀ (P : St) (A : List Ru), P.Ok → Po A → tt A + 70368744177664 * l.length ≤ 9223372036854775807 → Po (jn A (rws P l)) ∧ tt (jn A (rws P l)) ≤ tt A + 70368744177664 * l.length ∧ (jn A (rws P l)).length ≤ A.length + 5 * l.length := by
  induction l with
  | nil => intro P A _ p _; exact ⟨p, by simp [jn, rws], by simp [jn, rws]⟩
  | cons s l ih =>
    intro P A hP p hm
    simp only [List.length_cons] at hm
    have r1 := row_b hP s
    have r2 := bd_top s
    have r3 := row_len P s
    obtain ⟨h1, h2, h3⟩ := fold_all (row P s) A p (row_ok P s).2 (by omega)
    obtain ⟨k1, k2, k3⟩ := ih (stp P s) ((row P s).foldl putL A) (stp_ok hP s) h1 (by rw [h2]; omega)
    simp only [rws, jn, List.length_cons]
    exact ⟨k1, by rw [h2] at k2; omega, by omega⟩
end Go.Proofs.YtdmacflcjbkkpaaGreat.Co
namespace Go.Proofs.YtdmacflcjbkkpaaGreat.Co
open Go.Proofs.YtdmacflcjbkkpaaGreat.Ou (Sk)
def P0 : St := fun _ => none
/-- The skeletons of the examples. -/
def exl : List Sk := [⟨1, 0, 0, 0, 0, 16, 0⟩, ⟨2, 0, 3, 0, 16, 0, 0⟩, ⟨3, 1, 0, 0, 0, 33, 0⟩, ⟨4, 1, 0, 0, 0, 0, 0⟩, ⟨2, 0, 1, 0, 20, 0, 0⟩, ⟨5, 1, 0, 0, 0, 20, 0⟩, ⟨8, 0, 2, 3, 65, 4, 0⟩, ⟨4, 0, 0, 0, 0, 0, 0⟩, ⟨10, 5, 0, 0, 0, 0, 0⟩, ⟨99, 0, 0, 0, 0, 0, 0⟩]
/-- What each records. -/
def exr : List (List Ru) := [[⟨11, 1, 1⟩, ⟨12, 0, 1⟩], [⟨11, 2, 1⟩, ⟨4, 16, 1⟩, ⟨5, 16, 1⟩, ⟨12, 0, 1⟩], [⟨11, 3, 1⟩, ⟨5, 16, 2⟩, ⟨12, 0, 1⟩], [⟨11, 4, 1⟩, ⟨5, 16, 1⟩, ⟨8, 1024, 1⟩, ⟨12, 0, 1⟩], [⟨11, 2, 1⟩, ⟨1, 64, 2⟩, ⟨12, 0, 1⟩], [⟨11, 5, 1⟩, ⟨1, 64, 2⟩, ⟨6, 20, 1⟩, ⟨8, 1024, 1⟩, ⟨12, 0, 1⟩], [⟨11, 8, 1⟩, ⟨2, 128, 14⟩, ⟨12, 0, 1⟩], [⟨11, 4, 1⟩, ⟨12, 6, 1⟩], [⟨11, 10, 1⟩, ⟨12, 5, 1⟩], [⟨11, 99, 1⟩, ⟨12, 3, 1⟩]]
theorem ex_rows : rws P0 exl = exr := by rfl
/-- How many KMAC blocks three operations record. -/
def kb (l : List Ru) : Int := match l with
  | [] => 0
  | r :: l => (if r.k = 3 ∧ r.s = 200 then r.c else 0) + kb l
/-- What the examples about a rate ask: a key, a message, a tag of so many bytes. -/
def spo (key msg out : Int) : List Int := (rws P0 [⟨1, 0, 0, 0, 0, key, 0⟩, ⟨2, 0, 4, 0, out, 0, 0⟩, ⟨3, 1, 0, 0, 0, msg, 0⟩, ⟨4, 1, 0, 0, 0, 0, 0⟩]).map kb
theorem spo1 : spo 163 165 32 = [0, 2, 0, 2] := by rfl
theorem spo2 : spo 164 165 31 = [0, 3, 0, 1] := by rfl
theorem spo3 : spo 31 166 31 = [0, 2, 0, 2] := by rfl
theorem spo4 : spo 0 164 32 = [0, 2, 0, 1] := by rfl
theorem spo5 : spo 331 168 64 = [0, 3, 1, 1] := by rfl
theorem spo6 : spo 332 333 64 = [0, 4, 1, 2] := by rfl
/-- The least that is free, found. -/
theorem fre_some {P : St} {n : Nat} (hn : n < 64) (h : P n = none) (b : ∀ i, i < n → P i ≠ none) : fre P = some n := by
  unfold fre
  rw [List.find?_eq_some_iff_getElem]
  refine ⟨by rw [h]; rfl, n, by simpa using hn, by simp, fun j hj => ?_⟩
  have := b j hj
  simp only [List.getElem_range]
  cases e : P j with
  | none => exact absurd e this
  | some x => simp
theorem fre_none {P : St} (b : ∀ i, i < 64 → P i ≠ none) : fre P = none := by
  unfold fre
  rw [List.find?_eq_none]
  intro i hi
  have := b i (List.mem_range.1 hi)
  cases e : P i with
  | none => exact absurd e this
  | some x => simp
theorem fre_inv {P : St} {n : Nat} (h : fre P = some n) : n < 64 ∧ P n = none ∧ ∀ i, i < n → P i ≠ none := by
  unfold fre at h
  rw [List.find?_eq_some_iff_getElem] at h
  obtain ⟨h1, i, hi, e, b⟩ := h
  simp only [List.getElem_range] at e
  subst e
  refine ⟨by simpa using hi, by simpa using h1, fun j hj => ?_⟩
  have := b j hj
  simp only [List.getElem_range] at this
  intro e
  rw [e] at this
  simp at this
theorem fre_all {P : St} (h : fre P = none) : ∀ i, i < 64 → P i ≠ none := by
  intro i hi e
  unfold fre at h
  rw [List.find?_eq_none] at h
  have := h i (List.mem_range.2 hi)
  rw [e] at this
  exact this rfl
/-- Keys of 0 to n - 1 bytes. -/
def pn (n : Nat) : St := fun i => if i < n then some ⟨(i : Int), 0, 0, 0, 0⟩ else none
theorem pn_free {n : Nat} (hn : n < 64) : fre (pn n) = some n := by
  refine fre_some hn ?_ (fun i hi => ?_)
  · unfold pn; rw [if_neg (by omega)]
  · unfold pn; rw [if_pos hi]; simp
theorem pn_full : fre (pn 64) = none := fre_none (fun i hi => by unfold pn; rw [if_pos hi]; simp)
/-- One key more. -/
theorem pn_put {n : Nat} (hn : n < 64) : cod (pn n) (clp ⟨1, 0, 0, 0, 0, (n : Int), 0⟩) = 0 ∧ stp (pn n) ⟨1, 0, 0, 0, 0, (n : Int), 0⟩ = pn (n + 1) := by
  have f := pn_free hn
  have m : max (n : Int) 0 = n := by omega
  have c : cod (pn n) (clp ⟨1, 0, 0, 0, 0, (n : Int), 0⟩) = 0 := by
    unfold cod clp
    simp only
    rw [m, if_neg (by decide), if_pos trivial, if_neg (by omega), f]
    rfl
  refine ⟨c, ?_⟩
  unfold stp
  rw [if_pos c]
  unfold nxt clp hel
  simp only
  rw [if_neg (by decide), if_neg (by decide), if_pos (show tks 1 = true from rfl), if_pos trivial, f, m]
  funext j
  unfold upS pn
  simp only [Option.getD_some]
  by_cases h : j = n
  · subst h; rw [if_pos rfl, if_pos (by omega)]
  · rw [if_neg h]
    by_cases h2 : j < n
    · rw [if_pos h2, if_pos (by omega)]
    · rw [if_neg h2, if_neg (by omega)]
/-- What a full vault refuses, and why; one let go makes room for one. -/
def ful8 : List Sk := [⟨1, 0, 0, 0, 0, 513, 0⟩, ⟨1, 0, 0, 0, 0, 512, 0⟩, ⟨6, 64, 0, 0, 0, 0, 0⟩, ⟨6, 63, 0, 0, 0, 0, 0⟩, ⟨2, 17, 3, 0, 16, 0, 0⟩, ⟨2, 16, 3, 0, 16, 0, 0⟩, ⟨10, 9, 0, 0, 0, 0, 0⟩, ⟨2, 16, 5, 0, 64, 64, 0⟩]
theorem ful8_codes : cds (pn 64) ful8 = [7, 8, 5, 8, 7, 8, 0, 0] := by rfl
theorem ful8_row : (rws (pn 64) ful8).getLast? = some [⟨11, 2, 1⟩, ⟨3, 200, 2⟩, ⟨12, 0, 1⟩] := by rfl
theorem ful8_held : (List.range 64).all (fun i => (aft (pn 64) ful8 i).isSome) = true := by rfl
end Go.Proofs.YtdmacflcjbkkpaaGreat.Co
