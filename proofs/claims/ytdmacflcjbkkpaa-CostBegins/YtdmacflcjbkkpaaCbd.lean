/- No operation records more than B (pure). -/
import Derived.Test.YtdmacflcjbkkpaaCpu
namespace Go.Proofs.Ytdmacflcjbkkpaa.Co
open Go.Proofs.Ytdmacflcjbkkpaa.Ou (Sk cn cn_b bd bd_96)
theorem cn_id {n : Int} (h : 0 ≤ n ∧ n ≤ 16777216) : cn n = n := by unfold cn; rw [if_neg (by omega), if_neg (by omega)]
theorem cn_max (n : Int) : cn (max n 0) = cn n := by unfold cn; split <;> split <;> (try split) <;> omega
theorem bd_low (s : Sk) : 64 + cn s.d + cn s.o + 32 * (cn s.o / 32 + 1) ≤ bd s := by
  have b2 := cn_b s.m
  have b3 := cn_b s.o
  have b4 := cn_b s.c
  have m1 : 512 * (cn s.o / 32 + 1) ≤ (cn s.m + 512) * (cn s.o / 32 + 1) := Int.mul_le_mul_of_nonneg_right (by omega) (by omega)
  have m2 : 0 ≤ 4 * cn s.c * (cn s.o / 32 + 1) := Int.mul_nonneg (by omega) (by omega)
  unfold bd
  omega
theorem hkd_b {a key salt info out : Int} (ha : sz a ≠ 0) (hk : 0 ≤ key ∧ key ≤ 512) (hs : 0 ≤ salt) (hi : 0 ≤ info) (ho : 1 ≤ out) : 1 ≤ hkd a key salt info out ∧ hkd a key salt info out ≤ salt / 64 + 21 + (out / 32 + 1) * (info / 64 + 6) := by
  have h1 := kyd_b ha hs
  have h2 := hmc_b ha hk.1
  have z : 0 ≤ sz a ∧ sz a ≤ 64 := by rcases sz_cases ha with ⟨_, h⟩ | ⟨_, h⟩ <;> omega
  have h3 := kyd_b ha z.1
  have h4 := rds_b ha ho
  have h5 := hkl_b ha hi (rds a out).toNat
  have e : (((rds a out).toNat : Nat) : Int) = rds a out := Int.toNat_of_nonneg (by omega)
  rw [e] at h5
  have h6 : rds a out * (info / 64 + 6) ≤ (out / 32 + 1) * (info / 64 + 6) := Int.mul_le_mul_of_nonneg_right h4.2 (by omega)
  unfold hkd
  omega
theorem hkd_bd {s : Sk} {key : Int} (ha : sz s.a ≠ 0) (hk : 0 ≤ key ∧ key ≤ 512) (hd : 0 ≤ s.d ∧ s.d ≤ 65536) (hm : 0 ≤ s.m ∧ s.m ≤ 65536) (ho : 1 ≤ s.o ∧ s.o ≤ 512) : hkd s.a key s.d s.m s.o + 2 ≤ bd s := by
  have h1 := hkd_b (key := key) (salt := s.d) (info := s.m) (out := s.o) ha hk hd.1 hm.1 ho.1
  have b4 := cn_b s.c
  unfold bd
  rw [cn_id (n := s.d) (by omega), cn_id (n := s.m) (by omega), cn_id (n := s.o) (by omega)]
  obtain ⟨p, hp⟩ : ∃ p, s.o / 32 + 1 = p := ⟨_, rfl⟩
  rw [hp] at h1 ⊢
  have p1 : 1 ≤ p ∧ p ≤ 17 := by omega
  have m2 : 0 ≤ 4 * cn s.c * p := Int.mul_nonneg (by omega) (by omega)
  have e1 : (s.m + 512) * p = s.m * p + 512 * p := Int.add_mul ..
  have e2 : p * (s.m / 64 + 6) = s.m / 64 * p + 6 * p := by rw [Int.mul_comm, Int.add_mul]
  have e3 : s.m / 64 * p * 64 ≤ s.m * p := by
    have h := Int.mul_le_mul_of_nonneg_right (Int.ediv_mul_le s.m (show (64 : Int) ≠ 0 by omega)) (show 0 ≤ p by omega)
    have e : s.m / 64 * 64 * p = s.m / 64 * p * 64 := by rw [Int.mul_assoc, Int.mul_comm 64 p, ← Int.mul_assoc]
    omega
  have e4 : 0 ≤ s.m / 64 * p := Int.mul_nonneg (by omega) (by omega)
  rw [e1]
  rw [e2] at h1
  obtain ⟨t, ht⟩ : ∃ t, s.m * p = t := ⟨_, rfl⟩
  obtain ⟨u, hu⟩ : ∃ u, s.m / 64 * p = u := ⟨_, rfl⟩
  obtain ⟨v, hv⟩ : ∃ v, 4 * cn s.c * p = v := ⟨_, rfl⟩
  rw [ht, hu] at e3
  rw [hu] at e4 h1
  rw [hv] at m2
  rw [ht, hv]
  omega
theorem pbk_b {a key salt count out : Int} (ha : sz a ≠ 0) (hk : 0 ≤ key ∧ key ≤ 512) (hs : 0 ≤ salt) (hc : 1 ≤ count) (ho : 1 ≤ out) : 1 ≤ pbk a key salt count out ∧ pbk a key salt count out ≤ 12 + (out / 32 + 1) * ((salt + 4) / 64 + 4 + 2 * (count - 1)) := by
  have h1 := kyd_b ha hk.1
  have h2 := hmc_b ha (show 0 ≤ salt + 4 by omega)
  have h4 := rds_b ha ho
  unfold pbk
  rw [hmc_sz ha]
  have e : (count - 1) * 2 = 2 * (count - 1) := Int.mul_comm ..
  rw [e]
  have h5 : rds a out * (hmc a (salt + 4) + 2 * (count - 1)) ≤ (out / 32 + 1) * ((salt + 4) / 64 + 4 + 2 * (count - 1)) := Int.mul_le_mul h4.2 (by omega) (by omega) (by omega)
  have h6 : 0 ≤ rds a out * (hmc a (salt + 4) + 2 * (count - 1)) := Int.mul_nonneg (by omega) (by omega)
  omega
theorem pbk_bd {s : Sk} {key : Int} (ha : sz s.a ≠ 0) (hk : 0 ≤ key ∧ key ≤ 512) (hd : 0 ≤ s.d ∧ s.d ≤ 65536) (hc : 1 ≤ s.c ∧ s.c ≤ 1048576) (ho : 1 ≤ s.o ∧ s.o ≤ 512) : pbk s.a key s.d s.c s.o + 2 ≤ bd s := by
  have h1 := pbk_b (key := key) (salt := s.d) (count := s.c) (out := s.o) ha hk hd.1 hc.1 ho.1
  have b2 := cn_b s.m
  unfold bd
  rw [cn_id (n := s.d) (by omega), cn_id (n := s.c) (by omega), cn_id (n := s.o) (by omega)]
  obtain ⟨p, hp⟩ : ∃ p, s.o / 32 + 1 = p := ⟨_, rfl⟩
  rw [hp] at h1 ⊢
  have p1 : 1 ≤ p ∧ p ≤ 17 := by omega
  have m1 : 512 * p ≤ (cn s.m + 512) * p := Int.mul_le_mul_of_nonneg_right (by omega) (by omega)
  have e1 : p * ((s.d + 4) / 64 + 4 + 2 * (s.c - 1)) = p * ((s.d + 4) / 64) + 2 * (s.c * p) + 2 * p := by
    rw [Int.mul_add, Int.mul_add]
    have : p * (2 * (s.c - 1)) = 2 * (s.c * p) - 2 * p := by
      rw [Int.mul_comm p, Int.mul_assoc, Int.sub_mul, Int.one_mul]; omega
    omega
  have e2 : p * ((s.d + 4) / 64) ≤ 17 * ((s.d + 4) / 64) := Int.mul_le_mul_of_nonneg_right p1.2 (by omega)
  have e3 : 4 * s.c * p = 4 * (s.c * p) := Int.mul_assoc ..
  have e4 : 0 ≤ s.c * p := Int.mul_nonneg (by omega) (by omega)
  rw [e1] at h1
  rw [e3]
  obtain ⟨t, ht⟩ : ∃ t, s.c * p = t := ⟨_, rfl⟩
  obtain ⟨u, hu⟩ : ∃ u, p * ((s.d + 4) / 64) = u := ⟨_, rfl⟩
  obtain ⟨v, hv⟩ : ∃ v, (cn s.m + 512) * p = v := ⟨_, rfl⟩
  rw [ht, hu] at h1
  rw [hu] at e2
  rw [hv] at m1
  rw [ht] at e4
  rw [hv, ht]
  omega
theorem txt_b {n : Int} (h : 0 ≤ n ∧ n ≤ 1000) : n + 2 ≤ txt n ∧ txt n ≤ n + 4 := by
  unfold txt
  have := nbr_le (n := 8 * n) (by omega) (by omega)
  omega
theorem rte_b (a : Int) : 136 ≤ rte a ∧ rte a ≤ 168 := by unfold rte; split <;> omega
theorem pad_b {a n : Int} (h : 0 ≤ n ∧ n ≤ 2000) : 1 ≤ pad a n ∧ pad a n ≤ 16 := by
  unfold pad
  have r := rte_b a
  have b := nbr_le (n := rte a) (by omega) (by omega)
  constructor
  · apply Int.le_ediv_of_mul_le (by omega); omega
  · have : nbr (rte a) + n + rte a - 1 < 17 * rte a := by omega
    have := Int.ediv_lt_of_lt_mul (show 0 < rte a by omega) this
    omega
end Go.Proofs.Ytdmacflcjbkkpaa.Co
