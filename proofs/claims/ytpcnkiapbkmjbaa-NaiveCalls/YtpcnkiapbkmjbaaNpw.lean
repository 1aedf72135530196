/- What Power answers, and what it records, of the program and of the document. -/
import Derived.Test.YtpcnkiapbkmjbaaNlg
import Derived.Test.YtpcnkiapbkmjbaaNpr
namespace Go.Proofs.Ytpcnkiapbkmjbaa.Nv
open Go.ChangeShapes Go.WideShapes Go.ChangeAt Go.RowKit
open Go.Proofs.Ytpcnkiapbkmjbaa
theorem and_bit (e i : Nat) (he : e < 18446744073709551616) : bits .and .u64 ((e : Int) / 2 ^ i) 1 = ((e / 2 ^ i % 2 : Nat) : Int) := by
  rw [show ((2 : Int) ^ i) = ((2 ^ i : Nat) : Int) by simp, ← Int.natCast_ediv]
  have h := bits_and_u64_nat (e / 2 ^ i) 1 (Nat.lt_of_le_of_lt (Nat.div_le_self _ _) he) (by omega)
  rw [Nat.and_two_pow_sub_one_eq_mod _ 1] at h
  exact h
set_option maxRecDepth 100000 in
set_option maxHeartbeats 2000000 in
theorem pow_walk {w0 w : World} {lo : Option Nat} {rv0 : Value} {L : List Rn} (b e m : Nat) (h : ST w0 lo rv0 w L) (hL : tot L ≤ 900000) (hb : b < 18446744073709551616) (he : e < 18446744073709551616) (hm0 : 0 < m) (hm : m < 18446744073709551616) :
    Calls Try.prog 17 #[lpv lo, .int .u64 b, .int .u64 e, .int .u64 m] w fun r w' => r = .returned (.tuple #[.int .u64 ((b ^ e % m : Nat) : Int), .int .i64 0]) ∧ ST w0 lo rv0 w' (nts L (pbits e 64)) := by
  have LT := hidn (pwr_lt b e m hm0)
  have P := hidn (fun x y (hx : x < 18446744073709551616) (hy : y < 18446744073709551616) w => prod_walk x y m w hx hy hm0 hm)
  have hlen : ∀ j, j < 64 → tot (nts L (pbits e j)) ≤ 1000000 := fun j hj => by
    have hl := pbits_len e j
    have := nts_tot h.pos (pbits e j) (by omega)
    omega
  have BR := hidn (fun (W : World) (j : Nat) (hj : j < 64) (hs : ST w0 lo rv0 W (nts L (pbits e j))) => branch_st (pbit e j) hs (hlen j hj))
  have E := hidn (pwr_64 b e m he)
  have hz : ¬ (m : Int) = 0 := by omega
  have hzb : ((m : Int) == 0) = false := by simp; omega
  obtain ⟨o, ho⟩ : ∃ o, o = pwr b e m 0 := ⟨_, rfl⟩
  have h1m : Hid ((1 : Int) % (m : Int) = (o : Int)) := by subst ho; exact (Int.natCast_emod 1 m).symm
  have HO := hidn ho
  clear ho
  have HB := hidn hb
  have HE := hidn he
  have HM := hidn hm
  have H0 := hidn h
  clear h hL hb he hm hm0 hlen
  go_enter Try.func17, Try.ntmps17
  go_wp2
  try rw [h1m.out]
  go_loopw [10, 11] (fun r i wr => ∃ j : Nat, j ≤ 64 ∧ r = .int .u64 ((pwr b e m j : Nat) : Int) ∧ i = .int .i64 ((63 : Int) - j) ∧ ST w0 lo rv0 wr (nts L (pbits e j))) (fun _ i _ => (intOf i + 1).toNat)
  case atStart => exact ⟨0, by omega, by rw [HO.out], rfl, H0.out⟩
  case round =>
    obtain ⟨j, hj, rfl, rfl, hs⟩ := hrel
    have HS := hidn hs
    clear hs
    by_cases hlt : j < 64
    · obtain ⟨i, hi⟩ : ∃ i : Nat, 63 - j = i := ⟨_, rfl⟩
      rw [show (63 : Int) - (j : Int) = (i : Int) by omega]
      have S := hidn (show pwr b e m (j + 1) = if e / 2 ^ i % 2 = 1 then pwr b e m j * pwr b e m j % m * b % m else pwr b e m j * pwr b e m j % m by rw [← hi]; rfl)
      have L1 := hidn (Nat.lt_trans (LT.out j) HM.out)
      have L2 := hidn (Nat.lt_trans (show pwr b e m j * pwr b e m j % m < m from Nat.mod_lt _ (Nat.lt_of_le_of_lt (Nat.zero_le _) (LT.out j))) HM.out)
      have P1 := hidn (P.out _ _ L1.out L1.out)
      have P2 := hidn (P.out _ b L2.out HB.out)
      have BI := hidn (and_bit e i HE.out)
      have PB := hidn (show pbit e j = decide (e / 2 ^ i % 2 = 1) by rw [← hi]; rfl)
      have N := hidn (pbits_succ e j)
      have BQ := hidn (fun W => BR.out W j hlt)
      generalize pwr b e m j = t at *
      by_cases hbit : e / 2 ^ i % 2 = 1
      · rw [if_pos hbit] at S
        rw [hbit, decide_eq_true rfl] at PB
        rw [PB.out] at BQ N
        generalize t * t % m = u at *
        generalize u * b % m = v at *
        have b1 : bits .and .u64 ((e : Int) / 2 ^ i) 1 = 1 := by rw [BI.out, hbit]; rfl
        clear BI hbit
        go_wp2_with (first | (go_at_call 43; first | (with_reducible refine (P1.out _).mono ?_; rintro e w' ⟨rfl, d, rfl⟩; have HS := hidn (HS.out.below (below_drewN _ d))) | (with_reducible refine (P2.out _).mono ?_; rintro e w' ⟨rfl, d, rfl⟩; have HQ := hidn (HQ.out.below (below_drewN _ d)))) | (go_at_call 38; refine (BQ.out _ HS.out).mono ?_; rintro e w' ⟨rfl, hq⟩; have HQ := hidn hq; clear hq))
        go_roundw
        case rel => exact ⟨j + 1, by omega, by rw [S.out], by go_num, by rw [N.out, nts_snoc]; exact HQ.out⟩
        case measure => (simp [intOf] <;> omega)
      · rw [if_neg hbit] at S
        rw [decide_eq_false hbit] at PB
        rw [PB.out] at BQ N
        generalize t * t % m = u at *
        have b1 : bits .and .u64 ((e : Int) / 2 ^ i) 1 = 0 := by rw [BI.out, show e / 2 ^ i % 2 = 0 by omega]; rfl
        clear BI hbit
        go_wp2_with (first | (go_at_call 43; (with_reducible refine (P1.out _).mono ?_; rintro e w' ⟨rfl, d, rfl⟩; have HS := hidn (HS.out.below (below_drewN _ d)))) | (go_at_call 38; refine (BQ.out _ HS.out).mono ?_; rintro e w' ⟨rfl, hq⟩; have HQ := hidn hq; clear hq))
        go_roundw
        case rel => exact ⟨j + 1, by omega, by rw [S.out], by go_num, by rw [N.out, nts_snoc]; exact HQ.out⟩
        case measure => (simp [intOf] <;> omega)
    · obtain rfl : j = 64 := by omega
      rw [E.out]
      go_wp2
      go_ret2
      exact ⟨rfl, HS.out⟩
set_option maxHeartbeats 2000000 in
theorem pow_none (p : Value) (b e : Nat) (w : World) :
    Calls Try.prog 17 #[p, .int .u64 b, .int .u64 e, .int .u64 0] w fun r w' => r = .returned (.tuple #[.int .u64 0, .int .i64 2]) ∧ w' = w := by
  go_enter Try.func17, Try.ntmps17
  go_wp2
  go_ret2
  exact ⟨rfl, rfl⟩
set_option maxRecDepth 100000 in
set_option maxHeartbeats 2000000 in
theorem rpow_walk {w0 w : World} {lo : Option Nat} {rv0 : Value} {L : List Rn} (b e m : Nat) (h : RST w0 lo rv0 w L) (hL : tot L ≤ 900000) (he : e < 18446744073709551616) (hm0 : 0 < m) (hm : m < 18446744073709551616) :
    Calls Try.prog 18 #[lpv lo, .int .u64 b, .int .u64 e, .int .u64 m] w fun r w' => r = .returned (.tuple #[.int .u64 ((b ^ e % m : Nat) : Int), .int .i64 0]) ∧ RST w0 lo rv0 w' (nts L (pbits e 64)) := by
  obtain ⟨c, hc⟩ : ∃ c, b % m = c := ⟨_, rfl⟩
  have hcm := hidn (show (b : Int) % (m : Int) = (c : Int) from by rw [← hc]; exact (Int.natCast_emod b m).symm)
  have hcl : c < m := by rw [← hc]; exact Nat.mod_lt _ hm0
  have LT := hidn (pwr_lt c e m hm0)
  have P := hidn (fun x y (hx : x < m) (hy : y < 18446744073709551616) w => times_walk x y m w hx hy hm)
  have hlen : ∀ j, j < 64 → tot (nts L (pbits e j)) ≤ 1000000 := fun j hj => by
    have hl := pbits_len e j
    have := nts_tot h.pos (pbits e j) (by omega)
    omega
  have BR := hidn (fun (W : World) (j : Nat) (hj : j < 64) (hs : RST w0 lo rv0 W (nts L (pbits e j))) => rbranch_st (pbit e j) hs (hlen j hj))
  have E := hidn (show pwr c e m 64 = b ^ e % m by rw [← hc, pwr_mod, pwr_64 _ _ _ he])
  have hz : ¬ (m : Int) = 0 := by omega
  have hzb : ((m : Int) == 0) = false := by simp; omega
  obtain ⟨o, ho⟩ : ∃ o, o = pwr c e m 0 := ⟨_, rfl⟩
  have h1m : Hid ((1 : Int) % (m : Int) = (o : Int)) := by subst ho; exact (Int.natCast_emod 1 m).symm
  have HO := hidn ho
  clear ho
  have HB := hidn (Nat.lt_trans hcl hm)
  have HE := hidn he
  have HM := hidn hm
  have H0 := hidn h
  clear h hL he hm hm0 hlen
  go_enter Try.func18, Try.ntmps18
  go_wp2
  try rw [h1m.out]
  go_loopw [10, 11] (fun r i wr => ∃ j : Nat, j ≤ 64 ∧ r = .int .u64 ((pwr c e m j : Nat) : Int) ∧ i = .int .i64 ((63 : Int) - j) ∧ RST w0 lo rv0 wr (nts L (pbits e j))) (fun _ i _ => (intOf i + 1).toNat)
  case atStart => exact ⟨0, by omega, by rw [HO.out], rfl, H0.out⟩
  case round =>
    obtain ⟨j, hj, rfl, rfl, hs⟩ := hrel
    have HS := hidn hs
    clear hs
    by_cases hlt : j < 64
    · obtain ⟨i, hi⟩ : ∃ i : Nat, 63 - j = i := ⟨_, rfl⟩
      rw [show (63 : Int) - (j : Int) = (i : Int) by omega]
      have S := hidn (show pwr c e m (j + 1) = if e / 2 ^ i % 2 = 1 then pwr c e m j * pwr c e m j % m * c % m else pwr c e m j * pwr c e m j % m by rw [← hi]; rfl)
      have L1 := hidn (LT.out j)
      have L2 := hidn (show pwr c e m j * pwr c e m j % m < m from Nat.mod_lt _ (Nat.lt_of_le_of_lt (Nat.zero_le _) (LT.out j)))
      have P1 := hidn (P.out _ _ L1.out (Nat.lt_trans L1.out HM.out))
      have P2 := hidn (P.out _ c L2.out HB.out)
      have BI := hidn (bit_int e i)
      have PB := hidn (show pbit e j = decide (e / 2 ^ i % 2 = 1) by rw [← hi]; rfl)
      have N := hidn (pbits_succ e j)
      have BQ := hidn (fun W => BR.out W j hlt)
      generalize pwr c e m j = t at *
      by_cases hbit : e / 2 ^ i % 2 = 1
      · rw [if_pos hbit] at S
        rw [hbit, decide_eq_true rfl] at PB
        rw [PB.out] at BQ N
        generalize t * t % m = u at *
        generalize u * c % m = v at *
        have b1 : ((e : Int) / 2 ^ i).tmod 2 = 1 := by rw [BI.out, hbit]; rfl
        clear BI hbit
        go_wp2_with (first | (go_at_call 44; first | (with_reducible refine (P1.out _).mono ?_; rintro e w' ⟨rfl, rfl⟩) | (rw [hcm.out]; with_reducible refine (P2.out _).mono ?_; rintro e w' ⟨rfl, rfl⟩)) | (go_at_call 39; refine (BQ.out _ HS.out).mono ?_; rintro e w' ⟨rfl, hq⟩; have HQ := hidn hq; clear hq))
        go_roundw
        case rel => exact ⟨j + 1, by omega, by rw [S.out], by go_num, by rw [N.out, nts_snoc]; exact HQ.out⟩
        case measure => (simp [intOf] <;> omega)
      · rw [if_neg hbit] at S
        rw [decide_eq_false hbit] at PB
        rw [PB.out] at BQ N
        generalize t * t % m = u at *
        have b1 : ((e : Int) / 2 ^ i).tmod 2 = 0 := by rw [BI.out, show e / 2 ^ i % 2 = 0 by omega]; rfl
        clear BI hbit
        go_wp2_with (first | (go_at_call 44; (with_reducible refine (P1.out _).mono ?_; rintro e w' ⟨rfl, rfl⟩)) | (go_at_call 39; refine (BQ.out _ HS.out).mono ?_; rintro e w' ⟨rfl, hq⟩; have HQ := hidn hq; clear hq))
        go_roundw
        case rel => exact ⟨j + 1, by omega, by rw [S.out], by go_num, by rw [N.out, nts_snoc]; exact HQ.out⟩
        case measure => (simp [intOf] <;> omega)
    · obtain rfl : j = 64 := by omega
      rw [E.out]
      go_wp2
      go_ret2
      exact ⟨rfl, HS.out⟩
set_option maxHeartbeats 2000000 in
theorem rpow_none (p : Value) (b e : Nat) (w : World) :
    Calls Try.prog 18 #[p, .int .u64 b, .int .u64 e, .int .u64 0] w fun r w' => r = .returned (.tuple #[.int .u64 0, .int .i64 2]) ∧ w' = w := by
  go_enter Try.func18, Try.ntmps18
  go_wp2
  go_ret2
  exact ⟨rfl, rfl⟩
end Go.Proofs.Ytpcnkiapbkmjbaa.Nv
