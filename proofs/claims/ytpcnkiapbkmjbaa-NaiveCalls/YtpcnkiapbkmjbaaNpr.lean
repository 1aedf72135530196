/- What the library's rest of a word pair by a word answers, the program's product modulo a number, and the document's, by doubling. -/
import Derived.Test.YtpcnkiapbkmjbaaNdv
import Derived.Test.YtpcnkiapbkmjbaaNpu
namespace Go.Proofs.Ytpcnkiapbkmjbaa.Nv
open Go.ChangeShapes Go.WideShapes Go.ChangeAt Go.RowKit
set_option maxHeartbeats 1200000 in
theorem rem_walk (hi lo y : Nat) (w : World) (hy0 : 0 < y) (hy : y < 18446744073709551616) (hl : lo < 18446744073709551616) :
    Calls Try.prog 54 #[.int .u64 hi, .int .u64 lo, .int .u64 y] w fun e w' => e = .returned (.int .u64 (((hi * 18446744073709551616 + lo) % y : Nat) : Int)) ∧ ∃ d, w' = w.drewN d := by
  have D := hidn (div_walk (hi % y) lo y w hy0 (Nat.mod_lt _ hy0) hy hl)
  have e1 : (hi % y * 18446744073709551616 + lo) % y = (hi * 18446744073709551616 + lo) % y := by
    rw [Nat.add_mod, Nat.mod_mul_mod, ← Nat.add_mod]
  rw [e1] at D
  have hne : ¬ (y : Int) = 0 := by omega
  have hm : Hid ((hi : Int) % (y : Int) = ((hi % y : Nat) : Int)) := by show (hi : Int) % (y : Int) = ((hi % y : Nat) : Int); omega
  clear e1
  go_enter Try.func54, Try.ntmps54
  go_wp2_with (first | (go_at_call 61; rw [hm.out]; refine D.out.mono ?_; rintro e w' ⟨q, rfl, d, rfl⟩))
  go_ret
  exact ⟨rfl, _, rfl⟩
set_option maxHeartbeats 1200000 in
theorem prod_walk (a b m : Nat) (w : World) (ha : a < 18446744073709551616) (hb : b < 18446744073709551616) (hm0 : 0 < m) (hm : m < 18446744073709551616) :
    Calls Try.prog 43 #[.int .u64 a, .int .u64 b, .int .u64 m] w fun e w' => e = .returned (.int .u64 ((a * b % m : Nat) : Int)) ∧ ∃ d, w' = w.drewN d := by
  have M := hidn (mul128 a b ha hb)
  have R := hidn (fun w => rem_walk (a * b / 18446744073709551616) (a * b % 18446744073709551616) m w hm0 hm (Nat.mod_lt _ (by decide)))
  rw [Nat.div_add_mod'] at R
  generalize a * b / 18446744073709551616 = x at *
  generalize a * b % 18446744073709551616 = y at *
  generalize a * b % m = z at *
  clear ha hb
  go_enter Try.func43, Try.ntmps43
  go_wp2_with (first | (go_at_call 53; refine (M.out _).mono ?_; rintro e w' ⟨rfl, rfl⟩) | (go_at_call 54; refine (R.out _).mono ?_; rintro e w' ⟨rfl, d, rfl⟩))
  go_ret
  exact ⟨rfl, _, rfl⟩
set_option maxHeartbeats 1200000 in
theorem plus_walk (a b m : Nat) (w : World) (ha : a < m) (hb : b < m) (hm : m < 18446744073709551616) :
    Calls Try.prog 55 #[.int .u64 a, .int .u64 b, .int .u64 m] w fun e w' => e = .returned (.int .u64 (((a + b) % m : Nat) : Int)) ∧ w' = w := by
  by_cases hc : (m : Int) - (b : Int) ≤ (a : Int)
  · have e : (((a + b) % m : Nat) : Int) = (a : Int) - ((m : Int) - (b : Int)) := by
      rw [Nat.mod_eq_sub_mod (by omega), Nat.mod_eq_of_lt (show a + b - m < m by omega)]; omega
    rw [e]
    clear e
    go_enter Try.func55, Try.ntmps55
    go_wp2
    go_ret
    exact ⟨rfl, rfl⟩
  · have e : (((a + b) % m : Nat) : Int) = (a : Int) + (b : Int) := by
      rw [Nat.mod_eq_of_lt (show a + b < m by omega)]; omega
    rw [e]
    clear e
    go_enter Try.func55, Try.ntmps55
    go_wp2
    go_ret
    exact ⟨rfl, rfl⟩
theorem bit_int (x i : Nat) : ((x : Int) / 2 ^ i).tmod 2 = ((x / 2 ^ i % 2 : Nat) : Int) := by
  rw [show ((2 : Int) ^ i) = ((2 ^ i : Nat) : Int) by simp, ← Int.natCast_ediv]
  rfl
set_option maxHeartbeats 1200000 in
theorem times_walk (a b m : Nat) (w : World) (ha : a < m) (hb : b < 18446744073709551616) (hm : m < 18446744073709551616) :
    Calls Try.prog 44 #[.int .u64 a, .int .u64 b, .int .u64 m] w fun e w' => e = .returned (.int .u64 ((a * b % m : Nat) : Int)) ∧ w' = w := by
  have hm0 : 0 < m := by omega
  have P := hidn (fun x y (hx : x < m) (hy : y < m) w => plus_walk x y m w hx hy hm)
  have L := hidn (tms_lt a b m hm0)
  have E := hidn (tms_64 a b m hb)
  have HA := hidn ha
  clear ha hb hm hm0
  go_enter Try.func44, Try.ntmps44
  go_wp2
  go_loopw [7, 8] (fun r i wr => ∃ j : Nat, j ≤ 64 ∧ r = .int .u64 ((tms a b m j : Nat) : Int) ∧ i = .int .i64 ((63 : Int) - j) ∧ wr = w) (fun _ i _ => (intOf i + 1).toNat)
  case atStart => exact ⟨0, by omega, rfl, rfl, rfl⟩
  case round =>
    obtain ⟨j, hj, rfl, rfl, rfl⟩ := hrel
    by_cases hlt : j < 64
    · obtain ⟨i, hi⟩ : ∃ i : Nat, 63 - j = i := ⟨_, rfl⟩
      rw [show (63 : Int) - (j : Int) = (i : Int) by omega]
      have S := hidn (show tms a b m (j + 1) = if b / 2 ^ i % 2 = 1 then ((tms a b m j + tms a b m j) % m + a) % m else (tms a b m j + tms a b m j) % m by rw [← hi]; rfl)
      have L1 := hidn (L.out j)
      have BI := hidn (bit_int b i)
      generalize tms a b m j = t at *
      have M1 := hidn (show (t + t) % m < m from Nat.mod_lt _ (Nat.lt_of_le_of_lt (Nat.zero_le _) L1.out))
      have P1 := hidn (P.out t t L1.out L1.out)
      by_cases hbit : b / 2 ^ i % 2 = 1
      · rw [if_pos hbit] at S
        have P2 := hidn (P.out ((t + t) % m) a M1.out HA.out)
        generalize (t + t) % m = u at *
        generalize (u + a) % m = v at *
        have b1 : ((b : Int) / 2 ^ i).tmod 2 = 1 := by rw [BI.out, hbit]; rfl
        clear BI hbit
        go_wp2_with (go_at_call 55; first | (with_reducible refine (P1.out _).mono ?_; rintro e w' ⟨rfl, rfl⟩) | (with_reducible refine (P2.out _).mono ?_; rintro e w' ⟨rfl, rfl⟩))
        go_roundw
        case rel => exact ⟨j + 1, by omega, by rw [S.out], by go_num, by first | rfl | trivial⟩
        case measure => (simp [intOf] <;> omega)
      · rw [if_neg hbit] at S
        generalize (t + t) % m = u at *
        have b1 : ((b : Int) / 2 ^ i).tmod 2 = 0 := by rw [BI.out, show b / 2 ^ i % 2 = 0 by omega]; rfl
        clear BI hbit
        go_wp2_with (go_at_call 55; (with_reducible refine (P1.out _).mono ?_; rintro e w' ⟨rfl, rfl⟩))
        go_roundw
        case rel => exact ⟨j + 1, by omega, by rw [S.out], by go_num, by first | rfl | trivial⟩
        case measure => (simp [intOf] <;> omega)
    · obtain rfl : j = 64 := by omega
      rw [E.out]
      go_wp2
      go_ret
      exact ⟨rfl, rfl⟩
end Go.Proofs.Ytpcnkiapbkmjbaa.Nv
