/- What the document's own functions for layer 4 answer: the product of polynomials, the inverse looked for, the S-box bit by bit, its way back looked for: the same as the field of Gmath. -/
import Derived.Test.YtpcnkiapbkmjbaaRows
import Derived.Test.YtpcnkiapbkmjbaaGmath
import Derived.WalkKit
import Derived.ProofKit
import Derived.Deep.QuietTactic
import Derived.BigQuiet
import Derived.WalkLawsBesides
import Derived.Deep.RegionHeld3
namespace Go.Proofs.Ytpcnkiapbkmjbaa.Gf
open Go.ChangeShapes Go.WideShapes Go.ChangeAt Go.RowKit
theorem bit_int (a k : Nat) : ((a : Int) / 2 ^ k).tmod 2 = ((a / 2 ^ k % 2 : Nat) : Int) := by
  rw [Int.tmod_eq_emod_of_nonneg (Int.ediv_nonneg (by omega) (Int.pow_nonneg (by decide)))]
  have : ((a : Int) / 2 ^ k) = ((a / 2 ^ k : Nat) : Int) := by simp
  rw [this]; omega
theorem xor_wrap (R S : Nat) {z : Int} (hz : z = (S : Int)) (hR : R < 2 ^ 15) (hS : S < 2 ^ 15) : bits .xor .i64 (R : Int) (wrap64 z) = ((R ^^^ S : Nat) : Int) := by
  subst hz
  have hw : wrap64 (S : Int) = (S : Int) := by unfold wrap64; omega
  have hx : R ^^^ S < 2 ^ 15 := Nat.xor_lt_two_pow hR hS
  rw [hw]
  show IntKind.i64.wrap ((BitVec.ofInt 64 (R : Int) ^^^ BitVec.ofInt 64 (S : Int)).toNat : Int) = _
  rw [BitVec.toNat_xor, ofInt_u64 R (by omega), ofInt_u64 S (by omega)]
  simp [IntKind.wrap, IntKind.bits, IntKind.signed]
  omega
theorem wrap_small (T : Nat) (h : T < 256) : wrap64 (T : Int) = (T : Int) := by unfold wrap64; omega
theorem wrap_two (P T : Nat) (h : P + T < 2 ^ 8) : wrap64 ((P : Int) + wrap64 (T : Int)) = ((P + T : Nat) : Int) := by
  have h1 : P + T < 256 := h
  rw [wrap_small T (by omega), ← Int.natCast_add, wrap_small _ h1]
theorem bit_walk (y i : Nat) (w : World) (hy : y < 256) (hi : i < 64) :
    Calls Try.prog 52 #[.int .u8 y, .int .i64 i] w fun e w' => e = .returned (.int .i64 (bitOf y i : Nat)) ∧ w' = w := by
  go_enter Try.func52, Try.ntmps52
  go_wp2
  go_ret
  exact ⟨congrArg (fun x => Ending.returned (.int .i64 x)) (bit_int y (i % 8)), rfl⟩
set_option maxHeartbeats 1000000 in
theorem paper_walk (a b : Nat) (w : World) (ha : a < 256) (hb : b < 256) :
    Calls Try.prog 60 #[.int .u8 a, .int .u8 b] w fun e w' => e = .returned (.int .u8 (mul a b : Nat)) ∧ ∃ d, w' = w.drewN d := by
  rw [← paper_mul a b ha hb]
  go_enter Try.func60, Try.ntmps60
  go_wp2
  go_loopw [5, 6] (fun p i wr => ∃ k P : Nat, k ≤ 8 ∧ i = .int .i64 k ∧ p = .int .i64 (P : Int) ∧ P < 2 ^ 15 ∧ P = full a b k ∧ ∃ d, wr = w.drewN d) (fun _ i _ => 8 - (intOf i).toNat)
  case atStart => exact ⟨0, 0, by omega, rfl, rfl, by decide, rfl, 0, rfl⟩
  case round =>
    obtain ⟨k, P, hk, rfl, rfl, hP, eP, d, rfl⟩ := hrel
    have EP : Hid (P = full a b k) := eP
    clear eP
    by_cases hlt : k < 8
    · go_wp2
      go_loopw [5, 7] (fun p i wr => ∃ j R : Nat, j ≤ 8 ∧ i = .int .i64 j ∧ p = .int .i64 (R : Int) ∧ R < 2 ^ 15 ∧ R = P ^^^ row a b k j ∧ ∃ d, wr = w.drewN d) (fun _ i _ => 8 - (intOf i).toNat)
      case atStart => exact ⟨0, P, by omega, rfl, rfl, hP, (Nat.xor_zero _).symm, d, rfl⟩
      case round =>
        obtain ⟨j, R, hj, rfl, rfl, hR, eR, d', rfl⟩ := hrel
        have ER : Hid (R = P ^^^ row a b k j) := eR
        clear eR
        by_cases hlt' : j < 8
        · obtain ⟨A, hA, gA, eA⟩ : ∃ A : Nat, A < 2 ∧ ((a : Int) / 2 ^ k).tmod 2 = (A : Int) ∧ Hid (A = a / 2 ^ k % 2) := ⟨a / 2 ^ k % 2, Nat.mod_lt _ (by decide), bit_int a k, rfl⟩
          obtain ⟨B, hB, gB, eB⟩ : ∃ B : Nat, B < 2 ∧ ((b : Int) / 2 ^ j).tmod 2 = (B : Int) ∧ Hid (B = b / 2 ^ j % 2) := ⟨b / 2 ^ j % 2, Nat.mod_lt _ (by decide), bit_int b j, rfl⟩
          obtain ⟨C, hC, gC, eC⟩ : ∃ C : Nat, C < 2 ∧ (A : Int) * (B : Int) = (C : Int) ∧ Hid (C = A * B) := by
            refine ⟨A * B, ?_, by simp, rfl⟩
            have hA' : A = 0 ∨ A = 1 := by omega
            rcases hA' with rfl | rfl <;> omega
          go_wp2
          go_quiet (fail)
          go_wp2
          go_roundw
          case rel =>
            have hs : C * 2 ^ (k + j) < 2 ^ 15 := by
              have h3 : 2 ^ (k + j) < 2 ^ 15 := Nat.pow_lt_pow_right (by decide) (by omega)
              have hC' : C = 0 ∨ C = 1 := by omega
              rcases hC' with rfl | rfl <;> omega
            refine ⟨j + 1, R ^^^ C * 2 ^ (k + j), by omega, by go_num, ?_, Nat.xor_lt_two_pow hR hs, ?_, _, rfl⟩
            · rw [xor_wrap R _ (by simp) hR hs]
            · show _ = P ^^^ (row a b k j ^^^ ((a / 2 ^ k % 2) * (b / 2 ^ j % 2)) * 2 ^ (k + j))
              rw [ER.out, eC.out, eA.out, eB.out, Nat.xor_assoc]
          case measure => simp [intOf]; omega
        · obtain rfl : j = 8 := by omega
          go_wp2
          go_roundw
          case rel =>
            refine ⟨k + 1, R, by omega, by go_num, rfl, hR, ?_, _, rfl⟩
            show _ = full a b k ^^^ row a b k 8
            rw [ER.out, EP.out]
          case measure => simp [intOf]; omega
    · obtain rfl : k = 8 := by omega
      go_wp2
      go_loopw [5, 8] (fun p i wr => ∃ n m R : Nat, n ≤ 7 ∧ n + m = 14 ∧ i = .int .i64 m ∧ p = .int .i64 (R : Int) ∧ R < 2 ^ 15 ∧ R = less P n ∧ wr = w.drewN d) (fun _ i _ => (intOf i).toNat)
      case atStart => exact ⟨0, 14, P, by omega, rfl, rfl, rfl, hP, rfl, rfl⟩
      case round =>
        obtain ⟨n, m, R, hn, hm, rfl, rfl, hR, eR, rfl⟩ := hrel
        have ER : Hid (R = less P n) := eR
        clear eR
        by_cases hlt : 8 ≤ m
        · obtain ⟨B, hB, gB, eB⟩ : ∃ B : Nat, B < 2 ∧ ((R : Int) / 2 ^ m).tmod 2 = (B : Int) ∧ Hid (B = R / 2 ^ m % 2) := ⟨R / 2 ^ m % 2, Nat.mod_lt _ (by decide), bit_int R m, rfl⟩
          have hB' : B = 0 ∨ B = 1 := by omega
          rcases hB' with rfl | rfl
          · go_wp2
            go_roundw
            case rel =>
              refine ⟨n + 1, m - 1, R, by omega, by omega, by go_num, rfl, hR, ?_, by first | rfl | trivial⟩
              unfold less
              rw [← ER.out, show 14 - n = m by omega, ← eB.out, if_neg (by decide)]
            case measure => simp [intOf]; omega
          · go_wp2
            go_roundw
            case rel =>
              have hs : 283 * 2 ^ (m - 8) < 2 ^ 15 := by
                have h3 : 2 ^ (m - 8) ≤ 2 ^ 6 := Nat.pow_le_pow_right (by decide) (by omega)
                have : 283 * 2 ^ (m - 8) ≤ 283 * 2 ^ 6 := Nat.mul_le_mul_left _ h3
                omega
              refine ⟨n + 1, m - 1, R ^^^ 283 * 2 ^ (m - 8), by omega, by omega, by go_num, ?_, Nat.xor_lt_two_pow hR hs, ?_, by first | rfl | trivial⟩
              · rw [xor_wrap R (283 * 2 ^ (m - 8)) (by simp) hR hs]
              · unfold less
                rw [← ER.out, show 14 - n = m by omega, show 6 - n = m - 8 by omega, ← eB.out, if_pos rfl]
            case measure => simp [intOf]; omega
        · obtain rfl : n = 7 := by omega
          go_wp2
          go_ret
          refine ⟨?_, d, rfl⟩
          have h1 : (R : Int) % 256 = ((paper a b : Nat) : Int) := by
            show (R : Int) % 256 = ((less (full a b 8) 7 % 256 : Nat) : Int)
            rw [← EP.out, ← ER.out]; omega
          exact congrArg (fun x => Ending.returned (.int .u8 x)) h1
set_option maxHeartbeats 1000000 in
set_option maxRecDepth 20000 in
theorem inv_ref (a : Nat) (w : World) (ha : a < 256) :
    Calls Try.prog 51 #[.int .u8 a] w fun e w' => e = .returned (.int .u8 (inv a : Nat)) ∧ ∃ d, w' = w.drewN d := by
  have only : Hid (∀ x, x < 256 → mul a x = 1 → x = inv a) := fun x hx h => inv_only a x ha hx h
  have ends : Hid (inv a = 0 ∨ mul a (inv a) = 1) := by
    show inv a = 0 ∨ mul a (inv a) = 1
    by_cases h0 : a = 0
    · left; rw [h0]; exact inv_zero
    · right; exact mul_inv a ha h0
  have hv : inv a < 256 := inv_lt a
  generalize inv a = v at only ends hv ⊢
  go_enter Try.func51, Try.ntmps51
  go_wp2
  go_loopw [3] (fun i wr => ∃ k : Nat, 1 ≤ k ∧ k ≤ 256 ∧ i = .int .i64 k ∧ (v = 0 ∨ k ≤ v) ∧ ∃ d, wr = w.drewN d) (fun i _ => 256 - (intOf i).toNat)
  case atStart => exact ⟨1, by omega, by omega, rfl, by omega, 0, rfl⟩
  case round =>
    obtain ⟨k, hk1, hk, rfl, hkv, d, rfl⟩ := hrel
    by_cases hlt : k < 256
    · have hm : (k : Int) % 256 = (k : Int) := by omega
      obtain ⟨M, hM, eM⟩ : ∃ M : Nat, M < 256 ∧ Hid (mul a k = M) := ⟨mul a k, mul_lt _ _, rfl⟩
      have HP : Hid (∀ w : World, Calls Try.prog 60 #[.int .u8 a, .int .u8 k] w fun e w' => e = .returned (.int .u8 (M : Nat)) ∧ ∃ d, w' = w.drewN d) := fun w => by
        rw [← eM.out]; exact paper_walk a k w ha hlt
      by_cases h1 : M = 1
      · subst h1
        obtain rfl : k = v := only.out k hlt eM.out
        go_wp2_with (go_at_call 60; refine (HP.out _).mono ?_; rintro e w' ⟨rfl, d', rfl⟩)
        go_ret
        exact ⟨rfl, _, rfl⟩
      · have hne : v = 0 ∨ k + 1 ≤ v := by
          rcases hkv with h | h
          · exact .inl h
          · right
            have : k ≠ v := by
              rintro rfl
              rcases ends.out with h' | h'
              · omega
              · rw [eM.out] at h'; exact h1 h'
            omega
        go_wp2_with (go_at_call 60; refine (HP.out _).mono ?_; rintro e w' ⟨rfl, d', rfl⟩)
        go_roundw
        case rel => exact ⟨k + 1, by omega, by omega, by go_num, hne, _, rfl⟩
        case measure => simp [intOf]; omega
    · obtain rfl : v = 0 := by omega
      go_wp2
      go_ret
      exact ⟨rfl, d, rfl⟩
set_option maxHeartbeats 1000000 in
theorem box_ref (a : Nat) (w : World) (ha : a < 256) :
    Calls Try.prog 42 #[.int .u8 a] w fun e w' => e = .returned (.int .u8 (box a : Nat)) ∧ ∃ d, w' = w.drewN d := by
  have hi : Hid (∀ w : World, Calls Try.prog 51 #[.int .u8 a] w fun e w' => e = .returned (.int .u8 (inv a : Nat)) ∧ ∃ d, w' = w.drewN d) := fun w => inv_ref a w ha
  have hy : inv a < 256 := inv_lt a
  have hbox : box a = aff (inv a) := rfl
  rw [hbox]
  clear hbox
  generalize inv a = y at hi hy ⊢
  rw [← out_aff y hy]
  go_enter Try.func42, Try.ntmps42
  go_wp2_with fail
  refine (hi.out _).mono ?_
  rintro e w1 ⟨rfl, d0, rfl⟩
  clear hi
  go_wp2
  go_loopw [4, 5] (fun p i wr => ∃ k P : Nat, k ≤ 8 ∧ i = .int .i64 k ∧ p = .int .i64 (P : Int) ∧ P < 256 ∧ P = outTo y k ∧ wr = w.drewN d0) (fun _ i _ => 8 - (intOf i).toNat)
  case atStart => exact ⟨0, 0, by omega, rfl, rfl, by decide, rfl, rfl⟩
  case round =>
    obtain ⟨k, P, hk, rfl, rfl, hP, eP, rfl⟩ := hrel
    have EP : Hid (P = outTo y k) := eP
    clear eP
    by_cases hlt : k < 8
    · have b1 := Nat.mod_lt (bitSum y k) (show 0 < 2 by decide)
      have B1 : Hid (∀ (z i : Nat) (c : Int) (w : World), z < 256 → i < 64 → c = (i : Int) → Calls Try.prog 52 #[.int .u8 z, .int .i64 c] w fun e w' => e = .returned (.int .i64 (bitOf z i : Nat)) ∧ w' = w) := fun z i c w hz hi hc => by rw [hc]; exact bit_walk z i w hz hi
      have c0 : bitOf y k < 2 := Nat.mod_lt _ (by decide)
      have c4 : bitOf y (k + 4) < 2 := Nat.mod_lt _ (by decide)
      have c5 : bitOf y (k + 5) < 2 := Nat.mod_lt _ (by decide)
      have c6 : bitOf y (k + 6) < 2 := Nat.mod_lt _ (by decide)
      have c7 : bitOf y (k + 7) < 2 := Nat.mod_lt _ (by decide)
      have c9 : bitOf 99 k < 2 := Nat.mod_lt _ (by decide)
      go_wp2_with (go_at_call 52; first
        | (with_reducible refine (B1.out y k _ _ hy (by omega) rfl).mono ?_; rintro e w' ⟨rfl, rfl⟩)
        | (with_reducible refine (B1.out y (k + 4) ((k : Int) + 4) _ hy (by omega) (by omega)).mono ?_; rintro e w' ⟨rfl, rfl⟩)
        | (with_reducible refine (B1.out y (k + 5) ((k : Int) + 5) _ hy (by omega) (by omega)).mono ?_; rintro e w' ⟨rfl, rfl⟩)
        | (with_reducible refine (B1.out y (k + 6) ((k : Int) + 6) _ hy (by omega) (by omega)).mono ?_; rintro e w' ⟨rfl, rfl⟩)
        | (with_reducible refine (B1.out y (k + 7) ((k : Int) + 7) _ hy (by omega) (by omega)).mono ?_; rintro e w' ⟨rfl, rfl⟩)
        | (refine (B1.out 99 k _ _ (by decide) (by omega) rfl).mono ?_; rintro e w' ⟨rfl, rfl⟩))
      have hS : bitOf y k + bitOf y (k + 4) + bitOf y (k + 5) + bitOf y (k + 6) + bitOf y (k + 7) + bitOf 99 k = bitSum y k := rfl
      have hp := out_lt y (k + 1)
      have hq : 2 ^ (k + 1) ≤ 2 ^ 8 := Nat.pow_le_pow_right (by decide) (by omega)
      have hT : outTo y (k + 1) = P + bitSum y k % 2 * 2 ^ k := by rw [EP.out]; rfl
      go_roundw
      case rel =>
        refine ⟨k + 1, outTo y (k + 1), by omega, by go_num, ?_, by omega, rfl, by first | rfl | trivial⟩
        rw [hT]
        rw [hT] at hp
        have h1 : ((bitOf y k : Int) + (bitOf y (k + 4) : Int) + (bitOf y (k + 5) : Int) + (bitOf y (k + 6) : Int) + (bitOf y (k + 7) : Int) + (bitOf 99 k : Int)) % 2 * 2 ^ k = ((bitSum y k % 2 * 2 ^ k : Nat) : Int) := by
          rw [← hS]; simp
        rw [h1]
        generalize bitSum y k % 2 * 2 ^ k = T at hp ⊢
        rw [wrap_two P T (Nat.lt_of_lt_of_le hp hq)]
      case measure => simp [intOf]; omega
    · obtain rfl : k = 8 := by omega
      go_wp2
      go_ret
      exact ⟨by rw [EP.out]; rfl, d0, rfl⟩
end Go.Proofs.Ytpcnkiapbkmjbaa.Gf
