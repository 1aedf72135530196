/- What the functions of gf8 answer, for every element and every world: the product, the inverse, the S-box and its way back. -/
import Derived.Test.YtpcnkiapbkmjbaaRows
import Derived.Test.YtpcnkiapbkmjbaaGmath
import Derived.WalkKit
import Derived.ProofKit
import Derived.Deep.QuietTactic
import Derived.BigQuiet
import Derived.WalkLawsBesides
namespace Go.Proofs.Ytpcnkiapbkmjbaa.Gf
open Go.ChangeShapes Go.WideShapes Go.ChangeAt Go.RowKit
theorem and_one (b : Nat) (hb : b < 256) : bits .and .u8 (b : Int) 1 = ((b % 2 : Nat) : Int) := by
  rw [show (1 : Int) = ((1 : Nat) : Int) from rfl, u8_and_nat b 1 hb (by decide), Nat.and_one_is_mod]
theorem mask_walk (b : Nat) (w : World) (hb : b < 2) :
    Calls Try.prog 62 #[.int .u8 b] w fun e w' => e = .returned (.int .u8 (mask b : Nat)) ∧ w' = w := by
  have h : b = 0 ∨ b = 1 := by omega
  rcases h with rfl | rfl
  · go_enter Try.func62, Try.ntmps62
    go_wp2
    go_ret
    exact ⟨rfl, rfl⟩
  · go_enter Try.func62, Try.ntmps62
    go_wp2
    go_ret
    exact ⟨rfl, rfl⟩
theorem tx_walk (a : Nat) (w : World) (ha : a < 256) :
    Calls Try.prog 63 #[.int .u8 a] w fun e w' => e = .returned (.int .u8 (tx a : Nat)) ∧ w' = w := by
  have h1 : Hid ((a : Int) / 128 = ((a / 128 : Nat) : Int)) := by show (a : Int) / 128 = ((a / 128 : Nat) : Int); omega
  have h2 : Hid ((a : Int) * 2 % 256 = ((a * 2 % 256 : Nat) : Int)) := by show (a : Int) * 2 % 256 = ((a * 2 % 256 : Nat) : Int); omega
  have h3 : Hid (bits .and .u8 27 ((mask (a / 128) : Nat) : Int) = ((27 &&& mask (a / 128) : Nat) : Int)) := by
    show bits .and .u8 27 ((mask (a / 128) : Nat) : Int) = _
    rw [show (27 : Int) = ((27 : Nat) : Int) from rfl, u8_and_nat 27 _ (by decide) (mask_lt _)]
  have h4 : Hid (bits .xor .u8 ((a * 2 % 256 : Nat) : Int) ((27 &&& mask (a / 128) : Nat) : Int) = (tx a : Nat)) :=
    u8_xor_nat _ _ (Nat.mod_lt _ (by decide)) (Nat.and_lt_two_pow (n := 8) _ (mask_lt _))
  go_enter Try.func63, Try.ntmps63
  go_wp2_with (go_at_call 62; rw [h1.out]; refine (mask_walk (a / 128) _ (by omega)).mono ?_; rintro e w' ⟨rfl, rfl⟩)
  go_ret
  refine ⟨?_, rfl⟩
  rw [h2.out, h3.out, h4.out]
  rfl
set_option maxHeartbeats 1000000 in
theorem mul_walk (a b : Nat) (w : World) (ha : a < 256) (hb : b < 256) :
    Calls Try.prog 56 #[.int .u8 a, .int .u8 b] w fun e w' => e = .returned (.int .u8 (mul a b : Nat)) ∧ w' = w := by
  go_enter Try.func56, Try.ntmps56
  go_wp2
  go_loopw [0, 1, 5, 6] (fun x y p i wr => ∃ k A B P : Nat, k ≤ 8 ∧ i = .int .i64 k ∧ x = .int .u8 (A : Int) ∧ y = .int .u8 (B : Int) ∧ p = .int .u8 (P : Int) ∧ A < 256 ∧ B < 256 ∧ P < 256 ∧ A = txN a k ∧ B = b / 2 ^ k ∧ P = mulTo a b k ∧ wr = w) (fun _ _ _ i _ => 8 - (intOf i).toNat)
  case atStart => exact ⟨0, a, b, 0, by omega, rfl, rfl, rfl, rfl, ha, hb, by decide, rfl, by simp, rfl, rfl⟩
  case round =>
    obtain ⟨k, A, B, P, hk, rfl, rfl, rfl, rfl, hA, hB, hP, eA, eB, eP, rfl⟩ := hrel
    have EA : Hid (A = txN a k) := eA
    have EB : Hid (B = b / 2 ^ k) := eB
    have EP : Hid (P = mulTo a b k) := eP
    clear eA eB eP
    by_cases hlt : k < 8
    · have g1 : Hid (bits .and .u8 (B : Int) 1 = ((B % 2 : Nat) : Int)) := and_one B hB
      have g2 : Hid (bits .and .u8 (A : Int) ((mask (B % 2) : Nat) : Int) = ((A &&& mask (B % 2) : Nat) : Int)) := u8_and_nat _ _ hA (mask_lt _)
      have g3 : Hid (bits .xor .u8 (P : Int) ((A &&& mask (B % 2) : Nat) : Int) = ((P ^^^ (A &&& mask (B % 2)) : Nat) : Int)) := u8_xor_nat _ _ hP (Nat.and_lt_two_pow (n := 8) _ (mask_lt _))
      go_wp2_with (first | (go_at_call 62; rw [g1.out]; refine (mask_walk (B % 2) _ (by omega)).mono ?_; rintro e w' ⟨rfl, rfl⟩) | (go_at_call 63; refine (tx_walk A _ hA).mono ?_; rintro e w' ⟨rfl, rfl⟩))
      go_roundw
      case rel =>
        refine ⟨k + 1, tx A, B / 2, P ^^^ (A &&& mask (B % 2)), by omega, by go_num, rfl, by go_num, ?_, tx_lt A, by omega, xor_lt _ _ hP (Nat.and_lt_two_pow (n := 8) _ (mask_lt _)), ?_, ?_, ?_, by first | rfl | trivial⟩
        · rw [g2.out, g3.out]
        · show _ = tx (txN a k); rw [EA.out]
        · rw [EB.out, Nat.div_div_eq_div_mul, Nat.pow_succ]
        · show _ = mulTo a b k ^^^ (txN a k &&& mask (b / 2 ^ k % 2)); rw [EP.out, EA.out, EB.out]
      case measure => simp [intOf]; omega
    · obtain rfl : k = 8 := by omega
      go_wp2
      go_ret
      exact ⟨by rw [EP.out]; rfl, rfl⟩
set_option maxHeartbeats 1000000 in
theorem inv_walk (a : Nat) (w : World) (ha : a < 256) :
    Calls Try.prog 47 #[.int .u8 a] w fun e w' => e = .returned (.int .u8 (inv a : Nat)) ∧ w' = w := by
  go_enter Try.func47, Try.ntmps47
  go_wp2
  go_loopw [0, 3, 4] (fun x p i wr => ∃ k A P : Nat, k ≤ 7 ∧ i = .int .i64 k ∧ x = .int .u8 (A : Int) ∧ p = .int .u8 (P : Int) ∧ A < 256 ∧ P < 256 ∧ A = sqN a k ∧ P = invTo a k ∧ wr = w) (fun _ _ i _ => 7 - (intOf i).toNat)
  case atStart => exact ⟨0, a, 1, by omega, rfl, rfl, rfl, ha, by decide, rfl, rfl, rfl⟩
  case round =>
    obtain ⟨k, A, P, hk, rfl, rfl, rfl, hA, hP, eA, eP, rfl⟩ := hrel
    have EA : Hid (A = sqN a k) := eA
    have EP : Hid (P = invTo a k) := eP
    clear eA eP
    by_cases hlt : k < 7
    · go_wp2_with (go_at_call 56; first | (with_reducible refine (mul_walk A A _ hA hA).mono ?_; rintro e w' ⟨rfl, rfl⟩) | (with_reducible refine (mul_walk P (mul A A) _ hP (mul_lt _ _)).mono ?_; rintro e w' ⟨rfl, rfl⟩))
      go_roundw
      case rel =>
        refine ⟨k + 1, mul A A, mul P (mul A A), by omega, by go_num, rfl, rfl, mul_lt _ _, mul_lt _ _, ?_, ?_, by first | rfl | trivial⟩
        · show _ = mul (sqN a k) (sqN a k); rw [EA.out]
        · show _ = mul (invTo a k) (mul (sqN a k) (sqN a k)); rw [EP.out, EA.out]
      case measure => simp [intOf]; omega
    · obtain rfl : k = 7 := by omega
      go_wp2
      go_ret
      exact ⟨by rw [EP.out]; rfl, rfl⟩
theorem rot8_walk (y : Nat) (n : Nat) (w : World) (hy : y < 256) (hn : n = 2 ∨ n = 4 ∨ n = 5 ∨ n = 6 ∨ n = 7) :
    Calls Try.prog 57 #[.int .u8 y, .int .i64 (-(n : Int))] w fun e w' => e = .returned (.int .u8 (rot y n : Nat)) ∧ w' = w := by
  have key : ∀ (l m : Nat), bits .or .u8 (((y * 2 ^ l % 256 : Nat)) : Int) ((y / 2 ^ m : Nat) : Int) = ((y * 2 ^ l % 256 ||| y / 2 ^ m : Nat) : Int) := fun l m => u8_or_nat _ _ (Nat.mod_lt _ (by decide)) (Nat.lt_of_le_of_lt (Nat.div_le_self _ _) hy)
  rcases hn with rfl | rfl | rfl | rfl | rfl
  · have e : bits BinOp.and IntKind.u64 (IntKind.u64.wrap (-2)) 7 = 6 := by decide +kernel
    have h : Hid (bits .or .u8 ((y : Int) * 64 % 256) ((y : Int) / 4) = ((rot y 2 : Nat) : Int)) := by
      show bits .or .u8 ((y : Int) * 64 % 256) ((y : Int) / 4) = ((rot y 2 : Nat) : Int)
      rw [show (y : Int) * 64 % 256 = ((y * 2 ^ 6 % 256 : Nat) : Int) by omega, show (y : Int) / 4 = ((y / 2 ^ 2 : Nat) : Int) by omega]
      exact key 6 2
    clear key
    go_enter Try.func57, Try.ntmps57
    go_wp2
    go_ret
    exact ⟨congrArg (fun x => Ending.returned (.int .u8 x)) h.out, rfl⟩
  · have e : bits BinOp.and IntKind.u64 (IntKind.u64.wrap (-4)) 7 = 4 := by decide +kernel
    have h : Hid (bits .or .u8 ((y : Int) * 16 % 256) ((y : Int) / 16) = ((rot y 4 : Nat) : Int)) := by
      show bits .or .u8 ((y : Int) * 16 % 256) ((y : Int) / 16) = ((rot y 4 : Nat) : Int)
      rw [show (y : Int) * 16 % 256 = ((y * 2 ^ 4 % 256 : Nat) : Int) by omega, show (y : Int) / 16 = ((y / 2 ^ 4 : Nat) : Int) by omega]
      exact key 4 4
    clear key
    go_enter Try.func57, Try.ntmps57
    go_wp2
    go_ret
    exact ⟨congrArg (fun x => Ending.returned (.int .u8 x)) h.out, rfl⟩
  · have e : bits BinOp.and IntKind.u64 (IntKind.u64.wrap (-5)) 7 = 3 := by decide +kernel
    have h : Hid (bits .or .u8 ((y : Int) * 8 % 256) ((y : Int) / 32) = ((rot y 5 : Nat) : Int)) := by
      show bits .or .u8 ((y : Int) * 8 % 256) ((y : Int) / 32) = ((rot y 5 : Nat) : Int)
      rw [show (y : Int) * 8 % 256 = ((y * 2 ^ 3 % 256 : Nat) : Int) by omega, show (y : Int) / 32 = ((y / 2 ^ 5 : Nat) : Int) by omega]
      exact key 3 5
    clear key
    go_enter Try.func57, Try.ntmps57
    go_wp2
    go_ret
    exact ⟨congrArg (fun x => Ending.returned (.int .u8 x)) h.out, rfl⟩
  · have e : bits BinOp.and IntKind.u64 (IntKind.u64.wrap (-6)) 7 = 2 := by decide +kernel
    have h : Hid (bits .or .u8 ((y : Int) * 4 % 256) ((y : Int) / 64) = ((rot y 6 : Nat) : Int)) := by
      show bits .or .u8 ((y : Int) * 4 % 256) ((y : Int) / 64) = ((rot y 6 : Nat) : Int)
      rw [show (y : Int) * 4 % 256 = ((y * 2 ^ 2 % 256 : Nat) : Int) by omega, show (y : Int) / 64 = ((y / 2 ^ 6 : Nat) : Int) by omega]
      exact key 2 6
    clear key
    go_enter Try.func57, Try.ntmps57
    go_wp2
    go_ret
    exact ⟨congrArg (fun x => Ending.returned (.int .u8 x)) h.out, rfl⟩
  · have e : bits BinOp.and IntKind.u64 (IntKind.u64.wrap (-7)) 7 = 1 := by decide +kernel
    have h : Hid (bits .or .u8 ((y : Int) * 2 % 256) ((y : Int) / 128) = ((rot y 7 : Nat) : Int)) := by
      show bits .or .u8 ((y : Int) * 2 % 256) ((y : Int) / 128) = ((rot y 7 : Nat) : Int)
      rw [show (y : Int) * 2 % 256 = ((y * 2 ^ 1 % 256 : Nat) : Int) by omega, show (y : Int) / 128 = ((y / 2 ^ 7 : Nat) : Int) by omega]
      exact key 1 7
    clear key
    go_enter Try.func57, Try.ntmps57
    go_wp2
    go_ret
    exact ⟨congrArg (fun x => Ending.returned (.int .u8 x)) h.out, rfl⟩
theorem rot_walk (y : Nat) (n : Nat) (w : World) (hy : y < 256) (hn : n = 2 ∨ n = 4 ∨ n = 5 ∨ n = 6 ∨ n = 7) :
    Calls Try.prog 48 #[.int .u8 y, .int .i64 n] w fun e w' => e = .returned (.int .u8 (rot y n : Nat)) ∧ w' = w := by
  have hb : 2 ≤ n ∧ n ≤ 7 := by omega
  go_enter Try.func48, Try.ntmps48
  go_wp2_with (go_at_call 57; refine (rot8_walk y n _ hy hn).mono ?_; rintro e w' ⟨rfl, rfl⟩)
  go_ret
  exact ⟨rfl, rfl⟩
theorem rot_at (y : Nat) (k : Int) (n : Nat) (w : World) (hk : k = n) (hy : y < 256) (hn : n = 2 ∨ n = 4 ∨ n = 5 ∨ n = 6 ∨ n = 7) :
    Calls Try.prog 48 #[.int .u8 y, .int .i64 k] w fun e w' => e = .returned (.int .u8 (rot y n : Nat)) ∧ w' = w := by
  subst hk
  exact rot_walk y n w hy hn
theorem xor8 (a b : Nat) (ha : a < 256) (hb : b < 256) : bits .xor .u8 (a : Int) (b : Int) = ((a ^^^ b : Nat) : Int) := u8_xor_nat a b ha hb
set_option maxHeartbeats 1000000 in
theorem box_walk (a : Nat) (w : World) (ha : a < 256) :
    Calls Try.prog 34 #[.int .u8 a] w fun e w' => e = .returned (.int .u8 (box a : Nat)) ∧ w' = w := by
  have hi : Hid (∀ w : World, Calls Try.prog 47 #[.int .u8 a] w fun e w' => e = .returned (.int .u8 (inv a : Nat)) ∧ w' = w) := fun w => inv_walk a w ha
  have hy : inv a < 256 := inv_lt a
  have hbox : box a = aff (inv a) := rfl
  rw [hbox]
  clear hbox
  generalize inv a = y at hi hy ⊢
  have r4 := rot_lt y 4 hy
  have r5 := rot_lt y 5 hy
  have r6 := rot_lt y 6 hy
  have r7 := rot_lt y 7 hy
  have x1 := xor_lt _ _ hy r4
  have x2 := xor_lt _ _ x1 r5
  have x3 := xor_lt _ _ x2 r6
  have x4 := xor_lt _ _ x3 r7
  go_enter Try.func34, Try.ntmps34
  go_wp2_with fail
  refine (hi.out _).mono ?_
  rintro e w' ⟨rfl, rfl⟩
  go_wp2_with (go_at_call 48; first | (with_reducible refine (rot_at y 4 4 _ (by decide) hy (by decide)).mono ?_; rintro e w' ⟨rfl, rfl⟩) | (with_reducible refine (rot_at y 5 5 _ (by decide) hy (by decide)).mono ?_; rintro e w' ⟨rfl, rfl⟩) | (with_reducible refine (rot_at y 6 6 _ (by decide) hy (by decide)).mono ?_; rintro e w' ⟨rfl, rfl⟩) | (with_reducible refine (rot_at y 7 7 _ (by decide) hy (by decide)).mono ?_; rintro e w' ⟨rfl, rfl⟩))
  go_ret
  refine ⟨?_, rfl⟩
  rw [xor8 _ _ hy r4, xor8 _ _ x1 r5, xor8 _ _ x2 r6, xor8 _ _ x3 r7, show (99 : Int) = ((99 : Nat) : Int) from rfl, xor8 _ _ x4 (by decide)]
  rfl
end Go.Proofs.Ytpcnkiapbkmjbaa.Gf
