/- The small functions: numbers laid and taken, lists copied, what a kind uses. -/
import Derived.Test.YtdahogdfonhnfaaUby
namespace Go.Proofs.Ytdahogdfonhnfaa.Ou
open Go.ChangeShapes Go.WideShapes Go.ChangeAt Go.RowKit
open Go.Proofs.Ytdahogdfonhnfaa.By
theorem wrap_u64 (x : Int) : IntKind.u64.wrap x = x % 18446744073709551616 := by
  simp [IntKind.wrap, IntKind.bits, IntKind.signed]
theorem p256 (k : Nat) : (2 : Int) ^ (8 * k) = 256 ^ k := by rw [Int.pow_mul]; rfl
theorem byte_be (s k : Nat) (x : Int) (h : k < s) (hs : s ≤ 8) : IntKind.u64.wrap x / 2 ^ (8 * (s - 1 - k)) % 256 = be s x k := by
  rw [wrap_u64, p256, shr_be x _ (by omega)]; rfl
theorem cat_snoc (n k : Nat) (f g : Nat → Int) : bl (n + k) (cat n f g) ++ [.int .u8 (g k)] = bl (n + k + 1) (cat n f g) := by
  rw [bl_singleton, bl_append]
  apply bl_congr
  intro i hi
  by_cases h : i < n + k
  · rw [if_pos h]
  · rw [if_neg h, cat_ge (by omega), show i - n = k by omega]
/-- What a kind uses, as a set. -/
def us (k : Int) : Int := if k = 1 then 16 else if k = 2 then 27 else if k = 3 ∨ k = 5 then 17 else if k = 4 ∨ k = 6 ∨ k = 9 ∨ k = 10 then 1 else if k = 7 then 59 else if k = 8 then 31 else 0
set_option maxRecDepth 4000 in
set_option maxHeartbeats 400000 in
theorem used_ok (k : Int) (w : World) : Calls Try.prog 42 #[.int .u8 k] w fun e w' => e = .returned (.int .u8 (us k)) ∧ w' = w := by
  by_cases h : k = 1 ∨ k = 2 ∨ k = 3 ∨ k = 4 ∨ k = 5 ∨ k = 6 ∨ k = 7 ∨ k = 8 ∨ k = 9 ∨ k = 10
  · rcases h with rfl | rfl | rfl | rfl | rfl | rfl | rfl | rfl | rfl | rfl <;> (go_enter Try.func42, Try.ntmps42; go_wp2; go_ret; exact ⟨rfl, rfl⟩)
  · have n1 : (k == 1) = false := by simp; omega
    have n2 : (k == 2) = false := by simp; omega
    have n3 : (k == 3) = false := by simp; omega
    have n4 : (k == 4) = false := by simp; omega
    have n5 : (k == 5) = false := by simp; omega
    have n6 : (k == 6) = false := by simp; omega
    have n7 : (k == 7) = false := by simp; omega
    have n8 : (k == 8) = false := by simp; omega
    have n9 : (k == 9) = false := by simp; omega
    have n10 : (k == 10) = false := by simp; omega
    have e : Hid (us k = 0) := by
      show us k = 0
      unfold us
      rw [if_neg (by omega), if_neg (by omega), if_neg (by omega), if_neg (by omega), if_neg (by omega), if_neg (by omega)]
    clear h
    go_enter Try.func42, Try.ntmps42
    go_wp2
    go_ret
    exact ⟨by rw [e.out]; rfl, rfl⟩
end Go.Proofs.Ytdahogdfonhnfaa.Ou
