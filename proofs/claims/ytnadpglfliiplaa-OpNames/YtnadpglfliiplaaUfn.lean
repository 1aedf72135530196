/- The small functions: numbers laid and taken, lists copied, what a kind uses. -/
import Derived.Test.YtnadpglfliiplaaUby
namespace Go.Proofs.Ytnadpglfliiplaa.Ou
open Go.ChangeShapes Go.WideShapes Go.ChangeAt Go.RowKit
open Go.Proofs.Ytnadpglfliiplaa.By
theorem wrap_u64 (x : Int) : IntKind.u64.wrap x = x % 18446744073709551616 := by
  simp [IntKind.wrap, IntKind.bits, IntKind.signed]
theorem p256 (k : Nat) : (2 : Int) ^ (8 * k) = 256 ^ k := by rw [Int.pow_mul]; rfl
theorem byte_be (s k : Nat) (x : Int) (h : k < s) (hs : s ≤ 8) : IntKind.u64.wrap x / 2 ^ (8 * (s - 1 - k)) % 256 = be s x k := by
  rw [wrap_u64, p256, shr_be x _ (by omega)]; rfl
theorem cat_snoc (n k : Nat) (f g : Nat → Int) : bl (n + k) (cat n f g) ++ [.int .u8 (g k)] = bl (n + k + 1) (cat n f g) := by
  rw [bl_singleton, bl_append]
  apply bl_congr
  intro i hi
  by_cases h : i < n + k
  · rw [if_pos h]
  · rw [if_neg h, cat_ge (by omega), show i - n = k by omega]
/-- What a kind uses, as a set. -/
def us (k : Int) : Int := if k = 1 then 16 else if k = 2 then 27 else if k = 3 ∨ k = 5 then 17 else if k = 4 ∨ k = 6 ∨ k = 9 ∨ k = 10 then 1 else if k = 7 then 59 else if k = 8 then 31 else 0
set_option maxRecDepth 4000 in
set_option maxHeartbeats 400000 in
theorem used_ok (k : Int) (w : World) : Calls Try.prog 37 #[.int .u8 k] w fun e w' => e = .returned (.int .u8 (us k)) ∧ w' = w := by
  by_cases h : k = 1 ∨ k = 2 ∨ k = 3 ∨ k = 4 ∨ k = 5 ∨ k = 6 ∨ k = 7 ∨ k = 8 ∨ k = 9 ∨ k = 10
  · rcases h with rfl | rfl | rfl | rfl | rfl | rfl | rfl | rfl | rfl | rfl <;> (go_enter Try.func37, Try.ntmps37; go_wp2; go_ret; exact ⟨rfl, rfl⟩)
  · have n1 : (k == 1) = false := by simp; omega
    have n2 : (k == 2) = false := by simp; omega
    have n3 : (k == 3) = false := by simp; omega
    have n4 : (k == 4) = false := by simp; omega
    have n5 : (k == 5) = false := by simp; omega
    have n6 : (k == 6) = false := by simp; omega
    have n7 : (k == 7) = false := by simp; omega
    have n8 : (k == 8) = false := by simp; omega
    have n9 : (k == 9) = false := by simp; omega
    have n10 : (k == 10) = false := by simp; omega
    have e : Hid (us k = 0) := by
      show us k = 0
      unfold us
      rw [if_neg (by omega), if_neg (by omega), if_neg (by omega), if_neg (by omega), if_neg (by omega), if_neg (by omega)]
    clear h
    go_enter Try.func37, Try.ntmps37
    go_wp2
    go_ret
    exact ⟨by rw [e.out]; rfl, rfl⟩
set_option maxRecDepth 4000 in
set_option maxHeartbeats 400000 in
theorem lay_ok (v : Value) (n s base : Nat) (f : Nat → Int) (x : Int) (w : World) (ho : By.Own w base v n f) (hs : s ≤ 8) (hn : n ≤ 140737488355000) (hb : base ≤ w.heap.size) :
    Calls Try.prog 35 #[v, .int .i64 x, .int .i64 s] w fun e w' => ∃ v', e = .returned v' ∧ By.Own w' base v' (n + s) (cat n f (be s x)) ∧ Below base w w' := by
  obtain ⟨i0, hi, hz0, hz1, hz2⟩ := info_parts info5
  have S : Hid (By.Own w base v (n + 0) (cat n f (be s x))) := own_congr ho (cat_bound ho.1 (be_bound s x)) (fun i hi => (cat_lt hi).symm)
  have HB := hid hb
  clear ho hb
  go_enter Try.func35, Try.ntmps35
  go_wp2
  go_loopw [0, 7] (fun v i wr => ∃ k : Nat, k ≤ s ∧ i = .int .i64 ((s : Int) - 1 - k) ∧ By.Own wr base v (n + k) (cat n f (be s x)) ∧ Below base w wr ∧ base ≤ wr.heap.size) (fun _ i _ => (intOf i + 1).toNat)
  case atStart => exact ⟨0, Nat.zero_le _, by simp, S.out, Below.refl _ _, HB.out⟩
  case round =>
    obtain ⟨k, hk, rfl, hown, hbel, hsz⟩ := hrel
    have HO := hid hown
    have HZ := hid hsz
    have HL := hid hbel
    clear hown hbel hsz S HB
    by_cases hlt : k < s
    · have g1 : (0 : Int) ≤ (s : Int) - 1 - k := by omega
      have EB := hid (byte_be s k x hlt hs)
      go_wp2_with (at_builtin; rw [EB.out]; go_must (refine wpList_append_own _ rfl _ _ 24 rfl base 5 i0 (.int .u8 0) 1 1 Try.underlying24 hi hz0 hz1 hz2 rfl (by decide) _ _ _ rfl (HO.out.2.alloc _) ⟨_, 0, none⟩ 1 1 [.int .u8 (be s x k)] rfl rfl (cell_one_new _ _ _) ?c2 ?c3 ?c4 ?c5 ?_))
      case c2 => intro u hu; simp at hu; subst hu; rfl
      case c3 => simp [maxLen]; omega
      case c4 => have h9 := HZ.out; omega
      case c5 => have h9 := HZ.out; simp; omega
      intro v' w1 hown hgrow _
      have R : Hid (By.Own w1 base v' (n + (k + 1)) (cat n f (be s x))) := ⟨HO.out.1, by rw [← Nat.add_assoc, ← cat_snoc]; exact hown⟩
      have RB := hid (below_push HL.out HZ.out HO.out hgrow)
      have RZ : Hid (base ≤ w1.heap.size) := Nat.le_trans (Nat.le_trans HZ.out (by simp)) hgrow.size
      clear hown hgrow HO HL HZ EB
      go_wp2
      go_roundw
      case rel => exact ⟨k + 1, by omega, by go_num, R.out, RB.out, RZ.out⟩
      case measure => simp [intOf]; omega
    · have g1 : ¬ (0 : Int) ≤ (s : Int) - 1 - k := by omega
      go_wp2
      go_ret
      obtain rfl : k = s := by omega
      exact ⟨_, rfl, HO.out, HL.out⟩
set_option maxRecDepth 4000 in
set_option maxHeartbeats 400000 in
theorem number_ok (s : Nat) (x : Int) (w : World) (hs : s ≤ 8) :
    Calls Try.prog 36 #[.int .u64 (IntKind.u64.wrap x), .int .i64 s] w fun e w' => ∃ v', e = .returned v' ∧ By.Own w' w.heap.size v' s (be s x) ∧ Below w.heap.size w w' := by
  obtain ⟨i0, hi, hz0, hz1, hz2⟩ := info_parts info5
  go_enter Try.func36, Try.ntmps36
  go_wp2
  go_loopw [5, 6] (fun v i wr => ∃ k : Nat, k ≤ s ∧ i = .int .i64 ((s : Int) - 1 - k) ∧ By.Own wr w.heap.size v (0 + k) (cat 0 (fun _ => 0) (be s x)) ∧ Below w.heap.size w wr ∧ w.heap.size ≤ wr.heap.size) (fun _ i _ => (intOf i + 1).toNat)
  case atStart => exact ⟨0, Nat.zero_le _, by simp, own_nil _ _ _ (cat_bound (fun _ => by decide) (be_bound s x)), Below.refl _ _, Nat.le_refl _⟩
  case round =>
    obtain ⟨k, hk, rfl, hown, hbel, hsz⟩ := hrel
    have HO := hid hown
    have HZ := hid hsz
    have HL := hid hbel
    clear hown hbel hsz
    by_cases hlt : k < s
    · have g1 : (0 : Int) ≤ (s : Int) - 1 - k := by omega
      have EB := hid (byte_be s k x hlt hs)
      go_wp2_with (at_builtin; rw [EB.out]; go_must (refine wpList_append_own _ rfl _ _ 24 rfl w.heap.size 5 i0 (.int .u8 0) 1 1 Try.underlying24 hi hz0 hz1 hz2 rfl (by decide) _ _ _ rfl (HO.out.2.alloc _) ⟨_, 0, none⟩ 1 1 [.int .u8 (be s x k)] rfl rfl (cell_one_new _ _ _) ?c2 ?c3 ?c4 ?c5 ?_))
      case c2 => intro u hu; simp at hu; subst hu; rfl
      case c3 => simp [maxLen]; omega
      case c4 => have h9 := HZ.out; omega
      case c5 => have h9 := HZ.out; simp; omega
      intro v' w1 hown hgrow _
      have R : Hid (By.Own w1 w.heap.size v' (0 + (k + 1)) (cat 0 (fun _ => 0) (be s x))) := ⟨HO.out.1, by have := cat_snoc 0 k (fun _ => 0) (be s x); rw [show 0 + (k + 1) = 0 + k + 1 by omega, ← this]; simpa only [Nat.zero_add] using hown⟩
      have RB := hid (below_push HL.out HZ.out HO.out hgrow)
      have RZ : Hid (w.heap.size ≤ w1.heap.size) := Nat.le_trans (Nat.le_trans HZ.out (by simp)) hgrow.size
      clear hown hgrow HO HL HZ EB
      go_wp2
      go_roundw
      case rel => exact ⟨k + 1, by omega, by go_num, R.out, RB.out, RZ.out⟩
      case measure => simp [intOf]; omega
    · have g1 : ¬ (0 : Int) ≤ (s : Int) - 1 - k := by omega
      go_wp2
      go_ret
      obtain rfl : k = s := by omega
      exact ⟨_, rfl, own_congr (by have := HO.out; rwa [Nat.zero_add] at this) (be_bound k x) (fun i _ => cat_ge (Nat.zero_le _)), HL.out⟩
end Go.Proofs.Ytnadpglfliiplaa.Ou
