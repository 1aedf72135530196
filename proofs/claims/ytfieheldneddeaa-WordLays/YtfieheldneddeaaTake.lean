/- What the functions that take a word out of a list of bytes answer: the code's (in four types, either way) and the document's: contracts over this seat's program, for every list, place and world. -/
import Derived.Test.YtfieheldneddeaaWords
import Derived.Test.YtfieheldneddeaaMem
namespace Go.Proofs.Ytfieheldneddeaa
open Go.ChangeShapes Go.WideShapes Go.ChangeAt Go.RowKit

theorem or_be32 (p b : Int) (h0 : 0 ≤ p) (h1 : p < 16777216) (b0 : 0 ≤ b) (b1 : b < 256) : bits .or .u32 (p * 256 % 4294967296) b = p * 256 + b := by
  obtain ⟨P, rfl⟩ := Int.eq_ofNat_of_zero_le h0
  obtain ⟨B, rfl⟩ := Int.eq_ofNat_of_zero_le b0
  have e : (P : Int) * 256 % 4294967296 = ((P * 256 : Nat) : Int) := by omega
  rw [e, u32_or_nat _ _ (by omega) (by omega), nat_join 8 _ _ (by omega) (by omega)]
  omega
theorem or_be64 (p b : Int) (h0 : 0 ≤ p) (h1 : p < 72057594037927936) (b0 : 0 ≤ b) (b1 : b < 256) : bits .or .u64 (p * 256 % 18446744073709551616) b = p * 256 + b := by
  obtain ⟨P, rfl⟩ := Int.eq_ofNat_of_zero_le h0
  obtain ⟨B, rfl⟩ := Int.eq_ofNat_of_zero_le b0
  have e : (P : Int) * 256 % 18446744073709551616 = ((P * 256 : Nat) : Int) := by omega
  rw [e, u64_or_nat _ _ (by omega) (by omega), nat_join 8 _ _ (by omega) (by omega)]
  omega
theorem pow256 (k : Nat) : (256 : Nat) ^ k = 2 ^ (8 * k) := by rw [Nat.pow_mul]
theorem or_le (p b : Nat) (k : Nat) (h1 : p < 256 ^ k) : p ||| b * 256 ^ k = p + b * 256 ^ k := by
  rw [Nat.or_comm, pow256, nat_join (8 * k) _ _ (Nat.mul_mod_left _ _) (by rw [← pow256]; exact h1)]
  omega
theorem or_le32 (p b : Int) (k : Nat) (hk : k < 4) (h0 : 0 ≤ p) (h1 : p < 256 ^ k) (b0 : 0 ≤ b) (b1 : b < 256) : bits .or .u32 p (b * 2 ^ (8 * k) % 4294967296) = p + b * 256 ^ k := by
  obtain ⟨P, rfl⟩ := Int.eq_ofNat_of_zero_le h0
  obtain ⟨B, rfl⟩ := Int.eq_ofNat_of_zero_le b0
  have hp : P < 256 ^ k := by
    have e : ((256 ^ k : Nat) : Int) = 256 ^ k := Int.natCast_pow 256 k
    omega
  have hle : 256 ^ k * 256 ≤ 256 ^ 4 := by rw [← Nat.pow_succ]; exact Nat.pow_le_pow_right (by omega) hk
  have hB : B * 256 ^ k < 4294967296 := by
    have h3 : B * 256 ^ k < 256 * 256 ^ k := Nat.mul_lt_mul_of_pos_right (by omega) (Nat.pow_pos (by omega))
    omega
  have e1 : (B : Int) * 2 ^ (8 * k) = ((B * 256 ^ k : Nat) : Int) := by rw [pow256, Int.natCast_mul, Int.natCast_pow]; rfl
  have e2 : (P : Int) + (B : Int) * 256 ^ k = ((P + B * 256 ^ k : Nat) : Int) := by rw [Int.natCast_add, Int.natCast_mul, Int.natCast_pow]; rfl
  rw [e1, e2, Int.emod_eq_of_lt (by omega) (by omega), u32_or_nat _ _ (by omega) hB, or_le P B k hp]
theorem or_le64 (p b : Int) (k : Nat) (hk : k < 8) (h0 : 0 ≤ p) (h1 : p < 256 ^ k) (b0 : 0 ≤ b) (b1 : b < 256) : bits .or .u64 p (b * 2 ^ (8 * k) % 18446744073709551616) = p + b * 256 ^ k := by
  obtain ⟨P, rfl⟩ := Int.eq_ofNat_of_zero_le h0
  obtain ⟨B, rfl⟩ := Int.eq_ofNat_of_zero_le b0
  have hp : P < 256 ^ k := by
    have e : ((256 ^ k : Nat) : Int) = 256 ^ k := Int.natCast_pow 256 k
    omega
  have hle : 256 ^ k * 256 ≤ 256 ^ 8 := by rw [← Nat.pow_succ]; exact Nat.pow_le_pow_right (by omega) hk
  have hB : B * 256 ^ k < 18446744073709551616 := by
    have h3 : B * 256 ^ k < 256 * 256 ^ k := Nat.mul_lt_mul_of_pos_right (by omega) (Nat.pow_pos (by omega))
    omega
  have e1 : (B : Int) * 2 ^ (8 * k) = ((B * 256 ^ k : Nat) : Int) := by rw [pow256, Int.natCast_mul, Int.natCast_pow]; rfl
  have e2 : (P : Int) + (B : Int) * 256 ^ k = ((P + B * 256 ^ k : Nat) : Int) := by rw [Int.natCast_add, Int.natCast_mul, Int.natCast_pow]; rfl
  rw [e1, e2, Int.emod_eq_of_lt (by omega) (by omega), u64_or_nat _ _ (by omega) hB, or_le P B k hp]
theorem pow_le_of (k m : Nat) (h : k ≤ m) : (256 : Int) ^ k ≤ 256 ^ m := by
  have e : ∀ j : Nat, ((256 ^ j : Nat) : Int) = 256 ^ j := fun j => Int.natCast_pow 256 j
  have := Nat.pow_le_pow_right (n := 256) (by omega) h
  have h1 := e k
  have h2 := e m
  omega
theorem BE_zero (k : Nat) : BE (fun _ => 0) k = 0 := by
  induction k with
  | zero => rfl
  | succ k ih => simp [BE, ih]
theorem BE_rev4 (g : Nat → Int) : BE (fun j => g (3 - j)) 4 = LE g 4 := by simp [BE, LE]; omega
theorem BE_rev8 (g : Nat → Int) : BE (fun j => g (7 - j)) 8 = LE g 8 := by simp [BE, LE]; omega
theorem BE_congr (g h : Nat → Int) (k : Nat) (e : ∀ i, i < k → g i = h i) : BE g k = BE h k := by
  induction k with
  | zero => rfl
  | succ k ih => simp only [BE]; rw [ih (fun i hi => e i (by omega)), e k (by omega)]
theorem LE_congr (g h : Nat → Int) (k : Nat) (e : ∀ i, i < k → g i = h i) : LE g k = LE h k := by
  induction k with
  | zero => rfl
  | succ k ih => simp only [LE]; rw [ih (fun i hi => e i (by omega)), e k (by omega)]
set_option maxHeartbeats 400000 in
theorem byteBehind_any (v : Value) (n : Nat) (f : Nat → Int) (at' i : Int) (w : World) (hr : RB w v n f) (hn : n ≤ 140737488355328) (h0 : 0 ≤ i) (h7 : i ≤ 7) (a0 : -9223372036854775808 ≤ at') (a1 : at' < 9223372036854775808) :
    Calls Try.prog 53 #[v, .int .i64 at', .int .i64 i] w fun e w' => e = .returned (.int .u8 (Byt f n (at' + i))) ∧ w' = w := by
  obtain ⟨hf, a, cap, rfl, h1, h2, hc⟩ := hr
  by_cases c1 : at' < -i
  · rw [Byt_out f n _ (by omega)]
    clear hc hf
    go_enter Try.func53, Try.ntmps53
    go_wp2
    go_ret
    exact ⟨rfl, rfl⟩
  · by_cases c2 : (n : Int) - i ≤ at'
    · rw [Byt_out f n _ (by omega)]
      clear hc hf
      go_enter Try.func53, Try.ntmps53
      go_wp2
      go_ret
      exact ⟨rfl, rfl⟩
    · rcases hc with hz | ⟨b, off, rfl, hc⟩
      · omega
      · rw [Byt_in f n _ (by omega) (by omega)]
        have hcell := hc (at' + i).toNat (by omega)
        have hp0 : 0 ≤ at' + i := by omega
        have hp1 : at' + i < n := by omega
        clear hc hf
        go_enter Try.func53, Try.ntmps53
        go_wp2
        go_ret
        exact ⟨rfl, rfl⟩

set_option maxHeartbeats 400000 in
theorem take36_go (v : Value) (n : Nat) (f : Nat → Int) (at' : Int) (w : World) (hr : RB w v n f) (hn : n ≤ 140737488355328) (a0 : -9223372036854775808 ≤ at') (a1 : at' < 9223372036854775808)
    (P : Nat → Int) (hP0 : P 0 = 0) (hP : ∀ k, k ≤ 4 → 0 ≤ P k ∧ P k < 4294967296) (hst : Hid (∀ k, k < 4 → bits .or .u32 (P k * 256 % 4294967296) (Byt f n (at' + k)) = P (k + 1))) :
    Calls Try.prog 36 #[v, .int .i64 at'] w fun e w' => e = .returned (.int .u32 (P 4)) ∧ w' = w := by
  have hB := fun i => Byt_bound f n (at' + i) hr.1
  have HR : Hid (RB w v n f) := hr
  clear hr
  go_enter Try.func36, Try.ntmps36
  go_wp2_with (go_at_call 49; refine (size49 _).mono ?_; rintro e w' ⟨rfl, rfl⟩)
  go_loop [5, 8] (fun y i => ∃ k : Nat, k ≤ 4 ∧ i = .int .i64 k ∧ y = .int .u32 (P k)) (fun _ i => 4 - (intOf i).toNat)
  case atStart => exact ⟨0, Nat.zero_le _, rfl, by rw [hP0]⟩
  case round =>
    obtain ⟨k, hk, rfl, rfl⟩ := hrel
    have hb := hP k hk
    have hB := hB k
    clear hP hP0
    by_cases hlt : k < 4
    · go_wp2_with (go_at_call 53; refine (byteBehind_any _ _ f _ _ _ HR.out hn (by omega) (by omega) a0 a1).mono ?_; rintro e w' ⟨rfl, rfl⟩)
      exact ⟨⟨k + 1, by omega, by go_num, congrArg (Value.int IntKind.u32) (hst.out k hlt)⟩, by simp [intOf]; omega⟩
    · go_wp2
      go_ret
      exact ⟨by rw [show k = 4 from by omega]; rfl, rfl⟩
theorem take36 (v : Value) (n : Nat) (f : Nat → Int) (at' : Int) (w : World) (hr : RB w v n f) (hn : n ≤ 140737488355328) (a0 : -9223372036854775808 ≤ at') (a1 : at' < 9223372036854775808) :
    Calls Try.prog 36 #[v, .int .i64 at'] w fun e w' => e = .returned (.int .u32 (BE (fun i => Byt f n (at' + i)) 4)) ∧ w' = w := by
  have hB := fun i : Nat => Byt_bound f n (at' + i) hr.1
  have hb := fun k => BE_bound (fun i => Byt f n (at' + i)) hB k
  refine take36_go v n f at' w hr hn a0 a1 (BE (fun i => Byt f n (at' + i))) rfl (fun k hk => ⟨(hb k).1, ?_⟩) ?_
  · have h1 := hb k
    have h2 := pow_le_of k 4 hk
    omega
  · intro k hk
    have h1 := hb k
    have h2 := pow_le_of k 3 (by omega)
    exact or_be32 _ _ h1.1 (by omega) (hB k).1 (hB k).2

set_option maxHeartbeats 400000 in
theorem take45_go (v : Value) (n : Nat) (f : Nat → Int) (at' : Int) (w : World) (hr : RB w v n f) (hn : n ≤ 140737488355328) (a0 : -9223372036854775808 ≤ at') (a1 : at' < 9223372036854775808)
    (P : Nat → Int) (hP0 : P 0 = 0) (hP : ∀ k, k ≤ 4 → 0 ≤ P k ∧ P k < 4294967296) (hst : Hid (∀ k, k < 4 → bits .or .u32 (P k * 256 % 4294967296) (Byt f n (at' + k)) = P (k + 1))) :
    Calls Try.prog 45 #[v, .int .i64 at'] w fun e w' => e = .returned (.int .u32 (P 4)) ∧ w' = w := by
  have hB := fun i => Byt_bound f n (at' + i) hr.1
  have HR : Hid (RB w v n f) := hr
  clear hr
  go_enter Try.func45, Try.ntmps45
  go_wp2_with (go_at_call 50; refine (size50 _).mono ?_; rintro e w' ⟨rfl, rfl⟩)
  go_loop [5, 8] (fun y i => ∃ k : Nat, k ≤ 4 ∧ i = .int .i64 k ∧ y = .int .u32 (P k)) (fun _ i => 4 - (intOf i).toNat)
  case atStart => exact ⟨0, Nat.zero_le _, rfl, by rw [hP0]⟩
  case round =>
    obtain ⟨k, hk, rfl, rfl⟩ := hrel
    have hb := hP k hk
    have hB := hB k
    clear hP hP0
    by_cases hlt : k < 4
    · go_wp2_with (go_at_call 53; refine (byteBehind_any _ _ f _ _ _ HR.out hn (by omega) (by omega) a0 a1).mono ?_; rintro e w' ⟨rfl, rfl⟩)
      exact ⟨⟨k + 1, by omega, by go_num, congrArg (Value.int IntKind.u32) (hst.out k hlt)⟩, by simp [intOf]; omega⟩
    · go_wp2
      go_ret
      exact ⟨by rw [show k = 4 from by omega]; rfl, rfl⟩
theorem take45 (v : Value) (n : Nat) (f : Nat → Int) (at' : Int) (w : World) (hr : RB w v n f) (hn : n ≤ 140737488355328) (a0 : -9223372036854775808 ≤ at') (a1 : at' < 9223372036854775808) :
    Calls Try.prog 45 #[v, .int .i64 at'] w fun e w' => e = .returned (.int .u32 (BE (fun i => Byt f n (at' + i)) 4)) ∧ w' = w := by
  have hB := fun i : Nat => Byt_bound f n (at' + i) hr.1
  have hb := fun k => BE_bound (fun i => Byt f n (at' + i)) hB k
  refine take45_go v n f at' w hr hn a0 a1 (BE (fun i => Byt f n (at' + i))) rfl (fun k hk => ⟨(hb k).1, ?_⟩) ?_
  · have h1 := hb k
    have h2 := pow_le_of k 4 hk
    omega
  · intro k hk
    have h1 := hb k
    have h2 := pow_le_of k 3 (by omega)
    exact or_be32 _ _ h1.1 (by omega) (hB k).1 (hB k).2

set_option maxHeartbeats 400000 in
theorem take34_go (v : Value) (n : Nat) (f : Nat → Int) (at' : Int) (w : World) (hr : RB w v n f) (hn : n ≤ 140737488355328) (a0 : -9223372036854775808 ≤ at') (a1 : at' < 9223372036854775808)
    (P : Nat → Int) (hP0 : P 0 = 0) (hP : ∀ k, k ≤ 8 → 0 ≤ P k ∧ P k < 18446744073709551616) (hst : Hid (∀ k, k < 8 → bits .or .u64 (P k * 256 % 18446744073709551616) (Byt f n (at' + k)) = P (k + 1))) :
    Calls Try.prog 34 #[v, .int .i64 at'] w fun e w' => e = .returned (.int .u64 (P 8)) ∧ w' = w := by
  have hB := fun i => Byt_bound f n (at' + i) hr.1
  have HR : Hid (RB w v n f) := hr
  clear hr
  go_enter Try.func34, Try.ntmps34
  go_wp2_with (go_at_call 51; refine (size51 _).mono ?_; rintro e w' ⟨rfl, rfl⟩)
  go_loop [5, 8] (fun y i => ∃ k : Nat, k ≤ 8 ∧ i = .int .i64 k ∧ y = .int .u64 (P k)) (fun _ i => 8 - (intOf i).toNat)
  case atStart => exact ⟨0, Nat.zero_le _, rfl, by rw [hP0]⟩
  case round =>
    obtain ⟨k, hk, rfl, rfl⟩ := hrel
    have hb := hP k hk
    have hB := hB k
    clear hP hP0
    by_cases hlt : k < 8
    · go_wp2_with (go_at_call 53; refine (byteBehind_any _ _ f _ _ _ HR.out hn (by omega) (by omega) a0 a1).mono ?_; rintro e w' ⟨rfl, rfl⟩)
      exact ⟨⟨k + 1, by omega, by go_num, congrArg (Value.int IntKind.u64) (hst.out k hlt)⟩, by simp [intOf]; omega⟩
    · go_wp2
      go_ret
      exact ⟨by rw [show k = 8 from by omega]; rfl, rfl⟩
theorem take34 (v : Value) (n : Nat) (f : Nat → Int) (at' : Int) (w : World) (hr : RB w v n f) (hn : n ≤ 140737488355328) (a0 : -9223372036854775808 ≤ at') (a1 : at' < 9223372036854775808) :
    Calls Try.prog 34 #[v, .int .i64 at'] w fun e w' => e = .returned (.int .u64 (BE (fun i => Byt f n (at' + i)) 8)) ∧ w' = w := by
  have hB := fun i : Nat => Byt_bound f n (at' + i) hr.1
  have hb := fun k => BE_bound (fun i => Byt f n (at' + i)) hB k
  refine take34_go v n f at' w hr hn a0 a1 (BE (fun i => Byt f n (at' + i))) rfl (fun k hk => ⟨(hb k).1, ?_⟩) ?_
  · have h1 := hb k
    have h2 := pow_le_of k 8 hk
    omega
  · intro k hk
    have h1 := hb k
    have h2 := pow_le_of k 7 (by omega)
    exact or_be64 _ _ h1.1 (by omega) (hB k).1 (hB k).2

set_option maxHeartbeats 400000 in
theorem take46_go (v : Value) (n : Nat) (f : Nat → Int) (at' : Int) (w : World) (hr : RB w v n f) (hn : n ≤ 140737488355328) (a0 : -9223372036854775808 ≤ at') (a1 : at' < 9223372036854775808)
    (P : Nat → Int) (hP0 : P 0 = 0) (hP : ∀ k, k ≤ 8 → 0 ≤ P k ∧ P k < 18446744073709551616) (hst : Hid (∀ k, k < 8 → bits .or .u64 (P k * 256 % 18446744073709551616) (Byt f n (at' + k)) = P (k + 1))) :
    Calls Try.prog 46 #[v, .int .i64 at'] w fun e w' => e = .returned (.int .u64 (P 8)) ∧ w' = w := by
  have hB := fun i => Byt_bound f n (at' + i) hr.1
  have HR : Hid (RB w v n f) := hr
  clear hr
  go_enter Try.func46, Try.ntmps46
  go_wp2_with (go_at_call 52; refine (size52 _).mono ?_; rintro e w' ⟨rfl, rfl⟩)
  go_loop [5, 8] (fun y i => ∃ k : Nat, k ≤ 8 ∧ i = .int .i64 k ∧ y = .int .u64 (P k)) (fun _ i => 8 - (intOf i).toNat)
  case atStart => exact ⟨0, Nat.zero_le _, rfl, by rw [hP0]⟩
  case round =>
    obtain ⟨k, hk, rfl, rfl⟩ := hrel
    have hb := hP k hk
    have hB := hB k
    clear hP hP0
    by_cases hlt : k < 8
    · go_wp2_with (go_at_call 53; refine (byteBehind_any _ _ f _ _ _ HR.out hn (by omega) (by omega) a0 a1).mono ?_; rintro e w' ⟨rfl, rfl⟩)
      exact ⟨⟨k + 1, by omega, by go_num, congrArg (Value.int IntKind.u64) (hst.out k hlt)⟩, by simp [intOf]; omega⟩
    · go_wp2
      go_ret
      exact ⟨by rw [show k = 8 from by omega]; rfl, rfl⟩
theorem take46 (v : Value) (n : Nat) (f : Nat → Int) (at' : Int) (w : World) (hr : RB w v n f) (hn : n ≤ 140737488355328) (a0 : -9223372036854775808 ≤ at') (a1 : at' < 9223372036854775808) :
    Calls Try.prog 46 #[v, .int .i64 at'] w fun e w' => e = .returned (.int .u64 (BE (fun i => Byt f n (at' + i)) 8)) ∧ w' = w := by
  have hB := fun i : Nat => Byt_bound f n (at' + i) hr.1
  have hb := fun k => BE_bound (fun i => Byt f n (at' + i)) hB k
  refine take46_go v n f at' w hr hn a0 a1 (BE (fun i => Byt f n (at' + i))) rfl (fun k hk => ⟨(hb k).1, ?_⟩) ?_
  · have h1 := hb k
    have h2 := pow_le_of k 8 hk
    omega
  · intro k hk
    have h1 := hb k
    have h2 := pow_le_of k 7 (by omega)
    exact or_be64 _ _ h1.1 (by omega) (hB k).1 (hB k).2

set_option maxHeartbeats 400000 in
theorem take37_go (v : Value) (n : Nat) (f : Nat → Int) (at' : Int) (w : World) (hr : RB w v n f) (hn : n ≤ 140737488355328) (a0 : -9223372036854775808 ≤ at') (a1 : at' < 9223372036854775808)
    (P : Nat → Int) (hP0 : P 0 = 0) (hP : ∀ k, k ≤ 4 → 0 ≤ P k ∧ P k < 4294967296) (hst : Hid (∀ k, k < 4 → bits .or .u32 (P k) (Byt f n (at' + k) * 2 ^ (8 * k) % 4294967296) = P (k + 1))) :
    Calls Try.prog 37 #[v, .int .i64 at'] w fun e w' => e = .returned (.int .u32 (P 4)) ∧ w' = w := by
  have hB := fun i => Byt_bound f n (at' + i) hr.1
  have HR : Hid (RB w v n f) := hr
  clear hr
  go_enter Try.func37, Try.ntmps37
  go_wp2_with (go_at_call 49; refine (size49 _).mono ?_; rintro e w' ⟨rfl, rfl⟩)
  go_loop [5, 8] (fun y i => ∃ k : Nat, k ≤ 4 ∧ i = .int .i64 k ∧ y = .int .u32 (P k)) (fun _ i => 4 - (intOf i).toNat)
  case atStart => exact ⟨0, Nat.zero_le _, rfl, by rw [hP0]⟩
  case round =>
    obtain ⟨k, hk, rfl, rfl⟩ := hrel
    have hb := hP k hk
    have hB := hB k
    clear hP hP0
    by_cases hlt : k < 4
    · go_wp2_with (go_at_call 53; refine (byteBehind_any _ _ f _ _ _ HR.out hn (by omega) (by omega) a0 a1).mono ?_; rintro e w' ⟨rfl, rfl⟩)
      exact ⟨⟨k + 1, by omega, by go_num, congrArg (Value.int IntKind.u32) (hst.out k hlt)⟩, by simp [intOf]; omega⟩
    · go_wp2
      go_ret
      exact ⟨by rw [show k = 4 from by omega]; rfl, rfl⟩
theorem take37 (v : Value) (n : Nat) (f : Nat → Int) (at' : Int) (w : World) (hr : RB w v n f) (hn : n ≤ 140737488355328) (a0 : -9223372036854775808 ≤ at') (a1 : at' < 9223372036854775808) :
    Calls Try.prog 37 #[v, .int .i64 at'] w fun e w' => e = .returned (.int .u32 (LE (fun i => Byt f n (at' + i)) 4)) ∧ w' = w := by
  have hB := fun i : Nat => Byt_bound f n (at' + i) hr.1
  have hb := fun k => LE_bound (fun i => Byt f n (at' + i)) hB k
  refine take37_go v n f at' w hr hn a0 a1 (LE (fun i => Byt f n (at' + i))) rfl (fun k hk => ⟨(hb k).1, ?_⟩) ?_
  · have h1 := hb k
    have h2 := pow_le_of k 4 hk
    omega
  · intro k hk
    exact or_le32 _ _ k hk (hb k).1 (hb k).2 (hB k).1 (hB k).2

set_option maxHeartbeats 400000 in
theorem take47_go (v : Value) (n : Nat) (f : Nat → Int) (at' : Int) (w : World) (hr : RB w v n f) (hn : n ≤ 140737488355328) (a0 : -9223372036854775808 ≤ at') (a1 : at' < 9223372036854775808)
    (P : Nat → Int) (hP0 : P 0 = 0) (hP : ∀ k, k ≤ 4 → 0 ≤ P k ∧ P k < 4294967296) (hst : Hid (∀ k, k < 4 → bits .or .u32 (P k) (Byt f n (at' + k) * 2 ^ (8 * k) % 4294967296) = P (k + 1))) :
    Calls Try.prog 47 #[v, .int .i64 at'] w fun e w' => e = .returned (.int .u32 (P 4)) ∧ w' = w := by
  have hB := fun i => Byt_bound f n (at' + i) hr.1
  have HR : Hid (RB w v n f) := hr
  clear hr
  go_enter Try.func47, Try.ntmps47
  go_wp2_with (go_at_call 50; refine (size50 _).mono ?_; rintro e w' ⟨rfl, rfl⟩)
  go_loop [5, 8] (fun y i => ∃ k : Nat, k ≤ 4 ∧ i = .int .i64 k ∧ y = .int .u32 (P k)) (fun _ i => 4 - (intOf i).toNat)
  case atStart => exact ⟨0, Nat.zero_le _, rfl, by rw [hP0]⟩
  case round =>
    obtain ⟨k, hk, rfl, rfl⟩ := hrel
    have hb := hP k hk
    have hB := hB k
    clear hP hP0
    by_cases hlt : k < 4
    · go_wp2_with (go_at_call 53; refine (byteBehind_any _ _ f _ _ _ HR.out hn (by omega) (by omega) a0 a1).mono ?_; rintro e w' ⟨rfl, rfl⟩)
      exact ⟨⟨k + 1, by omega, by go_num, congrArg (Value.int IntKind.u32) (hst.out k hlt)⟩, by simp [intOf]; omega⟩
    · go_wp2
      go_ret
      exact ⟨by rw [show k = 4 from by omega]; rfl, rfl⟩
theorem take47 (v : Value) (n : Nat) (f : Nat → Int) (at' : Int) (w : World) (hr : RB w v n f) (hn : n ≤ 140737488355328) (a0 : -9223372036854775808 ≤ at') (a1 : at' < 9223372036854775808) :
    Calls Try.prog 47 #[v, .int .i64 at'] w fun e w' => e = .returned (.int .u32 (LE (fun i => Byt f n (at' + i)) 4)) ∧ w' = w := by
  have hB := fun i : Nat => Byt_bound f n (at' + i) hr.1
  have hb := fun k => LE_bound (fun i => Byt f n (at' + i)) hB k
  refine take47_go v n f at' w hr hn a0 a1 (LE (fun i => Byt f n (at' + i))) rfl (fun k hk => ⟨(hb k).1, ?_⟩) ?_
  · have h1 := hb k
    have h2 := pow_le_of k 4 hk
    omega
  · intro k hk
    exact or_le32 _ _ k hk (hb k).1 (hb k).2 (hB k).1 (hB k).2

set_option maxHeartbeats 400000 in
theorem take35_go (v : Value) (n : Nat) (f : Nat → Int) (at' : Int) (w : World) (hr : RB w v n f) (hn : n ≤ 140737488355328) (a0 : -9223372036854775808 ≤ at') (a1 : at' < 9223372036854775808)
    (P : Nat → Int) (hP0 : P 0 = 0) (hP : ∀ k, k ≤ 8 → 0 ≤ P k ∧ P k < 18446744073709551616) (hst : Hid (∀ k, k < 8 → bits .or .u64 (P k) (Byt f n (at' + k) * 2 ^ (8 * k) % 18446744073709551616) = P (k + 1))) :
    Calls Try.prog 35 #[v, .int .i64 at'] w fun e w' => e = .returned (.int .u64 (P 8)) ∧ w' = w := by
  have hB := fun i => Byt_bound f n (at' + i) hr.1
  have HR : Hid (RB w v n f) := hr
  clear hr
  go_enter Try.func35, Try.ntmps35
  go_wp2_with (go_at_call 51; refine (size51 _).mono ?_; rintro e w' ⟨rfl, rfl⟩)
  go_loop [5, 8] (fun y i => ∃ k : Nat, k ≤ 8 ∧ i = .int .i64 k ∧ y = .int .u64 (P k)) (fun _ i => 8 - (intOf i).toNat)
  case atStart => exact ⟨0, Nat.zero_le _, rfl, by rw [hP0]⟩
  case round =>
    obtain ⟨k, hk, rfl, rfl⟩ := hrel
    have hb := hP k hk
    have hB := hB k
    clear hP hP0
    by_cases hlt : k < 8
    · go_wp2_with (go_at_call 53; refine (byteBehind_any _ _ f _ _ _ HR.out hn (by omega) (by omega) a0 a1).mono ?_; rintro e w' ⟨rfl, rfl⟩)
      exact ⟨⟨k + 1, by omega, by go_num, congrArg (Value.int IntKind.u64) (hst.out k hlt)⟩, by simp [intOf]; omega⟩
    · go_wp2
      go_ret
      exact ⟨by rw [show k = 8 from by omega]; rfl, rfl⟩
theorem take35 (v : Value) (n : Nat) (f : Nat → Int) (at' : Int) (w : World) (hr : RB w v n f) (hn : n ≤ 140737488355328) (a0 : -9223372036854775808 ≤ at') (a1 : at' < 9223372036854775808) :
    Calls Try.prog 35 #[v, .int .i64 at'] w fun e w' => e = .returned (.int .u64 (LE (fun i => Byt f n (at' + i)) 8)) ∧ w' = w := by
  have hB := fun i : Nat => Byt_bound f n (at' + i) hr.1
  have hb := fun k => LE_bound (fun i => Byt f n (at' + i)) hB k
  refine take35_go v n f at' w hr hn a0 a1 (LE (fun i => Byt f n (at' + i))) rfl (fun k hk => ⟨(hb k).1, ?_⟩) ?_
  · have h1 := hb k
    have h2 := pow_le_of k 8 hk
    omega
  · intro k hk
    exact or_le64 _ _ k hk (hb k).1 (hb k).2 (hB k).1 (hB k).2

set_option maxHeartbeats 400000 in
theorem take48_go (v : Value) (n : Nat) (f : Nat → Int) (at' : Int) (w : World) (hr : RB w v n f) (hn : n ≤ 140737488355328) (a0 : -9223372036854775808 ≤ at') (a1 : at' < 9223372036854775808)
    (P : Nat → Int) (hP0 : P 0 = 0) (hP : ∀ k, k ≤ 8 → 0 ≤ P k ∧ P k < 18446744073709551616) (hst : Hid (∀ k, k < 8 → bits .or .u64 (P k) (Byt f n (at' + k) * 2 ^ (8 * k) % 18446744073709551616) = P (k + 1))) :
    Calls Try.prog 48 #[v, .int .i64 at'] w fun e w' => e = .returned (.int .u64 (P 8)) ∧ w' = w := by
  have hB := fun i => Byt_bound f n (at' + i) hr.1
  have HR : Hid (RB w v n f) := hr
  clear hr
  go_enter Try.func48, Try.ntmps48
  go_wp2_with (go_at_call 52; refine (size52 _).mono ?_; rintro e w' ⟨rfl, rfl⟩)
  go_loop [5, 8] (fun y i => ∃ k : Nat, k ≤ 8 ∧ i = .int .i64 k ∧ y = .int .u64 (P k)) (fun _ i => 8 - (intOf i).toNat)
  case atStart => exact ⟨0, Nat.zero_le _, rfl, by rw [hP0]⟩
  case round =>
    obtain ⟨k, hk, rfl, rfl⟩ := hrel
    have hb := hP k hk
    have hB := hB k
    clear hP hP0
    by_cases hlt : k < 8
    · go_wp2_with (go_at_call 53; refine (byteBehind_any _ _ f _ _ _ HR.out hn (by omega) (by omega) a0 a1).mono ?_; rintro e w' ⟨rfl, rfl⟩)
      exact ⟨⟨k + 1, by omega, by go_num, congrArg (Value.int IntKind.u64) (hst.out k hlt)⟩, by simp [intOf]; omega⟩
    · go_wp2
      go_ret
      exact ⟨by rw [show k = 8 from by omega]; rfl, rfl⟩
theorem take48 (v : Value) (n : Nat) (f : Nat → Int) (at' : Int) (w : World) (hr : RB w v n f) (hn : n ≤ 140737488355328) (a0 : -9223372036854775808 ≤ at') (a1 : at' < 9223372036854775808) :
    Calls Try.prog 48 #[v, .int .i64 at'] w fun e w' => e = .returned (.int .u64 (LE (fun i => Byt f n (at' + i)) 8)) ∧ w' = w := by
  have hB := fun i : Nat => Byt_bound f n (at' + i) hr.1
  have hb := fun k => LE_bound (fun i => Byt f n (at' + i)) hB k
  refine take48_go v n f at' w hr hn a0 a1 (LE (fun i => Byt f n (at' + i))) rfl (fun k hk => ⟨(hb k).1, ?_⟩) ?_
  · have h1 := hb k
    have h2 := pow_le_of k 8 hk
    omega
  · intro k hk
    exact or_le64 _ _ k hk (hb k).1 (hb k).2 (hB k).1 (hB k).2

set_option maxHeartbeats 400000 in
theorem refByte_any (v : Value) (n : Nat) (f : Nat → Int) (p : Int) (w : World) (hr : RB w v n f) :
    Calls Try.prog 55 #[v, .int .i64 p] w fun e w' => e = .returned (.int .u8 (Byt f n p)) ∧ w' = w := by
  obtain ⟨hf, a, cap, rfl, h1, h2, hc⟩ := hr
  by_cases c1 : p < 0
  · rw [Byt_out f n _ (by omega)]
    clear hc hf
    go_enter Try.func55, Try.ntmps55
    go_wp2
    go_ret
    exact ⟨rfl, rfl⟩
  · by_cases c2 : (n : Int) ≤ p
    · rw [Byt_out f n _ (by omega)]
      clear hc hf
      go_enter Try.func55, Try.ntmps55
      go_wp2
      go_ret
      exact ⟨rfl, rfl⟩
    · rcases hc with hz | ⟨b, off, rfl, hc⟩
      · omega
      · rw [Byt_in f n _ (by omega) (by omega)]
        have hcell := hc p.toNat (by omega)
        have hp0 : 0 ≤ p := by omega
        have hp1 : p < n := by omega
        clear hc hf
        go_enter Try.func55, Try.ntmps55
        go_wp2
        go_ret
        exact ⟨rfl, rfl⟩

set_option maxHeartbeats 400000 in
theorem ref43_4_go (v : Value) (n : Nat) (f : Nat → Int) (at' : Int) (w : World) (hr : RB w v n f) (a0 : -9223372036854775808 ≤ at') (a1 : at' ≤ 4611686018427387904)
    (P : Nat → Int) (hP0 : P 0 = 0) (hP : ∀ k, k < 4 → 0 ≤ P k ∧ P k < 72057594037927936) (hst : Hid (∀ k, k < 4 → 256 * P k + Byt f n (at' + (k : Int)) = P (k + 1))) :
    Calls Try.prog 43 #[v, .int .i64 at', .int .i64 4] w fun e w' => e = .returned (.int .u64 (P 4)) ∧ w' = w := by
  have hB := fun i => Byt_bound f n (at' + i) hr.1
  have HR : Hid (RB w v n f) := hr
  clear hr
  go_enter Try.func43, Try.ntmps43
  go_wp2
  go_loop [7, 8] (fun y i => ∃ k : Nat, k ≤ 4 ∧ i = .int .i64 k ∧ y = .int .u64 (P k)) (fun _ i => 4 - (intOf i).toNat)
  case atStart => exact ⟨0, Nat.zero_le _, rfl, by rw [hP0]⟩
  case round =>
    obtain ⟨k, hk, rfl, rfl⟩ := hrel
    have hB := hB (k : Int)
    by_cases hlt : k < 4
    · have hb := hP k hlt
      clear hP hP0
      go_wp2_with (go_at_call 55; refine (refByte_any _ _ f _ _ HR.out).mono ?_; rintro e w' ⟨rfl, rfl⟩)
      exact ⟨⟨k + 1, by omega, by go_num, congrArg (Value.int IntKind.u64) (hst.out k hlt)⟩, by simp [intOf]; omega⟩
    · clear hP hP0
      go_wp2
      go_ret
      exact ⟨by rw [show k = 4 from by omega]; rfl, rfl⟩
set_option maxHeartbeats 400000 in
theorem ref43_4_far (v : Value) (at' : Int) (w : World) (a1 : 4611686018427387904 < at') :
    Calls Try.prog 43 #[v, .int .i64 at', .int .i64 4] w fun e w' => e = .returned (.int .u64 0) ∧ w' = w := by
  go_enter Try.func43, Try.ntmps43
  go_wp2
  go_loop [7, 8] (fun y i => ∃ k : Nat, k ≤ 4 ∧ i = .int .i64 k ∧ y = .int .u64 0) (fun _ i => 4 - (intOf i).toNat)
  case atStart => exact ⟨0, Nat.zero_le _, rfl, rfl⟩
  case round =>
    obtain ⟨k, hk, rfl, rfl⟩ := hrel
    by_cases hlt : k < 4
    · go_wp2
      exact ⟨⟨k + 1, by omega, by go_num, rfl⟩, by simp [intOf]; omega⟩
    · go_wp2
      go_ret
      exact ⟨rfl, rfl⟩
theorem ref43_4 (v : Value) (n : Nat) (f : Nat → Int) (at' : Int) (w : World) (hr : RB w v n f) (hn : n ≤ 140737488355328) (a0 : -9223372036854775808 ≤ at') :
    Calls Try.prog 43 #[v, .int .i64 at', .int .i64 4] w fun e w' => e = .returned (.int .u64 (BE (fun i => Byt f n (at' + i)) 4)) ∧ w' = w := by
  have hB := fun i : Nat => Byt_bound f n (at' + i) hr.1
  by_cases h : at' ≤ 4611686018427387904
  · refine ref43_4_go v n f at' w hr a0 h (BE (fun i => Byt f n (at' + i))) rfl (fun k hk => ?_) ?_
    · have h1 := BE_bound (fun i => Byt f n (at' + i)) hB k
      have h2 := pow_le_of k 7 (by omega)
      omega
    · intro k hk
      simp only [BE]
      omega
  · have e : BE (fun i : Nat => Byt f n (at' + i)) 4 = 0 := by
      rw [BE_congr _ (fun _ => 0) 4 (fun i hi => Byt_out f n _ (by omega))]; exact BE_zero _
    rw [e]
    exact ref43_4_far v at' w (by omega)

set_option maxHeartbeats 400000 in
theorem ref44_4_go (v : Value) (n : Nat) (f : Nat → Int) (at' : Int) (w : World) (hr : RB w v n f) (a0 : -9223372036854775808 ≤ at') (a1 : at' ≤ 4611686018427387904)
    (P : Nat → Int) (hP0 : P 0 = 0) (hP : ∀ k, k < 4 → 0 ≤ P k ∧ P k < 72057594037927936) (hst : Hid (∀ k, k < 4 → 256 * P k + Byt f n (at' + (3 - (k : Int))) = P (k + 1))) :
    Calls Try.prog 44 #[v, .int .i64 at', .int .i64 4] w fun e w' => e = .returned (.int .u64 (P 4)) ∧ w' = w := by
  have hB := fun i => Byt_bound f n (at' + i) hr.1
  have HR : Hid (RB w v n f) := hr
  clear hr
  go_enter Try.func44, Try.ntmps44
  go_wp2
  go_loop [7, 8] (fun y i => ∃ k : Nat, k ≤ 4 ∧ i = .int .i64 (3 - (k : Int)) ∧ y = .int .u64 (P k)) (fun _ i => (intOf i + 1).toNat)
  case atStart => exact ⟨0, Nat.zero_le _, by simp, by rw [hP0]⟩
  case round =>
    obtain ⟨k, hk, rfl, rfl⟩ := hrel
    have hB := hB (3 - (k : Int))
    by_cases hlt : k < 4
    · have hb := hP k hlt
      clear hP hP0
      go_wp2_with (go_at_call 55; refine (refByte_any _ _ f _ _ HR.out).mono ?_; rintro e w' ⟨rfl, rfl⟩)
      exact ⟨⟨k + 1, by omega, by go_num, congrArg (Value.int IntKind.u64) (hst.out k hlt)⟩, by simp [intOf]; omega⟩
    · clear hP hP0
      go_wp2
      go_ret
      exact ⟨by rw [show k = 4 from by omega]; rfl, rfl⟩
set_option maxHeartbeats 400000 in
theorem ref44_4_far (v : Value) (at' : Int) (w : World) (a1 : 4611686018427387904 < at') :
    Calls Try.prog 44 #[v, .int .i64 at', .int .i64 4] w fun e w' => e = .returned (.int .u64 0) ∧ w' = w := by
  go_enter Try.func44, Try.ntmps44
  go_wp2
  go_loop [7, 8] (fun y i => ∃ k : Nat, k ≤ 4 ∧ i = .int .i64 (3 - (k : Int)) ∧ y = .int .u64 0) (fun _ i => (intOf i + 1).toNat)
  case atStart => exact ⟨0, Nat.zero_le _, by simp, rfl⟩
  case round =>
    obtain ⟨k, hk, rfl, rfl⟩ := hrel
    by_cases hlt : k < 4
    · go_wp2
      exact ⟨⟨k + 1, by omega, by go_num, rfl⟩, by simp [intOf]; omega⟩
    · go_wp2
      go_ret
      exact ⟨rfl, rfl⟩
theorem ref44_4 (v : Value) (n : Nat) (f : Nat → Int) (at' : Int) (w : World) (hr : RB w v n f) (hn : n ≤ 140737488355328) (a0 : -9223372036854775808 ≤ at') :
    Calls Try.prog 44 #[v, .int .i64 at', .int .i64 4] w fun e w' => e = .returned (.int .u64 (LE (fun i => Byt f n (at' + i)) 4)) ∧ w' = w := by
  have hB := fun i : Nat => Byt_bound f n (at' + i) hr.1
  by_cases h : at' ≤ 4611686018427387904
  · have hB' := fun i : Nat => hB (3 - i)
    rw [← BE_rev4]
    refine ref44_4_go v n f at' w hr a0 h (BE (fun i => Byt f n (at' + ((3 - i : Nat) : Int)))) rfl (fun k hk => ?_) ?_
    · have h1 := BE_bound (fun i => Byt f n (at' + ((3 - i : Nat) : Int))) hB' k
      have h2 := pow_le_of k 7 (by omega)
      omega
    · intro k hk
      simp only [BE]
      rw [show ((3 - k : Nat) : Int) = 3 - (k : Int) by omega]
      omega
  · have e : LE (fun i : Nat => Byt f n (at' + i)) 4 = 0 := by
      rw [← BE_rev4, BE_congr _ (fun _ => 0) 4 (fun i hi => Byt_out f n _ (by omega))]; exact BE_zero _
    rw [e]
    exact ref44_4_far v at' w (by omega)

set_option maxHeartbeats 400000 in
theorem ref43_8_go (v : Value) (n : Nat) (f : Nat → Int) (at' : Int) (w : World) (hr : RB w v n f) (a0 : -9223372036854775808 ≤ at') (a1 : at' ≤ 4611686018427387904)
    (P : Nat → Int) (hP0 : P 0 = 0) (hP : ∀ k, k < 8 → 0 ≤ P k ∧ P k < 72057594037927936) (hst : Hid (∀ k, k < 8 → 256 * P k + Byt f n (at' + (k : Int)) = P (k + 1))) :
    Calls Try.prog 43 #[v, .int .i64 at', .int .i64 8] w fun e w' => e = .returned (.int .u64 (P 8)) ∧ w' = w := by
  have hB := fun i => Byt_bound f n (at' + i) hr.1
  have HR : Hid (RB w v n f) := hr
  clear hr
  go_enter Try.func43, Try.ntmps43
  go_wp2
  go_loop [7, 8] (fun y i => ∃ k : Nat, k ≤ 8 ∧ i = .int .i64 k ∧ y = .int .u64 (P k)) (fun _ i => 8 - (intOf i).toNat)
  case atStart => exact ⟨0, Nat.zero_le _, rfl, by rw [hP0]⟩
  case round =>
    obtain ⟨k, hk, rfl, rfl⟩ := hrel
    have hB := hB (k : Int)
    by_cases hlt : k < 8
    · have hb := hP k hlt
      clear hP hP0
      go_wp2_with (go_at_call 55; refine (refByte_any _ _ f _ _ HR.out).mono ?_; rintro e w' ⟨rfl, rfl⟩)
      exact ⟨⟨k + 1, by omega, by go_num, congrArg (Value.int IntKind.u64) (hst.out k hlt)⟩, by simp [intOf]; omega⟩
    · clear hP hP0
      go_wp2
      go_ret
      exact ⟨by rw [show k = 8 from by omega]; rfl, rfl⟩
set_option maxHeartbeats 400000 in
theorem ref43_8_far (v : Value) (at' : Int) (w : World) (a1 : 4611686018427387904 < at') :
    Calls Try.prog 43 #[v, .int .i64 at', .int .i64 8] w fun e w' => e = .returned (.int .u64 0) ∧ w' = w := by
  go_enter Try.func43, Try.ntmps43
  go_wp2
  go_loop [7, 8] (fun y i => ∃ k : Nat, k ≤ 8 ∧ i = .int .i64 k ∧ y = .int .u64 0) (fun _ i => 8 - (intOf i).toNat)
  case atStart => exact ⟨0, Nat.zero_le _, rfl, rfl⟩
  case round =>
    obtain ⟨k, hk, rfl, rfl⟩ := hrel
    by_cases hlt : k < 8
    · go_wp2
      exact ⟨⟨k + 1, by omega, by go_num, rfl⟩, by simp [intOf]; omega⟩
    · go_wp2
      go_ret
      exact ⟨rfl, rfl⟩
theorem ref43_8 (v : Value) (n : Nat) (f : Nat → Int) (at' : Int) (w : World) (hr : RB w v n f) (hn : n ≤ 140737488355328) (a0 : -9223372036854775808 ≤ at') :
    Calls Try.prog 43 #[v, .int .i64 at', .int .i64 8] w fun e w' => e = .returned (.int .u64 (BE (fun i => Byt f n (at' + i)) 8)) ∧ w' = w := by
  have hB := fun i : Nat => Byt_bound f n (at' + i) hr.1
  by_cases h : at' ≤ 4611686018427387904
  · refine ref43_8_go v n f at' w hr a0 h (BE (fun i => Byt f n (at' + i))) rfl (fun k hk => ?_) ?_
    · have h1 := BE_bound (fun i => Byt f n (at' + i)) hB k
      have h2 := pow_le_of k 7 (by omega)
      omega
    · intro k hk
      simp only [BE]
      omega
  · have e : BE (fun i : Nat => Byt f n (at' + i)) 8 = 0 := by
      rw [BE_congr _ (fun _ => 0) 8 (fun i hi => Byt_out f n _ (by omega))]; exact BE_zero _
    rw [e]
    exact ref43_8_far v at' w (by omega)

set_option maxHeartbeats 400000 in
theorem ref44_8_go (v : Value) (n : Nat) (f : Nat → Int) (at' : Int) (w : World) (hr : RB w v n f) (a0 : -9223372036854775808 ≤ at') (a1 : at' ≤ 4611686018427387904)
    (P : Nat → Int) (hP0 : P 0 = 0) (hP : ∀ k, k < 8 → 0 ≤ P k ∧ P k < 72057594037927936) (hst : Hid (∀ k, k < 8 → 256 * P k + Byt f n (at' + (7 - (k : Int))) = P (k + 1))) :
    Calls Try.prog 44 #[v, .int .i64 at', .int .i64 8] w fun e w' => e = .returned (.int .u64 (P 8)) ∧ w' = w := by
  have hB := fun i => Byt_bound f n (at' + i) hr.1
  have HR : Hid (RB w v n f) := hr
  clear hr
  go_enter Try.func44, Try.ntmps44
  go_wp2
  go_loop [7, 8] (fun y i => ∃ k : Nat, k ≤ 8 ∧ i = .int .i64 (7 - (k : Int)) ∧ y = .int .u64 (P k)) (fun _ i => (intOf i + 1).toNat)
  case atStart => exact ⟨0, Nat.zero_le _, by simp, by rw [hP0]⟩
  case round =>
    obtain ⟨k, hk, rfl, rfl⟩ := hrel
    have hB := hB (7 - (k : Int))
    by_cases hlt : k < 8
    · have hb := hP k hlt
      clear hP hP0
      go_wp2_with (go_at_call 55; refine (refByte_any _ _ f _ _ HR.out).mono ?_; rintro e w' ⟨rfl, rfl⟩)
      exact ⟨⟨k + 1, by omega, by go_num, congrArg (Value.int IntKind.u64) (hst.out k hlt)⟩, by simp [intOf]; omega⟩
    · clear hP hP0
      go_wp2
      go_ret
      exact ⟨by rw [show k = 8 from by omega]; rfl, rfl⟩
set_option maxHeartbeats 400000 in
theorem ref44_8_far (v : Value) (at' : Int) (w : World) (a1 : 4611686018427387904 < at') :
    Calls Try.prog 44 #[v, .int .i64 at', .int .i64 8] w fun e w' => e = .returned (.int .u64 0) ∧ w' = w := by
  go_enter Try.func44, Try.ntmps44
  go_wp2
  go_loop [7, 8] (fun y i => ∃ k : Nat, k ≤ 8 ∧ i = .int .i64 (7 - (k : Int)) ∧ y = .int .u64 0) (fun _ i => (intOf i + 1).toNat)
  case atStart => exact ⟨0, Nat.zero_le _, by simp, rfl⟩
  case round =>
    obtain ⟨k, hk, rfl, rfl⟩ := hrel
    by_cases hlt : k < 8
    · go_wp2
      exact ⟨⟨k + 1, by omega, by go_num, rfl⟩, by simp [intOf]; omega⟩
    · go_wp2
      go_ret
      exact ⟨rfl, rfl⟩
theorem ref44_8 (v : Value) (n : Nat) (f : Nat → Int) (at' : Int) (w : World) (hr : RB w v n f) (hn : n ≤ 140737488355328) (a0 : -9223372036854775808 ≤ at') :
    Calls Try.prog 44 #[v, .int .i64 at', .int .i64 8] w fun e w' => e = .returned (.int .u64 (LE (fun i => Byt f n (at' + i)) 8)) ∧ w' = w := by
  have hB := fun i : Nat => Byt_bound f n (at' + i) hr.1
  by_cases h : at' ≤ 4611686018427387904
  · have hB' := fun i : Nat => hB (7 - i)
    rw [← BE_rev8]
    refine ref44_8_go v n f at' w hr a0 h (BE (fun i => Byt f n (at' + ((7 - i : Nat) : Int)))) rfl (fun k hk => ?_) ?_
    · have h1 := BE_bound (fun i => Byt f n (at' + ((7 - i : Nat) : Int))) hB' k
      have h2 := pow_le_of k 7 (by omega)
      omega
    · intro k hk
      simp only [BE]
      rw [show ((7 - k : Nat) : Int) = 7 - (k : Int) by omega]
      omega
  · have e : LE (fun i : Nat => Byt f n (at' + i)) 8 = 0 := by
      rw [← BE_rev8, BE_congr _ (fun _ => 0) 8 (fun i hi => Byt_out f n _ (by omega))]; exact BE_zero _
    rw [e]
    exact ref44_8_far v at' w (by omega)

end Go.Proofs.Ytfieheldneddeaa
