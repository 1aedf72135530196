/- What the small functions of layer 1 answer: the width of a word, a word turned (the code's and the document's): contracts over this seat's program, for every world. -/
import Derived.Test.YtfieheldneddeaaRows
import Derived.Test.YtfieheldneddeaaMath
import Derived.WalkKit
import Derived.ProofKit
import Derived.Deep.QuietTactic
import Derived.BigQuiet
import Derived.WalkLawsBesides
namespace Go.Proofs.Ytfieheldneddeaa
open Go.ChangeShapes Go.WideShapes Go.ChangeAt Go.RowKit
theorem u64_bound {x : Int} (h : (Lit.int .u64 x).wf = true) : 0 ≤ x ∧ x < 18446744073709551616 := by
  simp [Lit.wf, IntKind.min, IntKind.max, IntKind.bits, IntKind.signed] at h; omega
theorem i64_bound {x : Int} (h : (Lit.int .i64 x).wf = true) : -9223372036854775808 ≤ x ∧ x < 9223372036854775808 := by
  simp [Lit.wf, IntKind.min, IntKind.max, IntKind.bits, IntKind.signed] at h; omega
set_option maxRecDepth 1000000 in
set_option maxHeartbeats 4000000 in
theorem len64_32 (w : World) : Calls Try.prog 54 #[.int .u64 4294967295] w fun e w' => e = .returned (.int .i64 32) ∧ w' = w := by
  go_enter Try.func54, Try.ntmps54
  go_wp2
  go_ret
  exact ⟨by kernel_rfl, rfl⟩
set_option maxRecDepth 1000000 in
set_option maxHeartbeats 4000000 in
theorem len64_64 (w : World) : Calls Try.prog 54 #[.int .u64 18446744073709551615] w fun e w' => e = .returned (.int .i64 64) ∧ w' = w := by
  go_enter Try.func54, Try.ntmps54
  go_wp2
  go_ret
  exact ⟨by kernel_rfl, rfl⟩
theorem ones32 : IntKind.u64.wrap (bits BinOp.xor IntKind.u32 IntKind.u32.max 0) = 4294967295 := by decide +kernel
theorem ones64 : bits BinOp.xor IntKind.u64 IntKind.u64.max 0 = 18446744073709551615 := by decide +kernel
theorem width38 (w : World) : Calls Try.prog 38 #[] w fun e w' => e = .returned (.int .i64 32) ∧ w' = w := by
  go_enter Try.func38, Try.ntmps38
  go_wp2_with (go_at_call 54; rw [ones32]; refine (len64_32 _).mono ?_; rintro e w' ⟨rfl, rfl⟩)
  go_ret
  exact ⟨rfl, rfl⟩
theorem width39 (w : World) : Calls Try.prog 39 #[] w fun e w' => e = .returned (.int .i64 32) ∧ w' = w := by
  go_enter Try.func39, Try.ntmps39
  go_wp2_with (go_at_call 54; rw [ones32]; refine (len64_32 _).mono ?_; rintro e w' ⟨rfl, rfl⟩)
  go_ret
  exact ⟨rfl, rfl⟩
theorem width40 (w : World) : Calls Try.prog 40 #[] w fun e w' => e = .returned (.int .i64 64) ∧ w' = w := by
  go_enter Try.func40, Try.ntmps40
  go_wp2_with (go_at_call 54; rw [ones64]; refine (len64_64 _).mono ?_; rintro e w' ⟨rfl, rfl⟩)
  go_ret
  exact ⟨rfl, rfl⟩
theorem width41 (w : World) : Calls Try.prog 41 #[] w fun e w' => e = .returned (.int .i64 64) ∧ w' = w := by
  go_enter Try.func41, Try.ntmps41
  go_wp2_with (go_at_call 54; rw [ones64]; refine (len64_64 _).mono ?_; rintro e w' ⟨rfl, rfl⟩)
  go_ret
  exact ⟨rfl, rfl⟩
theorem size49 (w : World) : Calls Try.prog 49 #[] w fun e w' => e = .returned (.int .i64 4) ∧ w' = w := by
  go_enter Try.func49, Try.ntmps49
  go_wp2_with (go_at_call 38; refine (width38 _).mono ?_; rintro e w' ⟨rfl, rfl⟩)
  go_ret
  exact ⟨rfl, rfl⟩
theorem size50 (w : World) : Calls Try.prog 50 #[] w fun e w' => e = .returned (.int .i64 4) ∧ w' = w := by
  go_enter Try.func50, Try.ntmps50
  go_wp2_with (go_at_call 39; refine (width39 _).mono ?_; rintro e w' ⟨rfl, rfl⟩)
  go_ret
  exact ⟨rfl, rfl⟩
theorem size51 (w : World) : Calls Try.prog 51 #[] w fun e w' => e = .returned (.int .i64 8) ∧ w' = w := by
  go_enter Try.func51, Try.ntmps51
  go_wp2_with (go_at_call 40; refine (width40 _).mono ?_; rintro e w' ⟨rfl, rfl⟩)
  go_ret
  exact ⟨rfl, rfl⟩
theorem size52 (w : World) : Calls Try.prog 52 #[] w fun e w' => e = .returned (.int .i64 8) ∧ w' = w := by
  go_enter Try.func52, Try.ntmps52
  go_wp2_with (go_at_call 41; refine (width41 _).mono ?_; rintro e w' ⟨rfl, rfl⟩)
  go_ret
  exact ⟨rfl, rfl⟩

set_option maxHeartbeats 400000 in
theorem turn9 (x n : Int) (w : World) (hx : 0 ≤ x) (hx2 : x < 4294967296) :
    Calls Try.prog 9 #[.int .u32 x, .int .i64 n] w fun e w' => e = .returned (.int .u32 (Rot 32 x n)) ∧ ∃ k, w' = w.drewN k := by
  have hfin := turned32 x n hx hx2
  have hl := and_31 n
  have h0 : 0 ≤ n % 32 := by omega
  have h1 : n % 32 < 32 := by omega
  generalize n % 32 = l at *
  have HF : Hid (bits .or .u32 (x * 2 ^ l.toNat % 4294967296) (x / 2 ^ (32 - l).toNat) = Rot 32 x n) := hfin
  clear hfin
  go_enter Try.func9, Try.ntmps9
  go_wp2_with (go_at_call 38; refine (width38 _).mono ?_; rintro e w' ⟨rfl, rfl⟩)
  go_quiet ((go_at_call 38; exact Calls.quiet_of_same (width38 _)))
  go_wp2
  go_ret
  exact ⟨congrArg (fun z => Ending.returned (Value.int IntKind.u32 z)) HF.out, _, rfl⟩

set_option maxHeartbeats 400000 in
theorem turn11 (x n : Int) (w : World) (hx : 0 ≤ x) (hx2 : x < 4294967296) :
    Calls Try.prog 11 #[.int .u32 x, .int .i64 n] w fun e w' => e = .returned (.int .u32 (Rot 32 x n)) ∧ ∃ k, w' = w.drewN k := by
  have hfin := turned32 x n hx hx2
  have hl := and_31 n
  have h0 : 0 ≤ n % 32 := by omega
  have h1 : n % 32 < 32 := by omega
  generalize n % 32 = l at *
  have HF : Hid (bits .or .u32 (x * 2 ^ l.toNat % 4294967296) (x / 2 ^ (32 - l).toNat) = Rot 32 x n) := hfin
  clear hfin
  go_enter Try.func11, Try.ntmps11
  go_wp2_with (go_at_call 39; refine (width39 _).mono ?_; rintro e w' ⟨rfl, rfl⟩)
  go_quiet ((go_at_call 39; exact Calls.quiet_of_same (width39 _)))
  go_wp2
  go_ret
  exact ⟨congrArg (fun z => Ending.returned (Value.int IntKind.u32 z)) HF.out, _, rfl⟩

set_option maxHeartbeats 400000 in
theorem turn12 (x n : Int) (w : World) (hx : 0 ≤ x) (hx2 : x < 18446744073709551616) :
    Calls Try.prog 12 #[.int .u64 x, .int .i64 n] w fun e w' => e = .returned (.int .u64 (Rot 64 x n)) ∧ ∃ k, w' = w.drewN k := by
  have hfin := turned64 x n hx hx2
  have hl := and_63 n
  have h0 : 0 ≤ n % 64 := by omega
  have h1 : n % 64 < 64 := by omega
  generalize n % 64 = l at *
  have HF : Hid (bits .or .u64 (x * 2 ^ l.toNat % 18446744073709551616) (x / 2 ^ (64 - l).toNat) = Rot 64 x n) := hfin
  clear hfin
  go_enter Try.func12, Try.ntmps12
  go_wp2_with (go_at_call 40; refine (width40 _).mono ?_; rintro e w' ⟨rfl, rfl⟩)
  go_quiet ((go_at_call 40; exact Calls.quiet_of_same (width40 _)))
  go_wp2
  go_ret
  exact ⟨congrArg (fun z => Ending.returned (Value.int IntKind.u64 z)) HF.out, _, rfl⟩

set_option maxHeartbeats 400000 in
theorem turn13 (x n : Int) (w : World) (hx : 0 ≤ x) (hx2 : x < 18446744073709551616) :
    Calls Try.prog 13 #[.int .u64 x, .int .i64 n] w fun e w' => e = .returned (.int .u64 (Rot 64 x n)) ∧ ∃ k, w' = w.drewN k := by
  have hfin := turned64 x n hx hx2
  have hl := and_63 n
  have h0 : 0 ≤ n % 64 := by omega
  have h1 : n % 64 < 64 := by omega
  generalize n % 64 = l at *
  have HF : Hid (bits .or .u64 (x * 2 ^ l.toNat % 18446744073709551616) (x / 2 ^ (64 - l).toNat) = Rot 64 x n) := hfin
  clear hfin
  go_enter Try.func13, Try.ntmps13
  go_wp2_with (go_at_call 41; refine (width41 _).mono ?_; rintro e w' ⟨rfl, rfl⟩)
  go_quiet ((go_at_call 41; exact Calls.quiet_of_same (width41 _)))
  go_wp2
  go_ret
  exact ⟨congrArg (fun z => Ending.returned (Value.int IntKind.u64 z)) HF.out, _, rfl⟩

set_option maxHeartbeats 400000 in
theorem ref10_32_go (x n r : Int) (w : World) (hr : n.tmod 32 = r) (hn : 0 ≤ r ∧ r < 32) (P : Nat → Int) (hP0 : P 0 = 0) (hP : ∀ k, k ≤ 32 → 0 ≤ P k ∧ P k < 18446744073709551616)
    (hon : Hid (∀ k, k < 32 → ((x / 2 ^ k).tmod 2 == 1) = true → IntKind.u64.wrap (P k + IntKind.u64.wrap (2 ^ (((k : Int) + r) % 32).toNat)) = P (k + 1)))
    (hoff : Hid (∀ k, k < 32 → ((x / 2 ^ k).tmod 2 == 1) = false → P k = P (k + 1))) :
    Calls Try.prog 10 #[.int .u64 x, .int .i64 n, .int .i64 4] w fun e w' => e = .returned (.int .u64 (P 32)) ∧ w' = w := by
  obtain ⟨hn, h1⟩ := hn
  go_enter Try.func10, Try.ntmps10
  go_wp2
  go_loop [8, 9] (fun y i => ∃ k : Nat, k ≤ 32 ∧ i = .int .i64 k ∧ y = .int .u64 (P k)) (fun _ i => 32 - (intOf i).toNat)
  case atStart => exact ⟨0, Nat.zero_le _, rfl, by rw [hP0]⟩
  case round =>
    obtain ⟨k, hk, rfl, rfl⟩ := hrel
    have hb := hP k hk
    clear hP hP0
    by_cases hlt : k < 32
    · go_wp2
      all_goals
        refine ⟨⟨k + 1, by omega, by go_num, congrArg (Value.int IntKind.u64) ?_⟩, by simp [intOf]; omega⟩
      · exact hon.out k hlt ‹_›
      · exact hoff.out k hlt ‹_›
    · go_wp2
      go_ret
      exact ⟨by rw [show k = 32 from by omega]; rfl, rfl⟩

set_option maxHeartbeats 400000 in
theorem ref10_32_goN (x n r : Int) (w : World) (hr : n.tmod 32 = r) (hn : r < 0 ∧ -32 < r) (P : Nat → Int) (hP0 : P 0 = 0) (hP : ∀ k, k ≤ 32 → 0 ≤ P k ∧ P k < 18446744073709551616)
    (hon : Hid (∀ k, k < 32 → ((x / 2 ^ k).tmod 2 == 1) = true → IntKind.u64.wrap (P k + IntKind.u64.wrap (2 ^ (((k : Int) + (r + 32)) % 32).toNat)) = P (k + 1)))
    (hoff : Hid (∀ k, k < 32 → ((x / 2 ^ k).tmod 2 == 1) = false → P k = P (k + 1))) :
    Calls Try.prog 10 #[.int .u64 x, .int .i64 n, .int .i64 4] w fun e w' => e = .returned (.int .u64 (P 32)) ∧ w' = w := by
  obtain ⟨hn, h1⟩ := hn
  go_enter Try.func10, Try.ntmps10
  go_wp2
  go_loop [8, 9] (fun y i => ∃ k : Nat, k ≤ 32 ∧ i = .int .i64 k ∧ y = .int .u64 (P k)) (fun _ i => 32 - (intOf i).toNat)
  case atStart => exact ⟨0, Nat.zero_le _, rfl, by rw [hP0]⟩
  case round =>
    obtain ⟨k, hk, rfl, rfl⟩ := hrel
    have hb := hP k hk
    clear hP hP0
    by_cases hlt : k < 32
    · go_wp2
      all_goals
        refine ⟨⟨k + 1, by omega, by go_num, congrArg (Value.int IntKind.u64) ?_⟩, by simp [intOf]; omega⟩
      · exact hon.out k hlt ‹_›
      · exact hoff.out k hlt ‹_›
    · go_wp2
      go_ret
      exact ⟨by rw [show k = 32 from by omega]; rfl, rfl⟩

theorem ref10_32 (x n : Int) (w : World) (hx : 0 ≤ x) (hx2 : x < 4294967296) :
    Calls Try.prog 10 #[.int .u64 x, .int .i64 n, .int .i64 4] w fun e w' => e = .returned (.int .u64 (Rot 32 x n)) ∧ w' = w := by
  have hl : ((n % 32).toNat : Int) = n % 32 := by omega
  have hE : RotTo 32 x (n % 32) 32 = Rot 32 x n := RotTo_end 32 x (n % 32) (by omega)
  rw [← hE]
  have hP := fun k (hk : k ≤ 32) => RotTo_bound 32 x (n % 32) k (by omega) hk (by omega)
  have hon := fun k (hk : k < 32) hb => RotTo_on 32 x (n % 32) k (by omega) hk hx (by omega) (by omega) hb
  have hoff := fun k (hk : k < 32) hb => RotTo_off 32 x (n % 32) k hk hx (by omega) hb
  by_cases hs : n.tmod 32 < 0
  · have e : n % 32 = n.tmod 32 + 32 := by
      have h1 := Int.tmod_add_mul_tdiv n 32
      have h2 : -32 < n.tmod 32 := Int.lt_tmod_of_pos n (by omega)
      omega
    have h2 : -32 < n.tmod 32 := Int.lt_tmod_of_pos n (by omega)
    rw [e] at hP hon hoff ⊢
    exact ref10_32_goN x n _ w rfl ⟨hs, h2⟩ _ (RotTo_zero _ _ _) hP hon hoff
  · have e : n % 32 = n.tmod 32 := by
      have h1 := Int.tmod_add_mul_tdiv n 32
      have h2 : n.tmod 32 < 32 := Int.tmod_lt_of_pos n (by omega)
      omega
    have h2 : n.tmod 32 < 32 := Int.tmod_lt_of_pos n (by omega)
    rw [e] at hP hon hoff ⊢
    exact ref10_32_go x n _ w rfl ⟨by omega, h2⟩ _ (RotTo_zero _ _ _) hP hon hoff

set_option maxHeartbeats 400000 in
theorem ref10_64_go (x n r : Int) (w : World) (hr : n.tmod 64 = r) (hn : 0 ≤ r ∧ r < 64) (P : Nat → Int) (hP0 : P 0 = 0) (hP : ∀ k, k ≤ 64 → 0 ≤ P k ∧ P k < 18446744073709551616)
    (hon : Hid (∀ k, k < 64 → ((x / 2 ^ k).tmod 2 == 1) = true → IntKind.u64.wrap (P k + IntKind.u64.wrap (2 ^ (((k : Int) + r) % 64).toNat)) = P (k + 1)))
    (hoff : Hid (∀ k, k < 64 → ((x / 2 ^ k).tmod 2 == 1) = false → P k = P (k + 1))) :
    Calls Try.prog 10 #[.int .u64 x, .int .i64 n, .int .i64 8] w fun e w' => e = .returned (.int .u64 (P 64)) ∧ w' = w := by
  obtain ⟨hn, h1⟩ := hn
  go_enter Try.func10, Try.ntmps10
  go_wp2
  go_loop [8, 9] (fun y i => ∃ k : Nat, k ≤ 64 ∧ i = .int .i64 k ∧ y = .int .u64 (P k)) (fun _ i => 64 - (intOf i).toNat)
  case atStart => exact ⟨0, Nat.zero_le _, rfl, by rw [hP0]⟩
  case round =>
    obtain ⟨k, hk, rfl, rfl⟩ := hrel
    have hb := hP k hk
    clear hP hP0
    by_cases hlt : k < 64
    · go_wp2
      all_goals
        refine ⟨⟨k + 1, by omega, by go_num, congrArg (Value.int IntKind.u64) ?_⟩, by simp [intOf]; omega⟩
      · exact hon.out k hlt ‹_›
      · exact hoff.out k hlt ‹_›
    · go_wp2
      go_ret
      exact ⟨by rw [show k = 64 from by omega]; rfl, rfl⟩

set_option maxHeartbeats 400000 in
theorem ref10_64_goN (x n r : Int) (w : World) (hr : n.tmod 64 = r) (hn : r < 0 ∧ -64 < r) (P : Nat → Int) (hP0 : P 0 = 0) (hP : ∀ k, k ≤ 64 → 0 ≤ P k ∧ P k < 18446744073709551616)
    (hon : Hid (∀ k, k < 64 → ((x / 2 ^ k).tmod 2 == 1) = true → IntKind.u64.wrap (P k + IntKind.u64.wrap (2 ^ (((k : Int) + (r + 64)) % 64).toNat)) = P (k + 1)))
    (hoff : Hid (∀ k, k < 64 → ((x / 2 ^ k).tmod 2 == 1) = false → P k = P (k + 1))) :
    Calls Try.prog 10 #[.int .u64 x, .int .i64 n, .int .i64 8] w fun e w' => e = .returned (.int .u64 (P 64)) ∧ w' = w := by
  obtain ⟨hn, h1⟩ := hn
  go_enter Try.func10, Try.ntmps10
  go_wp2
  go_loop [8, 9] (fun y i => ∃ k : Nat, k ≤ 64 ∧ i = .int .i64 k ∧ y = .int .u64 (P k)) (fun _ i => 64 - (intOf i).toNat)
  case atStart => exact ⟨0, Nat.zero_le _, rfl, by rw [hP0]⟩
  case round =>
    obtain ⟨k, hk, rfl, rfl⟩ := hrel
    have hb := hP k hk
    clear hP hP0
    by_cases hlt : k < 64
    · go_wp2
      all_goals
        refine ⟨⟨k + 1, by omega, by go_num, congrArg (Value.int IntKind.u64) ?_⟩, by simp [intOf]; omega⟩
      · exact hon.out k hlt ‹_›
      · exact hoff.out k hlt ‹_›
    · go_wp2
      go_ret
      exact ⟨by rw [show k = 64 from by omega]; rfl, rfl⟩

theorem ref10_64 (x n : Int) (w : World) (hx : 0 ≤ x) (hx2 : x < 18446744073709551616) :
    Calls Try.prog 10 #[.int .u64 x, .int .i64 n, .int .i64 8] w fun e w' => e = .returned (.int .u64 (Rot 64 x n)) ∧ w' = w := by
  have hl : ((n % 64).toNat : Int) = n % 64 := by omega
  have hE : RotTo 64 x (n % 64) 64 = Rot 64 x n := RotTo_end 64 x (n % 64) (by omega)
  rw [← hE]
  have hP := fun k (hk : k ≤ 64) => RotTo_bound 64 x (n % 64) k (by omega) hk (by omega)
  have hon := fun k (hk : k < 64) hb => RotTo_on 64 x (n % 64) k (by omega) hk hx (by omega) (by omega) hb
  have hoff := fun k (hk : k < 64) hb => RotTo_off 64 x (n % 64) k hk hx (by omega) hb
  by_cases hs : n.tmod 64 < 0
  · have e : n % 64 = n.tmod 64 + 64 := by
      have h1 := Int.tmod_add_mul_tdiv n 64
      have h2 : -64 < n.tmod 64 := Int.lt_tmod_of_pos n (by omega)
      omega
    have h2 : -64 < n.tmod 64 := Int.lt_tmod_of_pos n (by omega)
    rw [e] at hP hon hoff ⊢
    exact ref10_64_goN x n _ w rfl ⟨hs, h2⟩ _ (RotTo_zero _ _ _) hP hon hoff
  · have e : n % 64 = n.tmod 64 := by
      have h1 := Int.tmod_add_mul_tdiv n 64
      have h2 : n.tmod 64 < 64 := Int.tmod_lt_of_pos n (by omega)
      omega
    have h2 : n.tmod 64 < 64 := Int.tmod_lt_of_pos n (by omega)
    rw [e] at hP hon hoff ⊢
    exact ref10_64_go x n _ w rfl ⟨by omega, h2⟩ _ (RotTo_zero _ _ _) hP hon hoff

end Go.Proofs.Ytfieheldneddeaa
