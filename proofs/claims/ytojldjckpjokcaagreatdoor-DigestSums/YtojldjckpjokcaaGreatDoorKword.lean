/- The program's words: turned, taken out of a list, laid as bytes (words of 32 bits, and a laid one of 64): what they answer, for every word, list, place and world. -/
import Derived.Test.YtojldjckpjokcaaGreatDoorRows
import Derived.Test.YtojldjckpjokcaaGreatDoorKmath
import Derived.Test.YtojldjckpjokcaaGreatDoorBkit
import Derived.WalkKit
import Derived.ProofKit
import Derived.Deep.QuietTactic
import Derived.BigQuiet
import Derived.WalkLawsBesides
namespace Go.Proofs.YtojldjckpjokcaaGreatDoor.Wd
open Go.ChangeShapes Go.WideShapes Go.ChangeAt Go.RowKit
open Go.Proofs.YtojldjckpjokcaaGreatDoor.By
theorem u64_bound {x : Int} (h : (Lit.int .u64 x).wf = true) : 0 ≤ x ∧ x < 18446744073709551616 := by
  simp [Lit.wf, IntKind.min, IntKind.max, IntKind.bits, IntKind.signed] at h; omega
theorem i64_bound {x : Int} (h : (Lit.int .i64 x).wf = true) : -9223372036854775808 ≤ x ∧ x < 9223372036854775808 := by
  simp [Lit.wf, IntKind.min, IntKind.max, IntKind.bits, IntKind.signed] at h; omega
set_option maxRecDepth 1000000 in
set_option maxHeartbeats 4000000 in
theorem len64_32 (w : World) : Calls Tryz.prog 116 #[.int .u64 4294967295] w fun e w' => e = .returned (.int .i64 32) ∧ w' = w := by
  go_enter Tryz.func116, Tryz.ntmps116
  go_wp2
  go_ret
  exact ⟨by kernel_rfl, rfl⟩
set_option maxRecDepth 1000000 in
set_option maxHeartbeats 4000000 in
theorem len64_64 (w : World) : Calls Tryz.prog 116 #[.int .u64 18446744073709551615] w fun e w' => e = .returned (.int .i64 64) ∧ w' = w := by
  go_enter Tryz.func116, Tryz.ntmps116
  go_wp2
  go_ret
  exact ⟨by kernel_rfl, rfl⟩
theorem ones32 : IntKind.u64.wrap (bits BinOp.xor IntKind.u32 IntKind.u32.max 0) = 4294967295 := by decide +kernel
theorem ones64 : bits BinOp.xor IntKind.u64 IntKind.u64.max 0 = 18446744073709551615 := by decide +kernel
theorem width38 (w : World) : Calls Tryz.prog 112 #[] w fun e w' => e = .returned (.int .i64 32) ∧ w' = w := by
  go_enter Tryz.func112, Tryz.ntmps112
  go_wp2_with (go_at_call 116; rw [ones32]; refine (len64_32 _).mono ?_; rintro e w' ⟨rfl, rfl⟩)
  go_ret
  exact ⟨rfl, rfl⟩
theorem width40 (w : World) : Calls Tryz.prog 113 #[] w fun e w' => e = .returned (.int .i64 64) ∧ w' = w := by
  go_enter Tryz.func113, Tryz.ntmps113
  go_wp2_with (go_at_call 116; rw [ones64]; refine (len64_64 _).mono ?_; rintro e w' ⟨rfl, rfl⟩)
  go_ret
  exact ⟨rfl, rfl⟩
theorem size49 (w : World) : Calls Tryz.prog 103 #[] w fun e w' => e = .returned (.int .i64 4) ∧ w' = w := by
  go_enter Tryz.func103, Tryz.ntmps103
  go_wp2_with (go_at_call 112; refine (width38 _).mono ?_; rintro e w' ⟨rfl, rfl⟩)
  go_ret
  exact ⟨rfl, rfl⟩
theorem size51 (w : World) : Calls Tryz.prog 102 #[] w fun e w' => e = .returned (.int .i64 8) ∧ w' = w := by
  go_enter Tryz.func102, Tryz.ntmps102
  go_wp2_with (go_at_call 113; refine (width40 _).mono ?_; rintro e w' ⟨rfl, rfl⟩)
  go_ret
  exact ⟨rfl, rfl⟩
set_option maxHeartbeats 400000 in
theorem turn9 (x n : Int) (w : World) (hx : 0 ≤ x) (hx2 : x < 4294967296) :
    Calls Tryz.prog 99 #[.int .u32 x, .int .i64 n] w fun e w' => e = .returned (.int .u32 (Rot 32 x n)) ∧ ∃ k, w' = w.drewN k := by
  have hfin := turned32 x n hx hx2
  have hl := and_31 n
  have h0 : 0 ≤ n % 32 := by omega
  have h1 : n % 32 < 32 := by omega
  generalize n % 32 = l at *
  have HF : Hid (bits .or .u32 (x * 2 ^ l.toNat % 4294967296) (x / 2 ^ (32 - l).toNat) = Rot 32 x n) := hfin
  clear hfin
  go_enter Tryz.func99, Tryz.ntmps99
  go_wp2_with (go_at_call 112; refine (width38 _).mono ?_; rintro e w' ⟨rfl, rfl⟩)
  go_quiet ((go_at_call 112; exact Calls.quiet_of_same (width38 _)))
  go_wp2
  go_ret
  exact ⟨congrArg (fun z => Ending.returned (Value.int IntKind.u32 z)) HF.out, _, rfl⟩
theorem or_be32 (p b : Int) (h0 : 0 ≤ p) (h1 : p < 16777216) (b0 : 0 ≤ b) (b1 : b < 256) : bits .or .u32 (p * 256 % 4294967296) b = p * 256 + b := by
  obtain ⟨P, rfl⟩ := Int.eq_ofNat_of_zero_le h0
  obtain ⟨B, rfl⟩ := Int.eq_ofNat_of_zero_le b0
  have e : (P : Int) * 256 % 4294967296 = ((P * 256 : Nat) : Int) := by omega
  rw [e, u32_or_nat _ _ (by omega) (by omega), nat_join 8 _ _ (by omega) (by omega)]
  omega
theorem or_be64 (p b : Int) (h0 : 0 ≤ p) (h1 : p < 72057594037927936) (b0 : 0 ≤ b) (b1 : b < 256) : bits .or .u64 (p * 256 % 18446744073709551616) b = p * 256 + b := by
  obtain ⟨P, rfl⟩ := Int.eq_ofNat_of_zero_le h0
  obtain ⟨B, rfl⟩ := Int.eq_ofNat_of_zero_le b0
  have e : (P : Int) * 256 % 18446744073709551616 = ((P * 256 : Nat) : Int) := by omega
  rw [e, u64_or_nat _ _ (by omega) (by omega), nat_join 8 _ _ (by omega) (by omega)]
  omega
theorem pow256 (k : Nat) : (256 : Nat) ^ k = 2 ^ (8 * k) := by rw [Nat.pow_mul]
theorem pow_le_of (k m : Nat) (h : k ≤ m) : (256 : Int) ^ k ≤ 256 ^ m := by
  have e : ∀ j : Nat, ((256 ^ j : Nat) : Int) = 256 ^ j := fun j => Int.natCast_pow 256 j
  have := Nat.pow_le_pow_right (n := 256) (by omega) h
  have h1 := e k
  have h2 := e m
  omega
theorem BE_congr (g h : Nat → Int) (k : Nat) (e : ∀ i, i < k → g i = h i) : BE g k = BE h k := by
  induction k with
  | zero => rfl
  | succ k ih => simp only [BE]; rw [ih (fun i hi => e i (by omega)), e k (by omega)]
set_option maxHeartbeats 400000 in
theorem byteBehind_any (v : Value) (n : Nat) (f : Nat → Int) (at' i : Int) (w : World) (hr : RB w v n f) (hn : n ≤ 140737488355328) (h0 : 0 ≤ i) (h7 : i ≤ 7) (a0 : -9223372036854775808 ≤ at') (a1 : at' < 9223372036854775808) :
    Calls Tryz.prog 111 #[v, .int .i64 at', .int .i64 i] w fun e w' => e = .returned (.int .u8 (Byt f n (at' + i))) ∧ w' = w := by
  obtain ⟨hf, a, cap, rfl, h1, h2, hc⟩ := hr
  by_cases c1 : at' < -i
  · rw [Byt_out f n _ (by omega)]
    clear hc hf
    go_enter Tryz.func111, Tryz.ntmps111
    go_wp2
    go_ret
    exact ⟨rfl, rfl⟩
  · by_cases c2 : (n : Int) - i ≤ at'
    · rw [Byt_out f n _ (by omega)]
      clear hc hf
      go_enter Tryz.func111, Tryz.ntmps111
      go_wp2
      go_ret
      exact ⟨rfl, rfl⟩
    · rcases hc with hz | ⟨b, off, rfl, hc⟩
      · omega
      · rw [Byt_in f n _ (by omega) (by omega)]
        have hcell := hc (at' + i).toNat (by omega)
        have hp0 : 0 ≤ at' + i := by omega
        have hp1 : at' + i < n := by omega
        clear hc hf
        go_enter Tryz.func111, Tryz.ntmps111
        go_wp2
        go_ret
        exact ⟨rfl, rfl⟩
set_option maxHeartbeats 400000 in
theorem take36_go (v : Value) (n : Nat) (f : Nat → Int) (at' : Int) (w : World) (hr : RB w v n f) (hn : n ≤ 140737488355328) (a0 : -9223372036854775808 ≤ at') (a1 : at' < 9223372036854775808)
    (P : Nat → Int) (hP0 : P 0 = 0) (hP : ∀ k, k ≤ 4 → 0 ≤ P k ∧ P k < 4294967296) (hst : Hid (∀ k, k < 4 → bits .or .u32 (P k * 256 % 4294967296) (Byt f n (at' + k)) = P (k + 1))) :
    Calls Tryz.prog 98 #[v, .int .i64 at'] w fun e w' => e = .returned (.int .u32 (P 4)) ∧ w' = w := by
  have hB := fun i => Byt_bound f n (at' + i) hr.1
  have HR : Hid (RB w v n f) := hr
  clear hr
  go_enter Tryz.func98, Tryz.ntmps98
  go_wp2_with (go_at_call 103; refine (size49 _).mono ?_; rintro e w' ⟨rfl, rfl⟩)
  go_loop [5, 8] (fun y i => ∃ k : Nat, k ≤ 4 ∧ i = .int .i64 k ∧ y = .int .u32 (P k)) (fun _ i => 4 - (intOf i).toNat)
  case atStart => exact ⟨0, Nat.zero_le _, rfl, by rw [hP0]⟩
  case round =>
    obtain ⟨k, hk, rfl, rfl⟩ := hrel
    have hb := hP k hk
    have hB := hB k
    clear hP hP0
    by_cases hlt : k < 4
    · go_wp2_with (go_at_call 111; refine (byteBehind_any _ _ f _ _ _ HR.out hn (by omega) (by omega) a0 a1).mono ?_; rintro e w' ⟨rfl, rfl⟩)
      exact ⟨⟨k + 1, by omega, by go_num, congrArg (Value.int IntKind.u32) (hst.out k hlt)⟩, by simp [intOf]; omega⟩
    · go_wp2
      go_ret
      exact ⟨by rw [show k = 4 from by omega]; rfl, rfl⟩
theorem take36 (v : Value) (n : Nat) (f : Nat → Int) (at' : Int) (w : World) (hr : RB w v n f) (hn : n ≤ 140737488355328) (a0 : -9223372036854775808 ≤ at') (a1 : at' < 9223372036854775808) :
    Calls Tryz.prog 98 #[v, .int .i64 at'] w fun e w' => e = .returned (.int .u32 (BE (fun i => Byt f n (at' + i)) 4)) ∧ w' = w := by
  have hB := fun i : Nat => Byt_bound f n (at' + i) hr.1
  have hb := fun k => BE_bound (fun i => Byt f n (at' + i)) hB k
  refine take36_go v n f at' w hr hn a0 a1 (BE (fun i => Byt f n (at' + i))) rfl (fun k hk => ⟨(hb k).1, ?_⟩) ?_
  · have h1 := hb k
    have h2 := pow_le_of k 4 hk
    omega
  · intro k hk
    have h1 := hb k
    have h2 := pow_le_of k 3 (by omega)
    exact or_be32 _ _ h1.1 (by omega) (hB k).1 (hB k).2
/-- Byte i of a word of W bytes, the highest first; the lowest first. -/
def beByte (W : Nat) (x : Int) (i : Nat) : Int := x / 256 ^ (W - 1 - i) % 256
def leByte (x : Int) (i : Nat) : Int := x / 256 ^ i % 256
theorem beByte_bound (W : Nat) (x : Int) (i : Nat) : 0 ≤ beByte W x i ∧ beByte W x i < 256 := by unfold beByte; omega
theorem leByte_bound (x : Int) (i : Nat) : 0 ≤ leByte x i ∧ leByte x i < 256 := by unfold leByte; omega
theorem make4 (w : World) : (Instr.makeSlice 41 (.int .i64 4) (.int .i64 4)).run Tryz.prog w = .ok (.slice (some ⟨w.heap.size, 0, none⟩) 4 4) (w.alloc (.cells #[.int .u8 0, .int .u8 0, .int .u8 0, .int .u8 0] 5)) := by kernel_rfl
theorem make8 (w : World) : (Instr.makeSlice 41 (.int .i64 8) (.int .i64 8)).run Tryz.prog w = .ok (.slice (some ⟨w.heap.size, 0, none⟩) 8 8) (w.alloc (.cells #[.int .u8 0, .int .u8 0, .int .u8 0, .int .u8 0, .int .u8 0, .int .u8 0, .int .u8 0, .int .u8 0] 5)) := by kernel_rfl
theorem bl4 (f : Nat → Int) : bl 4 f = [.int .u8 (f 0), .int .u8 (f 1), .int .u8 (f 2), .int .u8 (f 3)] := rfl
theorem bl8 (f : Nat → Int) : bl 8 f = [.int .u8 (f 0), .int .u8 (f 1), .int .u8 (f 2), .int .u8 (f 3), .int .u8 (f 4), .int .u8 (f 5), .int .u8 (f 6), .int .u8 (f 7)] := rfl
set_option maxHeartbeats 1000000 in
theorem lay19_go (x : Int) (w : World) (h0 : 0 ≤ x) (h1 : x < 4294967296) :
    Calls Tryz.prog 92 #[.int .u32 x] w fun e w' => e = .returned (.slice (some ⟨w.heap.size, 0, none⟩) 4 4) ∧ w' = w.alloc (.cells #[.int .u8 (x / 16777216), .int .u8 (x / 65536 % 256), .int .u8 (x / 256 % 256), .int .u8 (x % 256)] 5) := by
  have hmk := make4
  go_enter Tryz.func92, Tryz.ntmps92
  go_wp2_with (go_at_call 103; refine (size49 _).mono ?_; rintro e w' ⟨rfl, rfl⟩)
  refine wp_loop_rounds 5 ?_
  iterate 5 (rw [rounds_succ]; go_wp2)
  go_ret
  exact ⟨rfl, rfl⟩
theorem lay19 (x : Int) (w : World) (h0 : 0 ≤ x) (h1 : x < 4294967296) :
    Calls Tryz.prog 92 #[.int .u32 x] w fun e w' => ∃ v, e = .returned v ∧ Own w' w.heap.size v 4 (beByte 4 x) ∧ Below w.heap.size w w' := by
  refine (lay19_go x w h0 h1).mono ?_
  rintro e w' ⟨rfl, rfl⟩
  refine ⟨_, rfl, own_lit w _ 4 (beByte 4 x) (beByte_bound 4 x) (by simp [maxLen]) rfl ?_, (Below.refl _ _).alloc (Nat.le_refl _) _⟩
  have e0 : x / 16777216 = x / 16777216 % 256 := by omega
  rw [bl4]
  simp [beByte]
  omega
set_option maxHeartbeats 1000000 in
theorem lay23_go (x : Int) (w : World) (h0 : 0 ≤ x) (h1 : x < 18446744073709551616) :
    Calls Tryz.prog 91 #[.int .u64 x] w fun e w' => e = .returned (.slice (some ⟨w.heap.size, 0, none⟩) 8 8) ∧ w' = w.alloc (.cells #[.int .u8 (x / 72057594037927936), .int .u8 (x / 281474976710656 % 256), .int .u8 (x / 1099511627776 % 256), .int .u8 (x / 4294967296 % 256), .int .u8 (x / 16777216 % 256), .int .u8 (x / 65536 % 256), .int .u8 (x / 256 % 256), .int .u8 (x % 256)] 5) := by
  have hmk := make8
  go_enter Tryz.func91, Tryz.ntmps91
  go_wp2_with (go_at_call 102; refine (size51 _).mono ?_; rintro e w' ⟨rfl, rfl⟩)
  refine wp_loop_rounds 9 ?_
  iterate 9 (rw [rounds_succ]; go_wp2)
  go_ret
  exact ⟨rfl, rfl⟩
theorem lay23 (x : Int) (w : World) (h0 : 0 ≤ x) (h1 : x < 18446744073709551616) :
    Calls Tryz.prog 91 #[.int .u64 x] w fun e w' => ∃ v, e = .returned v ∧ Own w' w.heap.size v 8 (beByte 8 x) ∧ Below w.heap.size w w' := by
  refine (lay23_go x w h0 h1).mono ?_
  rintro e w' ⟨rfl, rfl⟩
  refine ⟨_, rfl, own_lit w _ 8 (beByte 8 x) (beByte_bound 8 x) (by simp [maxLen]) rfl ?_, (Below.refl _ _).alloc (Nat.le_refl _) _⟩
  have e0 : x / 72057594037927936 = x / 72057594037927936 % 256 := by omega
  rw [bl8]
  simp [beByte]
  omega
end Go.Proofs.YtojldjckpjokcaaGreatDoor.Wd
