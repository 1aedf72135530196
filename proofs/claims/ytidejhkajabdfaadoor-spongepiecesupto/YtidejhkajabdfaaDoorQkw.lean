/- The program's words: turned, taken out of a list, laid as bytes, the lowest byte first (words of 64 bits): what they answer, for every word, list, place and world. -/
import Derived.Test.YtidejhkajabdfaaDoorRows
import Derived.Test.YtidejhkajabdfaaDoorKmath
import Derived.Test.YtidejhkajabdfaaDoorBkit0
import Derived.WalkKit
import Derived.ProofKit
import Derived.Deep.QuietTactic
import Derived.BigQuiet
import Derived.WalkLawsBesides
namespace Go.Proofs.YtidejhkajabdfaaDoor.Wd
open Go.ChangeShapes Go.WideShapes Go.ChangeAt Go.RowKit
open Go.Proofs.YtidejhkajabdfaaDoor.By
theorem u64_bound {x : Int} (h : (Lit.int .u64 x).wf = true) : 0 ≤ x ∧ x < 18446744073709551616 := by
  simp [Lit.wf, IntKind.min, IntKind.max, IntKind.bits, IntKind.signed] at h; omega
theorem i64_bound {x : Int} (h : (Lit.int .i64 x).wf = true) : -9223372036854775808 ≤ x ∧ x < 9223372036854775808 := by
  simp [Lit.wf, IntKind.min, IntKind.max, IntKind.bits, IntKind.signed] at h; omega
set_option maxRecDepth 1000000 in
set_option maxHeartbeats 4000000 in
theorem len64_64 (w : World) : Calls Tryd.prog 83 #[.int .u64 18446744073709551615] w fun e w' => e = .returned (.int .i64 64) ∧ w' = w := by
  go_enter Tryd.func83, Tryd.ntmps83
  go_wp2
  go_ret
  exact ⟨by kernel_rfl, rfl⟩
theorem ones64 : bits BinOp.xor IntKind.u64 IntKind.u64.max 0 = 18446744073709551615 := by decide +kernel
theorem width40 (w : World) : Calls Tryd.prog 82 #[] w fun e w' => e = .returned (.int .i64 64) ∧ w' = w := by
  go_enter Tryd.func82, Tryd.ntmps82
  go_wp2_with (go_at_call 83; rw [ones64]; refine (len64_64 _).mono ?_; rintro e w' ⟨rfl, rfl⟩)
  go_ret
  exact ⟨rfl, rfl⟩
theorem size51 (w : World) : Calls Tryd.prog 79 #[] w fun e w' => e = .returned (.int .i64 8) ∧ w' = w := by
  go_enter Tryd.func79, Tryd.ntmps79
  go_wp2_with (go_at_call 82; refine (width40 _).mono ?_; rintro e w' ⟨rfl, rfl⟩)
  go_ret
  exact ⟨rfl, rfl⟩
theorem pow256 (k : Nat) : (256 : Nat) ^ k = 2 ^ (8 * k) := by rw [Nat.pow_mul]
theorem or_le (p b : Nat) (k : Nat) (h1 : p < 256 ^ k) : p ||| b * 256 ^ k = p + b * 256 ^ k := by
  rw [Nat.or_comm, pow256, nat_join (8 * k) _ _ (Nat.mul_mod_left _ _) (by rw [← pow256]; exact h1)]
  omega
theorem or_le64 (p b : Int) (k : Nat) (hk : k < 8) (h0 : 0 ≤ p) (h1 : p < 256 ^ k) (b0 : 0 ≤ b) (b1 : b < 256) : bits .or .u64 p (b * 2 ^ (8 * k) % 18446744073709551616) = p + b * 256 ^ k := by
  obtain ⟨P, rfl⟩ := Int.eq_ofNat_of_zero_le h0
  obtain ⟨B, rfl⟩ := Int.eq_ofNat_of_zero_le b0
  have hp : P < 256 ^ k := by
    have e : ((256 ^ k : Nat) : Int) = 256 ^ k := Int.natCast_pow 256 k
    omega
  have hle : 256 ^ k * 256 ≤ 256 ^ 8 := by rw [← Nat.pow_succ]; exact Nat.pow_le_pow_right (by omega) hk
  have hB : B * 256 ^ k < 18446744073709551616 := by
    have h3 : B * 256 ^ k < 256 * 256 ^ k := Nat.mul_lt_mul_of_pos_right (by omega) (Nat.pow_pos (by omega))
    omega
  have e1 : (B : Int) * 2 ^ (8 * k) = ((B * 256 ^ k : Nat) : Int) := by rw [pow256, Int.natCast_mul, Int.natCast_pow]; rfl
  have e2 : (P : Int) + (B : Int) * 256 ^ k = ((P + B * 256 ^ k : Nat) : Int) := by rw [Int.natCast_add, Int.natCast_mul, Int.natCast_pow]; rfl
  rw [e1, e2, Int.emod_eq_of_lt (by omega) (by omega), u64_or_nat _ _ (by omega) hB, or_le P B k hp]
theorem pow_le_of (k m : Nat) (h : k ≤ m) : (256 : Int) ^ k ≤ 256 ^ m := by
  have e : ∀ j : Nat, ((256 ^ j : Nat) : Int) = 256 ^ j := fun j => Int.natCast_pow 256 j
  have := Nat.pow_le_pow_right (n := 256) (by omega) h
  have h1 := e k
  have h2 := e m
  omega
theorem LE_congr (g h : Nat → Int) (k : Nat) (e : ∀ i, i < k → g i = h i) : LE g k = LE h k := by
  induction k with
  | zero => rfl
  | succ k ih => simp only [By.LE]; rw [ih (fun i hi => e i (by omega)), e k (by omega)]
set_option maxHeartbeats 400000 in
theorem byteBehind_any (v : Value) (n : Nat) (f : Nat → Int) (at' i : Int) (w : World) (hr : RB w v n f) (hn : n ≤ 140737488355328) (h0 : 0 ≤ i) (h7 : i ≤ 7) (a0 : -9223372036854775808 ≤ at') (a1 : at' < 9223372036854775808) :
    Calls Tryd.prog 81 #[v, .int .i64 at', .int .i64 i] w fun e w' => e = .returned (.int .u8 (Byt f n (at' + i))) ∧ w' = w := by
  obtain ⟨hf, a, cap, rfl, h1, h2, hc⟩ := hr
  by_cases c1 : at' < -i
  · rw [Byt_out f n _ (by omega)]
    clear hc hf
    go_enter Tryd.func81, Tryd.ntmps81
    go_wp2
    go_ret
    exact ⟨rfl, rfl⟩
  · by_cases c2 : (n : Int) - i ≤ at'
    · rw [Byt_out f n _ (by omega)]
      clear hc hf
      go_enter Tryd.func81, Tryd.ntmps81
      go_wp2
      go_ret
      exact ⟨rfl, rfl⟩
    · rcases hc with hz | ⟨b, off, rfl, hc⟩
      · omega
      · rw [Byt_in f n _ (by omega) (by omega)]
        have hcell := hc (at' + i).toNat (by omega)
        have hp0 : 0 ≤ at' + i := by omega
        have hp1 : at' + i < n := by omega
        clear hc hf
        go_enter Tryd.func81, Tryd.ntmps81
        go_wp2
        go_ret
        exact ⟨rfl, rfl⟩
set_option maxHeartbeats 400000 in
theorem takeLE64_go (v : Value) (n : Nat) (f : Nat → Int) (at' : Int) (w : World) (hr : RB w v n f) (hn : n ≤ 140737488355328) (a0 : -9223372036854775808 ≤ at') (a1 : at' < 9223372036854775808)
    (P : Nat → Int) (hP0 : P 0 = 0) (hP : ∀ k, k ≤ 8 → 0 ≤ P k ∧ P k < 18446744073709551616) (hst : Hid (∀ k, k < 8 → bits .or .u64 (P k) (Byt f n (at' + k) * 2 ^ (8 * k) % 18446744073709551616) = P (k + 1))) :
    Calls Tryd.prog 75 #[v, .int .i64 at'] w fun e w' => e = .returned (.int .u64 (P 8)) ∧ w' = w := by
  have hB := fun i => Byt_bound f n (at' + i) hr.1
  have HR : Hid (RB w v n f) := hr
  clear hr
  go_enter Tryd.func75, Tryd.ntmps75
  go_wp2_with (go_at_call 79; refine (size51 _).mono ?_; rintro e w' ⟨rfl, rfl⟩)
  go_loop [5, 8] (fun y i => ∃ k : Nat, k ≤ 8 ∧ i = .int .i64 k ∧ y = .int .u64 (P k)) (fun _ i => 8 - (intOf i).toNat)
  case atStart => exact ⟨0, Nat.zero_le _, rfl, by rw [hP0]⟩
  case round =>
    obtain ⟨k, hk, rfl, rfl⟩ := hrel
    have hb := hP k hk
    have hB := hB k
    clear hP hP0
    by_cases hlt : k < 8
    · go_wp2_with (go_at_call 81; refine (byteBehind_any _ _ f _ _ _ HR.out hn (by omega) (by omega) a0 a1).mono ?_; rintro e w' ⟨rfl, rfl⟩)
      exact ⟨⟨k + 1, by omega, by go_num, congrArg (Value.int IntKind.u64) (hst.out k hlt)⟩, by simp [intOf]; omega⟩
    · go_wp2
      go_ret
      exact ⟨by rw [show k = 8 from by omega]; rfl, rfl⟩
theorem takeLE64 (v : Value) (n : Nat) (f : Nat → Int) (at' : Int) (w : World) (hr : RB w v n f) (hn : n ≤ 140737488355328) (a0 : -9223372036854775808 ≤ at') (a1 : at' < 9223372036854775808) :
    Calls Tryd.prog 75 #[v, .int .i64 at'] w fun e w' => e = .returned (.int .u64 (LE (fun i => Byt f n (at' + i)) 8)) ∧ w' = w := by
  have hB := fun i : Nat => Byt_bound f n (at' + i) hr.1
  have hb := fun k => LE_bound (fun i => Byt f n (at' + i)) hB k
  refine takeLE64_go v n f at' w hr hn a0 a1 (LE (fun i => Byt f n (at' + i))) rfl (fun k hk => ⟨(hb k).1, ?_⟩) ?_
  · have h1 := hb k
    have h2 := pow_le_of k 8 hk
    omega
  · intro k hk
    exact or_le64 _ _ k hk (hb k).1 (hb k).2 (hB k).1 (hB k).2

/-- Byte i of a word of W bytes, the highest first; the lowest first. -/
def beByte (W : Nat) (x : Int) (i : Nat) : Int := x / 256 ^ (W - 1 - i) % 256
def leByte (x : Int) (i : Nat) : Int := x / 256 ^ i % 256
theorem beByte_bound (W : Nat) (x : Int) (i : Nat) : 0 ≤ beByte W x i ∧ beByte W x i < 256 := by unfold beByte; omega
theorem leByte_bound (x : Int) (i : Nat) : 0 ≤ leByte x i ∧ leByte x i < 256 := by unfold leByte; omega
theorem make8 (w : World) : (Instr.makeSlice 39 (.int .i64 8) (.int .i64 8)).run Tryd.prog w = .ok (.slice (some ⟨w.heap.size, 0, none⟩) 8 8) (w.alloc (.cells #[.int .u8 0, .int .u8 0, .int .u8 0, .int .u8 0, .int .u8 0, .int .u8 0, .int .u8 0, .int .u8 0] 5)) := by kernel_rfl
theorem bl8 (f : Nat → Int) : bl 8 f = [.int .u8 (f 0), .int .u8 (f 1), .int .u8 (f 2), .int .u8 (f 3), .int .u8 (f 4), .int .u8 (f 5), .int .u8 (f 6), .int .u8 (f 7)] := rfl
set_option maxHeartbeats 1000000 in
theorem layLE64_go (x : Int) (w : World) (h0 : 0 ≤ x) (h1 : x < 18446744073709551616) :
    Calls Tryd.prog 71 #[.int .u64 x] w fun e w' => e = .returned (.slice (some ⟨w.heap.size, 0, none⟩) 8 8) ∧ w' = w.alloc (.cells #[.int .u8 (x % 256), .int .u8 (x / 256 % 256), .int .u8 (x / 65536 % 256), .int .u8 (x / 16777216 % 256), .int .u8 (x / 4294967296 % 256), .int .u8 (x / 1099511627776 % 256), .int .u8 (x / 281474976710656 % 256), .int .u8 (x / 72057594037927936)] 5) := by
  have hmk := make8
  go_enter Tryd.func71, Tryd.ntmps71
  go_wp2_with (go_at_call 79; refine (size51 _).mono ?_; rintro e w' ⟨rfl, rfl⟩)
  refine wp_loop_rounds 9 ?_
  iterate 9 (rw [rounds_succ]; go_wp2)
  go_ret
  exact ⟨rfl, rfl⟩
theorem layLE64 (x : Int) (w : World) (h0 : 0 ≤ x) (h1 : x < 18446744073709551616) :
    Calls Tryd.prog 71 #[.int .u64 x] w fun e w' => ∃ v, e = .returned v ∧ Own w' w.heap.size v 8 (leByte x) ∧ Below w.heap.size w w' := by
  refine (layLE64_go x w h0 h1).mono ?_
  rintro e w' ⟨rfl, rfl⟩
  refine ⟨_, rfl, own_lit w _ 8 (leByte x) (leByte_bound x) (by simp [maxLen]) rfl ?_, (Below.refl _ _).alloc (Nat.le_refl _) _⟩
  have e0 : x / 72057594037927936 = x / 72057594037927936 % 256 := by omega
  rw [bl8]
  simp [leByte]
  omega

end Go.Proofs.YtidejhkajabdfaaDoor.Wd
