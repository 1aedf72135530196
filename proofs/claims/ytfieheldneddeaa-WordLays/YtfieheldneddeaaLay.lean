/- What the functions that lay a word as bytes answer: the code's, in four types, either way: contracts over this seat's program, for every word and world: new memory. -/
import Derived.Test.YtfieheldneddeaaTake
namespace Go.Proofs.Ytfieheldneddeaa
open Go.ChangeShapes Go.WideShapes Go.ChangeAt Go.RowKit

/-- Byte i of a word of W bytes, the highest first; the lowest first. -/
def beByte (W : Nat) (x : Int) (i : Nat) : Int := x / 256 ^ (W - 1 - i) % 256
def leByte (x : Int) (i : Nat) : Int := x / 256 ^ i % 256
theorem beByte_bound (W : Nat) (x : Int) (i : Nat) : 0 ≤ beByte W x i ∧ beByte W x i < 256 := by unfold beByte; omega
theorem leByte_bound (x : Int) (i : Nat) : 0 ≤ leByte x i ∧ leByte x i < 256 := by unfold leByte; omega
theorem make4 (w : World) : (Instr.makeSlice 32 (.int .i64 4) (.int .i64 4)).run Try.prog w = .ok (.slice (some ⟨w.heap.size, 0, none⟩) 4 4) (w.alloc (.cells #[.int .u8 0, .int .u8 0, .int .u8 0, .int .u8 0] 5)) := by kernel_rfl
theorem make8 (w : World) : (Instr.makeSlice 32 (.int .i64 8) (.int .i64 8)).run Try.prog w = .ok (.slice (some ⟨w.heap.size, 0, none⟩) 8 8) (w.alloc (.cells #[.int .u8 0, .int .u8 0, .int .u8 0, .int .u8 0, .int .u8 0, .int .u8 0, .int .u8 0, .int .u8 0] 5)) := by kernel_rfl
theorem own_lit (w : World) (cs : Array Value) (n : Nat) (f : Nat → Int) (hf : ∀ i, 0 ≤ f i ∧ f i < 256) (hn : n ≤ maxLen) (hs : cs.size = n) (hc : cs.toList = bl n f) :
    Own (w.alloc (.cells cs 5)) w.heap.size (.slice (some ⟨w.heap.size, 0, none⟩) n n) n f := by
  refine ⟨hf, ?_⟩
  have h := World.ownsRow_lit (base := w.heap.size) (e := 5) (size := 1) w cs n (Nat.le_refl _) hn (by omega)
  rw [← hc]
  exact h
theorem bl4 (f : Nat → Int) : bl 4 f = [.int .u8 (f 0), .int .u8 (f 1), .int .u8 (f 2), .int .u8 (f 3)] := rfl
theorem bl8 (f : Nat → Int) : bl 8 f = [.int .u8 (f 0), .int .u8 (f 1), .int .u8 (f 2), .int .u8 (f 3), .int .u8 (f 4), .int .u8 (f 5), .int .u8 (f 6), .int .u8 (f 7)] := rfl

set_option maxHeartbeats 1000000 in
theorem lay19_go (x : Int) (w : World) (h0 : 0 ≤ x) (h1 : x < 4294967296) :
    Calls Try.prog 19 #[.int .u32 x] w fun e w' => e = .returned (.slice (some ⟨w.heap.size, 0, none⟩) 4 4) ∧ w' = w.alloc (.cells #[.int .u8 (x / 16777216), .int .u8 (x / 65536 % 256), .int .u8 (x / 256 % 256), .int .u8 (x % 256)] 5) := by
  have hmk := make4
  go_enter Try.func19, Try.ntmps19
  go_wp2_with (go_at_call 49; refine (size49 _).mono ?_; rintro e w' ⟨rfl, rfl⟩)
  refine wp_loop_rounds 5 ?_
  iterate 5 (rw [rounds_succ]; go_wp2)
  go_ret
  exact ⟨rfl, rfl⟩
theorem lay19 (x : Int) (w : World) (h0 : 0 ≤ x) (h1 : x < 4294967296) :
    Calls Try.prog 19 #[.int .u32 x] w fun e w' => ∃ v, e = .returned v ∧ Own w' w.heap.size v 4 (beByte 4 x) ∧ Below w.heap.size w w' := by
  refine (lay19_go x w h0 h1).mono ?_
  rintro e w' ⟨rfl, rfl⟩
  refine ⟨_, rfl, own_lit w _ 4 (beByte 4 x) (beByte_bound 4 x) (by simp [maxLen]) rfl ?_, (Below.refl _ _).alloc (Nat.le_refl _) _⟩
  have e0 : x / 16777216 = x / 16777216 % 256 := by omega
  rw [bl4]
  simp [beByte]
  omega

set_option maxHeartbeats 1000000 in
theorem lay20_go (x : Int) (w : World) (h0 : 0 ≤ x) (h1 : x < 4294967296) :
    Calls Try.prog 20 #[.int .u32 x] w fun e w' => e = .returned (.slice (some ⟨w.heap.size, 0, none⟩) 4 4) ∧ w' = w.alloc (.cells #[.int .u8 (x / 16777216), .int .u8 (x / 65536 % 256), .int .u8 (x / 256 % 256), .int .u8 (x % 256)] 5) := by
  have hmk := make4
  go_enter Try.func20, Try.ntmps20
  go_wp2_with (go_at_call 50; refine (size50 _).mono ?_; rintro e w' ⟨rfl, rfl⟩)
  refine wp_loop_rounds 5 ?_
  iterate 5 (rw [rounds_succ]; go_wp2)
  go_ret
  exact ⟨rfl, rfl⟩
theorem lay20 (x : Int) (w : World) (h0 : 0 ≤ x) (h1 : x < 4294967296) :
    Calls Try.prog 20 #[.int .u32 x] w fun e w' => ∃ v, e = .returned v ∧ Own w' w.heap.size v 4 (beByte 4 x) ∧ Below w.heap.size w w' := by
  refine (lay20_go x w h0 h1).mono ?_
  rintro e w' ⟨rfl, rfl⟩
  refine ⟨_, rfl, own_lit w _ 4 (beByte 4 x) (beByte_bound 4 x) (by simp [maxLen]) rfl ?_, (Below.refl _ _).alloc (Nat.le_refl _) _⟩
  have e0 : x / 16777216 = x / 16777216 % 256 := by omega
  rw [bl4]
  simp [beByte]
  omega

set_option maxHeartbeats 1000000 in
theorem lay21_go (x : Int) (w : World) (h0 : 0 ≤ x) (h1 : x < 4294967296) :
    Calls Try.prog 21 #[.int .u32 x] w fun e w' => e = .returned (.slice (some ⟨w.heap.size, 0, none⟩) 4 4) ∧ w' = w.alloc (.cells #[.int .u8 (x % 256), .int .u8 (x / 256 % 256), .int .u8 (x / 65536 % 256), .int .u8 (x / 16777216)] 5) := by
  have hmk := make4
  go_enter Try.func21, Try.ntmps21
  go_wp2_with (go_at_call 49; refine (size49 _).mono ?_; rintro e w' ⟨rfl, rfl⟩)
  refine wp_loop_rounds 5 ?_
  iterate 5 (rw [rounds_succ]; go_wp2)
  go_ret
  exact ⟨rfl, rfl⟩
theorem lay21 (x : Int) (w : World) (h0 : 0 ≤ x) (h1 : x < 4294967296) :
    Calls Try.prog 21 #[.int .u32 x] w fun e w' => ∃ v, e = .returned v ∧ Own w' w.heap.size v 4 (leByte x) ∧ Below w.heap.size w w' := by
  refine (lay21_go x w h0 h1).mono ?_
  rintro e w' ⟨rfl, rfl⟩
  refine ⟨_, rfl, own_lit w _ 4 (leByte x) (leByte_bound x) (by simp [maxLen]) rfl ?_, (Below.refl _ _).alloc (Nat.le_refl _) _⟩
  have e0 : x / 16777216 = x / 16777216 % 256 := by omega
  rw [bl4]
  simp [leByte]
  omega

set_option maxHeartbeats 1000000 in
theorem lay22_go (x : Int) (w : World) (h0 : 0 ≤ x) (h1 : x < 4294967296) :
    Calls Try.prog 22 #[.int .u32 x] w fun e w' => e = .returned (.slice (some ⟨w.heap.size, 0, none⟩) 4 4) ∧ w' = w.alloc (.cells #[.int .u8 (x % 256), .int .u8 (x / 256 % 256), .int .u8 (x / 65536 % 256), .int .u8 (x / 16777216)] 5) := by
  have hmk := make4
  go_enter Try.func22, Try.ntmps22
  go_wp2_with (go_at_call 50; refine (size50 _).mono ?_; rintro e w' ⟨rfl, rfl⟩)
  refine wp_loop_rounds 5 ?_
  iterate 5 (rw [rounds_succ]; go_wp2)
  go_ret
  exact ⟨rfl, rfl⟩
theorem lay22 (x : Int) (w : World) (h0 : 0 ≤ x) (h1 : x < 4294967296) :
    Calls Try.prog 22 #[.int .u32 x] w fun e w' => ∃ v, e = .returned v ∧ Own w' w.heap.size v 4 (leByte x) ∧ Below w.heap.size w w' := by
  refine (lay22_go x w h0 h1).mono ?_
  rintro e w' ⟨rfl, rfl⟩
  refine ⟨_, rfl, own_lit w _ 4 (leByte x) (leByte_bound x) (by simp [maxLen]) rfl ?_, (Below.refl _ _).alloc (Nat.le_refl _) _⟩
  have e0 : x / 16777216 = x / 16777216 % 256 := by omega
  rw [bl4]
  simp [leByte]
  omega

set_option maxHeartbeats 1000000 in
theorem lay23_go (x : Int) (w : World) (h0 : 0 ≤ x) (h1 : x < 18446744073709551616) :
    Calls Try.prog 23 #[.int .u64 x] w fun e w' => e = .returned (.slice (some ⟨w.heap.size, 0, none⟩) 8 8) ∧ w' = w.alloc (.cells #[.int .u8 (x / 72057594037927936), .int .u8 (x / 281474976710656 % 256), .int .u8 (x / 1099511627776 % 256), .int .u8 (x / 4294967296 % 256), .int .u8 (x / 16777216 % 256), .int .u8 (x / 65536 % 256), .int .u8 (x / 256 % 256), .int .u8 (x % 256)] 5) := by
  have hmk := make8
  go_enter Try.func23, Try.ntmps23
  go_wp2_with (go_at_call 51; refine (size51 _).mono ?_; rintro e w' ⟨rfl, rfl⟩)
  refine wp_loop_rounds 9 ?_
  iterate 9 (rw [rounds_succ]; go_wp2)
  go_ret
  exact ⟨rfl, rfl⟩
theorem lay23 (x : Int) (w : World) (h0 : 0 ≤ x) (h1 : x < 18446744073709551616) :
    Calls Try.prog 23 #[.int .u64 x] w fun e w' => ∃ v, e = .returned v ∧ Own w' w.heap.size v 8 (beByte 8 x) ∧ Below w.heap.size w w' := by
  refine (lay23_go x w h0 h1).mono ?_
  rintro e w' ⟨rfl, rfl⟩
  refine ⟨_, rfl, own_lit w _ 8 (beByte 8 x) (beByte_bound 8 x) (by simp [maxLen]) rfl ?_, (Below.refl _ _).alloc (Nat.le_refl _) _⟩
  have e0 : x / 72057594037927936 = x / 72057594037927936 % 256 := by omega
  rw [bl8]
  simp [beByte]
  omega

set_option maxHeartbeats 1000000 in
theorem lay24_go (x : Int) (w : World) (h0 : 0 ≤ x) (h1 : x < 18446744073709551616) :
    Calls Try.prog 24 #[.int .u64 x] w fun e w' => e = .returned (.slice (some ⟨w.heap.size, 0, none⟩) 8 8) ∧ w' = w.alloc (.cells #[.int .u8 (x / 72057594037927936), .int .u8 (x / 281474976710656 % 256), .int .u8 (x / 1099511627776 % 256), .int .u8 (x / 4294967296 % 256), .int .u8 (x / 16777216 % 256), .int .u8 (x / 65536 % 256), .int .u8 (x / 256 % 256), .int .u8 (x % 256)] 5) := by
  have hmk := make8
  go_enter Try.func24, Try.ntmps24
  go_wp2_with (go_at_call 52; refine (size52 _).mono ?_; rintro e w' ⟨rfl, rfl⟩)
  refine wp_loop_rounds 9 ?_
  iterate 9 (rw [rounds_succ]; go_wp2)
  go_ret
  exact ⟨rfl, rfl⟩
theorem lay24 (x : Int) (w : World) (h0 : 0 ≤ x) (h1 : x < 18446744073709551616) :
    Calls Try.prog 24 #[.int .u64 x] w fun e w' => ∃ v, e = .returned v ∧ Own w' w.heap.size v 8 (beByte 8 x) ∧ Below w.heap.size w w' := by
  refine (lay24_go x w h0 h1).mono ?_
  rintro e w' ⟨rfl, rfl⟩
  refine ⟨_, rfl, own_lit w _ 8 (beByte 8 x) (beByte_bound 8 x) (by simp [maxLen]) rfl ?_, (Below.refl _ _).alloc (Nat.le_refl _) _⟩
  have e0 : x / 72057594037927936 = x / 72057594037927936 % 256 := by omega
  rw [bl8]
  simp [beByte]
  omega

set_option maxHeartbeats 1000000 in
theorem lay25_go (x : Int) (w : World) (h0 : 0 ≤ x) (h1 : x < 18446744073709551616) :
    Calls Try.prog 25 #[.int .u64 x] w fun e w' => e = .returned (.slice (some ⟨w.heap.size, 0, none⟩) 8 8) ∧ w' = w.alloc (.cells #[.int .u8 (x % 256), .int .u8 (x / 256 % 256), .int .u8 (x / 65536 % 256), .int .u8 (x / 16777216 % 256), .int .u8 (x / 4294967296 % 256), .int .u8 (x / 1099511627776 % 256), .int .u8 (x / 281474976710656 % 256), .int .u8 (x / 72057594037927936)] 5) := by
  have hmk := make8
  go_enter Try.func25, Try.ntmps25
  go_wp2_with (go_at_call 51; refine (size51 _).mono ?_; rintro e w' ⟨rfl, rfl⟩)
  refine wp_loop_rounds 9 ?_
  iterate 9 (rw [rounds_succ]; go_wp2)
  go_ret
  exact ⟨rfl, rfl⟩
theorem lay25 (x : Int) (w : World) (h0 : 0 ≤ x) (h1 : x < 18446744073709551616) :
    Calls Try.prog 25 #[.int .u64 x] w fun e w' => ∃ v, e = .returned v ∧ Own w' w.heap.size v 8 (leByte x) ∧ Below w.heap.size w w' := by
  refine (lay25_go x w h0 h1).mono ?_
  rintro e w' ⟨rfl, rfl⟩
  refine ⟨_, rfl, own_lit w _ 8 (leByte x) (leByte_bound x) (by simp [maxLen]) rfl ?_, (Below.refl _ _).alloc (Nat.le_refl _) _⟩
  have e0 : x / 72057594037927936 = x / 72057594037927936 % 256 := by omega
  rw [bl8]
  simp [leByte]
  omega

set_option maxHeartbeats 1000000 in
theorem lay26_go (x : Int) (w : World) (h0 : 0 ≤ x) (h1 : x < 18446744073709551616) :
    Calls Try.prog 26 #[.int .u64 x] w fun e w' => e = .returned (.slice (some ⟨w.heap.size, 0, none⟩) 8 8) ∧ w' = w.alloc (.cells #[.int .u8 (x % 256), .int .u8 (x / 256 % 256), .int .u8 (x / 65536 % 256), .int .u8 (x / 16777216 % 256), .int .u8 (x / 4294967296 % 256), .int .u8 (x / 1099511627776 % 256), .int .u8 (x / 281474976710656 % 256), .int .u8 (x / 72057594037927936)] 5) := by
  have hmk := make8
  go_enter Try.func26, Try.ntmps26
  go_wp2_with (go_at_call 52; refine (size52 _).mono ?_; rintro e w' ⟨rfl, rfl⟩)
  refine wp_loop_rounds 9 ?_
  iterate 9 (rw [rounds_succ]; go_wp2)
  go_ret
  exact ⟨rfl, rfl⟩
theorem lay26 (x : Int) (w : World) (h0 : 0 ≤ x) (h1 : x < 18446744073709551616) :
    Calls Try.prog 26 #[.int .u64 x] w fun e w' => ∃ v, e = .returned v ∧ Own w' w.heap.size v 8 (leByte x) ∧ Below w.heap.size w w' := by
  refine (lay26_go x w h0 h1).mono ?_
  rintro e w' ⟨rfl, rfl⟩
  refine ⟨_, rfl, own_lit w _ 8 (leByte x) (leByte_bound x) (by simp [maxLen]) rfl ?_, (Below.refl _ _).alloc (Nat.le_refl _) _⟩
  have e0 : x / 72057594037927936 = x / 72057594037927936 % 256 := by omega
  rw [bl8]
  simp [leByte]
  omega

end Go.Proofs.Ytfieheldneddeaa
