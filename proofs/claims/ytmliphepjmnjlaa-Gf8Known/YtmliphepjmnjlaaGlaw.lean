/- What the statements' own functions of layer 4 answer: true, for all elements: products and inverses, S-boxes, the examples, the field, each byte taken once. -/
import Derived.Test.YtmliphepjmnjlaaGwalk
import Derived.Test.YtmliphepjmnjlaaGref
namespace Go.Proofs.Ytmliphepjmnjlaa.Gf
open Go.ChangeShapes Go.WideShapes Go.ChangeAt Go.RowKit
set_option linter.unusedVariables false
theorem mul_is (x y r : Int) (X Y R : Nat) (w : World) (hx : x = X) (hy : y = Y) (hr : r = R) (hX : X < 256) (hY : Y < 256) (h : mul X Y = R) :
    Calls Try.prog 8 #[.int .u8 x, .int .u8 y] w fun e w' => e = .returned (.int .u8 r) ∧ w' = w := by
  subst hx hy hr; rw [← h]; exact mul_walk X Y w hX hY
theorem inv_is (x r : Int) (X R : Nat) (w : World) (hx : x = X) (hr : r = R) (hX : X < 256) (h : inv X = R) :
    Calls Try.prog 10 #[.int .u8 x] w fun e w' => e = .returned (.int .u8 r) ∧ w' = w := by
  subst hx hr; rw [← h]; exact inv_walk X w hX
theorem box_is (x r : Int) (X R : Nat) (w : World) (hx : x = X) (hr : r = R) (hX : X < 256) (h : box X = R) :
    Calls Try.prog 12 #[.int .u8 x] w fun e w' => e = .returned (.int .u8 r) ∧ w' = w := by
  subst hx hr; rw [← h]; exact box_walk X w hX
theorem back_is (x r : Int) (X R : Nat) (w : World) (hx : x = X) (hr : r = R) (hX : X < 256) (h : back X = R) :
    Calls Try.prog 14 #[.int .u8 x] w fun e w' => e = .returned (.int .u8 r) ∧ w' = w := by
  subst hx hr; rw [← h]; exact back_walk X w hX
set_option maxHeartbeats 1000000 in
theorem products_walk (a b : Nat) (w : World) (ha : a < 256) (hb : b < 256) :
    Calls Try.prog 3 #[.int .u8 a, .int .u8 b] w fun e w' => e = .returned (.bool true) ∧ ∃ d, w' = w.drewN d := by
  have H1 : Hid (∀ w : World, Calls Try.prog 8 #[.int .u8 a, .int .u8 b] w fun e w' => e = .returned (.int .u8 (mul a b : Nat)) ∧ w' = w) := fun w => mul_walk a b w ha hb
  have H2 : Hid (∀ w : World, Calls Try.prog 9 #[.int .u8 a, .int .u8 b] w fun e w' => e = .returned (.int .u8 (mul a b : Nat)) ∧ ∃ d, w' = w.drewN d) := fun w => paper_walk a b w ha hb
  have H3 : Hid (∀ w : World, Calls Try.prog 10 #[.int .u8 a] w fun e w' => e = .returned (.int .u8 (inv a : Nat)) ∧ w' = w) := fun w => inv_walk a w ha
  have H4 : Hid (∀ w : World, Calls Try.prog 11 #[.int .u8 a] w fun e w' => e = .returned (.int .u8 (inv a : Nat)) ∧ ∃ d, w' = w.drewN d) := fun w => inv_ref a w ha
  generalize mul a b = M at H1 H2
  generalize inv a = I at H3 H4
  go_enter Try.func3, Try.ntmps3
  go_wp2_with (first | (go_at_call 8; refine (H1.out _).mono ?_; rintro e w' ⟨rfl, rfl⟩) | (go_at_call 9; refine (H2.out _).mono ?_; rintro e w' ⟨rfl, d1, rfl⟩) | (go_at_call 10; refine (H3.out _).mono ?_; rintro e w' ⟨rfl, rfl⟩) | (go_at_call 11; refine (H4.out _).mono ?_; rintro e w' ⟨rfl, d2, rfl⟩))
  go_ret
  exact ⟨rfl, _, rfl⟩
set_option maxHeartbeats 1000000 in
theorem boxes_walk (a : Nat) (w : World) (ha : a < 256) :
    Calls Try.prog 4 #[.int .u8 a] w fun e w' => e = .returned (.bool true) ∧ ∃ d, w' = w.drewN d := by
  have H1 : Hid (∀ w : World, Calls Try.prog 12 #[.int .u8 a] w fun e w' => e = .returned (.int .u8 (box a : Nat)) ∧ w' = w) := fun w => box_walk a w ha
  have H2 : Hid (∀ w : World, Calls Try.prog 13 #[.int .u8 a] w fun e w' => e = .returned (.int .u8 (box a : Nat)) ∧ ∃ d, w' = w.drewN d) := fun w => box_ref a w ha
  have H3 : Hid (∀ w : World, Calls Try.prog 14 #[.int .u8 a] w fun e w' => e = .returned (.int .u8 (back a : Nat)) ∧ w' = w) := fun w => back_walk a w ha
  have H4 : Hid (∀ w : World, Calls Try.prog 15 #[.int .u8 a] w fun e w' => e = .returned (.int .u8 (back a : Nat)) ∧ ∃ d, w' = w.drewN d) := fun w => back_ref a w ha
  generalize box a = M at H1 H2
  generalize back a = I at H3 H4
  go_enter Try.func4, Try.ntmps4
  go_wp2_with (first | (go_at_call 12; refine (H1.out _).mono ?_; rintro e w' ⟨rfl, rfl⟩) | (go_at_call 13; refine (H2.out _).mono ?_; rintro e w' ⟨rfl, d1, rfl⟩) | (go_at_call 14; refine (H3.out _).mono ?_; rintro e w' ⟨rfl, rfl⟩) | (go_at_call 15; refine (H4.out _).mono ?_; rintro e w' ⟨rfl, d2, rfl⟩))
  go_ret
  exact ⟨rfl, _, rfl⟩
set_option maxHeartbeats 1000000 in
theorem awake_walk (w : World) : Calls Try.prog 16 #[] w fun e w' => e = .returned (.bool true) ∧ w' = w := by
  have H1 : Hid (∀ w : World, Calls Try.prog 8 #[.int .u8 87, .int .u8 131] w fun e w' => e = .returned (.int .u8 193) ∧ w' = w) := fun w => mul_is 87 131 193 87 131 193 w (by decide) (by decide) (by decide) (by decide) (by decide) (by decide +kernel)
  have H2 : Hid (∀ w : World, Calls Try.prog 8 #[.int .u8 2, .int .u8 128] w fun e w' => e = .returned (.int .u8 27) ∧ w' = w) := fun w => mul_is 2 128 27 2 128 27 w (by decide) (by decide) (by decide) (by decide) (by decide) (by decide +kernel)
  have H3 : Hid (∀ w : World, Calls Try.prog 10 #[.int .u8 83] w fun e w' => e = .returned (.int .u8 202) ∧ w' = w) := fun w => inv_is 83 202 83 202 w (by decide) (by decide) (by decide) (by decide +kernel)
  have H4 : Hid (∀ w : World, Calls Try.prog 12 #[.int .u8 0] w fun e w' => e = .returned (.int .u8 99) ∧ w' = w) := fun w => box_is 0 99 0 99 w (by decide) (by decide) (by decide) (by decide +kernel)
  have H5 : Hid (∀ w : World, Calls Try.prog 12 #[.int .u8 83] w fun e w' => e = .returned (.int .u8 237) ∧ w' = w) := fun w => box_is 83 237 83 237 w (by decide) (by decide) (by decide) (by decide +kernel)
  have H6 : Hid (∀ w : World, Calls Try.prog 14 #[.int .u8 99] w fun e w' => e = .returned (.int .u8 0) ∧ w' = w) := fun w => back_is 99 0 99 0 w (by decide) (by decide) (by decide) (by decide +kernel)
  go_enter Try.func16, Try.ntmps16
  go_wp2_with (first | (go_at_call 8; (first | with_reducible refine (H1.out _).mono ?_ | with_reducible refine (H2.out _).mono ?_); rintro e w' ⟨rfl, rfl⟩) | (go_at_call 10; refine (H3.out _).mono ?_; rintro e w' ⟨rfl, rfl⟩) | (go_at_call 12; (first | with_reducible refine (H4.out _).mono ?_ | with_reducible refine (H5.out _).mono ?_); rintro e w' ⟨rfl, rfl⟩) | (go_at_call 14; refine (H6.out _).mono ?_; rintro e w' ⟨rfl, rfl⟩))
  go_ret
  exact ⟨rfl, rfl⟩
set_option maxHeartbeats 2000000 in
theorem field_some (a b c M N T X U V I : Int) (w : World)
    (H1 : Hid (∀ w : World, Calls Try.prog 8 #[.int .u8 a, .int .u8 b] w fun e w' => e = .returned (.int .u8 M) ∧ w' = w))
    (H2 : Hid (∀ w : World, Calls Try.prog 8 #[.int .u8 b, .int .u8 a] w fun e w' => e = .returned (.int .u8 M) ∧ w' = w))
    (H3 : Hid (∀ w : World, Calls Try.prog 8 #[.int .u8 M, .int .u8 c] w fun e w' => e = .returned (.int .u8 T) ∧ w' = w))
    (H4 : Hid (∀ w : World, Calls Try.prog 8 #[.int .u8 b, .int .u8 c] w fun e w' => e = .returned (.int .u8 N) ∧ w' = w))
    (H5 : Hid (∀ w : World, Calls Try.prog 8 #[.int .u8 a, .int .u8 N] w fun e w' => e = .returned (.int .u8 T) ∧ w' = w))
    (H7 : Hid (∀ w : World, Calls Try.prog 8 #[.int .u8 a, .int .u8 X] w fun e w' => e = .returned (.int .u8 U) ∧ w' = w))
    (H8 : Hid (∀ w : World, Calls Try.prog 8 #[.int .u8 a, .int .u8 c] w fun e w' => e = .returned (.int .u8 V) ∧ w' = w))
    (H9 : Hid (∀ w : World, Calls Try.prog 8 #[.int .u8 a, .int .u8 1] w fun e w' => e = .returned (.int .u8 a) ∧ w' = w))
    (H10 : Hid (∀ w : World, Calls Try.prog 8 #[.int .u8 a, .int .u8 0] w fun e w' => e = .returned (.int .u8 0) ∧ w' = w))
    (H11 : Hid (∀ w : World, Calls Try.prog 10 #[.int .u8 a] w fun e w' => e = .returned (.int .u8 I) ∧ w' = w))
    (H12 : Hid (∀ w : World, Calls Try.prog 10 #[.int .u8 I] w fun e w' => e = .returned (.int .u8 a) ∧ w' = w))
    (H13 : Hid (∀ w : World, Calls Try.prog 8 #[.int .u8 a, .int .u8 I] w fun e w' => e = .returned (.int .u8 1) ∧ w' = w))
    (x1 : bits .xor .u8 b c = X) (x2 : bits .xor .u8 M V = U) (na : ¬ a = 0) (nb : ¬ b = 0) (nM : ¬ M = 0) :
    Calls Try.prog 5 #[.int .u8 a, .int .u8 b, .int .u8 c] w fun e w' => e = .returned (.bool true) ∧ w' = w := by
  go_enter Try.func5, Try.ntmps5
  go_wp2_with (first | (go_at_call 16; refine (awake_walk _).mono ?_; rintro e w' ⟨rfl, rfl⟩) | (go_at_call 8; (first | with_reducible refine (H1.out _).mono ?_ | with_reducible refine (H2.out _).mono ?_ | with_reducible refine (H3.out _).mono ?_ | with_reducible refine (H4.out _).mono ?_ | with_reducible refine (H5.out _).mono ?_ | with_reducible refine (H7.out _).mono ?_ | with_reducible refine (H8.out _).mono ?_ | with_reducible refine (H9.out _).mono ?_ | with_reducible refine (H10.out _).mono ?_ | with_reducible refine (H13.out _).mono ?_); rintro e w' ⟨rfl, rfl⟩) | (go_at_call 10; (first | with_reducible refine (H11.out _).mono ?_ | with_reducible refine (H12.out _).mono ?_); rintro e w' ⟨rfl, rfl⟩))
  go_ret
  have hz : ((a == 0 || b == 0) == (M == 0)) = true := by
    rw [beq_false_of_ne na, beq_false_of_ne nb, beq_false_of_ne nM]; rfl
  exact ⟨congrArg (fun x => Ending.returned (.bool x)) hz, rfl⟩
set_option maxHeartbeats 2000000 in
theorem field_none (b c N X : Int) (w : World)
    (H1 : Hid (∀ w : World, Calls Try.prog 8 #[.int .u8 0, .int .u8 b] w fun e w' => e = .returned (.int .u8 0) ∧ w' = w))
    (H2 : Hid (∀ w : World, Calls Try.prog 8 #[.int .u8 b, .int .u8 0] w fun e w' => e = .returned (.int .u8 0) ∧ w' = w))
    (H3 : Hid (∀ w : World, Calls Try.prog 8 #[.int .u8 0, .int .u8 c] w fun e w' => e = .returned (.int .u8 0) ∧ w' = w))
    (H4 : Hid (∀ w : World, Calls Try.prog 8 #[.int .u8 b, .int .u8 c] w fun e w' => e = .returned (.int .u8 N) ∧ w' = w))
    (H5 : Hid (∀ w : World, Calls Try.prog 8 #[.int .u8 0, .int .u8 N] w fun e w' => e = .returned (.int .u8 0) ∧ w' = w))
    (H7 : Hid (∀ w : World, Calls Try.prog 8 #[.int .u8 0, .int .u8 X] w fun e w' => e = .returned (.int .u8 0) ∧ w' = w))
    (H8 : Hid (∀ w : World, Calls Try.prog 8 #[.int .u8 0, .int .u8 c] w fun e w' => e = .returned (.int .u8 0) ∧ w' = w))
    (H9 : Hid (∀ w : World, Calls Try.prog 8 #[.int .u8 0, .int .u8 1] w fun e w' => e = .returned (.int .u8 0) ∧ w' = w))
    (H10 : Hid (∀ w : World, Calls Try.prog 8 #[.int .u8 0, .int .u8 0] w fun e w' => e = .returned (.int .u8 0) ∧ w' = w))
    (H11 : Hid (∀ w : World, Calls Try.prog 10 #[.int .u8 0] w fun e w' => e = .returned (.int .u8 0) ∧ w' = w))
    (H12 : Hid (∀ w : World, Calls Try.prog 10 #[.int .u8 0] w fun e w' => e = .returned (.int .u8 0) ∧ w' = w))
    (x1 : bits .xor .u8 b c = X) (x2 : bits .xor .u8 0 0 = 0) :
    Calls Try.prog 5 #[.int .u8 0, .int .u8 b, .int .u8 c] w fun e w' => e = .returned (.bool true) ∧ w' = w := by
  go_enter Try.func5, Try.ntmps5
  go_wp2_with (first | (go_at_call 16; refine (awake_walk _).mono ?_; rintro e w' ⟨rfl, rfl⟩) | (go_at_call 8; (first | with_reducible refine (H1.out _).mono ?_ | with_reducible refine (H2.out _).mono ?_ | with_reducible refine (H3.out _).mono ?_ | with_reducible refine (H4.out _).mono ?_ | with_reducible refine (H5.out _).mono ?_ | with_reducible refine (H7.out _).mono ?_ | with_reducible refine (H8.out _).mono ?_ | with_reducible refine (H9.out _).mono ?_ | with_reducible refine (H10.out _).mono ?_); rintro e w' ⟨rfl, rfl⟩) | (go_at_call 10; (first | with_reducible refine (H11.out _).mono ?_ | with_reducible refine (H12.out _).mono ?_); rintro e w' ⟨rfl, rfl⟩))
  go_ret
  exact ⟨rfl, rfl⟩
set_option maxHeartbeats 2000000 in
theorem field_half (a c V I : Int) (w : World)
    (H1 : Hid (∀ w : World, Calls Try.prog 8 #[.int .u8 a, .int .u8 0] w fun e w' => e = .returned (.int .u8 0) ∧ w' = w))
    (H2 : Hid (∀ w : World, Calls Try.prog 8 #[.int .u8 0, .int .u8 a] w fun e w' => e = .returned (.int .u8 0) ∧ w' = w))
    (H3 : Hid (∀ w : World, Calls Try.prog 8 #[.int .u8 0, .int .u8 c] w fun e w' => e = .returned (.int .u8 0) ∧ w' = w))
    (H4 : Hid (∀ w : World, Calls Try.prog 8 #[.int .u8 0, .int .u8 c] w fun e w' => e = .returned (.int .u8 0) ∧ w' = w))
    (H5 : Hid (∀ w : World, Calls Try.prog 8 #[.int .u8 a, .int .u8 0] w fun e w' => e = .returned (.int .u8 0) ∧ w' = w))
    (H7 : Hid (∀ w : World, Calls Try.prog 8 #[.int .u8 a, .int .u8 c] w fun e w' => e = .returned (.int .u8 V) ∧ w' = w))
    (H8 : Hid (∀ w : World, Calls Try.prog 8 #[.int .u8 a, .int .u8 c] w fun e w' => e = .returned (.int .u8 V) ∧ w' = w))
    (H9 : Hid (∀ w : World, Calls Try.prog 8 #[.int .u8 a, .int .u8 1] w fun e w' => e = .returned (.int .u8 a) ∧ w' = w))
    (H10 : Hid (∀ w : World, Calls Try.prog 8 #[.int .u8 a, .int .u8 0] w fun e w' => e = .returned (.int .u8 0) ∧ w' = w))
    (H11 : Hid (∀ w : World, Calls Try.prog 10 #[.int .u8 a] w fun e w' => e = .returned (.int .u8 I) ∧ w' = w))
    (H12 : Hid (∀ w : World, Calls Try.prog 10 #[.int .u8 I] w fun e w' => e = .returned (.int .u8 a) ∧ w' = w))
    (H13 : Hid (∀ w : World, Calls Try.prog 8 #[.int .u8 a, .int .u8 I] w fun e w' => e = .returned (.int .u8 1) ∧ w' = w))
    (x1 : bits .xor .u8 0 c = c) (x2 : bits .xor .u8 0 V = V) (na : ¬ a = 0) :
    Calls Try.prog 5 #[.int .u8 a, .int .u8 0, .int .u8 c] w fun e w' => e = .returned (.bool true) ∧ w' = w := by
  go_enter Try.func5, Try.ntmps5
  go_wp2_with (first | (go_at_call 16; refine (awake_walk _).mono ?_; rintro e w' ⟨rfl, rfl⟩) | (go_at_call 8; (first | with_reducible refine (H1.out _).mono ?_ | with_reducible refine (H2.out _).mono ?_ | with_reducible refine (H3.out _).mono ?_ | with_reducible refine (H4.out _).mono ?_ | with_reducible refine (H5.out _).mono ?_ | with_reducible refine (H7.out _).mono ?_ | with_reducible refine (H8.out _).mono ?_ | with_reducible refine (H9.out _).mono ?_ | with_reducible refine (H10.out _).mono ?_ | with_reducible refine (H13.out _).mono ?_); rintro e w' ⟨rfl, rfl⟩) | (go_at_call 10; (first | with_reducible refine (H11.out _).mono ?_ | with_reducible refine (H12.out _).mono ?_); rintro e w' ⟨rfl, rfl⟩))
  go_ret
  exact ⟨rfl, rfl⟩
set_option maxHeartbeats 2000000 in
theorem takes_two (a b X Y Z : Int) (w : World)
    (H1 : Hid (∀ w : World, Calls Try.prog 12 #[.int .u8 a] w fun e w' => e = .returned (.int .u8 X) ∧ w' = w))
    (H2 : Hid (∀ w : World, Calls Try.prog 12 #[.int .u8 b] w fun e w' => e = .returned (.int .u8 Y) ∧ w' = w))
    (H3 : Hid (∀ w : World, Calls Try.prog 14 #[.int .u8 X] w fun e w' => e = .returned (.int .u8 a) ∧ w' = w))
    (H4 : Hid (∀ w : World, Calls Try.prog 14 #[.int .u8 a] w fun e w' => e = .returned (.int .u8 Z) ∧ w' = w))
    (H5 : Hid (∀ w : World, Calls Try.prog 12 #[.int .u8 Z] w fun e w' => e = .returned (.int .u8 a) ∧ w' = w))
    (h1 : ¬ X = Y) (h2 : ¬ a = b) (h3 : ¬ X = a) (h4 : ¬ X = bits BinOp.xor IntKind.u8 IntKind.u8.max a) :
    Calls Try.prog 6 #[.int .u8 a, .int .u8 b] w fun e w' => e = .returned (.bool true) ∧ w' = w := by
  have hz : Hid ((X != a && X != bits BinOp.xor IntKind.u8 IntKind.u8.max a) = true) := by
    show (X != a && X != bits BinOp.xor IntKind.u8 IntKind.u8.max a) = true
    simp [h3, h4]
  have e1 : (X == Y) = false := beq_false_of_ne h1
  have e2 : (a == b) = false := beq_false_of_ne h2
  go_enter Try.func6, Try.ntmps6
  go_wp2_with (first | (go_at_call 16; refine (awake_walk _).mono ?_; rintro e w' ⟨rfl, rfl⟩) | (go_at_call 12; (first | with_reducible refine (H1.out _).mono ?_ | with_reducible refine (H2.out _).mono ?_ | with_reducible refine (H5.out _).mono ?_); rintro e w' ⟨rfl, rfl⟩) | (go_at_call 14; (first | with_reducible refine (H3.out _).mono ?_ | with_reducible refine (H4.out _).mono ?_); rintro e w' ⟨rfl, rfl⟩))
  go_ret
  exact ⟨congrArg (fun x => Ending.returned (.bool x)) hz.out, rfl⟩
set_option maxHeartbeats 2000000 in
theorem takes_one (a X Z : Int) (w : World)
    (H1 : Hid (∀ w : World, Calls Try.prog 12 #[.int .u8 a] w fun e w' => e = .returned (.int .u8 X) ∧ w' = w))
    (H2 : Hid (∀ w : World, Calls Try.prog 12 #[.int .u8 a] w fun e w' => e = .returned (.int .u8 X) ∧ w' = w))
    (H3 : Hid (∀ w : World, Calls Try.prog 14 #[.int .u8 X] w fun e w' => e = .returned (.int .u8 a) ∧ w' = w))
    (H4 : Hid (∀ w : World, Calls Try.prog 14 #[.int .u8 a] w fun e w' => e = .returned (.int .u8 Z) ∧ w' = w))
    (H5 : Hid (∀ w : World, Calls Try.prog 12 #[.int .u8 Z] w fun e w' => e = .returned (.int .u8 a) ∧ w' = w))
    (h3 : ¬ X = a) (h4 : ¬ X = bits BinOp.xor IntKind.u8 IntKind.u8.max a) :
    Calls Try.prog 6 #[.int .u8 a, .int .u8 a] w fun e w' => e = .returned (.bool true) ∧ w' = w := by
  have hz : Hid ((X != a && X != bits BinOp.xor IntKind.u8 IntKind.u8.max a) = true) := by
    show (X != a && X != bits BinOp.xor IntKind.u8 IntKind.u8.max a) = true
    simp [h3, h4]
  go_enter Try.func6, Try.ntmps6
  go_wp2_with (first | (go_at_call 16; refine (awake_walk _).mono ?_; rintro e w' ⟨rfl, rfl⟩) | (go_at_call 12; (first | with_reducible refine (H1.out _).mono ?_ | with_reducible refine (H2.out _).mono ?_ | with_reducible refine (H5.out _).mono ?_); rintro e w' ⟨rfl, rfl⟩) | (go_at_call 14; (first | with_reducible refine (H3.out _).mono ?_ | with_reducible refine (H4.out _).mono ?_); rintro e w' ⟨rfl, rfl⟩))
  go_ret
  exact ⟨congrArg (fun x => Ending.returned (.bool x)) hz.out, rfl⟩
theorem not8 : ∀ a, a < 256 → 255 ^^^ a = 255 - a := by decide +kernel
theorem takes_walk (a b : Nat) (w : World) (ha : a < 256) (hb : b < 256) :
    Calls Try.prog 6 #[.int .u8 a, .int .u8 b] w fun e w' => e = .returned (.bool true) ∧ w' = w := by
  have h3 : ¬ ((box a : Nat) : Int) = (a : Int) := fun h => box_ne a ha (by omega)
  have h4 : ¬ ((box a : Nat) : Int) = bits BinOp.xor IntKind.u8 IntKind.u8.max (a : Int) := by
    have e : bits BinOp.xor IntKind.u8 IntKind.u8.max (a : Int) = ((255 ^^^ a : Nat) : Int) := u8_xor_nat 255 a (by decide) ha
    rw [e, not8 a ha]
    intro h
    exact box_not a ha (by omega)
  have H1 : Hid (∀ w : World, Calls Try.prog 12 #[.int .u8 a] w fun e w' => e = .returned (.int .u8 (box a : Nat)) ∧ w' = w) := fun w => box_walk a w ha
  have H3 : Hid (∀ w : World, Calls Try.prog 14 #[.int .u8 (box a : Nat)] w fun e w' => e = .returned (.int .u8 a) ∧ w' = w) := fun w => by
    have h := back_walk (box a) w (box_lt a)
    rw [back_box a ha] at h; exact h
  have H4 : Hid (∀ w : World, Calls Try.prog 14 #[.int .u8 a] w fun e w' => e = .returned (.int .u8 (back a : Nat)) ∧ w' = w) := fun w => back_walk a w ha
  have H5 : Hid (∀ w : World, Calls Try.prog 12 #[.int .u8 (back a : Nat)] w fun e w' => e = .returned (.int .u8 a) ∧ w' = w) := fun w => by
    have h := box_walk (back a) w (back_lt a)
    rw [box_back a ha] at h; exact h
  by_cases hab : a = b
  · subst hab
    exact takes_one _ _ _ w H1 H1 H3 H4 H5 h3 h4
  · have hX : ¬ ((box a : Nat) : Int) = ((box b : Nat) : Int) := fun h => hab ((box_inj a b ha hb).1 (by omega))
    exact takes_two _ _ _ _ _ w H1 (fun w => box_walk b w hb) H3 H4 H5 hX (by omega) h3 h4
theorem field_walk (a b c : Nat) (w : World) (ha : a < 256) (hb : b < 256) (hc : c < 256) :
    Calls Try.prog 5 #[.int .u8 a, .int .u8 b, .int .u8 c] w fun e w' => e = .returned (.bool true) ∧ w' = w := by
  have x1 : bits .xor .u8 (b : Int) (c : Int) = ((b ^^^ c : Nat) : Int) := xor8 b c hb hc
  have x2 : bits .xor .u8 ((mul a b : Nat) : Int) ((mul a c : Nat) : Int) = ((mul a (b ^^^ c) : Nat) : Int) := by rw [xor8 _ _ (mul_lt _ _) (mul_lt _ _), mul_add]
  have hn := mul_none a b ha hb
  have m1 : ∀ w : World, Calls Try.prog 8 #[.int .u8 a, .int .u8 1] w fun e w' => e = .returned (.int .u8 a) ∧ w' = w := fun w => mul_is a 1 a a 1 a w rfl rfl rfl ha (by decide) (mul_one a ha)
  have m0 : ∀ w : World, Calls Try.prog 8 #[.int .u8 a, .int .u8 0] w fun e w' => e = .returned (.int .u8 0) ∧ w' = w := fun w => mul_is a 0 0 a 0 0 w rfl rfl rfl ha (by decide) (mul_zero a ha)
  have i2 : ∀ w : World, Calls Try.prog 10 #[.int .u8 (inv a : Nat)] w fun e w' => e = .returned (.int .u8 a) ∧ w' = w := fun w => inv_is _ a (inv a) a w rfl rfl (inv_lt a) (inv_inv a ha)
  by_cases ha0 : a = 0
  · subst ha0
    exact field_none b c (mul b c : Nat) (b ^^^ c : Nat) w (fun w => mul_is 0 b 0 0 b 0 w rfl rfl rfl (by decide) hb (zero_mul b hb)) (fun w => mul_is b 0 0 b 0 0 w rfl rfl rfl hb (by decide) (mul_zero b hb))
      (fun w => mul_is 0 c 0 0 c 0 w rfl rfl rfl (by decide) hc (zero_mul c hc)) (fun w => mul_walk b c w hb hc) (fun w => mul_is 0 _ 0 0 (mul b c) 0 w rfl rfl rfl (by decide) (mul_lt _ _) (zero_mul _ (mul_lt _ _)))
      (fun w => mul_is 0 _ 0 0 (b ^^^ c) 0 w rfl rfl rfl (by decide) (xor_lt _ _ hb hc) (zero_mul _ (xor_lt _ _ hb hc))) (fun w => mul_is 0 c 0 0 c 0 w rfl rfl rfl (by decide) hc (zero_mul c hc))
      m1 m0 (fun w => inv_is 0 0 0 0 w rfl rfl (by decide) inv_zero) (fun w => inv_is 0 0 0 0 w rfl rfl (by decide) inv_zero) x1 (by decide +kernel)
  · have H13 : ∀ w : World, Calls Try.prog 8 #[.int .u8 a, .int .u8 (inv a : Nat)] w fun e w' => e = .returned (.int .u8 1) ∧ w' = w := fun w => mul_is a _ 1 a (inv a) 1 w rfl rfl rfl ha (inv_lt a) (mul_inv a ha ha0)
    have na : ¬ (a : Int) = 0 := by omega
    by_cases hb0 : b = 0
    · subst hb0
      have y1 : bits .xor .u8 0 (c : Int) = (c : Int) := by rw [show (0 : Int) = ((0 : Nat) : Int) from rfl, xor8 0 c (by decide) hc, Nat.zero_xor]
      have y2 : bits .xor .u8 0 ((mul a c : Nat) : Int) = ((mul a c : Nat) : Int) := by rw [show (0 : Int) = ((0 : Nat) : Int) from rfl, xor8 0 _ (by decide) (mul_lt _ _), Nat.zero_xor]
      have z := fun w => mul_is 0 c 0 0 c 0 w rfl rfl rfl (by decide) hc (zero_mul c hc)
      exact field_half a c (mul a c : Nat) (inv a : Nat) w m0 (fun w => mul_is 0 a 0 0 a 0 w rfl rfl rfl (by decide) ha (zero_mul a ha)) z z m0 (fun w => mul_walk a c w ha hc) (fun w => mul_walk a c w ha hc) m1 m0 (fun w => inv_walk a w ha) i2 H13 y1 y2 na
    · have nM : ¬ ((mul a b : Nat) : Int) = 0 := by
        intro h
        rcases hn.1 (by omega) with h' | h'
        · exact ha0 h'
        · exact hb0 h'
      exact field_some a b c (mul a b : Nat) (mul b c : Nat) (mul (mul a b) c : Nat) (b ^^^ c : Nat) (mul a (b ^^^ c) : Nat) (mul a c : Nat) (inv a : Nat) w
        (fun w => mul_walk a b w ha hb) (fun w => mul_is b a _ b a (mul a b) w rfl rfl rfl hb ha (mul_comm b a hb ha)) (fun w => mul_walk _ c w (mul_lt _ _) hc) (fun w => mul_walk b c w hb hc)
        (fun w => mul_is a _ _ a (mul b c) (mul (mul a b) c) w rfl rfl rfl ha (mul_lt _ _) (mul_assoc a b c ha hb hc).symm) (fun w => mul_walk a _ w ha (xor_lt _ _ hb hc)) (fun w => mul_walk a c w ha hc) m1 m0 (fun w => inv_walk a w ha) i2 H13 x1 x2 na (by omega) nM
end Go.Proofs.Ytmliphepjmnjlaa.Gf
