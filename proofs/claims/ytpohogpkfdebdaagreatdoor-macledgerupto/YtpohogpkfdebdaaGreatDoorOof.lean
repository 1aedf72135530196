/- Of, and why a session may not begin. -/
import Derived.Test.YtpohogpkfdebdaaGreatDoorOg
namespace Go.Proofs.YtpohogpkfdebdaaGreatDoor.Oc
open Go.ChangeShapes Go.WideShapes Go.ChangeAt Go.RowKit
open Go.Proofs.YtpohogpkfdebdaaGreatDoor.By
open Go.Proofs.YtpohogpkfdebdaaGreatDoor.Sh (Blk size_alloc)
open Go.Proofs.YtpohogpkfdebdaaGreatDoor.Dg (BB LG lpv Lt Tl IsMk MB)
/-- The table of the algorithms. -/
def most (a : Nat) : Nat := if a = 1 then 32 else if a = 3 then 16 else 64
def cust (a : Nat) : Bool := decide (4 ≤ a)
def keyF (a : Nat) : Nat := if a = 3 then 90 else 89
def keyOk (a : Nat) (n : Int) : Bool := if a = 3 then decide (n = 16 ∨ n = 24 ∨ n = 32) else decide (0 ≤ n)
def kind (a : Nat) : List Value := [.int .u8 (a : Int), .int .i64 (most a : Int), .bool (cust a), .func (.func (keyF a)) #[] #[]]
def nokind : List Value := [.int .u8 0, .int .i64 0, .bool false, .nilFunc]
/-- Why a session may not begin: 0: it may. -/
def code (a : Nat) (n c q : Int) : Int := if ¬ (1 ≤ a ∧ a ≤ 7) then 4 else if keyOk a n = false then 7 else if 0 < c ∧ cust a = false then 2 else if 64 < c then 9 else if q < 1 ∨ (most a : Int) < q then 11 else 0
theorem first_below {w w1 : World} {c : Array Value} {t : TypeId} (h : Below w.heap.size w w1) : Below w.heap.size w (w1.alloc (.cells c t)) := below_next h (below_alloc _ _)
set_option maxRecDepth 20000 in
theorem len_1 (n : Int) (w : World) : Calls Tryz.prog 89 #[.int .i64 n] w fun e w' => e = .returned (.bool (decide (0 ≤ n))) ∧ w' = w := by
  go_enter Tryz.func89, Tryz.ntmps89
  go_wp2
  go_ret
  exact ⟨by simp, rfl⟩
set_option maxRecDepth 20000 in
theorem len_3 (n : Int) (w : World) : Calls Tryz.prog 90 #[.int .i64 n] w fun e w' => e = .returned (.bool (decide (n = 16 ∨ n = 24 ∨ n = 32))) ∧ w' = w := by
  go_enter Tryz.func90, Tryz.ntmps90
  go_wp2_with fail
  all_goals
    go_ret
    refine ⟨?_, rfl⟩
    first
      | (simp_all; done)
      | (rename_i a1 a2
         have b1 : (n == 16) = false := beq_eq_false_iff_ne.2 a1
         have b2 : (n == 24) = false := beq_eq_false_iff_ne.2 a2
         show Ending.returned (.bool (n == 16 || n == 24 || n == 32)) = _
         rw [b1, b2]
         simp only [a1, a2, false_or, Bool.false_or]
         rfl)
set_option maxRecDepth 20000 in
theorem of_1 (w : World) : Calls Tryz.prog 64 #[.int .u8 1] w fun e w' => e = .returned (.tuple #[.agg #[.int .u8 1, .int .i64 32, .bool false, .func (.func 89) #[] #[]], .int .i64 0]) ∧ Below w.heap.size w w' := by
  go_enter Tryz.func64, Tryz.ntmps64
  go_wp2_with fail
  exact bodyPost_ret (v := .tuple #[.agg #[.int .u8 1, .int .i64 32, .bool false, .func (.func 89) #[] #[]], .int .i64 0]) (by simp [results, go_sem]) rfl ⟨rfl, below_alloc _ _⟩
set_option maxRecDepth 20000 in
theorem of_2 (w : World) : Calls Tryz.prog 64 #[.int .u8 2] w fun e w' => e = .returned (.tuple #[.agg #[.int .u8 2, .int .i64 64, .bool false, .func (.func 89) #[] #[]], .int .i64 0]) ∧ Below w.heap.size w w' := by
  go_enter Tryz.func64, Tryz.ntmps64
  go_wp2_with fail
  exact bodyPost_ret (v := .tuple #[.agg #[.int .u8 2, .int .i64 64, .bool false, .func (.func 89) #[] #[]], .int .i64 0]) (by simp [results, go_sem]) rfl ⟨rfl, below_alloc _ _⟩
set_option maxRecDepth 20000 in
theorem of_3 (w : World) : Calls Tryz.prog 64 #[.int .u8 3] w fun e w' => e = .returned (.tuple #[.agg #[.int .u8 3, .int .i64 16, .bool false, .func (.func 90) #[] #[]], .int .i64 0]) ∧ Below w.heap.size w w' := by
  go_enter Tryz.func64, Tryz.ntmps64
  go_wp2_with fail
  exact bodyPost_ret (v := .tuple #[.agg #[.int .u8 3, .int .i64 16, .bool false, .func (.func 90) #[] #[]], .int .i64 0]) (by simp [results, go_sem]) rfl ⟨rfl, below_alloc _ _⟩
set_option maxRecDepth 20000 in
theorem of_4 (w : World) : Calls Tryz.prog 64 #[.int .u8 4] w fun e w' => e = .returned (.tuple #[.agg #[.int .u8 4, .int .i64 64, .bool true, .func (.func 89) #[] #[]], .int .i64 0]) ∧ Below w.heap.size w w' := by
  go_enter Tryz.func64, Tryz.ntmps64
  go_wp2_with fail
  exact bodyPost_ret (v := .tuple #[.agg #[.int .u8 4, .int .i64 64, .bool true, .func (.func 89) #[] #[]], .int .i64 0]) (by simp [results, go_sem]) rfl ⟨rfl, below_alloc _ _⟩
set_option maxRecDepth 20000 in
theorem of_5 (w : World) : Calls Tryz.prog 64 #[.int .u8 5] w fun e w' => e = .returned (.tuple #[.agg #[.int .u8 5, .int .i64 64, .bool true, .func (.func 89) #[] #[]], .int .i64 0]) ∧ Below w.heap.size w w' := by
  go_enter Tryz.func64, Tryz.ntmps64
  go_wp2_with fail
  exact bodyPost_ret (v := .tuple #[.agg #[.int .u8 5, .int .i64 64, .bool true, .func (.func 89) #[] #[]], .int .i64 0]) (by simp [results, go_sem]) rfl ⟨rfl, below_alloc _ _⟩
set_option maxRecDepth 20000 in
theorem of_6 (w : World) : Calls Tryz.prog 64 #[.int .u8 6] w fun e w' => e = .returned (.tuple #[.agg #[.int .u8 6, .int .i64 64, .bool true, .func (.func 89) #[] #[]], .int .i64 0]) ∧ Below w.heap.size w w' := by
  go_enter Tryz.func64, Tryz.ntmps64
  go_wp2_with fail
  exact bodyPost_ret (v := .tuple #[.agg #[.int .u8 6, .int .i64 64, .bool true, .func (.func 89) #[] #[]], .int .i64 0]) (by simp [results, go_sem]) rfl ⟨rfl, below_alloc _ _⟩
set_option maxRecDepth 20000 in
theorem of_7 (w : World) : Calls Tryz.prog 64 #[.int .u8 7] w fun e w' => e = .returned (.tuple #[.agg #[.int .u8 7, .int .i64 64, .bool true, .func (.func 89) #[] #[]], .int .i64 0]) ∧ Below w.heap.size w w' := by
  go_enter Tryz.func64, Tryz.ntmps64
  go_wp2_with fail
  exact bodyPost_ret (v := .tuple #[.agg #[.int .u8 7, .int .i64 64, .bool true, .func (.func 89) #[] #[]], .int .i64 0]) (by simp [results, go_sem]) rfl ⟨rfl, below_alloc _ _⟩
set_option maxRecDepth 20000 in
theorem of_bad (a : Int) (h1 : ¬ a = 1) (h2 : ¬ a = 2) (h3 : ¬ a = 3) (h4 : ¬ a = 4) (h5 : ¬ a = 5) (h6 : ¬ a = 6) (h7 : ¬ a = 7) (w : World) : Calls Tryz.prog 64 #[.int .u8 a] w fun e w' => e = .returned (.tuple #[.agg nokind.toArray, .int .i64 4]) ∧ Below w.heap.size w w' := by
  have g1 : (a == 1) = false := by rw [beq_eq_false_iff_ne]; exact h1
  have g2 : (a == 2) = false := by rw [beq_eq_false_iff_ne]; exact h2
  have g3 : (a == 3) = false := by rw [beq_eq_false_iff_ne]; exact h3
  have g4 : (a == 4) = false := by rw [beq_eq_false_iff_ne]; exact h4
  have g5 : (a == 5) = false := by rw [beq_eq_false_iff_ne]; exact h5
  have g6 : (a == 6) = false := by rw [beq_eq_false_iff_ne]; exact h6
  have g7 : (a == 7) = false := by rw [beq_eq_false_iff_ne]; exact h7
  go_enter Tryz.func64, Tryz.ntmps64
  go_wp2_with fail
  exact bodyPost_ret (v := .tuple #[.agg nokind.toArray, .int .i64 4]) (by simp [results, go_sem]; rfl) rfl ⟨rfl, below_alloc _ _⟩
set_option maxRecDepth 20000 in
set_option maxHeartbeats 2000000 in
theorem rf_1 (n c q : Int) (w : World) : Calls Tryz.prog 55 #[.int .u8 1, .int .i64 n, .int .i64 c, .int .i64 q] w fun e w' => e = .returned (.int .i64 (code 1 n c q)) ∧ Below w.heap.size w w' := by
  have hb := hid (fun (V W : World) (h : Below w.heap.size w V) (k : Below V.heap.size V W) => below_next h k)
  go_enter Tryz.func55, Tryz.ntmps55
  go_wp2_with fail
  refine (of_1 w).mono ?_
  rintro e w1 ⟨rfl, hb1⟩
  have B1 := hid hb1
  clear hb1 hb
  go_wp2_with (go_at_call 89; refine (len_1 _ _).mono ?_; rintro e w' ⟨rfl, rfl⟩)
  all_goals
    go_ret
    refine ⟨?_, first_below B1.out⟩
    show Ending.returned (.int .i64 _) = _
    congr 2
    simp_all [code, keyOk, most, cust]
    try omega
set_option maxRecDepth 20000 in
set_option maxHeartbeats 2000000 in
theorem rf_2 (n c q : Int) (w : World) : Calls Tryz.prog 55 #[.int .u8 2, .int .i64 n, .int .i64 c, .int .i64 q] w fun e w' => e = .returned (.int .i64 (code 2 n c q)) ∧ Below w.heap.size w w' := by
  have hb := hid (fun (V W : World) (h : Below w.heap.size w V) (k : Below V.heap.size V W) => below_next h k)
  go_enter Tryz.func55, Tryz.ntmps55
  go_wp2_with fail
  refine (of_2 w).mono ?_
  rintro e w1 ⟨rfl, hb1⟩
  have B1 := hid hb1
  clear hb1 hb
  go_wp2_with (go_at_call 89; refine (len_1 _ _).mono ?_; rintro e w' ⟨rfl, rfl⟩)
  all_goals
    go_ret
    refine ⟨?_, first_below B1.out⟩
    show Ending.returned (.int .i64 _) = _
    congr 2
    simp_all [code, keyOk, most, cust]
    try omega
set_option maxRecDepth 20000 in
set_option maxHeartbeats 2000000 in
theorem rf_3 (n c q : Int) (w : World) : Calls Tryz.prog 55 #[.int .u8 3, .int .i64 n, .int .i64 c, .int .i64 q] w fun e w' => e = .returned (.int .i64 (code 3 n c q)) ∧ Below w.heap.size w w' := by
  have hb := hid (fun (V W : World) (h : Below w.heap.size w V) (k : Below V.heap.size V W) => below_next h k)
  go_enter Tryz.func55, Tryz.ntmps55
  go_wp2_with fail
  refine (of_3 w).mono ?_
  rintro e w1 ⟨rfl, hb1⟩
  have B1 := hid hb1
  clear hb1 hb
  go_wp2_with (go_at_call 90; refine (len_3 _ _).mono ?_; rintro e w' ⟨rfl, rfl⟩)
  all_goals
    go_ret
    refine ⟨?_, first_below B1.out⟩
    show Ending.returned (.int .i64 _) = _
    congr 2
    simp_all [code, keyOk, most, cust]
    try omega
set_option maxRecDepth 20000 in
set_option maxHeartbeats 2000000 in
theorem rf_4 (n c q : Int) (w : World) : Calls Tryz.prog 55 #[.int .u8 4, .int .i64 n, .int .i64 c, .int .i64 q] w fun e w' => e = .returned (.int .i64 (code 4 n c q)) ∧ Below w.heap.size w w' := by
  have hb := hid (fun (V W : World) (h : Below w.heap.size w V) (k : Below V.heap.size V W) => below_next h k)
  go_enter Tryz.func55, Tryz.ntmps55
  go_wp2_with fail
  refine (of_4 w).mono ?_
  rintro e w1 ⟨rfl, hb1⟩
  have B1 := hid hb1
  clear hb1 hb
  go_wp2_with (go_at_call 89; refine (len_1 _ _).mono ?_; rintro e w' ⟨rfl, rfl⟩)
  all_goals
    go_ret
    refine ⟨?_, first_below B1.out⟩
    show Ending.returned (.int .i64 _) = _
    congr 2
    simp_all [code, keyOk, most, cust]
    try omega
set_option maxRecDepth 20000 in
set_option maxHeartbeats 2000000 in
theorem rf_5 (n c q : Int) (w : World) : Calls Tryz.prog 55 #[.int .u8 5, .int .i64 n, .int .i64 c, .int .i64 q] w fun e w' => e = .returned (.int .i64 (code 5 n c q)) ∧ Below w.heap.size w w' := by
  have hb := hid (fun (V W : World) (h : Below w.heap.size w V) (k : Below V.heap.size V W) => below_next h k)
  go_enter Tryz.func55, Tryz.ntmps55
  go_wp2_with fail
  refine (of_5 w).mono ?_
  rintro e w1 ⟨rfl, hb1⟩
  have B1 := hid hb1
  clear hb1 hb
  go_wp2_with (go_at_call 89; refine (len_1 _ _).mono ?_; rintro e w' ⟨rfl, rfl⟩)
  all_goals
    go_ret
    refine ⟨?_, first_below B1.out⟩
    show Ending.returned (.int .i64 _) = _
    congr 2
    simp_all [code, keyOk, most, cust]
    try omega
set_option maxRecDepth 20000 in
set_option maxHeartbeats 2000000 in
theorem rf_6 (n c q : Int) (w : World) : Calls Tryz.prog 55 #[.int .u8 6, .int .i64 n, .int .i64 c, .int .i64 q] w fun e w' => e = .returned (.int .i64 (code 6 n c q)) ∧ Below w.heap.size w w' := by
  have hb := hid (fun (V W : World) (h : Below w.heap.size w V) (k : Below V.heap.size V W) => below_next h k)
  go_enter Tryz.func55, Tryz.ntmps55
  go_wp2_with fail
  refine (of_6 w).mono ?_
  rintro e w1 ⟨rfl, hb1⟩
  have B1 := hid hb1
  clear hb1 hb
  go_wp2_with (go_at_call 89; refine (len_1 _ _).mono ?_; rintro e w' ⟨rfl, rfl⟩)
  all_goals
    go_ret
    refine ⟨?_, first_below B1.out⟩
    show Ending.returned (.int .i64 _) = _
    congr 2
    simp_all [code, keyOk, most, cust]
    try omega
set_option maxRecDepth 20000 in
set_option maxHeartbeats 2000000 in
theorem rf_7 (n c q : Int) (w : World) : Calls Tryz.prog 55 #[.int .u8 7, .int .i64 n, .int .i64 c, .int .i64 q] w fun e w' => e = .returned (.int .i64 (code 7 n c q)) ∧ Below w.heap.size w w' := by
  have hb := hid (fun (V W : World) (h : Below w.heap.size w V) (k : Below V.heap.size V W) => below_next h k)
  go_enter Tryz.func55, Tryz.ntmps55
  go_wp2_with fail
  refine (of_7 w).mono ?_
  rintro e w1 ⟨rfl, hb1⟩
  have B1 := hid hb1
  clear hb1 hb
  go_wp2_with (go_at_call 89; refine (len_1 _ _).mono ?_; rintro e w' ⟨rfl, rfl⟩)
  all_goals
    go_ret
    refine ⟨?_, first_below B1.out⟩
    show Ending.returned (.int .i64 _) = _
    congr 2
    simp_all [code, keyOk, most, cust]
    try omega
set_option maxRecDepth 20000 in
set_option maxHeartbeats 2000000 in
theorem rf_bad (a : Nat) (ha : a = 0 ∨ 8 ≤ a) (n c q : Int) (w : World) : Calls Tryz.prog 55 #[.int .u8 (a : Int), .int .i64 n, .int .i64 c, .int .i64 q] w fun e w' => e = .returned (.int .i64 (code a n c q)) ∧ Below w.heap.size w w' := by
  have OB := hid (of_bad (a : Int) (by omega) (by omega) (by omega) (by omega) (by omega) (by omega) (by omega) w)
  have hc : code a n c q = 4 := if_pos (by omega)
  rw [hc]
  unfold nokind at OB
  go_enter Tryz.func55, Tryz.ntmps55
  go_wp2_with fail
  refine OB.out.mono ?_
  rintro e w1 ⟨rfl, hb1⟩
  have B1 := hid hb1
  clear hb1 OB
  go_wp2_with fail
  go_ret
  exact ⟨rfl, first_below B1.out⟩
theorem rf (a : Nat) (n c q : Int) (w : World) : Calls Tryz.prog 55 #[.int .u8 (a : Int), .int .i64 n, .int .i64 c, .int .i64 q] w fun e w' => e = .returned (.int .i64 (code a n c q)) ∧ Below w.heap.size w w' := by
  by_cases h0 : a = 0 ∨ 8 ≤ a
  · exact rf_bad a h0 n c q w
  · have : a = 1 ∨ a = 2 ∨ a = 3 ∨ a = 4 ∨ a = 5 ∨ a = 6 ∨ a = 7 := by omega
    rcases this with rfl | rfl | rfl | rfl | rfl | rfl | rfl
    · exact rf_1 n c q w
    · exact rf_2 n c q w
    · exact rf_3 n c q w
    · exact rf_4 n c q w
    · exact rf_5 n c q w
    · exact rf_6 n c q w
    · exact rf_7 n c q w
end Go.Proofs.YtpohogpkfdebdaaGreatDoor.Oc
