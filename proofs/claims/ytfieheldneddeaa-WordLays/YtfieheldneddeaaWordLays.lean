/- WordLays: of every word the code lays, in four types and either way, the bytes that the document lays; each answer is memory of its own; no condition. -/
import Derived.Test.YtfieheldneddeaaLits
import Derived.Test.YtfieheldneddeaaRows
import Derived.WalkKit
import Derived.ProofKit
import Derived.OpenShut
import Derived.ShutString
import Derived.ChangeOld
import Derived.Below
namespace Go.Proofs.Ytfieheldneddeaa.wordLays
open Go.ChangeShapes Go.WideShapes Go.ChangeAt Go.RowKit
open Go.ChangeMaps (open_string shut_string)
set_option linter.unusedVariables false      -- a walk need not use every 'w<i>' (that an integer argument fits its kind)

theorem own : ownKnob Try.prog.godebug = none := by kernel_rfl

/-! ### STEP 1: THE WALK: the Go text returns true. 'Grown w w'': the world has at most new blocks (Derived/RowKit3.lean). Part the cases AHEAD of 'go_enter' where a test parts the walk; take each callee by a contract of your own. -/
set_option maxRecDepth 100000 in
set_option maxHeartbeats 4000000 in
theorem walk (a0 : Int) (w0 : (Lit.int .u64 a0).wf = true) (w : World) :
    Calls Try.prog 5 #[.int .u64 a0] w fun e w' => e = .returned (.bool true) ∧ Below w.heap.size w w' := by
  obtain ⟨b0, b1⟩ := u64_bound w0
  clear w0
  have hy : 0 ≤ a0 % 4294967296 ∧ a0 % 4294967296 < 4294967296 := by omega
  obtain ⟨y0, y1⟩ := hy
  have hy64 : a0 % 4294967296 < 18446744073709551616 := by omega
  have B0 : Hid (Below w.heap.size w w) := Below.refl _ _
  go_enter Try.func5, Try.ntmps5
  go_wp2_with fail
  refine (lay19 _ _ y0 y1).mono ?_
  rintro e W1 ⟨v0, rfl, ho, hb⟩
  have X0 := hid ho
  have lo0 := hid (own_row ho)
  have hi0 := hid (own_lt ho)
  have s0 := hb.size
  have B1 : Hid (Below w.heap.size w W1) := B0.out.trans (hb.mono B0.out.size)
  have t0 := B0.out.size
  clear ho hb B0
  go_wp2_with fail
  refine (lay20 _ _ y0 y1).mono ?_
  rintro e W2 ⟨v1, rfl, ho, hb⟩
  replace X0 := hid (own_below X0.out hb)
  have X1 := hid ho
  have lo1 := hid (own_row ho)
  have hi1 := hid (own_lt ho)
  have s1 := hb.size
  have B2 : Hid (Below w.heap.size w W2) := B1.out.trans (hb.mono B1.out.size)
  have t1 := B1.out.size
  clear ho hb B1
  go_wp2_with fail
  refine (lay21 _ _ y0 y1).mono ?_
  rintro e W3 ⟨v2, rfl, ho, hb⟩
  replace X0 := hid (own_below X0.out hb)
  replace X1 := hid (own_below X1.out hb)
  have X2 := hid ho
  have lo2 := hid (own_row ho)
  have hi2 := hid (own_lt ho)
  have s2 := hb.size
  have B3 : Hid (Below w.heap.size w W3) := B2.out.trans (hb.mono B2.out.size)
  have t2 := B2.out.size
  clear ho hb B2
  go_wp2_with fail
  refine (lay22 _ _ y0 y1).mono ?_
  rintro e W4 ⟨v3, rfl, ho, hb⟩
  replace X0 := hid (own_below X0.out hb)
  replace X1 := hid (own_below X1.out hb)
  replace X2 := hid (own_below X2.out hb)
  have X3 := hid ho
  have lo3 := hid (own_row ho)
  have hi3 := hid (own_lt ho)
  have s3 := hb.size
  have B4 : Hid (Below w.heap.size w W4) := B3.out.trans (hb.mono B3.out.size)
  have t3 := B3.out.size
  clear ho hb B3
  go_wp2_with fail
  refine (lay23 _ _ b0 b1).mono ?_
  rintro e W5 ⟨v4, rfl, ho, hb⟩
  replace X0 := hid (own_below X0.out hb)
  replace X1 := hid (own_below X1.out hb)
  replace X2 := hid (own_below X2.out hb)
  replace X3 := hid (own_below X3.out hb)
  have X4 := hid ho
  have lo4 := hid (own_row ho)
  have hi4 := hid (own_lt ho)
  have s4 := hb.size
  have B5 : Hid (Below w.heap.size w W5) := B4.out.trans (hb.mono B4.out.size)
  have t4 := B4.out.size
  clear ho hb B4
  go_wp2_with fail
  refine (lay24 _ _ b0 b1).mono ?_
  rintro e W6 ⟨v5, rfl, ho, hb⟩
  replace X0 := hid (own_below X0.out hb)
  replace X1 := hid (own_below X1.out hb)
  replace X2 := hid (own_below X2.out hb)
  replace X3 := hid (own_below X3.out hb)
  replace X4 := hid (own_below X4.out hb)
  have X5 := hid ho
  have lo5 := hid (own_row ho)
  have hi5 := hid (own_lt ho)
  have s5 := hb.size
  have B6 : Hid (Below w.heap.size w W6) := B5.out.trans (hb.mono B5.out.size)
  have t5 := B5.out.size
  clear ho hb B5
  go_wp2_with fail
  refine (lay25 _ _ b0 b1).mono ?_
  rintro e W7 ⟨v6, rfl, ho, hb⟩
  replace X0 := hid (own_below X0.out hb)
  replace X1 := hid (own_below X1.out hb)
  replace X2 := hid (own_below X2.out hb)
  replace X3 := hid (own_below X3.out hb)
  replace X4 := hid (own_below X4.out hb)
  replace X5 := hid (own_below X5.out hb)
  have X6 := hid ho
  have lo6 := hid (own_row ho)
  have hi6 := hid (own_lt ho)
  have s6 := hb.size
  have B7 : Hid (Below w.heap.size w W7) := B6.out.trans (hb.mono B6.out.size)
  have t6 := B6.out.size
  clear ho hb B6
  go_wp2_with fail
  refine (lay26 _ _ b0 b1).mono ?_
  rintro e W8 ⟨v7, rfl, ho, hb⟩
  replace X0 := hid (own_below X0.out hb)
  replace X1 := hid (own_below X1.out hb)
  replace X2 := hid (own_below X2.out hb)
  replace X3 := hid (own_below X3.out hb)
  replace X4 := hid (own_below X4.out hb)
  replace X5 := hid (own_below X5.out hb)
  replace X6 := hid (own_below X6.out hb)
  have X7 := hid ho
  have lo7 := hid (own_row ho)
  have hi7 := hid (own_lt ho)
  have s7 := hb.size
  have B8 : Hid (Below w.heap.size w W8) := B7.out.trans (hb.mono B7.out.size)
  have t7 := B7.out.size
  clear ho hb B7
  obtain ⟨p0, q0, hv0⟩ := own_lit_slice X0.out
  obtain ⟨p1, q1, hv1⟩ := own_lit_slice X1.out
  obtain ⟨p2, q2, hv2⟩ := own_lit_slice X2.out
  obtain ⟨p3, q3, hv3⟩ := own_lit_slice X3.out
  obtain ⟨p4, q4, hv4⟩ := own_lit_slice X4.out
  obtain ⟨p5, q5, hv5⟩ := own_lit_slice X5.out
  obtain ⟨p6, q6, hv6⟩ := own_lit_slice X6.out
  obtain ⟨p7, q7, hv7⟩ := own_lit_slice X7.out
  subst hv0 hv1 hv2 hv3 hv4 hv5 hv6 hv7
  go_wp2_with fail
  refine (refLay27 _ 4 _ y0 hy64 (by omega) (by omega)).mono ?_
  rintro e U1 ⟨r0, rfl, ho, hb⟩
  have GC : Hid (∀ j, j < 8 → U1.cell? ⟨W8.heap.size, j, none⟩ = some (lv [.slice p0 4 q0, .slice p1 4 q1, .slice p2 4 q2, .slice p3 4 q3, .slice p4 8 q4, .slice p5 8 q5, .slice p6 8 q6, .slice p7 8 q7] j)) := fun j hj => (hb.cell (p := ⟨W8.heap.size, j, none⟩) (by simp)).trans (inv_cells W8 _ _ rfl j hj)
  replace X0 := hid (own_below (own_alloc X0.out _) hb)
  replace X1 := hid (own_below (own_alloc X1.out _) hb)
  replace X2 := hid (own_below (own_alloc X2.out _) hb)
  replace X3 := hid (own_below (own_alloc X3.out _) hb)
  replace X4 := hid (own_below (own_alloc X4.out _) hb)
  replace X5 := hid (own_below (own_alloc X5.out _) hb)
  replace X6 := hid (own_below (own_alloc X6.out _) hb)
  replace X7 := hid (own_below (own_alloc X7.out _) hb)
  have C1 : Hid (Below w.heap.size w U1) := (below_alloc B8.out rfl _).trans (hb.mono (by have := B8.out.size; simp; omega))
  have sg : W8.heap.size < U1.heap.size := by have := hb.size; simp at this; omega
  have t8 := B8.out.size
  have Y0 := hid ho
  clear ho hb B8
  go_wp2_with fail
  refine (refLay27 _ 4 _ y0 hy64 (by omega) (by omega)).mono ?_
  rintro e U2 ⟨r1, rfl, ho, hb⟩
  replace GC : Hid (∀ j, j < 8 → U2.cell? ⟨W8.heap.size, j, none⟩ = some (lv [.slice p0 4 q0, .slice p1 4 q1, .slice p2 4 q2, .slice p3 4 q3, .slice p4 8 q4, .slice p5 8 q5, .slice p6 8 q6, .slice p7 8 q7] j)) := fun j hj => (hb.cell (p := ⟨W8.heap.size, j, none⟩) sg).trans (GC.out j hj)
  replace X0 := hid (own_below X0.out hb)
  replace X1 := hid (own_below X1.out hb)
  replace X2 := hid (own_below X2.out hb)
  replace X3 := hid (own_below X3.out hb)
  replace X4 := hid (own_below X4.out hb)
  replace X5 := hid (own_below X5.out hb)
  replace X6 := hid (own_below X6.out hb)
  replace X7 := hid (own_below X7.out hb)
  replace Y0 := hid (own_below Y0.out hb)
  have C2 : Hid (Below w.heap.size w U2) := C1.out.trans (hb.mono C1.out.size)
  replace sg : W8.heap.size < U2.heap.size := Nat.lt_of_lt_of_le sg hb.size
  have Y1 := hid ho
  clear ho hb C1
  go_wp2_with fail
  refine (refLayLE28 _ 4 _ y0 hy64 (by omega)).mono ?_
  rintro e U3 ⟨r2, rfl, ho, hb⟩
  replace GC : Hid (∀ j, j < 8 → U3.cell? ⟨W8.heap.size, j, none⟩ = some (lv [.slice p0 4 q0, .slice p1 4 q1, .slice p2 4 q2, .slice p3 4 q3, .slice p4 8 q4, .slice p5 8 q5, .slice p6 8 q6, .slice p7 8 q7] j)) := fun j hj => (hb.cell (p := ⟨W8.heap.size, j, none⟩) sg).trans (GC.out j hj)
  replace X0 := hid (own_below X0.out hb)
  replace X1 := hid (own_below X1.out hb)
  replace X2 := hid (own_below X2.out hb)
  replace X3 := hid (own_below X3.out hb)
  replace X4 := hid (own_below X4.out hb)
  replace X5 := hid (own_below X5.out hb)
  replace X6 := hid (own_below X6.out hb)
  replace X7 := hid (own_below X7.out hb)
  replace Y0 := hid (own_below Y0.out hb)
  replace Y1 := hid (own_below Y1.out hb)
  have C3 : Hid (Below w.heap.size w U3) := C2.out.trans (hb.mono C2.out.size)
  replace sg : W8.heap.size < U3.heap.size := Nat.lt_of_lt_of_le sg hb.size
  have Y2 := hid ho
  clear ho hb C2
  go_wp2_with fail
  refine (refLayLE28 _ 4 _ y0 hy64 (by omega)).mono ?_
  rintro e U4 ⟨r3, rfl, ho, hb⟩
  replace GC : Hid (∀ j, j < 8 → U4.cell? ⟨W8.heap.size, j, none⟩ = some (lv [.slice p0 4 q0, .slice p1 4 q1, .slice p2 4 q2, .slice p3 4 q3, .slice p4 8 q4, .slice p5 8 q5, .slice p6 8 q6, .slice p7 8 q7] j)) := fun j hj => (hb.cell (p := ⟨W8.heap.size, j, none⟩) sg).trans (GC.out j hj)
  replace X0 := hid (own_below X0.out hb)
  replace X1 := hid (own_below X1.out hb)
  replace X2 := hid (own_below X2.out hb)
  replace X3 := hid (own_below X3.out hb)
  replace X4 := hid (own_below X4.out hb)
  replace X5 := hid (own_below X5.out hb)
  replace X6 := hid (own_below X6.out hb)
  replace X7 := hid (own_below X7.out hb)
  replace Y0 := hid (own_below Y0.out hb)
  replace Y1 := hid (own_below Y1.out hb)
  replace Y2 := hid (own_below Y2.out hb)
  have C4 : Hid (Below w.heap.size w U4) := C3.out.trans (hb.mono C3.out.size)
  replace sg : W8.heap.size < U4.heap.size := Nat.lt_of_lt_of_le sg hb.size
  have Y3 := hid ho
  clear ho hb C3
  go_wp2_with fail
  refine (refLay27 _ 8 _ b0 b1 (by omega) (by omega)).mono ?_
  rintro e U5 ⟨r4, rfl, ho, hb⟩
  replace GC : Hid (∀ j, j < 8 → U5.cell? ⟨W8.heap.size, j, none⟩ = some (lv [.slice p0 4 q0, .slice p1 4 q1, .slice p2 4 q2, .slice p3 4 q3, .slice p4 8 q4, .slice p5 8 q5, .slice p6 8 q6, .slice p7 8 q7] j)) := fun j hj => (hb.cell (p := ⟨W8.heap.size, j, none⟩) sg).trans (GC.out j hj)
  replace X0 := hid (own_below X0.out hb)
  replace X1 := hid (own_below X1.out hb)
  replace X2 := hid (own_below X2.out hb)
  replace X3 := hid (own_below X3.out hb)
  replace X4 := hid (own_below X4.out hb)
  replace X5 := hid (own_below X5.out hb)
  replace X6 := hid (own_below X6.out hb)
  replace X7 := hid (own_below X7.out hb)
  replace Y0 := hid (own_below Y0.out hb)
  replace Y1 := hid (own_below Y1.out hb)
  replace Y2 := hid (own_below Y2.out hb)
  replace Y3 := hid (own_below Y3.out hb)
  have C5 : Hid (Below w.heap.size w U5) := C4.out.trans (hb.mono C4.out.size)
  replace sg : W8.heap.size < U5.heap.size := Nat.lt_of_lt_of_le sg hb.size
  have Y4 := hid ho
  clear ho hb C4
  go_wp2_with fail
  refine (refLay27 _ 8 _ b0 b1 (by omega) (by omega)).mono ?_
  rintro e U6 ⟨r5, rfl, ho, hb⟩
  replace GC : Hid (∀ j, j < 8 → U6.cell? ⟨W8.heap.size, j, none⟩ = some (lv [.slice p0 4 q0, .slice p1 4 q1, .slice p2 4 q2, .slice p3 4 q3, .slice p4 8 q4, .slice p5 8 q5, .slice p6 8 q6, .slice p7 8 q7] j)) := fun j hj => (hb.cell (p := ⟨W8.heap.size, j, none⟩) sg).trans (GC.out j hj)
  replace X0 := hid (own_below X0.out hb)
  replace X1 := hid (own_below X1.out hb)
  replace X2 := hid (own_below X2.out hb)
  replace X3 := hid (own_below X3.out hb)
  replace X4 := hid (own_below X4.out hb)
  replace X5 := hid (own_below X5.out hb)
  replace X6 := hid (own_below X6.out hb)
  replace X7 := hid (own_below X7.out hb)
  replace Y0 := hid (own_below Y0.out hb)
  replace Y1 := hid (own_below Y1.out hb)
  replace Y2 := hid (own_below Y2.out hb)
  replace Y3 := hid (own_below Y3.out hb)
  replace Y4 := hid (own_below Y4.out hb)
  have C6 : Hid (Below w.heap.size w U6) := C5.out.trans (hb.mono C5.out.size)
  replace sg : W8.heap.size < U6.heap.size := Nat.lt_of_lt_of_le sg hb.size
  have Y5 := hid ho
  clear ho hb C5
  go_wp2_with fail
  refine (refLayLE28 _ 8 _ b0 b1 (by omega)).mono ?_
  rintro e U7 ⟨r6, rfl, ho, hb⟩
  replace GC : Hid (∀ j, j < 8 → U7.cell? ⟨W8.heap.size, j, none⟩ = some (lv [.slice p0 4 q0, .slice p1 4 q1, .slice p2 4 q2, .slice p3 4 q3, .slice p4 8 q4, .slice p5 8 q5, .slice p6 8 q6, .slice p7 8 q7] j)) := fun j hj => (hb.cell (p := ⟨W8.heap.size, j, none⟩) sg).trans (GC.out j hj)
  replace X0 := hid (own_below X0.out hb)
  replace X1 := hid (own_below X1.out hb)
  replace X2 := hid (own_below X2.out hb)
  replace X3 := hid (own_below X3.out hb)
  replace X4 := hid (own_below X4.out hb)
  replace X5 := hid (own_below X5.out hb)
  replace X6 := hid (own_below X6.out hb)
  replace X7 := hid (own_below X7.out hb)
  replace Y0 := hid (own_below Y0.out hb)
  replace Y1 := hid (own_below Y1.out hb)
  replace Y2 := hid (own_below Y2.out hb)
  replace Y3 := hid (own_below Y3.out hb)
  replace Y4 := hid (own_below Y4.out hb)
  replace Y5 := hid (own_below Y5.out hb)
  have C7 : Hid (Below w.heap.size w U7) := C6.out.trans (hb.mono C6.out.size)
  replace sg : W8.heap.size < U7.heap.size := Nat.lt_of_lt_of_le sg hb.size
  have Y6 := hid ho
  clear ho hb C6
  go_wp2_with fail
  refine (refLayLE28 _ 8 _ b0 b1 (by omega)).mono ?_
  rintro e U8 ⟨r7, rfl, ho, hb⟩
  replace GC : Hid (∀ j, j < 8 → U8.cell? ⟨W8.heap.size, j, none⟩ = some (lv [.slice p0 4 q0, .slice p1 4 q1, .slice p2 4 q2, .slice p3 4 q3, .slice p4 8 q4, .slice p5 8 q5, .slice p6 8 q6, .slice p7 8 q7] j)) := fun j hj => (hb.cell (p := ⟨W8.heap.size, j, none⟩) sg).trans (GC.out j hj)
  replace X0 := hid (own_below X0.out hb)
  replace X1 := hid (own_below X1.out hb)
  replace X2 := hid (own_below X2.out hb)
  replace X3 := hid (own_below X3.out hb)
  replace X4 := hid (own_below X4.out hb)
  replace X5 := hid (own_below X5.out hb)
  replace X6 := hid (own_below X6.out hb)
  replace X7 := hid (own_below X7.out hb)
  replace Y0 := hid (own_below Y0.out hb)
  replace Y1 := hid (own_below Y1.out hb)
  replace Y2 := hid (own_below Y2.out hb)
  replace Y3 := hid (own_below Y3.out hb)
  replace Y4 := hid (own_below Y4.out hb)
  replace Y5 := hid (own_below Y5.out hb)
  replace Y6 := hid (own_below Y6.out hb)
  have C8 : Hid (Below w.heap.size w U8) := C7.out.trans (hb.mono C7.out.size)
  replace sg : W8.heap.size < U8.heap.size := Nat.lt_of_lt_of_le sg hb.size
  have Y7 := hid ho
  clear ho hb C7
  obtain ⟨m0, n0, hv0⟩ := own_lit_slice Y0.out
  obtain ⟨m1, n1, hv1⟩ := own_lit_slice Y1.out
  obtain ⟨m2, n2, hv2⟩ := own_lit_slice Y2.out
  obtain ⟨m3, n3, hv3⟩ := own_lit_slice Y3.out
  obtain ⟨m4, n4, hv4⟩ := own_lit_slice Y4.out
  obtain ⟨m5, n5, hv5⟩ := own_lit_slice Y5.out
  obtain ⟨m6, n6, hv6⟩ := own_lit_slice Y6.out
  obtain ⟨m7, n7, hv7⟩ := own_lit_slice Y7.out
  subst hv0 hv1 hv2 hv3 hv4 hv5 hv6 hv7
  obtain ⟨NN, hNN⟩ : ∃ N : Nat → Nat, N = fun j => if j < 4 then 4 else 8 := ⟨_, rfl⟩
  obtain ⟨FF, hFF⟩ : ∃ F : Nat → Nat → Int, F = fun j => if j < 2 then beByte 4 (a0 % 4294967296) else if j < 4 then leByte (a0 % 4294967296) else if j < 6 then beByte 8 a0 else leByte a0 := ⟨_, rfl⟩
  have FB : Hid (∀ j i, 0 ≤ FF j i ∧ FF j i < 256) := by
    subst hFF; intro j i
    show 0 ≤ (if j < 2 then beByte 4 (a0 % 4294967296) else if j < 4 then leByte (a0 % 4294967296) else if j < 6 then beByte 8 a0 else leByte a0 : Nat → Int) i ∧ (if j < 2 then beByte 4 (a0 % 4294967296) else if j < 4 then leByte (a0 % 4294967296) else if j < 6 then beByte 8 a0 else leByte a0 : Nat → Int) i < 256
    split
    · exact beByte_bound _ _ _
    · split
      · exact leByte_bound _ _
      · split
        · exact beByte_bound _ _ _
        · exact leByte_bound _ _
  have GX : Hid (∀ j, j < 8 → Own (U8.alloc (.cells #[.slice m0 4 n0, .slice m1 4 n1, .slice m2 4 n2, .slice m3 4 n3, .slice m4 8 n4, .slice m5 8 n5, .slice m6 8 n6, .slice m7 8 n7] 32)) w.heap.size (lv [.slice p0 4 q0, .slice p1 4 q1, .slice p2 4 q2, .slice p3 4 q3, .slice p4 8 q4, .slice p5 8 q5, .slice p6 8 q6, .slice p7 8 q7] j) (NN j) (FF j)) := by
    subst hNN hFF; intro j hj
    rcases (show j = 0 ∨ j = 1 ∨ j = 2 ∨ j = 3 ∨ j = 4 ∨ j = 5 ∨ j = 6 ∨ j = 7 by omega) with rfl | rfl | rfl | rfl | rfl | rfl | rfl | rfl
    · exact own_base (own_alloc X0.out _) t0
    · exact own_base (own_alloc X1.out _) t1
    · exact own_base (own_alloc X2.out _) t2
    · exact own_base (own_alloc X3.out _) t3
    · exact own_base (own_alloc X4.out _) t4
    · exact own_base (own_alloc X5.out _) t5
    · exact own_base (own_alloc X6.out _) t6
    · exact own_base (own_alloc X7.out _) t7
  have GY : Hid (∀ j, j < 8 → RB (U8.alloc (.cells #[.slice m0 4 n0, .slice m1 4 n1, .slice m2 4 n2, .slice m3 4 n3, .slice m4 8 n4, .slice m5 8 n5, .slice m6 8 n6, .slice m7 8 n7] 32)) (lv [.slice m0 4 n0, .slice m1 4 n1, .slice m2 4 n2, .slice m3 4 n3, .slice m4 8 n4, .slice m5 8 n5, .slice m6 8 n6, .slice m7 8 n7] j) (NN j) (FF j)) := by
    subst hNN hFF; intro j hj
    rcases (show j = 0 ∨ j = 1 ∨ j = 2 ∨ j = 3 ∨ j = 4 ∨ j = 5 ∨ j = 6 ∨ j = 7 by omega) with rfl | rfl | rfl | rfl | rfl | rfl | rfl | rfl
    · exact (own_alloc Y0.out _).reads
    · exact (own_alloc Y1.out _).reads
    · exact (own_alloc Y2.out _).reads
    · exact (own_alloc Y3.out _).reads
    · exact (own_alloc Y4.out _).reads
    · exact (own_alloc Y5.out _).reads
    · exact (own_alloc Y6.out _).reads
    · exact (own_alloc Y7.out _).reads
  have NB : ∀ j, j < 8 → NN j ≤ 8 := by subst hNN; intro j hj; show (if j < 4 then 4 else 8) ≤ 8; split <;> omega
  have AA : Hid (AP 8 W8.heap.size (lv [.slice p0 4 q0, .slice p1 4 q1, .slice p2 4 q2, .slice p3 4 q3, .slice p4 8 q4, .slice p5 8 q5, .slice p6 8 q6, .slice p7 8 q7])) := by
    refine ap_rising [.slice p0 4 q0, .slice p1 4 q1, .slice p2 4 q2, .slice p3 4 q3, .slice p4 8 q4, .slice p5 8 q5, .slice p6 8 q6, .slice p7 8 q7] _ (fun j => [w.heap.size, W1.heap.size, W2.heap.size, W3.heap.size, W4.heap.size, W5.heap.size, W6.heap.size, W7.heap.size, W8.heap.size].getD j 0) (fun j hj q hq => ?_) (fun j hj => ?_) (Nat.le_refl _)
    · replace hj : j < 8 := hj
      rcases (show j = 0 ∨ j = 1 ∨ j = 2 ∨ j = 3 ∨ j = 4 ∨ j = 5 ∨ j = 6 ∨ j = 7 by omega) with rfl | rfl | rfl | rfl | rfl | rfl | rfl | rfl
      · exact ⟨lo0.out q hq, hi0.out q hq⟩
      · exact ⟨lo1.out q hq, hi1.out q hq⟩
      · exact ⟨lo2.out q hq, hi2.out q hq⟩
      · exact ⟨lo3.out q hq, hi3.out q hq⟩
      · exact ⟨lo4.out q hq, hi4.out q hq⟩
      · exact ⟨lo5.out q hq, hi5.out q hq⟩
      · exact ⟨lo6.out q hq, hi6.out q hq⟩
      · exact ⟨lo7.out q hq, hi7.out q hq⟩
    · replace hj : j < 8 := hj
      rcases (show j = 0 ∨ j = 1 ∨ j = 2 ∨ j = 3 ∨ j = 4 ∨ j = 5 ∨ j = 6 ∨ j = 7 by omega) with rfl | rfl | rfl | rfl | rfl | rfl | rfl | rfl
      · exact s0
      · exact s1
      · exact s2
      · exact s3
      · exact s4
      · exact s5
      · exact s6
      · exact s7
  replace GC : Hid (∀ j, j < 8 → (U8.alloc (.cells #[.slice m0 4 n0, .slice m1 4 n1, .slice m2 4 n2, .slice m3 4 n3, .slice m4 8 n4, .slice m5 8 n5, .slice m6 8 n6, .slice m7 8 n7] 32)).cell? ⟨W8.heap.size, j, none⟩ = some (lv [.slice p0 4 q0, .slice p1 4 q1, .slice p2 4 q2, .slice p3 4 q3, .slice p4 8 q4, .slice p5 8 q5, .slice p6 8 q6, .slice p7 8 q7] j)) := fun j hj => (World.cell?_alloc_past _ _ _ sg).trans (GC.out j hj)
  have HC : Hid (∀ j, j < 8 → (U8.alloc (.cells #[.slice m0 4 n0, .slice m1 4 n1, .slice m2 4 n2, .slice m3 4 n3, .slice m4 8 n4, .slice m5 8 n5, .slice m6 8 n6, .slice m7 8 n7] 32)).cell? ⟨U8.heap.size, j, none⟩ = some (lv [.slice m0 4 n0, .slice m1 4 n1, .slice m2 4 n2, .slice m3 4 n3, .slice m4 8 n4, .slice m5 8 n5, .slice m6 8 n6, .slice m7 8 n7] j)) := fun j hj => inv_cells U8 _ _ rfl j hj
  have BB : Hid (Below w.heap.size w (U8.alloc (.cells #[.slice m0 4 n0, .slice m1 4 n1, .slice m2 4 n2, .slice m3 4 n3, .slice m4 8 n4, .slice m5 8 n5, .slice m6 8 n6, .slice m7 8 n7] 32))) := below_alloc C8.out rfl _
  have HNN := hid hNN
  clear hNN hFF X0 Y0 lo0 hi0 t0 s0 X1 Y1 lo1 hi1 t1 s1 X2 Y2 lo2 hi2 t2 s2 X3 Y3 lo3 hi3 t3 s3 X4 Y4 lo4 hi4 t4 s4 X5 Y5 lo5 hi5 t5 s5 X6 Y6 lo6 hi6 t6 s6 X7 Y7 lo7 hi7 t7 s7 C8 t8 sg
  generalize hZ : U8.alloc (.cells #[.slice m0 4 n0, .slice m1 4 n1, .slice m2 4 n2, .slice m3 4 n3, .slice m4 8 n4, .slice m5 8 n5, .slice m6 8 n6, .slice m7 8 n7] 32) = Z at *
  generalize hLL : W8.heap.size = LL at *
  generalize hKK : U8.heap.size = KK at *
  generalize hVS : lv [.slice p0 4 q0, .slice p1 4 q1, .slice p2 4 q2, .slice p3 4 q3, .slice p4 8 q4, .slice p5 8 q5, .slice p6 8 q6, .slice p7 8 q7] = VV at *
  generalize hVS2 : lv [.slice m0 4 n0, .slice m1 4 n1, .slice m2 4 n2, .slice m3 4 n3, .slice m4 8 n4, .slice m5 8 n5, .slice m6 8 n6, .slice m7 8 n7] = VW at *
  go_wp2_with fail
  clear hZ hLL hKK hVS hVS2
  go_loopw [7] (fun i wr => ∃ k : Nat, k ≤ 8 ∧ i = .int .i64 k ∧ ∃ d, wr = Z.drewN d) (fun i _ => 8 - (intOf i).toNat)
  case atStart => exact ⟨0, Nat.zero_le _, rfl, 0, rfl⟩
  case round =>
    obtain ⟨k, hk, rfl, d, rfl⟩ := hrel
    by_cases hlt : k < 8
    · have c1 := GC.out k hlt
      have c2 := HC.out k hlt
      have hn8 := NB k hlt
      obtain ⟨a, c, e1⟩ := own_lit_slice (GX.out k hlt)
      obtain ⟨a', c', e2⟩ : ∃ a c, VW k = .slice a (NN k) c := by obtain ⟨_, a, c, h, _⟩ := GY.out k hlt; exact ⟨a, c, h⟩
      have r1 := (GX.out k hlt).reads
      have r2 := GY.out k hlt
      rw [e1] at c1 r1
      rw [e2] at c2 r2
      clear e1 e2
      generalize NN k = n at c1 c2 hn8 r1 r2
      have R1 := hid r1
      have R2 := hid r2
      clear r1 r2
      have l1 : (k : Int) < 8 := by omega
      go_wp2
      go_quiet ((go_at_call 29; refine (same_true _ _ n (FF k) (FF k) _ (RB.drewN R1.out _) (RB.drewN R2.out _) (by omega) (fun _ _ => rfl)).mono ?_; rintro e w4 ⟨rfl, d2, rfl⟩; exact ⟨rfl, _, drewN_add3 _ _ _ _⟩))
      go_wp2
      go_roundw
      case rel => exact ⟨k + 1, by omega, by go_num, _, rfl⟩
      case measure => simp [intOf]; omega
    · clear HC GY
      go_wp2_with fail
      refine (apart30 w.heap.size 8 LL 8 VV NN FF _ AA.out ⟨fun j hj => own_drewN (GX.out j hj) _, fun j hj => GC.out j hj⟩ FB.out (by omega) (by omega) (fun j hj => by have := NB j hj; omega) BB.out.size).mono ?_
      rintro e W9 ⟨rfl, hb⟩
      have B9 : Hid (Below w.heap.size w W9) := (Below.drewN' BB.out _).trans hb
      clear hb AA GX GC FB BB
      go_wp2
      go_ret
      exact ⟨rfl, B9.out⟩

/-! ### THE ROW's STEP: WRITTEN OUT: LEAVE IT -/
set_option maxRecDepth 100000 in
theorem lifted (os : Os) (started : os.Started) (H : Type) (enc : TypeId × Value → H) :
    ReturnsInHanded {} Try.checked os 5 .any (Rows.wordLaysSpec.pre6 enc Try.prog Try.f5 Rows.wordLaysRow.domain false) (Rows.wordLaysSpec.post enc Try.prog Try.f5 false true false false) := by
  refine returnsInHanded_of_change (C := Try.checked) own started (by kernel_rfl) Try.func5
    (ChangeSpec.witness6 (enc := enc) (C := Try.checked) false ⟨#[], #[.int .u64 0], []⟩ 8 (by kernel_rfl) (by kernel_rfl) (by kernel_rfl) (by kernel_rfl)) ?_
  intro W base args ds gs before hval0 hW hcnd _
  have hval : ∀ (j : Nat) t v, Try.f5.params[j]? = some t → args[j]? = some v → Value.okWide Try.prog W .any base t v := hval0
  have hW' := hW
  obtain ⟨p, q, hA0, hV, rfl, hfz, hnd⟩ := hW
  have hA : DataW.TrodAll enc Try.prog W 0 (fun _ => true) true Try.f5.params.toList args.toList ds p := hA0
  rw [Try.params5] at hA hval
  obtain ⟨v0, vs0, d0, ds0, p0, q0, hargs, rfl, rfl, h0, r0⟩ := trodAll_cons hA
  obtain ⟨rfl, rfl, rfl⟩ := trodAll_nil r0
  obtain rfl : args = #[v0] := by cases args; simp_all
  obtain ⟨rfl, rfl⟩ := trodVars_none hV
  obtain ⟨a0, rfl, rfl, rfl, w0⟩ := open_int Try.underlying22 (hval 0 22 v0 rfl rfl) h0
  clear hA0 hval0
  refine (walk a0 w0 W).mono fun e W' ⟨he, hg⟩ => ?_
  subst he
  exact ⟨_, rfl, _, _, _, [], _, [], hW', trodAll_mk1 (shut_bool Try.underlying4 _), (trodAll_cons_mk (shut_int Try.underlying22 w0) trodAll_mk0), rfl, hg.frame _, fun h => by cases h⟩

theorem over : Rows.wordLaysRow.holds Try.pinned (OpenSpec.ofChange Rows.wordLaysSpec) :=
  OpenClaim.holds_of_wide 5 Try.f5 rfl rfl rfl rfl rfl rfl rfl ⟨rfl, rfl, rfl, rfl, rfl⟩ rfl rfl rfl rfl rfl (by kernel_rfl) Try.func5 (by kernel_rfl)
    (of_decide_eq_true (by kernel_rfl)) (by unfold Func.isWrapper; first | (rw [if_pos (by decide +kernel)]; kernel_rfl) | (rw [if_neg (by decide +kernel)]; exact ⟨rfl, rfl⟩))
    (fun os started H enc _ => lifted os started H enc)

/-- ████ THE STATEMENT ████ -/
theorem proved : Rows.WordLaysSaid :=
  over
end Go.Proofs.Ytfieheldneddeaa.wordLays
namespace Go.Proofs.Ytfieheldneddeaa
theorem wordLays_holds : Rows.WordLaysSaid := wordLays.proved
#print axioms wordLays_holds
end Go.Proofs.Ytfieheldneddeaa
