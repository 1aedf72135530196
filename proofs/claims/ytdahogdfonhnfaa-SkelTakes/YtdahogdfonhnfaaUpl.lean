/- Plain of the program. -/
import Derived.Test.YtdahogdfonhnfaaUlv
namespace Go.Proofs.Ytdahogdfonhnfaa.Ou
open Go.ChangeShapes Go.WideShapes Go.ChangeAt Go.RowKit
open Go.Proofs.Ytdahogdfonhnfaa.By
open Go.Proofs.Ytdahogdfonhnfaa.Tb (Blk Blk.newAt)
set_option linter.unusedVariables false
/-- What a kind uses. -/
def uH (k : Int) : Bool := decide (2 ≤ k) && decide (k ≤ 10)
def uA (k : Int) : Bool := k == 2 || k == 7 || k == 8
def uC (k : Int) : Bool := k == 8
def uO (k : Int) : Bool := k == 2 || k == 7 || k == 8
def uD (k : Int) : Bool := k == 1 || k == 2 || k == 3 || k == 5 || k == 7 || k == 8
def uM (k : Int) : Bool := k == 7
def pq (q : Nu) : Nu := ⟨q.k, if uH q.k then q.h else 0, if uA q.k then q.a else 0, if uC q.k then q.c else 0, if uO q.k then q.o else 0⟩
def pN (q : Nu) (n : Nat) : Nat := if uD q.k then n else 0
def pM (q : Nu) (n : Nat) : Nat := if uM q.k then n else 0
/-- An operation that is told plain. -/
def ToldP (w w' : World) (q : Nu) (n : Nat) (f : Nat → Int) (nm : Nat) (g : Nat → Int) (d m : Value) : Prop :=
  By.Own w' w.heap.size d (pN q n) f ∧ By.Own w' w.heap.size m (pM q nm) g ∧ (d.ownBlock = none ∨ d.ownBlock ≠ m.ownBlock) ∧ Below w.heap.size w w'
theorem nil_apart (v : Value) : v.ownBlock = none ∨ v.ownBlock ≠ (Value.slice none 0 0).ownBlock := by
  cases h : v.ownBlock with
  | none => exact .inl rfl
  | some j => exact .inr (fun e => by cases e)
/-- The end of Plain. -/
theorem plain_end {w W V1 V2 : World} {P : Nat} {q Q : Nu} {n nm : Nat} {f g : Nat → Int} {d m : Value} (eq : pq q = Q) (kr : Blk V2 (w.heap.size + 1) zA.toList 28) (bb : Below w.heap.size w V2) (kp : Blk V2 P (oL Q d m) 28) (_hW : Below w.heap.size w W)
    (o1 : By.Own V2 w.heap.size d (pN q n) f) (n1 : ∀ j, d.ownBlock = some j → w.heap.size + 1 < j) (o2 : By.Own V2 w.heap.size m (pM q nm) g) (n2 : ∀ j, m.ownBlock = some j → w.heap.size + 1 < j) (h12 : d.ownBlock = none ∨ d.ownBlock ≠ m.ownBlock) (_hV : Below w.heap.size w V1) :
    (LDo ⟨P, 0, none⟩).run Try.prog V2 = .ok (ov Q d m) V2 ∧ ∃ W', (SVo ⟨w.heap.size + 1, 0, none⟩ (ov Q d m)).run Try.prog V2 = .ok () W' ∧ (LDo ⟨w.heap.size + 1, 0, none⟩).run Try.prog W' = .ok (ov (pq q) d m) W' ∧ ToldP w W' q n f nm g d m := by
  obtain ⟨W', s1, k1, hk⟩ := SVo_run kr rfl (q := Q) (own_one o1) (own_one o2)
  refine ⟨LDo_run kp, W', s1, by rw [eq]; exact LDo_run k1, ?_, ?_, h12, bb.trans (hk.below bb.size (fun j hj => by omega))⟩
  · exact own_keptB o1 hk (fun j e h => by have := n1 j e; omega)
  · exact own_keptB o2 hk (fun j e h => by have := n2 j e; omega)
set_option maxRecDepth 8000 in
set_option maxHeartbeats 1200000 in
theorem plain_1 (q : Nu) (d m : Value) (n nm : Nat) (f g : Nat → Int) (w : World) (hk : q.k = 1) (h1 : By.RB w d n f) (h2 : By.RB w m nm g) (hn : n ≤ 140737488355328) (hm : nm ≤ 140737488355328) :
    Calls Try.prog 28 #[ov q d m] w fun e w' => ∃ d' m', e = .returned (ov (pq q) d' m') ∧ ToldP w w' q n f nm g d' m' := by
  have EU : us q.k = 16 := by unfold us; repeat' (first | rw [if_pos (by omega)] | rw [if_neg (by omega)])
  have EQ : Hid (pq q = ⟨q.k, 0, 0, 0, 0⟩ ∧ pN q n = n ∧ pM q nm = 0) := by
    have e : uH q.k = false ∧ uA q.k = false ∧ uC q.k = false ∧ uO q.k = false ∧ uD q.k = true ∧ uM q.k = false := by unfold uH uA uC uO uD uM; refine ⟨?_, ?_, ?_, ?_, ?_, ?_⟩ <;> simp <;> omega
    show pq q = _ ∧ pN q n = _ ∧ pM q nm = _
    unfold pq pN pM
    rw [e.1, e.2.1, e.2.2.1, e.2.2.2.1, e.2.2.2.2.1, e.2.2.2.2.2]
    exact ⟨rfl, rfl, rfl⟩
  clear hk
  obtain ⟨a1, c1, rfl⟩ := rb_sl h1
  obtain ⟨a2, c2, rfl⟩ := rb_sl h2
  obtain ⟨W0, hW0⟩ : ∃ W, (w.alloc (.cells #[Value.int IntKind.u8 q.k, Value.int IntKind.i64 q.h, Value.int IntKind.u8 q.a, Value.int IntKind.i64 q.c, Value.int IntKind.i64 q.o, Value.slice a1 n c1, Value.slice a2 nm c2] 28)).alloc (.cells zA 28) = W := ⟨_, rfl⟩
  have KA : Hid (Blk W0 w.heap.size (oL q (Value.slice a1 n c1) (Value.slice a2 nm c2)) 28) := by rw [← hW0]; exact (Blk.newAt w _ _ 28 w.heap.size rfl rfl).alloc _
  have KR : Hid (Blk W0 (w.heap.size + 1) zA.toList 28) := by rw [← hW0]; exact Blk.newAt (w.alloc _) _ _ 28 (w.heap.size + 1) (by simp) rfl
  have BW : Hid (Below w.heap.size w W0) := by rw [← hW0]; exact below_next (below_alloc _ _) (below_alloc _ _)
  have Z0 : Hid (W0.heap.size = w.heap.size + 1 + 1) := by show W0.heap.size = _; rw [← hW0]; simp
  have x0 := KA.out.cell 0 _ rfl
  have H1 := hid h1
  have H2 := hid h2
  clear h1 h2
  go_enter Try.func28, Try.ntmps28
  go_wp2_with fail
  clear hW0
  refine (used_ok q.k W0).mono ?_
  rintro e W ⟨rfl, hw⟩
  rw [hw, EU]
  clear hw EU
  obtain ⟨W1, s1, kp, hb, _⟩ := var_op W0 ⟨q.k, 0, 0, 0, 0⟩ (d := .slice none 0 0) (m := .slice none 0 0) rfl rfl
  have KP := hid kp
  replace BW := hid (below_next BW.out hb)
  replace KA := hid (KA.out.below hb)
  replace KR := hid (KR.out.below hb)
  have P0 := hid (show W0.heap.size < W1.heap.size from kp.lt)
  clear hb kp
  have y5 := KA.out.cell 5 _ rfl
  go_wp2_with fail
  clear s1 x0 y5
  refine (copied_ok _ n f W1 (H1.out.below BW.out) hn).mono ?_
  rintro e V5 ⟨d', rfl, o1, hb⟩
  obtain ⟨a3, c3, rfl⟩ := own_lit_slice o1
  have q1 := own_row o1
  replace BW := hid (below_next BW.out hb)
  replace KA := hid (KA.out.below hb)
  replace KR := hid (KR.out.below hb)
  replace KP := hid (KP.out.below hb)
  have hl := KP.out.lt
  have z5 := KP.out.cell 5 _ rfl
  have f5 := KP.out.frozen 5
  obtain ⟨U5, hV5⟩ : ∃ V, V5.setCell ⟨W0.heap.size, 5, none⟩ (.slice a3 n c3) = V := ⟨_, rfl⟩
  have kk := Kp.setCell (w := V5) W0.heap.size 5 (.slice a3 n c3)
  rw [hV5] at kk
  have kp : Blk U5 W0.heap.size (oL ⟨q.k, 0, 0, 0, 0⟩ (.slice a3 n c3) (.slice none 0 0)) 28 := by rw [← hV5]; exact KP.out.set 5 _
  have SZ : Hid (W0.heap.size < W1.heap.size) := P0.out
  have O1 : Hid (By.Own U5 W1.heap.size (.slice a3 n c3) n f) := own_keptB o1 kk (fun j e h => by have := q1 j e; have := SZ.out; omega)
  replace KA := hid (KA.out.kept kk (by have := Z0.out; omega))
  replace KR := hid (KR.out.kept kk (by have := Z0.out; omega))
  replace KP := hid kp
  replace BW := hid (BW.out.trans (kk.below BW.out.size (fun j hj => by have := Z0.out; omega)))
  have Q1 : Hid (∀ j, (Value.slice a3 n c3).ownBlock = some j → w.heap.size + 1 < j) := fun j e => by have := q1 j e; have := SZ.out; have := Z0.out; omega
  clear kk kp o1 hb hl q1
  obtain ⟨l1, W9, s9, l9, t9⟩ := plain_end (d := .slice a3 n c3) (m := .slice none 0 0) EQ.out.1 KR.out BW.out KP.out BW.out (n := n) (f := f) (nm := nm) (g := g) (by rw [EQ.out.2.1]; exact own_base O1.out (by have := SZ.out; have := Z0.out; omega)) Q1.out (by rw [EQ.out.2.2]; exact own_nil _ _ _ H2.out.1) (fun j e => by cases e) (nil_apart _) BW.out
  have l1' : (LDo ⟨W0.heap.size, 0, none⟩).run Try.prog U5 = .ok (.agg #[Value.int IntKind.u8 q.k, Value.int IntKind.i64 0, Value.int IntKind.u8 0, Value.int IntKind.i64 0, Value.int IntKind.i64 0, .slice a3 n c3, .slice none 0 0]) U5 := l1
  have s9' : (SVo ⟨w.heap.size + 1, 0, none⟩ (.agg #[Value.int IntKind.u8 q.k, Value.int IntKind.i64 0, Value.int IntKind.u8 0, Value.int IntKind.i64 0, Value.int IntKind.i64 0, .slice a3 n c3, .slice none 0 0])).run Try.prog U5 = .ok () W9 := s9
  have L9 := hid l9
  have T9 := hid t9
  clear l9 t9 l1 s9
  go_wp2_with fail
  refine bodyPost_ret (Tb.results_cell1 rfl rfl L9.out) rfl ?_
  exact ⟨_, _, rfl, T9.out⟩
set_option maxRecDepth 8000 in
set_option maxHeartbeats 1200000 in
theorem plain_2 (q : Nu) (d m : Value) (n nm : Nat) (f g : Nat → Int) (w : World) (hk : q.k = 2) (h1 : By.RB w d n f) (h2 : By.RB w m nm g) (hn : n ≤ 140737488355328) (hm : nm ≤ 140737488355328) :
    Calls Try.prog 28 #[ov q d m] w fun e w' => ∃ d' m', e = .returned (ov (pq q) d' m') ∧ ToldP w w' q n f nm g d' m' := by
  have EU : us q.k = 27 := by unfold us; repeat' (first | rw [if_pos (by omega)] | rw [if_neg (by omega)])
  have EQ : Hid (pq q = ⟨q.k, q.h, q.a, 0, q.o⟩ ∧ pN q n = n ∧ pM q nm = 0) := by
    have e : uH q.k = true ∧ uA q.k = true ∧ uC q.k = false ∧ uO q.k = true ∧ uD q.k = true ∧ uM q.k = false := by unfold uH uA uC uO uD uM; refine ⟨?_, ?_, ?_, ?_, ?_, ?_⟩ <;> simp <;> omega
    show pq q = _ ∧ pN q n = _ ∧ pM q nm = _
    unfold pq pN pM
    rw [e.1, e.2.1, e.2.2.1, e.2.2.2.1, e.2.2.2.2.1, e.2.2.2.2.2]
    exact ⟨rfl, rfl, rfl⟩
  clear hk
  obtain ⟨a1, c1, rfl⟩ := rb_sl h1
  obtain ⟨a2, c2, rfl⟩ := rb_sl h2
  obtain ⟨W0, hW0⟩ : ∃ W, (w.alloc (.cells #[Value.int IntKind.u8 q.k, Value.int IntKind.i64 q.h, Value.int IntKind.u8 q.a, Value.int IntKind.i64 q.c, Value.int IntKind.i64 q.o, Value.slice a1 n c1, Value.slice a2 nm c2] 28)).alloc (.cells zA 28) = W := ⟨_, rfl⟩
  have KA : Hid (Blk W0 w.heap.size (oL q (Value.slice a1 n c1) (Value.slice a2 nm c2)) 28) := by rw [← hW0]; exact (Blk.newAt w _ _ 28 w.heap.size rfl rfl).alloc _
  have KR : Hid (Blk W0 (w.heap.size + 1) zA.toList 28) := by rw [← hW0]; exact Blk.newAt (w.alloc _) _ _ 28 (w.heap.size + 1) (by simp) rfl
  have BW : Hid (Below w.heap.size w W0) := by rw [← hW0]; exact below_next (below_alloc _ _) (below_alloc _ _)
  have Z0 : Hid (W0.heap.size = w.heap.size + 1 + 1) := by show W0.heap.size = _; rw [← hW0]; simp
  have x0 := KA.out.cell 0 _ rfl
  have H1 := hid h1
  have H2 := hid h2
  clear h1 h2
  go_enter Try.func28, Try.ntmps28
  go_wp2_with fail
  clear hW0
  refine (used_ok q.k W0).mono ?_
  rintro e W ⟨rfl, hw⟩
  rw [hw, EU]
  clear hw EU
  obtain ⟨W1, s1, kp, hb, _⟩ := var_op W0 ⟨q.k, 0, 0, 0, 0⟩ (d := .slice none 0 0) (m := .slice none 0 0) rfl rfl
  have KP := hid kp
  replace BW := hid (below_next BW.out hb)
  replace KA := hid (KA.out.below hb)
  replace KR := hid (KR.out.below hb)
  have P0 := hid (show W0.heap.size < W1.heap.size from kp.lt)
  clear hb kp
  have y1 := KA.out.cell 1 _ rfl
  have z1 := KP.out.cell 1 _ rfl
  have f1 := KP.out.frozen 1
  obtain ⟨U1, hV1⟩ : ∃ V, W1.setCell ⟨W0.heap.size, 1, none⟩ (.int .i64 q.h) = V := ⟨_, rfl⟩
  have kk := Kp.setCell (w := W1) W0.heap.size 1 (.int .i64 q.h)
  rw [hV1] at kk
  replace KA := hid (KA.out.kept kk (by have := Z0.out; omega))
  replace KR := hid (KR.out.kept kk (by have := Z0.out; omega))
  have kp : Blk U1 W0.heap.size (oL ⟨q.k, q.h, 0, 0, 0⟩ (.slice none 0 0) (.slice none 0 0)) 28 := by rw [← hV1]; exact KP.out.set 1 _
  replace KP := hid kp
  replace BW := hid (BW.out.trans (kk.below BW.out.size (fun j hj => by have := Z0.out; omega)))
  clear kk kp
  have y2 := KA.out.cell 2 _ rfl
  have z2 := KP.out.cell 2 _ rfl
  have f2 := KP.out.frozen 2
  obtain ⟨U2, hV2⟩ : ∃ V, U1.setCell ⟨W0.heap.size, 2, none⟩ (.int .u8 q.a) = V := ⟨_, rfl⟩
  have kk := Kp.setCell (w := U1) W0.heap.size 2 (.int .u8 q.a)
  rw [hV2] at kk
  replace KA := hid (KA.out.kept kk (by have := Z0.out; omega))
  replace KR := hid (KR.out.kept kk (by have := Z0.out; omega))
  have kp : Blk U2 W0.heap.size (oL ⟨q.k, q.h, q.a, 0, 0⟩ (.slice none 0 0) (.slice none 0 0)) 28 := by rw [← hV2]; exact KP.out.set 2 _
  replace KP := hid kp
  replace BW := hid (BW.out.trans (kk.below BW.out.size (fun j hj => by have := Z0.out; omega)))
  clear kk kp
  have y4 := KA.out.cell 4 _ rfl
  have z4 := KP.out.cell 4 _ rfl
  have f4 := KP.out.frozen 4
  obtain ⟨U3, hV3⟩ : ∃ V, U2.setCell ⟨W0.heap.size, 4, none⟩ (.int .i64 q.o) = V := ⟨_, rfl⟩
  have kk := Kp.setCell (w := U2) W0.heap.size 4 (.int .i64 q.o)
  rw [hV3] at kk
  replace KA := hid (KA.out.kept kk (by have := Z0.out; omega))
  replace KR := hid (KR.out.kept kk (by have := Z0.out; omega))
  have kp : Blk U3 W0.heap.size (oL ⟨q.k, q.h, q.a, 0, q.o⟩ (.slice none 0 0) (.slice none 0 0)) 28 := by rw [← hV3]; exact KP.out.set 4 _
  replace KP := hid kp
  replace BW := hid (BW.out.trans (kk.below BW.out.size (fun j hj => by have := Z0.out; omega)))
  clear kk kp
  have SZ1 : Hid (W0.heap.size < U3.heap.size) := KP.out.lt
  have y5 := KA.out.cell 5 _ rfl
  go_wp2_with fail
  clear s1 x0 y1 z1 f1 hV1 y2 z2 f2 hV2 y4 z4 f4 hV3 y5
  refine (copied_ok _ n f U3 (H1.out.below BW.out) hn).mono ?_
  rintro e V5 ⟨d', rfl, o1, hb⟩
  obtain ⟨a3, c3, rfl⟩ := own_lit_slice o1
  have q1 := own_row o1
  replace BW := hid (below_next BW.out hb)
  replace KA := hid (KA.out.below hb)
  replace KR := hid (KR.out.below hb)
  replace KP := hid (KP.out.below hb)
  have hl := KP.out.lt
  have z5 := KP.out.cell 5 _ rfl
  have f5 := KP.out.frozen 5
  obtain ⟨U5, hV5⟩ : ∃ V, V5.setCell ⟨W0.heap.size, 5, none⟩ (.slice a3 n c3) = V := ⟨_, rfl⟩
  have kk := Kp.setCell (w := V5) W0.heap.size 5 (.slice a3 n c3)
  rw [hV5] at kk
  have kp : Blk U5 W0.heap.size (oL ⟨q.k, q.h, q.a, 0, q.o⟩ (.slice a3 n c3) (.slice none 0 0)) 28 := by rw [← hV5]; exact KP.out.set 5 _
  have SZ : Hid (W0.heap.size < U3.heap.size) := SZ1.out
  have O1 : Hid (By.Own U5 U3.heap.size (.slice a3 n c3) n f) := own_keptB o1 kk (fun j e h => by have := q1 j e; have := SZ.out; omega)
  replace KA := hid (KA.out.kept kk (by have := Z0.out; omega))
  replace KR := hid (KR.out.kept kk (by have := Z0.out; omega))
  replace KP := hid kp
  replace BW := hid (BW.out.trans (kk.below BW.out.size (fun j hj => by have := Z0.out; omega)))
  have Q1 : Hid (∀ j, (Value.slice a3 n c3).ownBlock = some j → w.heap.size + 1 < j) := fun j e => by have := q1 j e; have := SZ.out; have := Z0.out; omega
  clear kk kp o1 hb hl q1
  obtain ⟨l1, W9, s9, l9, t9⟩ := plain_end (d := .slice a3 n c3) (m := .slice none 0 0) EQ.out.1 KR.out BW.out KP.out BW.out (n := n) (f := f) (nm := nm) (g := g) (by rw [EQ.out.2.1]; exact own_base O1.out (by have := SZ.out; have := Z0.out; omega)) Q1.out (by rw [EQ.out.2.2]; exact own_nil _ _ _ H2.out.1) (fun j e => by cases e) (nil_apart _) BW.out
  have l1' : (LDo ⟨W0.heap.size, 0, none⟩).run Try.prog U5 = .ok (.agg #[Value.int IntKind.u8 q.k, Value.int IntKind.i64 q.h, Value.int IntKind.u8 q.a, Value.int IntKind.i64 0, Value.int IntKind.i64 q.o, .slice a3 n c3, .slice none 0 0]) U5 := l1
  have s9' : (SVo ⟨w.heap.size + 1, 0, none⟩ (.agg #[Value.int IntKind.u8 q.k, Value.int IntKind.i64 q.h, Value.int IntKind.u8 q.a, Value.int IntKind.i64 0, Value.int IntKind.i64 q.o, .slice a3 n c3, .slice none 0 0])).run Try.prog U5 = .ok () W9 := s9
  have L9 := hid l9
  have T9 := hid t9
  clear l9 t9 l1 s9
  go_wp2_with fail
  refine bodyPost_ret (Tb.results_cell1 rfl rfl L9.out) rfl ?_
  exact ⟨_, _, rfl, T9.out⟩
set_option maxRecDepth 8000 in
set_option maxHeartbeats 1200000 in
theorem plain_3 (q : Nu) (d m : Value) (n nm : Nat) (f g : Nat → Int) (w : World) (hk : q.k = 3 ∨ q.k = 5) (h1 : By.RB w d n f) (h2 : By.RB w m nm g) (hn : n ≤ 140737488355328) (hm : nm ≤ 140737488355328) :
    Calls Try.prog 28 #[ov q d m] w fun e w' => ∃ d' m', e = .returned (ov (pq q) d' m') ∧ ToldP w w' q n f nm g d' m' := by
  have EU : us q.k = 17 := by unfold us; repeat' (first | rw [if_pos (by omega)] | rw [if_neg (by omega)])
  have EQ : Hid (pq q = ⟨q.k, q.h, 0, 0, 0⟩ ∧ pN q n = n ∧ pM q nm = 0) := by
    have e : uH q.k = true ∧ uA q.k = false ∧ uC q.k = false ∧ uO q.k = false ∧ uD q.k = true ∧ uM q.k = false := by unfold uH uA uC uO uD uM; refine ⟨?_, ?_, ?_, ?_, ?_, ?_⟩ <;> simp <;> omega
    show pq q = _ ∧ pN q n = _ ∧ pM q nm = _
    unfold pq pN pM
    rw [e.1, e.2.1, e.2.2.1, e.2.2.2.1, e.2.2.2.2.1, e.2.2.2.2.2]
    exact ⟨rfl, rfl, rfl⟩
  clear hk
  obtain ⟨a1, c1, rfl⟩ := rb_sl h1
  obtain ⟨a2, c2, rfl⟩ := rb_sl h2
  obtain ⟨W0, hW0⟩ : ∃ W, (w.alloc (.cells #[Value.int IntKind.u8 q.k, Value.int IntKind.i64 q.h, Value.int IntKind.u8 q.a, Value.int IntKind.i64 q.c, Value.int IntKind.i64 q.o, Value.slice a1 n c1, Value.slice a2 nm c2] 28)).alloc (.cells zA 28) = W := ⟨_, rfl⟩
  have KA : Hid (Blk W0 w.heap.size (oL q (Value.slice a1 n c1) (Value.slice a2 nm c2)) 28) := by rw [← hW0]; exact (Blk.newAt w _ _ 28 w.heap.size rfl rfl).alloc _
  have KR : Hid (Blk W0 (w.heap.size + 1) zA.toList 28) := by rw [← hW0]; exact Blk.newAt (w.alloc _) _ _ 28 (w.heap.size + 1) (by simp) rfl
  have BW : Hid (Below w.heap.size w W0) := by rw [← hW0]; exact below_next (below_alloc _ _) (below_alloc _ _)
  have Z0 : Hid (W0.heap.size = w.heap.size + 1 + 1) := by show W0.heap.size = _; rw [← hW0]; simp
  have x0 := KA.out.cell 0 _ rfl
  have H1 := hid h1
  have H2 := hid h2
  clear h1 h2
  go_enter Try.func28, Try.ntmps28
  go_wp2_with fail
  clear hW0
  refine (used_ok q.k W0).mono ?_
  rintro e W ⟨rfl, hw⟩
  rw [hw, EU]
  clear hw EU
  obtain ⟨W1, s1, kp, hb, _⟩ := var_op W0 ⟨q.k, 0, 0, 0, 0⟩ (d := .slice none 0 0) (m := .slice none 0 0) rfl rfl
  have KP := hid kp
  replace BW := hid (below_next BW.out hb)
  replace KA := hid (KA.out.below hb)
  replace KR := hid (KR.out.below hb)
  have P0 := hid (show W0.heap.size < W1.heap.size from kp.lt)
  clear hb kp
  have y1 := KA.out.cell 1 _ rfl
  have z1 := KP.out.cell 1 _ rfl
  have f1 := KP.out.frozen 1
  obtain ⟨U1, hV1⟩ : ∃ V, W1.setCell ⟨W0.heap.size, 1, none⟩ (.int .i64 q.h) = V := ⟨_, rfl⟩
  have kk := Kp.setCell (w := W1) W0.heap.size 1 (.int .i64 q.h)
  rw [hV1] at kk
  replace KA := hid (KA.out.kept kk (by have := Z0.out; omega))
  replace KR := hid (KR.out.kept kk (by have := Z0.out; omega))
  have kp : Blk U1 W0.heap.size (oL ⟨q.k, q.h, 0, 0, 0⟩ (.slice none 0 0) (.slice none 0 0)) 28 := by rw [← hV1]; exact KP.out.set 1 _
  replace KP := hid kp
  replace BW := hid (BW.out.trans (kk.below BW.out.size (fun j hj => by have := Z0.out; omega)))
  clear kk kp
  have SZ1 : Hid (W0.heap.size < U1.heap.size) := KP.out.lt
  have y5 := KA.out.cell 5 _ rfl
  go_wp2_with fail
  clear s1 x0 y1 z1 f1 hV1 y5
  refine (copied_ok _ n f U1 (H1.out.below BW.out) hn).mono ?_
  rintro e V5 ⟨d', rfl, o1, hb⟩
  obtain ⟨a3, c3, rfl⟩ := own_lit_slice o1
  have q1 := own_row o1
  replace BW := hid (below_next BW.out hb)
  replace KA := hid (KA.out.below hb)
  replace KR := hid (KR.out.below hb)
  replace KP := hid (KP.out.below hb)
  have hl := KP.out.lt
  have z5 := KP.out.cell 5 _ rfl
  have f5 := KP.out.frozen 5
  obtain ⟨U5, hV5⟩ : ∃ V, V5.setCell ⟨W0.heap.size, 5, none⟩ (.slice a3 n c3) = V := ⟨_, rfl⟩
  have kk := Kp.setCell (w := V5) W0.heap.size 5 (.slice a3 n c3)
  rw [hV5] at kk
  have kp : Blk U5 W0.heap.size (oL ⟨q.k, q.h, 0, 0, 0⟩ (.slice a3 n c3) (.slice none 0 0)) 28 := by rw [← hV5]; exact KP.out.set 5 _
  have SZ : Hid (W0.heap.size < U1.heap.size) := SZ1.out
  have O1 : Hid (By.Own U5 U1.heap.size (.slice a3 n c3) n f) := own_keptB o1 kk (fun j e h => by have := q1 j e; have := SZ.out; omega)
  replace KA := hid (KA.out.kept kk (by have := Z0.out; omega))
  replace KR := hid (KR.out.kept kk (by have := Z0.out; omega))
  replace KP := hid kp
  replace BW := hid (BW.out.trans (kk.below BW.out.size (fun j hj => by have := Z0.out; omega)))
  have Q1 : Hid (∀ j, (Value.slice a3 n c3).ownBlock = some j → w.heap.size + 1 < j) := fun j e => by have := q1 j e; have := SZ.out; have := Z0.out; omega
  clear kk kp o1 hb hl q1
  obtain ⟨l1, W9, s9, l9, t9⟩ := plain_end (d := .slice a3 n c3) (m := .slice none 0 0) EQ.out.1 KR.out BW.out KP.out BW.out (n := n) (f := f) (nm := nm) (g := g) (by rw [EQ.out.2.1]; exact own_base O1.out (by have := SZ.out; have := Z0.out; omega)) Q1.out (by rw [EQ.out.2.2]; exact own_nil _ _ _ H2.out.1) (fun j e => by cases e) (nil_apart _) BW.out
  have l1' : (LDo ⟨W0.heap.size, 0, none⟩).run Try.prog U5 = .ok (.agg #[Value.int IntKind.u8 q.k, Value.int IntKind.i64 q.h, Value.int IntKind.u8 0, Value.int IntKind.i64 0, Value.int IntKind.i64 0, .slice a3 n c3, .slice none 0 0]) U5 := l1
  have s9' : (SVo ⟨w.heap.size + 1, 0, none⟩ (.agg #[Value.int IntKind.u8 q.k, Value.int IntKind.i64 q.h, Value.int IntKind.u8 0, Value.int IntKind.i64 0, Value.int IntKind.i64 0, .slice a3 n c3, .slice none 0 0])).run Try.prog U5 = .ok () W9 := s9
  have L9 := hid l9
  have T9 := hid t9
  clear l9 t9 l1 s9
  go_wp2_with fail
  refine bodyPost_ret (Tb.results_cell1 rfl rfl L9.out) rfl ?_
  exact ⟨_, _, rfl, T9.out⟩
set_option maxRecDepth 8000 in
set_option maxHeartbeats 1200000 in
theorem plain_4 (q : Nu) (d m : Value) (n nm : Nat) (f g : Nat → Int) (w : World) (hk : q.k = 4 ∨ q.k = 6 ∨ q.k = 9 ∨ q.k = 10) (h1 : By.RB w d n f) (h2 : By.RB w m nm g) (hn : n ≤ 140737488355328) (hm : nm ≤ 140737488355328) :
    Calls Try.prog 28 #[ov q d m] w fun e w' => ∃ d' m', e = .returned (ov (pq q) d' m') ∧ ToldP w w' q n f nm g d' m' := by
  have EU : us q.k = 1 := by unfold us; repeat' (first | rw [if_pos (by omega)] | rw [if_neg (by omega)])
  have EQ : Hid (pq q = ⟨q.k, q.h, 0, 0, 0⟩ ∧ pN q n = 0 ∧ pM q nm = 0) := by
    have e : uH q.k = true ∧ uA q.k = false ∧ uC q.k = false ∧ uO q.k = false ∧ uD q.k = false ∧ uM q.k = false := by unfold uH uA uC uO uD uM; refine ⟨?_, ?_, ?_, ?_, ?_, ?_⟩ <;> simp <;> omega
    show pq q = _ ∧ pN q n = _ ∧ pM q nm = _
    unfold pq pN pM
    rw [e.1, e.2.1, e.2.2.1, e.2.2.2.1, e.2.2.2.2.1, e.2.2.2.2.2]
    exact ⟨rfl, rfl, rfl⟩
  clear hk
  obtain ⟨a1, c1, rfl⟩ := rb_sl h1
  obtain ⟨a2, c2, rfl⟩ := rb_sl h2
  obtain ⟨W0, hW0⟩ : ∃ W, (w.alloc (.cells #[Value.int IntKind.u8 q.k, Value.int IntKind.i64 q.h, Value.int IntKind.u8 q.a, Value.int IntKind.i64 q.c, Value.int IntKind.i64 q.o, Value.slice a1 n c1, Value.slice a2 nm c2] 28)).alloc (.cells zA 28) = W := ⟨_, rfl⟩
  have KA : Hid (Blk W0 w.heap.size (oL q (Value.slice a1 n c1) (Value.slice a2 nm c2)) 28) := by rw [← hW0]; exact (Blk.newAt w _ _ 28 w.heap.size rfl rfl).alloc _
  have KR : Hid (Blk W0 (w.heap.size + 1) zA.toList 28) := by rw [← hW0]; exact Blk.newAt (w.alloc _) _ _ 28 (w.heap.size + 1) (by simp) rfl
  have BW : Hid (Below w.heap.size w W0) := by rw [← hW0]; exact below_next (below_alloc _ _) (below_alloc _ _)
  have Z0 : Hid (W0.heap.size = w.heap.size + 1 + 1) := by show W0.heap.size = _; rw [← hW0]; simp
  have x0 := KA.out.cell 0 _ rfl
  have H1 := hid h1
  have H2 := hid h2
  clear h1 h2
  go_enter Try.func28, Try.ntmps28
  go_wp2_with fail
  clear hW0
  refine (used_ok q.k W0).mono ?_
  rintro e W ⟨rfl, hw⟩
  rw [hw, EU]
  clear hw EU
  obtain ⟨W1, s1, kp, hb, _⟩ := var_op W0 ⟨q.k, 0, 0, 0, 0⟩ (d := .slice none 0 0) (m := .slice none 0 0) rfl rfl
  have KP := hid kp
  replace BW := hid (below_next BW.out hb)
  replace KA := hid (KA.out.below hb)
  replace KR := hid (KR.out.below hb)
  have P0 := hid (show W0.heap.size < W1.heap.size from kp.lt)
  clear hb kp
  have y1 := KA.out.cell 1 _ rfl
  have z1 := KP.out.cell 1 _ rfl
  have f1 := KP.out.frozen 1
  obtain ⟨U1, hV1⟩ : ∃ V, W1.setCell ⟨W0.heap.size, 1, none⟩ (.int .i64 q.h) = V := ⟨_, rfl⟩
  have kk := Kp.setCell (w := W1) W0.heap.size 1 (.int .i64 q.h)
  rw [hV1] at kk
  replace KA := hid (KA.out.kept kk (by have := Z0.out; omega))
  replace KR := hid (KR.out.kept kk (by have := Z0.out; omega))
  have kp : Blk U1 W0.heap.size (oL ⟨q.k, q.h, 0, 0, 0⟩ (.slice none 0 0) (.slice none 0 0)) 28 := by rw [← hV1]; exact KP.out.set 1 _
  replace KP := hid kp
  replace BW := hid (BW.out.trans (kk.below BW.out.size (fun j hj => by have := Z0.out; omega)))
  clear kk kp
  obtain ⟨l1, W9, s9, l9, t9⟩ := plain_end (d := .slice none 0 0) (m := .slice none 0 0) EQ.out.1 KR.out BW.out KP.out BW.out (n := n) (f := f) (nm := nm) (g := g) (by rw [EQ.out.2.1]; exact own_nil _ _ _ H1.out.1) (fun j e => by cases e) (by rw [EQ.out.2.2]; exact own_nil _ _ _ H2.out.1) (fun j e => by cases e) (.inl rfl) BW.out
  have l1' : (LDo ⟨W0.heap.size, 0, none⟩).run Try.prog U1 = .ok (.agg #[Value.int IntKind.u8 q.k, Value.int IntKind.i64 q.h, Value.int IntKind.u8 0, Value.int IntKind.i64 0, Value.int IntKind.i64 0, .slice none 0 0, .slice none 0 0]) U1 := l1
  have s9' : (SVo ⟨w.heap.size + 1, 0, none⟩ (.agg #[Value.int IntKind.u8 q.k, Value.int IntKind.i64 q.h, Value.int IntKind.u8 0, Value.int IntKind.i64 0, Value.int IntKind.i64 0, .slice none 0 0, .slice none 0 0])).run Try.prog U1 = .ok () W9 := s9
  have L9 := hid l9
  have T9 := hid t9
  clear l9 t9 l1 s9
  go_wp2_with fail
  refine bodyPost_ret (Tb.results_cell1 rfl rfl L9.out) rfl ?_
  exact ⟨_, _, rfl, T9.out⟩
set_option maxRecDepth 8000 in
set_option maxHeartbeats 1200000 in
theorem plain_7 (q : Nu) (d m : Value) (n nm : Nat) (f g : Nat → Int) (w : World) (hk : q.k = 7) (h1 : By.RB w d n f) (h2 : By.RB w m nm g) (hn : n ≤ 140737488355328) (hm : nm ≤ 140737488355328) :
    Calls Try.prog 28 #[ov q d m] w fun e w' => ∃ d' m', e = .returned (ov (pq q) d' m') ∧ ToldP w w' q n f nm g d' m' := by
  have EU : us q.k = 59 := by unfold us; repeat' (first | rw [if_pos (by omega)] | rw [if_neg (by omega)])
  have EQ : Hid (pq q = ⟨q.k, q.h, q.a, 0, q.o⟩ ∧ pN q n = n ∧ pM q nm = nm) := by
    have e : uH q.k = true ∧ uA q.k = true ∧ uC q.k = false ∧ uO q.k = true ∧ uD q.k = true ∧ uM q.k = true := by unfold uH uA uC uO uD uM; refine ⟨?_, ?_, ?_, ?_, ?_, ?_⟩ <;> simp <;> omega
    show pq q = _ ∧ pN q n = _ ∧ pM q nm = _
    unfold pq pN pM
    rw [e.1, e.2.1, e.2.2.1, e.2.2.2.1, e.2.2.2.2.1, e.2.2.2.2.2]
    exact ⟨rfl, rfl, rfl⟩
  clear hk
  obtain ⟨a1, c1, rfl⟩ := rb_sl h1
  obtain ⟨a2, c2, rfl⟩ := rb_sl h2
  obtain ⟨W0, hW0⟩ : ∃ W, (w.alloc (.cells #[Value.int IntKind.u8 q.k, Value.int IntKind.i64 q.h, Value.int IntKind.u8 q.a, Value.int IntKind.i64 q.c, Value.int IntKind.i64 q.o, Value.slice a1 n c1, Value.slice a2 nm c2] 28)).alloc (.cells zA 28) = W := ⟨_, rfl⟩
  have KA : Hid (Blk W0 w.heap.size (oL q (Value.slice a1 n c1) (Value.slice a2 nm c2)) 28) := by rw [← hW0]; exact (Blk.newAt w _ _ 28 w.heap.size rfl rfl).alloc _
  have KR : Hid (Blk W0 (w.heap.size + 1) zA.toList 28) := by rw [← hW0]; exact Blk.newAt (w.alloc _) _ _ 28 (w.heap.size + 1) (by simp) rfl
  have BW : Hid (Below w.heap.size w W0) := by rw [← hW0]; exact below_next (below_alloc _ _) (below_alloc _ _)
  have Z0 : Hid (W0.heap.size = w.heap.size + 1 + 1) := by show W0.heap.size = _; rw [← hW0]; simp
  have x0 := KA.out.cell 0 _ rfl
  have H1 := hid h1
  have H2 := hid h2
  clear h1 h2
  go_enter Try.func28, Try.ntmps28
  go_wp2_with fail
  clear hW0
  refine (used_ok q.k W0).mono ?_
  rintro e W ⟨rfl, hw⟩
  rw [hw, EU]
  clear hw EU
  obtain ⟨W1, s1, kp, hb, _⟩ := var_op W0 ⟨q.k, 0, 0, 0, 0⟩ (d := .slice none 0 0) (m := .slice none 0 0) rfl rfl
  have KP := hid kp
  replace BW := hid (below_next BW.out hb)
  replace KA := hid (KA.out.below hb)
  replace KR := hid (KR.out.below hb)
  have P0 := hid (show W0.heap.size < W1.heap.size from kp.lt)
  clear hb kp
  have y1 := KA.out.cell 1 _ rfl
  have z1 := KP.out.cell 1 _ rfl
  have f1 := KP.out.frozen 1
  obtain ⟨U1, hV1⟩ : ∃ V, W1.setCell ⟨W0.heap.size, 1, none⟩ (.int .i64 q.h) = V := ⟨_, rfl⟩
  have kk := Kp.setCell (w := W1) W0.heap.size 1 (.int .i64 q.h)
  rw [hV1] at kk
  replace KA := hid (KA.out.kept kk (by have := Z0.out; omega))
  replace KR := hid (KR.out.kept kk (by have := Z0.out; omega))
  have kp : Blk U1 W0.heap.size (oL ⟨q.k, q.h, 0, 0, 0⟩ (.slice none 0 0) (.slice none 0 0)) 28 := by rw [← hV1]; exact KP.out.set 1 _
  replace KP := hid kp
  replace BW := hid (BW.out.trans (kk.below BW.out.size (fun j hj => by have := Z0.out; omega)))
  clear kk kp
  have y2 := KA.out.cell 2 _ rfl
  have z2 := KP.out.cell 2 _ rfl
  have f2 := KP.out.frozen 2
  obtain ⟨U2, hV2⟩ : ∃ V, U1.setCell ⟨W0.heap.size, 2, none⟩ (.int .u8 q.a) = V := ⟨_, rfl⟩
  have kk := Kp.setCell (w := U1) W0.heap.size 2 (.int .u8 q.a)
  rw [hV2] at kk
  replace KA := hid (KA.out.kept kk (by have := Z0.out; omega))
  replace KR := hid (KR.out.kept kk (by have := Z0.out; omega))
  have kp : Blk U2 W0.heap.size (oL ⟨q.k, q.h, q.a, 0, 0⟩ (.slice none 0 0) (.slice none 0 0)) 28 := by rw [← hV2]; exact KP.out.set 2 _
  replace KP := hid kp
  replace BW := hid (BW.out.trans (kk.below BW.out.size (fun j hj => by have := Z0.out; omega)))
  clear kk kp
  have y4 := KA.out.cell 4 _ rfl
  have z4 := KP.out.cell 4 _ rfl
  have f4 := KP.out.frozen 4
  obtain ⟨U3, hV3⟩ : ∃ V, U2.setCell ⟨W0.heap.size, 4, none⟩ (.int .i64 q.o) = V := ⟨_, rfl⟩
  have kk := Kp.setCell (w := U2) W0.heap.size 4 (.int .i64 q.o)
  rw [hV3] at kk
  replace KA := hid (KA.out.kept kk (by have := Z0.out; omega))
  replace KR := hid (KR.out.kept kk (by have := Z0.out; omega))
  have kp : Blk U3 W0.heap.size (oL ⟨q.k, q.h, q.a, 0, q.o⟩ (.slice none 0 0) (.slice none 0 0)) 28 := by rw [← hV3]; exact KP.out.set 4 _
  replace KP := hid kp
  replace BW := hid (BW.out.trans (kk.below BW.out.size (fun j hj => by have := Z0.out; omega)))
  clear kk kp
  have SZ1 : Hid (W0.heap.size < U3.heap.size) := KP.out.lt
  have y5 := KA.out.cell 5 _ rfl
  go_wp2_with fail
  clear s1 x0 y1 z1 f1 hV1 y2 z2 f2 hV2 y4 z4 f4 hV3 y5
  refine (copied_ok _ n f U3 (H1.out.below BW.out) hn).mono ?_
  rintro e V5 ⟨d', rfl, o1, hb⟩
  obtain ⟨a3, c3, rfl⟩ := own_lit_slice o1
  have q1 := own_row o1
  replace BW := hid (below_next BW.out hb)
  replace KA := hid (KA.out.below hb)
  replace KR := hid (KR.out.below hb)
  replace KP := hid (KP.out.below hb)
  have hl := KP.out.lt
  have z5 := KP.out.cell 5 _ rfl
  have f5 := KP.out.frozen 5
  obtain ⟨U5, hV5⟩ : ∃ V, V5.setCell ⟨W0.heap.size, 5, none⟩ (.slice a3 n c3) = V := ⟨_, rfl⟩
  have kk := Kp.setCell (w := V5) W0.heap.size 5 (.slice a3 n c3)
  rw [hV5] at kk
  have kp : Blk U5 W0.heap.size (oL ⟨q.k, q.h, q.a, 0, q.o⟩ (.slice a3 n c3) (.slice none 0 0)) 28 := by rw [← hV5]; exact KP.out.set 5 _
  have SZ : Hid (W0.heap.size < U3.heap.size) := SZ1.out
  have O1 : Hid (By.Own U5 U3.heap.size (.slice a3 n c3) n f) := own_keptB o1 kk (fun j e h => by have := q1 j e; have := SZ.out; omega)
  replace KA := hid (KA.out.kept kk (by have := Z0.out; omega))
  replace KR := hid (KR.out.kept kk (by have := Z0.out; omega))
  replace KP := hid kp
  replace BW := hid (BW.out.trans (kk.below BW.out.size (fun j hj => by have := Z0.out; omega)))
  have Q1 : Hid (∀ j, (Value.slice a3 n c3).ownBlock = some j → w.heap.size + 1 < j) := fun j e => by have := q1 j e; have := SZ.out; have := Z0.out; omega
  clear kk kp o1 hb hl q1
  have y6 := KA.out.cell 6 _ rfl
  have SZ2 : Hid (W0.heap.size < U5.heap.size) := KP.out.lt
  go_wp2_with fail
  clear z5 f5 hV5 y6
  refine (copied_ok _ nm g U5 (H2.out.below BW.out) hm).mono ?_
  rintro e V6 ⟨m', rfl, o2, hb⟩
  obtain ⟨a4, c4, rfl⟩ := own_lit_slice o2
  have q2 := own_row o2
  have h12 := own_apart O1.out (Nat.le_refl _) o2
  have H12 := hid h12
  replace BW := hid (below_next BW.out hb)
  replace KR := hid (KR.out.below hb)
  replace KP := hid (KP.out.below hb)
  replace O1 := hid (own_below O1.out hb)
  have r1 := own_row O1.out
  have z6 := KP.out.cell 6 _ rfl
  have f6 := KP.out.frozen 6
  obtain ⟨U6, hV6⟩ : ∃ V, V6.setCell ⟨W0.heap.size, 6, none⟩ (.slice a4 nm c4) = V := ⟨_, rfl⟩
  have kk := Kp.setCell (w := V6) W0.heap.size 6 (.slice a4 nm c4)
  rw [hV6] at kk
  have kp : Blk U6 W0.heap.size (oL ⟨q.k, q.h, q.a, 0, q.o⟩ (.slice a3 n c3) (.slice a4 nm c4)) 28 := by rw [← hV6]; exact KP.out.set 6 _
  replace O1 := hid (own_keptB O1.out kk (fun j e h => by have := r1 j e; have := SZ.out; omega))
  have O2 : Hid (By.Own U6 U5.heap.size (.slice a4 nm c4) nm g) := own_keptB o2 kk (fun j e h => by have := q2 j e; have := SZ2.out; omega)
  replace KR := hid (KR.out.kept kk (by have := Z0.out; omega))
  replace KP := hid kp
  replace BW := hid (BW.out.trans (kk.below BW.out.size (fun j hj => by have := Z0.out; omega)))
  have Q2 : Hid (∀ j, (Value.slice a4 nm c4).ownBlock = some j → w.heap.size + 1 < j) := fun j e => by have := q2 j e; have := SZ2.out; have := Z0.out; omega
  clear kk kp o2 hb q2 h12 r1
  obtain ⟨l1, W9, s9, l9, t9⟩ := plain_end (d := .slice a3 n c3) (m := .slice a4 nm c4) EQ.out.1 KR.out BW.out KP.out BW.out (n := n) (f := f) (nm := nm) (g := g) (by rw [EQ.out.2.1]; exact own_base O1.out (by have := SZ.out; have := Z0.out; omega)) Q1.out (by rw [EQ.out.2.2]; exact own_base O2.out (by have := SZ2.out; have := Z0.out; omega)) Q2.out H12.out BW.out
  have l1' : (LDo ⟨W0.heap.size, 0, none⟩).run Try.prog U6 = .ok (.agg #[Value.int IntKind.u8 q.k, Value.int IntKind.i64 q.h, Value.int IntKind.u8 q.a, Value.int IntKind.i64 0, Value.int IntKind.i64 q.o, .slice a3 n c3, .slice a4 nm c4]) U6 := l1
  have s9' : (SVo ⟨w.heap.size + 1, 0, none⟩ (.agg #[Value.int IntKind.u8 q.k, Value.int IntKind.i64 q.h, Value.int IntKind.u8 q.a, Value.int IntKind.i64 0, Value.int IntKind.i64 q.o, .slice a3 n c3, .slice a4 nm c4])).run Try.prog U6 = .ok () W9 := s9
  have L9 := hid l9
  have T9 := hid t9
  clear l9 t9 l1 s9
  go_wp2_with fail
  refine bodyPost_ret (Tb.results_cell1 rfl rfl L9.out) rfl ?_
  exact ⟨_, _, rfl, T9.out⟩
set_option maxRecDepth 8000 in
set_option maxHeartbeats 1200000 in
theorem plain_8 (q : Nu) (d m : Value) (n nm : Nat) (f g : Nat → Int) (w : World) (hk : q.k = 8) (h1 : By.RB w d n f) (h2 : By.RB w m nm g) (hn : n ≤ 140737488355328) (hm : nm ≤ 140737488355328) :
    Calls Try.prog 28 #[ov q d m] w fun e w' => ∃ d' m', e = .returned (ov (pq q) d' m') ∧ ToldP w w' q n f nm g d' m' := by
  have EU : us q.k = 31 := by unfold us; repeat' (first | rw [if_pos (by omega)] | rw [if_neg (by omega)])
  have EQ : Hid (pq q = ⟨q.k, q.h, q.a, q.c, q.o⟩ ∧ pN q n = n ∧ pM q nm = 0) := by
    have e : uH q.k = true ∧ uA q.k = true ∧ uC q.k = true ∧ uO q.k = true ∧ uD q.k = true ∧ uM q.k = false := by unfold uH uA uC uO uD uM; refine ⟨?_, ?_, ?_, ?_, ?_, ?_⟩ <;> simp <;> omega
    show pq q = _ ∧ pN q n = _ ∧ pM q nm = _
    unfold pq pN pM
    rw [e.1, e.2.1, e.2.2.1, e.2.2.2.1, e.2.2.2.2.1, e.2.2.2.2.2]
    exact ⟨rfl, rfl, rfl⟩
  clear hk
  obtain ⟨a1, c1, rfl⟩ := rb_sl h1
  obtain ⟨a2, c2, rfl⟩ := rb_sl h2
  obtain ⟨W0, hW0⟩ : ∃ W, (w.alloc (.cells #[Value.int IntKind.u8 q.k, Value.int IntKind.i64 q.h, Value.int IntKind.u8 q.a, Value.int IntKind.i64 q.c, Value.int IntKind.i64 q.o, Value.slice a1 n c1, Value.slice a2 nm c2] 28)).alloc (.cells zA 28) = W := ⟨_, rfl⟩
  have KA : Hid (Blk W0 w.heap.size (oL q (Value.slice a1 n c1) (Value.slice a2 nm c2)) 28) := by rw [← hW0]; exact (Blk.newAt w _ _ 28 w.heap.size rfl rfl).alloc _
  have KR : Hid (Blk W0 (w.heap.size + 1) zA.toList 28) := by rw [← hW0]; exact Blk.newAt (w.alloc _) _ _ 28 (w.heap.size + 1) (by simp) rfl
  have BW : Hid (Below w.heap.size w W0) := by rw [← hW0]; exact below_next (below_alloc _ _) (below_alloc _ _)
  have Z0 : Hid (W0.heap.size = w.heap.size + 1 + 1) := by show W0.heap.size = _; rw [← hW0]; simp
  have x0 := KA.out.cell 0 _ rfl
  have H1 := hid h1
  have H2 := hid h2
  clear h1 h2
  go_enter Try.func28, Try.ntmps28
  go_wp2_with fail
  clear hW0
  refine (used_ok q.k W0).mono ?_
  rintro e W ⟨rfl, hw⟩
  rw [hw, EU]
  clear hw EU
  obtain ⟨W1, s1, kp, hb, _⟩ := var_op W0 ⟨q.k, 0, 0, 0, 0⟩ (d := .slice none 0 0) (m := .slice none 0 0) rfl rfl
  have KP := hid kp
  replace BW := hid (below_next BW.out hb)
  replace KA := hid (KA.out.below hb)
  replace KR := hid (KR.out.below hb)
  have P0 := hid (show W0.heap.size < W1.heap.size from kp.lt)
  clear hb kp
  have y1 := KA.out.cell 1 _ rfl
  have z1 := KP.out.cell 1 _ rfl
  have f1 := KP.out.frozen 1
  obtain ⟨U1, hV1⟩ : ∃ V, W1.setCell ⟨W0.heap.size, 1, none⟩ (.int .i64 q.h) = V := ⟨_, rfl⟩
  have kk := Kp.setCell (w := W1) W0.heap.size 1 (.int .i64 q.h)
  rw [hV1] at kk
  replace KA := hid (KA.out.kept kk (by have := Z0.out; omega))
  replace KR := hid (KR.out.kept kk (by have := Z0.out; omega))
  have kp : Blk U1 W0.heap.size (oL ⟨q.k, q.h, 0, 0, 0⟩ (.slice none 0 0) (.slice none 0 0)) 28 := by rw [← hV1]; exact KP.out.set 1 _
  replace KP := hid kp
  replace BW := hid (BW.out.trans (kk.below BW.out.size (fun j hj => by have := Z0.out; omega)))
  clear kk kp
  have y2 := KA.out.cell 2 _ rfl
  have z2 := KP.out.cell 2 _ rfl
  have f2 := KP.out.frozen 2
  obtain ⟨U2, hV2⟩ : ∃ V, U1.setCell ⟨W0.heap.size, 2, none⟩ (.int .u8 q.a) = V := ⟨_, rfl⟩
  have kk := Kp.setCell (w := U1) W0.heap.size 2 (.int .u8 q.a)
  rw [hV2] at kk
  replace KA := hid (KA.out.kept kk (by have := Z0.out; omega))
  replace KR := hid (KR.out.kept kk (by have := Z0.out; omega))
  have kp : Blk U2 W0.heap.size (oL ⟨q.k, q.h, q.a, 0, 0⟩ (.slice none 0 0) (.slice none 0 0)) 28 := by rw [← hV2]; exact KP.out.set 2 _
  replace KP := hid kp
  replace BW := hid (BW.out.trans (kk.below BW.out.size (fun j hj => by have := Z0.out; omega)))
  clear kk kp
  have y3 := KA.out.cell 3 _ rfl
  have z3 := KP.out.cell 3 _ rfl
  have f3 := KP.out.frozen 3
  obtain ⟨U3, hV3⟩ : ∃ V, U2.setCell ⟨W0.heap.size, 3, none⟩ (.int .i64 q.c) = V := ⟨_, rfl⟩
  have kk := Kp.setCell (w := U2) W0.heap.size 3 (.int .i64 q.c)
  rw [hV3] at kk
  replace KA := hid (KA.out.kept kk (by have := Z0.out; omega))
  replace KR := hid (KR.out.kept kk (by have := Z0.out; omega))
  have kp : Blk U3 W0.heap.size (oL ⟨q.k, q.h, q.a, q.c, 0⟩ (.slice none 0 0) (.slice none 0 0)) 28 := by rw [← hV3]; exact KP.out.set 3 _
  replace KP := hid kp
  replace BW := hid (BW.out.trans (kk.below BW.out.size (fun j hj => by have := Z0.out; omega)))
  clear kk kp
  have y4 := KA.out.cell 4 _ rfl
  have z4 := KP.out.cell 4 _ rfl
  have f4 := KP.out.frozen 4
  obtain ⟨U4, hV4⟩ : ∃ V, U3.setCell ⟨W0.heap.size, 4, none⟩ (.int .i64 q.o) = V := ⟨_, rfl⟩
  have kk := Kp.setCell (w := U3) W0.heap.size 4 (.int .i64 q.o)
  rw [hV4] at kk
  replace KA := hid (KA.out.kept kk (by have := Z0.out; omega))
  replace KR := hid (KR.out.kept kk (by have := Z0.out; omega))
  have kp : Blk U4 W0.heap.size (oL ⟨q.k, q.h, q.a, q.c, q.o⟩ (.slice none 0 0) (.slice none 0 0)) 28 := by rw [← hV4]; exact KP.out.set 4 _
  replace KP := hid kp
  replace BW := hid (BW.out.trans (kk.below BW.out.size (fun j hj => by have := Z0.out; omega)))
  clear kk kp
  have SZ1 : Hid (W0.heap.size < U4.heap.size) := KP.out.lt
  have y5 := KA.out.cell 5 _ rfl
  go_wp2_with fail
  clear s1 x0 y1 z1 f1 hV1 y2 z2 f2 hV2 y3 z3 f3 hV3 y4 z4 f4 hV4 y5
  refine (copied_ok _ n f U4 (H1.out.below BW.out) hn).mono ?_
  rintro e V5 ⟨d', rfl, o1, hb⟩
  obtain ⟨a3, c3, rfl⟩ := own_lit_slice o1
  have q1 := own_row o1
  replace BW := hid (below_next BW.out hb)
  replace KA := hid (KA.out.below hb)
  replace KR := hid (KR.out.below hb)
  replace KP := hid (KP.out.below hb)
  have hl := KP.out.lt
  have z5 := KP.out.cell 5 _ rfl
  have f5 := KP.out.frozen 5
  obtain ⟨U5, hV5⟩ : ∃ V, V5.setCell ⟨W0.heap.size, 5, none⟩ (.slice a3 n c3) = V := ⟨_, rfl⟩
  have kk := Kp.setCell (w := V5) W0.heap.size 5 (.slice a3 n c3)
  rw [hV5] at kk
  have kp : Blk U5 W0.heap.size (oL ⟨q.k, q.h, q.a, q.c, q.o⟩ (.slice a3 n c3) (.slice none 0 0)) 28 := by rw [← hV5]; exact KP.out.set 5 _
  have SZ : Hid (W0.heap.size < U4.heap.size) := SZ1.out
  have O1 : Hid (By.Own U5 U4.heap.size (.slice a3 n c3) n f) := own_keptB o1 kk (fun j e h => by have := q1 j e; have := SZ.out; omega)
  replace KA := hid (KA.out.kept kk (by have := Z0.out; omega))
  replace KR := hid (KR.out.kept kk (by have := Z0.out; omega))
  replace KP := hid kp
  replace BW := hid (BW.out.trans (kk.below BW.out.size (fun j hj => by have := Z0.out; omega)))
  have Q1 : Hid (∀ j, (Value.slice a3 n c3).ownBlock = some j → w.heap.size + 1 < j) := fun j e => by have := q1 j e; have := SZ.out; have := Z0.out; omega
  clear kk kp o1 hb hl q1
  obtain ⟨l1, W9, s9, l9, t9⟩ := plain_end (d := .slice a3 n c3) (m := .slice none 0 0) EQ.out.1 KR.out BW.out KP.out BW.out (n := n) (f := f) (nm := nm) (g := g) (by rw [EQ.out.2.1]; exact own_base O1.out (by have := SZ.out; have := Z0.out; omega)) Q1.out (by rw [EQ.out.2.2]; exact own_nil _ _ _ H2.out.1) (fun j e => by cases e) (nil_apart _) BW.out
  have l1' : (LDo ⟨W0.heap.size, 0, none⟩).run Try.prog U5 = .ok (.agg #[Value.int IntKind.u8 q.k, Value.int IntKind.i64 q.h, Value.int IntKind.u8 q.a, Value.int IntKind.i64 q.c, Value.int IntKind.i64 q.o, .slice a3 n c3, .slice none 0 0]) U5 := l1
  have s9' : (SVo ⟨w.heap.size + 1, 0, none⟩ (.agg #[Value.int IntKind.u8 q.k, Value.int IntKind.i64 q.h, Value.int IntKind.u8 q.a, Value.int IntKind.i64 q.c, Value.int IntKind.i64 q.o, .slice a3 n c3, .slice none 0 0])).run Try.prog U5 = .ok () W9 := s9
  have L9 := hid l9
  have T9 := hid t9
  clear l9 t9 l1 s9
  go_wp2_with fail
  refine bodyPost_ret (Tb.results_cell1 rfl rfl L9.out) rfl ?_
  exact ⟨_, _, rfl, T9.out⟩
set_option maxRecDepth 8000 in
set_option maxHeartbeats 1200000 in
theorem plain_0 (q : Nu) (d m : Value) (n nm : Nat) (f g : Nat → Int) (w : World) (hk : ¬ (q.k = 1 ∨ q.k = 2 ∨ q.k = 3 ∨ q.k = 4 ∨ q.k = 5 ∨ q.k = 6 ∨ q.k = 7 ∨ q.k = 8 ∨ q.k = 9 ∨ q.k = 10)) (h1 : By.RB w d n f) (h2 : By.RB w m nm g) (hn : n ≤ 140737488355328) (hm : nm ≤ 140737488355328) :
    Calls Try.prog 28 #[ov q d m] w fun e w' => ∃ d' m', e = .returned (ov (pq q) d' m') ∧ ToldP w w' q n f nm g d' m' := by
  have EU : us q.k = 0 := by unfold us; repeat' (first | rw [if_pos (by omega)] | rw [if_neg (by omega)])
  have EQ : Hid (pq q = ⟨q.k, 0, 0, 0, 0⟩ ∧ pN q n = 0 ∧ pM q nm = 0) := by
    have e : uH q.k = false ∧ uA q.k = false ∧ uC q.k = false ∧ uO q.k = false ∧ uD q.k = false ∧ uM q.k = false := by unfold uH uA uC uO uD uM; refine ⟨?_, ?_, ?_, ?_, ?_, ?_⟩ <;> simp <;> omega
    show pq q = _ ∧ pN q n = _ ∧ pM q nm = _
    unfold pq pN pM
    rw [e.1, e.2.1, e.2.2.1, e.2.2.2.1, e.2.2.2.2.1, e.2.2.2.2.2]
    exact ⟨rfl, rfl, rfl⟩
  clear hk
  obtain ⟨a1, c1, rfl⟩ := rb_sl h1
  obtain ⟨a2, c2, rfl⟩ := rb_sl h2
  obtain ⟨W0, hW0⟩ : ∃ W, (w.alloc (.cells #[Value.int IntKind.u8 q.k, Value.int IntKind.i64 q.h, Value.int IntKind.u8 q.a, Value.int IntKind.i64 q.c, Value.int IntKind.i64 q.o, Value.slice a1 n c1, Value.slice a2 nm c2] 28)).alloc (.cells zA 28) = W := ⟨_, rfl⟩
  have KA : Hid (Blk W0 w.heap.size (oL q (Value.slice a1 n c1) (Value.slice a2 nm c2)) 28) := by rw [← hW0]; exact (Blk.newAt w _ _ 28 w.heap.size rfl rfl).alloc _
  have KR : Hid (Blk W0 (w.heap.size + 1) zA.toList 28) := by rw [← hW0]; exact Blk.newAt (w.alloc _) _ _ 28 (w.heap.size + 1) (by simp) rfl
  have BW : Hid (Below w.heap.size w W0) := by rw [← hW0]; exact below_next (below_alloc _ _) (below_alloc _ _)
  have Z0 : Hid (W0.heap.size = w.heap.size + 1 + 1) := by show W0.heap.size = _; rw [← hW0]; simp
  have x0 := KA.out.cell 0 _ rfl
  have H1 := hid h1
  have H2 := hid h2
  clear h1 h2
  go_enter Try.func28, Try.ntmps28
  go_wp2_with fail
  clear hW0
  refine (used_ok q.k W0).mono ?_
  rintro e W ⟨rfl, hw⟩
  rw [hw, EU]
  clear hw EU
  obtain ⟨W1, s1, kp, hb, _⟩ := var_op W0 ⟨q.k, 0, 0, 0, 0⟩ (d := .slice none 0 0) (m := .slice none 0 0) rfl rfl
  have KP := hid kp
  replace BW := hid (below_next BW.out hb)
  replace KA := hid (KA.out.below hb)
  replace KR := hid (KR.out.below hb)
  have P0 := hid (show W0.heap.size < W1.heap.size from kp.lt)
  clear hb kp
  obtain ⟨l1, W9, s9, l9, t9⟩ := plain_end (d := .slice none 0 0) (m := .slice none 0 0) EQ.out.1 KR.out BW.out KP.out BW.out (n := n) (f := f) (nm := nm) (g := g) (by rw [EQ.out.2.1]; exact own_nil _ _ _ H1.out.1) (fun j e => by cases e) (by rw [EQ.out.2.2]; exact own_nil _ _ _ H2.out.1) (fun j e => by cases e) (.inl rfl) BW.out
  have l1' : (LDo ⟨W0.heap.size, 0, none⟩).run Try.prog W1 = .ok (.agg #[Value.int IntKind.u8 q.k, Value.int IntKind.i64 0, Value.int IntKind.u8 0, Value.int IntKind.i64 0, Value.int IntKind.i64 0, .slice none 0 0, .slice none 0 0]) W1 := l1
  have s9' : (SVo ⟨w.heap.size + 1, 0, none⟩ (.agg #[Value.int IntKind.u8 q.k, Value.int IntKind.i64 0, Value.int IntKind.u8 0, Value.int IntKind.i64 0, Value.int IntKind.i64 0, .slice none 0 0, .slice none 0 0])).run Try.prog W1 = .ok () W9 := s9
  have L9 := hid l9
  have T9 := hid t9
  clear l9 t9 l1 s9
  go_wp2_with fail
  refine bodyPost_ret (Tb.results_cell1 rfl rfl L9.out) rfl ?_
  exact ⟨_, _, rfl, T9.out⟩
theorem plain_ok (q : Nu) (d m : Value) (n nm : Nat) (f g : Nat → Int) (w : World) (h1 : By.RB w d n f) (h2 : By.RB w m nm g) (hn : n ≤ 140737488355328) (hm : nm ≤ 140737488355328) :
    Calls Try.prog 28 #[ov q d m] w fun e w' => ∃ d' m', e = .returned (ov (pq q) d' m') ∧ ToldP w w' q n f nm g d' m' := by
  by_cases k1 : q.k = 1
  · exact plain_1 q d m n nm f g w k1 h1 h2 hn hm
  by_cases k2 : q.k = 2
  · exact plain_2 q d m n nm f g w k2 h1 h2 hn hm
  by_cases k3 : q.k = 3 ∨ q.k = 5
  · exact plain_3 q d m n nm f g w k3 h1 h2 hn hm
  by_cases k4 : q.k = 4 ∨ q.k = 6 ∨ q.k = 9 ∨ q.k = 10
  · exact plain_4 q d m n nm f g w k4 h1 h2 hn hm
  by_cases k7 : q.k = 7
  · exact plain_7 q d m n nm f g w k7 h1 h2 hn hm
  by_cases k8 : q.k = 8
  · exact plain_8 q d m n nm f g w k8 h1 h2 hn hm
  exact plain_0 q d m n nm f g w (by omega) h1 h2 hn hm
end Go.Proofs.Ytdahogdfonhnfaa.Ou
