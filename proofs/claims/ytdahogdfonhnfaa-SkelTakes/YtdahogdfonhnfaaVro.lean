/- The skeleton of an operation, of the document. -/
import Derived.Test.YtdahogdfonhnfaaVrf
namespace Go.Proofs.Ytdahogdfonhnfaa.Ou
open Go.ChangeShapes Go.WideShapes Go.ChangeAt Go.RowKit
open Go.Proofs.Ytdahogdfonhnfaa.By
open Go.Proofs.Ytdahogdfonhnfaa.Tb (Blk Blk.newAt put_all Kp.setCells)
set_option maxRecDepth 8000 in
set_option maxHeartbeats 1200000 in
theorem rof_no (q : Nu) (a1 a2 : Option Addr) (n c1 nm c2 : Nat) (w : World) (hk : ¬ (1 ≤ q.k ∧ q.k ≤ 10)) :
    Calls Try.prog 10 #[ov q (.slice a1 n c1) (.slice a2 nm c2)] w fun e w' => e = .returned (sv (ps (sk q n nm))) ∧ Below w.heap.size w w' := by
  obtain ⟨W0, hW0⟩ : ∃ W, (w.alloc (.cells #[Value.int IntKind.u8 q.k, Value.int IntKind.i64 q.h, Value.int IntKind.u8 q.a, Value.int IntKind.i64 q.c, Value.int IntKind.i64 q.o, Value.slice a1 n c1, Value.slice a2 nm c2] 28)).alloc (.cells #[Value.int IntKind.u8 0, Value.int IntKind.i64 0, Value.int IntKind.u8 0, Value.int IntKind.i64 0, Value.int IntKind.i64 0, Value.int IntKind.i64 0, Value.int IntKind.i64 0] 33) = W := ⟨_, rfl⟩
  have KA : Hid (Blk W0 w.heap.size (oL q (.slice a1 n c1) (.slice a2 nm c2)) 28) := by rw [← hW0]; exact (Blk.newAt w _ _ _ w.heap.size rfl rfl).alloc _
  have KR : Hid (Blk W0 (w.heap.size + 1) (sL zS) 33) := by rw [← hW0]; exact Blk.newAt (w.alloc _) _ _ _ (w.heap.size + 1) (by simp) rfl
  have Z0 : Hid (W0.heap.size = w.heap.size + 1 + 1) := by show W0.heap.size = _; rw [← hW0]; simp
  have BW : Hid (Below w.heap.size w W0) := by rw [← hW0]; exact below_next (below_alloc _ _) (below_alloc _ _)
  have E : uH q.k = false ∧ uA q.k = false ∧ uC q.k = false ∧ uO q.k = false ∧ uD q.k = false ∧ uM q.k = false := by unfold uH uA uC uO uD uM; refine ⟨?_, ?_, ?_, ?_, ?_, ?_⟩ <;> simp <;> omega
  have EQ : Hid (ps (sk q n nm) = ⟨q.k, 0, 0, 0, 0, 0, 0⟩) := by
    show ps (sk q n nm) = _
    unfold ps sk
    simp only
    rw [E.1, E.2.1, E.2.2.1, E.2.2.2.1, E.2.2.2.2.1, E.2.2.2.2.2]
    rfl
  have EU : Hid (uv q.k = .agg #[.bool false, .bool false, .bool false, .bool false, .bool false, .bool false] ∧ uL q.k = [.bool false, .bool false, .bool false, .bool false, .bool false, .bool false]) := by
    show uv q.k = _ ∧ uL q.k = _
    unfold uv uL
    rw [E.1, E.2.1, E.2.2.1, E.2.2.2.1, E.2.2.2.2.1, E.2.2.2.2.2]
    exact ⟨rfl, rfl⟩
  have c0 := KA.out.cell 0 _ rfl
  clear hk E
  go_enter Try.func10, Try.ntmps10
  go_wp2_with fail
  clear hW0 c0
  refine (ruse_ok q.k W0).mono ?_
  rintro e W1 ⟨rfl, hb⟩
  rw [EU.out.1]
  replace BW := hid (below_next BW.out hb)
  replace KA := hid (KA.out.below hb)
  replace KR := hid (KR.out.below hb)
  have Z1 : Hid (W0.heap.size ≤ W1.heap.size) := hb.size
  clear hb
  obtain ⟨W2, s2, ku, hk2⟩ := SVu_run q.k (Blk.newAt W1 fU fU.toList 58 W1.heap.size rfl rfl) rfl
  rw [EU.out.1] at s2
  rw [EU.out.2] at ku
  have b2 : Below W1.heap.size W1 W2 := (below_alloc W1 _).trans (hk2.below (by simp) (fun j hj e => by omega))
  replace BW := hid (below_next BW.out b2)
  replace KA := hid (KA.out.below b2)
  replace KR := hid (KR.out.below b2)
  have Z2 : Hid (W1.heap.size < W2.heap.size) := ku.lt
  obtain ⟨W3, s3, ks, hk3⟩ := SVk_run ⟨q.k, 0, 0, 0, 0, 0, 0⟩ (Blk.newAt W2 #[Value.int IntKind.u8 0, Value.int IntKind.i64 0, Value.int IntKind.u8 0, Value.int IntKind.i64 0, Value.int IntKind.i64 0, Value.int IntKind.i64 0, Value.int IntKind.i64 0] (sL zS) 33 W2.heap.size rfl rfl) rfl
  have s3' : (SVk ⟨W2.heap.size, 0, none⟩ (.agg #[.int .u8 q.k, .int .i64 0, .int .u8 0, .int .i64 0, .int .i64 0, .int .i64 0, .int .i64 0])).run Try.prog (W2.alloc (.cells #[Value.int IntKind.u8 0, Value.int IntKind.i64 0, Value.int IntKind.u8 0, Value.int IntKind.i64 0, Value.int IntKind.i64 0, Value.int IntKind.i64 0, Value.int IntKind.i64 0] 33)) = .ok () W3 := s3
  have b3 : Below W2.heap.size W2 W3 := (below_alloc W2 _).trans (hk3.below (by simp) (fun j hj e => by omega))
  have o2 := KA.out.cell 0 _ rfl
  have o2' : (W2.alloc (.cells #[Value.int IntKind.u8 0, Value.int IntKind.i64 0, Value.int IntKind.u8 0, Value.int IntKind.i64 0, Value.int IntKind.i64 0, Value.int IntKind.i64 0, Value.int IntKind.i64 0] 33)).cell? ⟨w.heap.size, 0, none⟩ = _ := (KA.out.alloc _).cell 0 _ rfl
  replace BW := hid (below_next BW.out b3)
  replace KA := hid (KA.out.below b3)
  replace KR := hid (KR.out.below b3)
  have KU := hid (ku.below b3)
  clear b2 b3 hk2 hk3 s3 ku
  have uh3 := KU.out.cell 0 _ rfl
  have ua3 := KU.out.cell 1 _ rfl
  have uc3 := KU.out.cell 2 _ rfl
  have uo3 := KU.out.cell 3 _ rfl
  have ud3 := KU.out.cell 4 _ rfl
  have um3 := KU.out.cell 5 _ rfl
  have l4 : (LDk ⟨W2.heap.size, 0, none⟩).run Try.prog W3 = .ok (.agg #[.int .u8 q.k, .int .i64 0, .int .u8 0, .int .i64 0, .int .i64 0, .int .i64 0, .int .i64 0]) W3 := LDk_run ks
  obtain ⟨W9, s9, k9, hk9⟩ := SVk_run ⟨q.k, 0, 0, 0, 0, 0, 0⟩ KR.out rfl
  have s9' : (SVk ⟨w.heap.size + 1, 0, none⟩ (.agg #[.int .u8 q.k, .int .i64 0, .int .u8 0, .int .i64 0, .int .i64 0, .int .i64 0, .int .i64 0])).run Try.prog W3 = .ok () W9 := s9
  have L9 := hid (LDk_run k9)
  have B9 : Hid (Below w.heap.size w W9) := BW.out.trans (hk9.below BW.out.size (fun j _ e => by omega))
  clear  ks  s9 hk9 k9 KA KR KU BW Z0 Z1 Z2 EU
  go_wp2_with fail
  exact bodyPost_ret (Tb.results_cell1 rfl rfl L9.out) rfl ⟨by rw [EQ.out], B9.out⟩
set_option maxRecDepth 8000 in
set_option maxHeartbeats 1200000 in
theorem rof_1 (q : Nu) (a1 a2 : Option Addr) (n c1 nm c2 : Nat) (w : World) (hk : q.k = 1) :
    Calls Try.prog 10 #[ov q (.slice a1 n c1) (.slice a2 nm c2)] w fun e w' => e = .returned (sv (ps (sk q n nm))) ∧ Below w.heap.size w w' := by
  obtain ⟨W0, hW0⟩ : ∃ W, (w.alloc (.cells #[Value.int IntKind.u8 q.k, Value.int IntKind.i64 q.h, Value.int IntKind.u8 q.a, Value.int IntKind.i64 q.c, Value.int IntKind.i64 q.o, Value.slice a1 n c1, Value.slice a2 nm c2] 28)).alloc (.cells #[Value.int IntKind.u8 0, Value.int IntKind.i64 0, Value.int IntKind.u8 0, Value.int IntKind.i64 0, Value.int IntKind.i64 0, Value.int IntKind.i64 0, Value.int IntKind.i64 0] 33) = W := ⟨_, rfl⟩
  have KA : Hid (Blk W0 w.heap.size (oL q (.slice a1 n c1) (.slice a2 nm c2)) 28) := by rw [← hW0]; exact (Blk.newAt w _ _ _ w.heap.size rfl rfl).alloc _
  have KR : Hid (Blk W0 (w.heap.size + 1) (sL zS) 33) := by rw [← hW0]; exact Blk.newAt (w.alloc _) _ _ _ (w.heap.size + 1) (by simp) rfl
  have Z0 : Hid (W0.heap.size = w.heap.size + 1 + 1) := by show W0.heap.size = _; rw [← hW0]; simp
  have BW : Hid (Below w.heap.size w W0) := by rw [← hW0]; exact below_next (below_alloc _ _) (below_alloc _ _)
  have E : uH q.k = false ∧ uA q.k = false ∧ uC q.k = false ∧ uO q.k = false ∧ uD q.k = true ∧ uM q.k = false := by rw [hk]; decide
  have EQ : Hid (ps (sk q n nm) = ⟨q.k, 0, 0, 0, 0, (n : Int), 0⟩) := by
    show ps (sk q n nm) = _
    unfold ps sk
    simp only
    rw [E.1, E.2.1, E.2.2.1, E.2.2.2.1, E.2.2.2.2.1, E.2.2.2.2.2]
    rfl
  have EU : Hid (uv q.k = .agg #[.bool false, .bool false, .bool false, .bool false, .bool true, .bool false] ∧ uL q.k = [.bool false, .bool false, .bool false, .bool false, .bool true, .bool false]) := by
    show uv q.k = _ ∧ uL q.k = _
    unfold uv uL
    rw [E.1, E.2.1, E.2.2.1, E.2.2.2.1, E.2.2.2.2.1, E.2.2.2.2.2]
    exact ⟨rfl, rfl⟩
  have c0 := KA.out.cell 0 _ rfl
  clear hk E
  go_enter Try.func10, Try.ntmps10
  go_wp2_with fail
  clear hW0 c0
  refine (ruse_ok q.k W0).mono ?_
  rintro e W1 ⟨rfl, hb⟩
  rw [EU.out.1]
  replace BW := hid (below_next BW.out hb)
  replace KA := hid (KA.out.below hb)
  replace KR := hid (KR.out.below hb)
  have Z1 : Hid (W0.heap.size ≤ W1.heap.size) := hb.size
  clear hb
  obtain ⟨W2, s2, ku, hk2⟩ := SVu_run q.k (Blk.newAt W1 fU fU.toList 58 W1.heap.size rfl rfl) rfl
  rw [EU.out.1] at s2
  rw [EU.out.2] at ku
  have b2 : Below W1.heap.size W1 W2 := (below_alloc W1 _).trans (hk2.below (by simp) (fun j hj e => by omega))
  replace BW := hid (below_next BW.out b2)
  replace KA := hid (KA.out.below b2)
  replace KR := hid (KR.out.below b2)
  have Z2 : Hid (W1.heap.size < W2.heap.size) := ku.lt
  obtain ⟨W3, s3, ks, hk3⟩ := SVk_run ⟨q.k, 0, 0, 0, 0, 0, 0⟩ (Blk.newAt W2 #[Value.int IntKind.u8 0, Value.int IntKind.i64 0, Value.int IntKind.u8 0, Value.int IntKind.i64 0, Value.int IntKind.i64 0, Value.int IntKind.i64 0, Value.int IntKind.i64 0] (sL zS) 33 W2.heap.size rfl rfl) rfl
  have s3' : (SVk ⟨W2.heap.size, 0, none⟩ (.agg #[.int .u8 q.k, .int .i64 0, .int .u8 0, .int .i64 0, .int .i64 0, .int .i64 0, .int .i64 0])).run Try.prog (W2.alloc (.cells #[Value.int IntKind.u8 0, Value.int IntKind.i64 0, Value.int IntKind.u8 0, Value.int IntKind.i64 0, Value.int IntKind.i64 0, Value.int IntKind.i64 0, Value.int IntKind.i64 0] 33)) = .ok () W3 := s3
  have b3 : Below W2.heap.size W2 W3 := (below_alloc W2 _).trans (hk3.below (by simp) (fun j hj e => by omega))
  have o2 := KA.out.cell 0 _ rfl
  have o2' : (W2.alloc (.cells #[Value.int IntKind.u8 0, Value.int IntKind.i64 0, Value.int IntKind.u8 0, Value.int IntKind.i64 0, Value.int IntKind.i64 0, Value.int IntKind.i64 0, Value.int IntKind.i64 0] 33)).cell? ⟨w.heap.size, 0, none⟩ = _ := (KA.out.alloc _).cell 0 _ rfl
  replace BW := hid (below_next BW.out b3)
  replace KA := hid (KA.out.below b3)
  replace KR := hid (KR.out.below b3)
  have KU := hid (ku.below b3)
  clear b2 b3 hk2 hk3 s3 ku
  have uh3 := KU.out.cell 0 _ rfl
  have ua3 := KU.out.cell 1 _ rfl
  have uc3 := KU.out.cell 2 _ rfl
  have uo3 := KU.out.cell 3 _ rfl
  have ud3 := KU.out.cell 4 _ rfl
  have od3 := KA.out.cell 5 _ rfl
  have sd3 := ks.cell 5 _ rfl
  have fd3 := ks.frozen 5
  obtain ⟨W4, hW4⟩ : ∃ W, W3.setCell ⟨W2.heap.size, 5, none⟩ (.int .i64 (n : Int)) = W := ⟨_, rfl⟩
  have hkW4 := Kp.setCell (w := W3) W2.heap.size 5 (.int .i64 (n : Int))
  rw [hW4] at hkW4
  have kW4 : Blk W4 W2.heap.size (sL ⟨q.k, 0, 0, 0, 0, (n : Int), 0⟩) 33 := by rw [← hW4]; exact ks.set 5 _
  replace KA := hid (KA.out.kept hkW4 (by have := Z0.out; have := Z1.out; have := Z2.out; omega))
  replace KU := hid (KU.out.kept hkW4 (by have := Z2.out; omega))
  replace KR := hid (KR.out.kept hkW4 (by have := Z0.out; have := Z1.out; have := Z2.out; omega))
  replace BW := hid (BW.out.trans (hkW4.below BW.out.size (fun j hj e => by have := Z0.out; have := Z1.out; have := Z2.out; omega)))
  have um4 := KU.out.cell 5 _ rfl
  have l4 : (LDk ⟨W2.heap.size, 0, none⟩).run Try.prog W4 = .ok (.agg #[.int .u8 q.k, .int .i64 0, .int .u8 0, .int .i64 0, .int .i64 0, .int .i64 (n : Int), .int .i64 0]) W4 := LDk_run kW4
  obtain ⟨W9, s9, k9, hk9⟩ := SVk_run ⟨q.k, 0, 0, 0, 0, (n : Int), 0⟩ KR.out rfl
  have s9' : (SVk ⟨w.heap.size + 1, 0, none⟩ (.agg #[.int .u8 q.k, .int .i64 0, .int .u8 0, .int .i64 0, .int .i64 0, .int .i64 (n : Int), .int .i64 0])).run Try.prog W4 = .ok () W9 := s9
  have L9 := hid (LDk_run k9)
  have B9 : Hid (Below w.heap.size w W9) := BW.out.trans (hk9.below BW.out.size (fun j _ e => by omega))
  clear hkW4 ks kW4 s9 hk9 k9 KA KR KU BW Z0 Z1 Z2 EU
  go_wp2_with fail
  exact bodyPost_ret (Tb.results_cell1 rfl rfl L9.out) rfl ⟨by rw [EQ.out], B9.out⟩
set_option maxRecDepth 8000 in
set_option maxHeartbeats 1200000 in
theorem rof_2 (q : Nu) (a1 a2 : Option Addr) (n c1 nm c2 : Nat) (w : World) (hk : q.k = 2) :
    Calls Try.prog 10 #[ov q (.slice a1 n c1) (.slice a2 nm c2)] w fun e w' => e = .returned (sv (ps (sk q n nm))) ∧ Below w.heap.size w w' := by
  obtain ⟨W0, hW0⟩ : ∃ W, (w.alloc (.cells #[Value.int IntKind.u8 q.k, Value.int IntKind.i64 q.h, Value.int IntKind.u8 q.a, Value.int IntKind.i64 q.c, Value.int IntKind.i64 q.o, Value.slice a1 n c1, Value.slice a2 nm c2] 28)).alloc (.cells #[Value.int IntKind.u8 0, Value.int IntKind.i64 0, Value.int IntKind.u8 0, Value.int IntKind.i64 0, Value.int IntKind.i64 0, Value.int IntKind.i64 0, Value.int IntKind.i64 0] 33) = W := ⟨_, rfl⟩
  have KA : Hid (Blk W0 w.heap.size (oL q (.slice a1 n c1) (.slice a2 nm c2)) 28) := by rw [← hW0]; exact (Blk.newAt w _ _ _ w.heap.size rfl rfl).alloc _
  have KR : Hid (Blk W0 (w.heap.size + 1) (sL zS) 33) := by rw [← hW0]; exact Blk.newAt (w.alloc _) _ _ _ (w.heap.size + 1) (by simp) rfl
  have Z0 : Hid (W0.heap.size = w.heap.size + 1 + 1) := by show W0.heap.size = _; rw [← hW0]; simp
  have BW : Hid (Below w.heap.size w W0) := by rw [← hW0]; exact below_next (below_alloc _ _) (below_alloc _ _)
  have E : uH q.k = true ∧ uA q.k = true ∧ uC q.k = false ∧ uO q.k = true ∧ uD q.k = true ∧ uM q.k = false := by rw [hk]; decide
  have EQ : Hid (ps (sk q n nm) = ⟨q.k, q.h, q.a, 0, q.o, (n : Int), 0⟩) := by
    show ps (sk q n nm) = _
    unfold ps sk
    simp only
    rw [E.1, E.2.1, E.2.2.1, E.2.2.2.1, E.2.2.2.2.1, E.2.2.2.2.2]
    rfl
  have EU : Hid (uv q.k = .agg #[.bool true, .bool true, .bool false, .bool true, .bool true, .bool false] ∧ uL q.k = [.bool true, .bool true, .bool false, .bool true, .bool true, .bool false]) := by
    show uv q.k = _ ∧ uL q.k = _
    unfold uv uL
    rw [E.1, E.2.1, E.2.2.1, E.2.2.2.1, E.2.2.2.2.1, E.2.2.2.2.2]
    exact ⟨rfl, rfl⟩
  have c0 := KA.out.cell 0 _ rfl
  clear hk E
  go_enter Try.func10, Try.ntmps10
  go_wp2_with fail
  clear hW0 c0
  refine (ruse_ok q.k W0).mono ?_
  rintro e W1 ⟨rfl, hb⟩
  rw [EU.out.1]
  replace BW := hid (below_next BW.out hb)
  replace KA := hid (KA.out.below hb)
  replace KR := hid (KR.out.below hb)
  have Z1 : Hid (W0.heap.size ≤ W1.heap.size) := hb.size
  clear hb
  obtain ⟨W2, s2, ku, hk2⟩ := SVu_run q.k (Blk.newAt W1 fU fU.toList 58 W1.heap.size rfl rfl) rfl
  rw [EU.out.1] at s2
  rw [EU.out.2] at ku
  have b2 : Below W1.heap.size W1 W2 := (below_alloc W1 _).trans (hk2.below (by simp) (fun j hj e => by omega))
  replace BW := hid (below_next BW.out b2)
  replace KA := hid (KA.out.below b2)
  replace KR := hid (KR.out.below b2)
  have Z2 : Hid (W1.heap.size < W2.heap.size) := ku.lt
  obtain ⟨W3, s3, ks, hk3⟩ := SVk_run ⟨q.k, 0, 0, 0, 0, 0, 0⟩ (Blk.newAt W2 #[Value.int IntKind.u8 0, Value.int IntKind.i64 0, Value.int IntKind.u8 0, Value.int IntKind.i64 0, Value.int IntKind.i64 0, Value.int IntKind.i64 0, Value.int IntKind.i64 0] (sL zS) 33 W2.heap.size rfl rfl) rfl
  have s3' : (SVk ⟨W2.heap.size, 0, none⟩ (.agg #[.int .u8 q.k, .int .i64 0, .int .u8 0, .int .i64 0, .int .i64 0, .int .i64 0, .int .i64 0])).run Try.prog (W2.alloc (.cells #[Value.int IntKind.u8 0, Value.int IntKind.i64 0, Value.int IntKind.u8 0, Value.int IntKind.i64 0, Value.int IntKind.i64 0, Value.int IntKind.i64 0, Value.int IntKind.i64 0] 33)) = .ok () W3 := s3
  have b3 : Below W2.heap.size W2 W3 := (below_alloc W2 _).trans (hk3.below (by simp) (fun j hj e => by omega))
  have o2 := KA.out.cell 0 _ rfl
  have o2' : (W2.alloc (.cells #[Value.int IntKind.u8 0, Value.int IntKind.i64 0, Value.int IntKind.u8 0, Value.int IntKind.i64 0, Value.int IntKind.i64 0, Value.int IntKind.i64 0, Value.int IntKind.i64 0] 33)).cell? ⟨w.heap.size, 0, none⟩ = _ := (KA.out.alloc _).cell 0 _ rfl
  replace BW := hid (below_next BW.out b3)
  replace KA := hid (KA.out.below b3)
  replace KR := hid (KR.out.below b3)
  have KU := hid (ku.below b3)
  clear b2 b3 hk2 hk3 s3 ku
  have uh3 := KU.out.cell 0 _ rfl
  have oh3 := KA.out.cell 1 _ rfl
  have sh3 := ks.cell 1 _ rfl
  have fh3 := ks.frozen 1
  obtain ⟨W4, hW4⟩ : ∃ W, W3.setCell ⟨W2.heap.size, 1, none⟩ (.int .i64 q.h) = W := ⟨_, rfl⟩
  have hkW4 := Kp.setCell (w := W3) W2.heap.size 1 (.int .i64 q.h)
  rw [hW4] at hkW4
  have kW4 : Blk W4 W2.heap.size (sL ⟨q.k, q.h, 0, 0, 0, 0, 0⟩) 33 := by rw [← hW4]; exact ks.set 1 _
  replace KA := hid (KA.out.kept hkW4 (by have := Z0.out; have := Z1.out; have := Z2.out; omega))
  replace KU := hid (KU.out.kept hkW4 (by have := Z2.out; omega))
  replace KR := hid (KR.out.kept hkW4 (by have := Z0.out; have := Z1.out; have := Z2.out; omega))
  replace BW := hid (BW.out.trans (hkW4.below BW.out.size (fun j hj e => by have := Z0.out; have := Z1.out; have := Z2.out; omega)))
  have ua4 := KU.out.cell 1 _ rfl
  have oa4 := KA.out.cell 2 _ rfl
  have sa4 := kW4.cell 2 _ rfl
  have fa4 := kW4.frozen 2
  obtain ⟨W5, hW5⟩ : ∃ W, W4.setCell ⟨W2.heap.size, 2, none⟩ (.int .u8 q.a) = W := ⟨_, rfl⟩
  have hkW5 := Kp.setCell (w := W4) W2.heap.size 2 (.int .u8 q.a)
  rw [hW5] at hkW5
  have kW5 : Blk W5 W2.heap.size (sL ⟨q.k, q.h, q.a, 0, 0, 0, 0⟩) 33 := by rw [← hW5]; exact kW4.set 2 _
  replace KA := hid (KA.out.kept hkW5 (by have := Z0.out; have := Z1.out; have := Z2.out; omega))
  replace KU := hid (KU.out.kept hkW5 (by have := Z2.out; omega))
  replace KR := hid (KR.out.kept hkW5 (by have := Z0.out; have := Z1.out; have := Z2.out; omega))
  replace BW := hid (BW.out.trans (hkW5.below BW.out.size (fun j hj e => by have := Z0.out; have := Z1.out; have := Z2.out; omega)))
  have uc5 := KU.out.cell 2 _ rfl
  have uo5 := KU.out.cell 3 _ rfl
  have oo5 := KA.out.cell 4 _ rfl
  have so5 := kW5.cell 4 _ rfl
  have fo5 := kW5.frozen 4
  obtain ⟨W6, hW6⟩ : ∃ W, W5.setCell ⟨W2.heap.size, 4, none⟩ (.int .i64 q.o) = W := ⟨_, rfl⟩
  have hkW6 := Kp.setCell (w := W5) W2.heap.size 4 (.int .i64 q.o)
  rw [hW6] at hkW6
  have kW6 : Blk W6 W2.heap.size (sL ⟨q.k, q.h, q.a, 0, q.o, 0, 0⟩) 33 := by rw [← hW6]; exact kW5.set 4 _
  replace KA := hid (KA.out.kept hkW6 (by have := Z0.out; have := Z1.out; have := Z2.out; omega))
  replace KU := hid (KU.out.kept hkW6 (by have := Z2.out; omega))
  replace KR := hid (KR.out.kept hkW6 (by have := Z0.out; have := Z1.out; have := Z2.out; omega))
  replace BW := hid (BW.out.trans (hkW6.below BW.out.size (fun j hj e => by have := Z0.out; have := Z1.out; have := Z2.out; omega)))
  have ud6 := KU.out.cell 4 _ rfl
  have od6 := KA.out.cell 5 _ rfl
  have sd6 := kW6.cell 5 _ rfl
  have fd6 := kW6.frozen 5
  obtain ⟨W7, hW7⟩ : ∃ W, W6.setCell ⟨W2.heap.size, 5, none⟩ (.int .i64 (n : Int)) = W := ⟨_, rfl⟩
  have hkW7 := Kp.setCell (w := W6) W2.heap.size 5 (.int .i64 (n : Int))
  rw [hW7] at hkW7
  have kW7 : Blk W7 W2.heap.size (sL ⟨q.k, q.h, q.a, 0, q.o, (n : Int), 0⟩) 33 := by rw [← hW7]; exact kW6.set 5 _
  replace KA := hid (KA.out.kept hkW7 (by have := Z0.out; have := Z1.out; have := Z2.out; omega))
  replace KU := hid (KU.out.kept hkW7 (by have := Z2.out; omega))
  replace KR := hid (KR.out.kept hkW7 (by have := Z0.out; have := Z1.out; have := Z2.out; omega))
  replace BW := hid (BW.out.trans (hkW7.below BW.out.size (fun j hj e => by have := Z0.out; have := Z1.out; have := Z2.out; omega)))
  have um7 := KU.out.cell 5 _ rfl
  have l4 : (LDk ⟨W2.heap.size, 0, none⟩).run Try.prog W7 = .ok (.agg #[.int .u8 q.k, .int .i64 q.h, .int .u8 q.a, .int .i64 0, .int .i64 q.o, .int .i64 (n : Int), .int .i64 0]) W7 := LDk_run kW7
  obtain ⟨W9, s9, k9, hk9⟩ := SVk_run ⟨q.k, q.h, q.a, 0, q.o, (n : Int), 0⟩ KR.out rfl
  have s9' : (SVk ⟨w.heap.size + 1, 0, none⟩ (.agg #[.int .u8 q.k, .int .i64 q.h, .int .u8 q.a, .int .i64 0, .int .i64 q.o, .int .i64 (n : Int), .int .i64 0])).run Try.prog W7 = .ok () W9 := s9
  have L9 := hid (LDk_run k9)
  have B9 : Hid (Below w.heap.size w W9) := BW.out.trans (hk9.below BW.out.size (fun j _ e => by omega))
  clear hkW4 hkW5 hkW6 hkW7 ks kW4 kW5 kW6 kW7 s9 hk9 k9 KA KR KU BW Z0 Z1 Z2 EU
  go_wp2_with fail
  exact bodyPost_ret (Tb.results_cell1 rfl rfl L9.out) rfl ⟨by rw [EQ.out], B9.out⟩
set_option maxRecDepth 8000 in
set_option maxHeartbeats 1200000 in
theorem rof_3 (q : Nu) (a1 a2 : Option Addr) (n c1 nm c2 : Nat) (w : World) (hk : q.k = 3) :
    Calls Try.prog 10 #[ov q (.slice a1 n c1) (.slice a2 nm c2)] w fun e w' => e = .returned (sv (ps (sk q n nm))) ∧ Below w.heap.size w w' := by
  obtain ⟨W0, hW0⟩ : ∃ W, (w.alloc (.cells #[Value.int IntKind.u8 q.k, Value.int IntKind.i64 q.h, Value.int IntKind.u8 q.a, Value.int IntKind.i64 q.c, Value.int IntKind.i64 q.o, Value.slice a1 n c1, Value.slice a2 nm c2] 28)).alloc (.cells #[Value.int IntKind.u8 0, Value.int IntKind.i64 0, Value.int IntKind.u8 0, Value.int IntKind.i64 0, Value.int IntKind.i64 0, Value.int IntKind.i64 0, Value.int IntKind.i64 0] 33) = W := ⟨_, rfl⟩
  have KA : Hid (Blk W0 w.heap.size (oL q (.slice a1 n c1) (.slice a2 nm c2)) 28) := by rw [← hW0]; exact (Blk.newAt w _ _ _ w.heap.size rfl rfl).alloc _
  have KR : Hid (Blk W0 (w.heap.size + 1) (sL zS) 33) := by rw [← hW0]; exact Blk.newAt (w.alloc _) _ _ _ (w.heap.size + 1) (by simp) rfl
  have Z0 : Hid (W0.heap.size = w.heap.size + 1 + 1) := by show W0.heap.size = _; rw [← hW0]; simp
  have BW : Hid (Below w.heap.size w W0) := by rw [← hW0]; exact below_next (below_alloc _ _) (below_alloc _ _)
  have E : uH q.k = true ∧ uA q.k = false ∧ uC q.k = false ∧ uO q.k = false ∧ uD q.k = true ∧ uM q.k = false := by rw [hk]; decide
  have EQ : Hid (ps (sk q n nm) = ⟨q.k, q.h, 0, 0, 0, (n : Int), 0⟩) := by
    show ps (sk q n nm) = _
    unfold ps sk
    simp only
    rw [E.1, E.2.1, E.2.2.1, E.2.2.2.1, E.2.2.2.2.1, E.2.2.2.2.2]
    rfl
  have EU : Hid (uv q.k = .agg #[.bool true, .bool false, .bool false, .bool false, .bool true, .bool false] ∧ uL q.k = [.bool true, .bool false, .bool false, .bool false, .bool true, .bool false]) := by
    show uv q.k = _ ∧ uL q.k = _
    unfold uv uL
    rw [E.1, E.2.1, E.2.2.1, E.2.2.2.1, E.2.2.2.2.1, E.2.2.2.2.2]
    exact ⟨rfl, rfl⟩
  have c0 := KA.out.cell 0 _ rfl
  clear hk E
  go_enter Try.func10, Try.ntmps10
  go_wp2_with fail
  clear hW0 c0
  refine (ruse_ok q.k W0).mono ?_
  rintro e W1 ⟨rfl, hb⟩
  rw [EU.out.1]
  replace BW := hid (below_next BW.out hb)
  replace KA := hid (KA.out.below hb)
  replace KR := hid (KR.out.below hb)
  have Z1 : Hid (W0.heap.size ≤ W1.heap.size) := hb.size
  clear hb
  obtain ⟨W2, s2, ku, hk2⟩ := SVu_run q.k (Blk.newAt W1 fU fU.toList 58 W1.heap.size rfl rfl) rfl
  rw [EU.out.1] at s2
  rw [EU.out.2] at ku
  have b2 : Below W1.heap.size W1 W2 := (below_alloc W1 _).trans (hk2.below (by simp) (fun j hj e => by omega))
  replace BW := hid (below_next BW.out b2)
  replace KA := hid (KA.out.below b2)
  replace KR := hid (KR.out.below b2)
  have Z2 : Hid (W1.heap.size < W2.heap.size) := ku.lt
  obtain ⟨W3, s3, ks, hk3⟩ := SVk_run ⟨q.k, 0, 0, 0, 0, 0, 0⟩ (Blk.newAt W2 #[Value.int IntKind.u8 0, Value.int IntKind.i64 0, Value.int IntKind.u8 0, Value.int IntKind.i64 0, Value.int IntKind.i64 0, Value.int IntKind.i64 0, Value.int IntKind.i64 0] (sL zS) 33 W2.heap.size rfl rfl) rfl
  have s3' : (SVk ⟨W2.heap.size, 0, none⟩ (.agg #[.int .u8 q.k, .int .i64 0, .int .u8 0, .int .i64 0, .int .i64 0, .int .i64 0, .int .i64 0])).run Try.prog (W2.alloc (.cells #[Value.int IntKind.u8 0, Value.int IntKind.i64 0, Value.int IntKind.u8 0, Value.int IntKind.i64 0, Value.int IntKind.i64 0, Value.int IntKind.i64 0, Value.int IntKind.i64 0] 33)) = .ok () W3 := s3
  have b3 : Below W2.heap.size W2 W3 := (below_alloc W2 _).trans (hk3.below (by simp) (fun j hj e => by omega))
  have o2 := KA.out.cell 0 _ rfl
  have o2' : (W2.alloc (.cells #[Value.int IntKind.u8 0, Value.int IntKind.i64 0, Value.int IntKind.u8 0, Value.int IntKind.i64 0, Value.int IntKind.i64 0, Value.int IntKind.i64 0, Value.int IntKind.i64 0] 33)).cell? ⟨w.heap.size, 0, none⟩ = _ := (KA.out.alloc _).cell 0 _ rfl
  replace BW := hid (below_next BW.out b3)
  replace KA := hid (KA.out.below b3)
  replace KR := hid (KR.out.below b3)
  have KU := hid (ku.below b3)
  clear b2 b3 hk2 hk3 s3 ku
  have uh3 := KU.out.cell 0 _ rfl
  have oh3 := KA.out.cell 1 _ rfl
  have sh3 := ks.cell 1 _ rfl
  have fh3 := ks.frozen 1
  obtain ⟨W4, hW4⟩ : ∃ W, W3.setCell ⟨W2.heap.size, 1, none⟩ (.int .i64 q.h) = W := ⟨_, rfl⟩
  have hkW4 := Kp.setCell (w := W3) W2.heap.size 1 (.int .i64 q.h)
  rw [hW4] at hkW4
  have kW4 : Blk W4 W2.heap.size (sL ⟨q.k, q.h, 0, 0, 0, 0, 0⟩) 33 := by rw [← hW4]; exact ks.set 1 _
  replace KA := hid (KA.out.kept hkW4 (by have := Z0.out; have := Z1.out; have := Z2.out; omega))
  replace KU := hid (KU.out.kept hkW4 (by have := Z2.out; omega))
  replace KR := hid (KR.out.kept hkW4 (by have := Z0.out; have := Z1.out; have := Z2.out; omega))
  replace BW := hid (BW.out.trans (hkW4.below BW.out.size (fun j hj e => by have := Z0.out; have := Z1.out; have := Z2.out; omega)))
  have ua4 := KU.out.cell 1 _ rfl
  have uc4 := KU.out.cell 2 _ rfl
  have uo4 := KU.out.cell 3 _ rfl
  have ud4 := KU.out.cell 4 _ rfl
  have od4 := KA.out.cell 5 _ rfl
  have sd4 := kW4.cell 5 _ rfl
  have fd4 := kW4.frozen 5
  obtain ⟨W5, hW5⟩ : ∃ W, W4.setCell ⟨W2.heap.size, 5, none⟩ (.int .i64 (n : Int)) = W := ⟨_, rfl⟩
  have hkW5 := Kp.setCell (w := W4) W2.heap.size 5 (.int .i64 (n : Int))
  rw [hW5] at hkW5
  have kW5 : Blk W5 W2.heap.size (sL ⟨q.k, q.h, 0, 0, 0, (n : Int), 0⟩) 33 := by rw [← hW5]; exact kW4.set 5 _
  replace KA := hid (KA.out.kept hkW5 (by have := Z0.out; have := Z1.out; have := Z2.out; omega))
  replace KU := hid (KU.out.kept hkW5 (by have := Z2.out; omega))
  replace KR := hid (KR.out.kept hkW5 (by have := Z0.out; have := Z1.out; have := Z2.out; omega))
  replace BW := hid (BW.out.trans (hkW5.below BW.out.size (fun j hj e => by have := Z0.out; have := Z1.out; have := Z2.out; omega)))
  have um5 := KU.out.cell 5 _ rfl
  have l4 : (LDk ⟨W2.heap.size, 0, none⟩).run Try.prog W5 = .ok (.agg #[.int .u8 q.k, .int .i64 q.h, .int .u8 0, .int .i64 0, .int .i64 0, .int .i64 (n : Int), .int .i64 0]) W5 := LDk_run kW5
  obtain ⟨W9, s9, k9, hk9⟩ := SVk_run ⟨q.k, q.h, 0, 0, 0, (n : Int), 0⟩ KR.out rfl
  have s9' : (SVk ⟨w.heap.size + 1, 0, none⟩ (.agg #[.int .u8 q.k, .int .i64 q.h, .int .u8 0, .int .i64 0, .int .i64 0, .int .i64 (n : Int), .int .i64 0])).run Try.prog W5 = .ok () W9 := s9
  have L9 := hid (LDk_run k9)
  have B9 : Hid (Below w.heap.size w W9) := BW.out.trans (hk9.below BW.out.size (fun j _ e => by omega))
  clear hkW4 hkW5 ks kW4 kW5 s9 hk9 k9 KA KR KU BW Z0 Z1 Z2 EU
  go_wp2_with fail
  exact bodyPost_ret (Tb.results_cell1 rfl rfl L9.out) rfl ⟨by rw [EQ.out], B9.out⟩
set_option maxRecDepth 8000 in
set_option maxHeartbeats 1200000 in
theorem rof_4 (q : Nu) (a1 a2 : Option Addr) (n c1 nm c2 : Nat) (w : World) (hk : q.k = 4) :
    Calls Try.prog 10 #[ov q (.slice a1 n c1) (.slice a2 nm c2)] w fun e w' => e = .returned (sv (ps (sk q n nm))) ∧ Below w.heap.size w w' := by
  obtain ⟨W0, hW0⟩ : ∃ W, (w.alloc (.cells #[Value.int IntKind.u8 q.k, Value.int IntKind.i64 q.h, Value.int IntKind.u8 q.a, Value.int IntKind.i64 q.c, Value.int IntKind.i64 q.o, Value.slice a1 n c1, Value.slice a2 nm c2] 28)).alloc (.cells #[Value.int IntKind.u8 0, Value.int IntKind.i64 0, Value.int IntKind.u8 0, Value.int IntKind.i64 0, Value.int IntKind.i64 0, Value.int IntKind.i64 0, Value.int IntKind.i64 0] 33) = W := ⟨_, rfl⟩
  have KA : Hid (Blk W0 w.heap.size (oL q (.slice a1 n c1) (.slice a2 nm c2)) 28) := by rw [← hW0]; exact (Blk.newAt w _ _ _ w.heap.size rfl rfl).alloc _
  have KR : Hid (Blk W0 (w.heap.size + 1) (sL zS) 33) := by rw [← hW0]; exact Blk.newAt (w.alloc _) _ _ _ (w.heap.size + 1) (by simp) rfl
  have Z0 : Hid (W0.heap.size = w.heap.size + 1 + 1) := by show W0.heap.size = _; rw [← hW0]; simp
  have BW : Hid (Below w.heap.size w W0) := by rw [← hW0]; exact below_next (below_alloc _ _) (below_alloc _ _)
  have E : uH q.k = true ∧ uA q.k = false ∧ uC q.k = false ∧ uO q.k = false ∧ uD q.k = false ∧ uM q.k = false := by rw [hk]; decide
  have EQ : Hid (ps (sk q n nm) = ⟨q.k, q.h, 0, 0, 0, 0, 0⟩) := by
    show ps (sk q n nm) = _
    unfold ps sk
    simp only
    rw [E.1, E.2.1, E.2.2.1, E.2.2.2.1, E.2.2.2.2.1, E.2.2.2.2.2]
    rfl
  have EU : Hid (uv q.k = .agg #[.bool true, .bool false, .bool false, .bool false, .bool false, .bool false] ∧ uL q.k = [.bool true, .bool false, .bool false, .bool false, .bool false, .bool false]) := by
    show uv q.k = _ ∧ uL q.k = _
    unfold uv uL
    rw [E.1, E.2.1, E.2.2.1, E.2.2.2.1, E.2.2.2.2.1, E.2.2.2.2.2]
    exact ⟨rfl, rfl⟩
  have c0 := KA.out.cell 0 _ rfl
  clear hk E
  go_enter Try.func10, Try.ntmps10
  go_wp2_with fail
  clear hW0 c0
  refine (ruse_ok q.k W0).mono ?_
  rintro e W1 ⟨rfl, hb⟩
  rw [EU.out.1]
  replace BW := hid (below_next BW.out hb)
  replace KA := hid (KA.out.below hb)
  replace KR := hid (KR.out.below hb)
  have Z1 : Hid (W0.heap.size ≤ W1.heap.size) := hb.size
  clear hb
  obtain ⟨W2, s2, ku, hk2⟩ := SVu_run q.k (Blk.newAt W1 fU fU.toList 58 W1.heap.size rfl rfl) rfl
  rw [EU.out.1] at s2
  rw [EU.out.2] at ku
  have b2 : Below W1.heap.size W1 W2 := (below_alloc W1 _).trans (hk2.below (by simp) (fun j hj e => by omega))
  replace BW := hid (below_next BW.out b2)
  replace KA := hid (KA.out.below b2)
  replace KR := hid (KR.out.below b2)
  have Z2 : Hid (W1.heap.size < W2.heap.size) := ku.lt
  obtain ⟨W3, s3, ks, hk3⟩ := SVk_run ⟨q.k, 0, 0, 0, 0, 0, 0⟩ (Blk.newAt W2 #[Value.int IntKind.u8 0, Value.int IntKind.i64 0, Value.int IntKind.u8 0, Value.int IntKind.i64 0, Value.int IntKind.i64 0, Value.int IntKind.i64 0, Value.int IntKind.i64 0] (sL zS) 33 W2.heap.size rfl rfl) rfl
  have s3' : (SVk ⟨W2.heap.size, 0, none⟩ (.agg #[.int .u8 q.k, .int .i64 0, .int .u8 0, .int .i64 0, .int .i64 0, .int .i64 0, .int .i64 0])).run Try.prog (W2.alloc (.cells #[Value.int IntKind.u8 0, Value.int IntKind.i64 0, Value.int IntKind.u8 0, Value.int IntKind.i64 0, Value.int IntKind.i64 0, Value.int IntKind.i64 0, Value.int IntKind.i64 0] 33)) = .ok () W3 := s3
  have b3 : Below W2.heap.size W2 W3 := (below_alloc W2 _).trans (hk3.below (by simp) (fun j hj e => by omega))
  have o2 := KA.out.cell 0 _ rfl
  have o2' : (W2.alloc (.cells #[Value.int IntKind.u8 0, Value.int IntKind.i64 0, Value.int IntKind.u8 0, Value.int IntKind.i64 0, Value.int IntKind.i64 0, Value.int IntKind.i64 0, Value.int IntKind.i64 0] 33)).cell? ⟨w.heap.size, 0, none⟩ = _ := (KA.out.alloc _).cell 0 _ rfl
  replace BW := hid (below_next BW.out b3)
  replace KA := hid (KA.out.below b3)
  replace KR := hid (KR.out.below b3)
  have KU := hid (ku.below b3)
  clear b2 b3 hk2 hk3 s3 ku
  have uh3 := KU.out.cell 0 _ rfl
  have oh3 := KA.out.cell 1 _ rfl
  have sh3 := ks.cell 1 _ rfl
  have fh3 := ks.frozen 1
  obtain ⟨W4, hW4⟩ : ∃ W, W3.setCell ⟨W2.heap.size, 1, none⟩ (.int .i64 q.h) = W := ⟨_, rfl⟩
  have hkW4 := Kp.setCell (w := W3) W2.heap.size 1 (.int .i64 q.h)
  rw [hW4] at hkW4
  have kW4 : Blk W4 W2.heap.size (sL ⟨q.k, q.h, 0, 0, 0, 0, 0⟩) 33 := by rw [← hW4]; exact ks.set 1 _
  replace KA := hid (KA.out.kept hkW4 (by have := Z0.out; have := Z1.out; have := Z2.out; omega))
  replace KU := hid (KU.out.kept hkW4 (by have := Z2.out; omega))
  replace KR := hid (KR.out.kept hkW4 (by have := Z0.out; have := Z1.out; have := Z2.out; omega))
  replace BW := hid (BW.out.trans (hkW4.below BW.out.size (fun j hj e => by have := Z0.out; have := Z1.out; have := Z2.out; omega)))
  have ua4 := KU.out.cell 1 _ rfl
  have uc4 := KU.out.cell 2 _ rfl
  have uo4 := KU.out.cell 3 _ rfl
  have ud4 := KU.out.cell 4 _ rfl
  have um4 := KU.out.cell 5 _ rfl
  have l4 : (LDk ⟨W2.heap.size, 0, none⟩).run Try.prog W4 = .ok (.agg #[.int .u8 q.k, .int .i64 q.h, .int .u8 0, .int .i64 0, .int .i64 0, .int .i64 0, .int .i64 0]) W4 := LDk_run kW4
  obtain ⟨W9, s9, k9, hk9⟩ := SVk_run ⟨q.k, q.h, 0, 0, 0, 0, 0⟩ KR.out rfl
  have s9' : (SVk ⟨w.heap.size + 1, 0, none⟩ (.agg #[.int .u8 q.k, .int .i64 q.h, .int .u8 0, .int .i64 0, .int .i64 0, .int .i64 0, .int .i64 0])).run Try.prog W4 = .ok () W9 := s9
  have L9 := hid (LDk_run k9)
  have B9 : Hid (Below w.heap.size w W9) := BW.out.trans (hk9.below BW.out.size (fun j _ e => by omega))
  clear hkW4 ks kW4 s9 hk9 k9 KA KR KU BW Z0 Z1 Z2 EU
  go_wp2_with fail
  exact bodyPost_ret (Tb.results_cell1 rfl rfl L9.out) rfl ⟨by rw [EQ.out], B9.out⟩
set_option maxRecDepth 8000 in
set_option maxHeartbeats 1200000 in
theorem rof_5 (q : Nu) (a1 a2 : Option Addr) (n c1 nm c2 : Nat) (w : World) (hk : q.k = 5) :
    Calls Try.prog 10 #[ov q (.slice a1 n c1) (.slice a2 nm c2)] w fun e w' => e = .returned (sv (ps (sk q n nm))) ∧ Below w.heap.size w w' := by
  obtain ⟨W0, hW0⟩ : ∃ W, (w.alloc (.cells #[Value.int IntKind.u8 q.k, Value.int IntKind.i64 q.h, Value.int IntKind.u8 q.a, Value.int IntKind.i64 q.c, Value.int IntKind.i64 q.o, Value.slice a1 n c1, Value.slice a2 nm c2] 28)).alloc (.cells #[Value.int IntKind.u8 0, Value.int IntKind.i64 0, Value.int IntKind.u8 0, Value.int IntKind.i64 0, Value.int IntKind.i64 0, Value.int IntKind.i64 0, Value.int IntKind.i64 0] 33) = W := ⟨_, rfl⟩
  have KA : Hid (Blk W0 w.heap.size (oL q (.slice a1 n c1) (.slice a2 nm c2)) 28) := by rw [← hW0]; exact (Blk.newAt w _ _ _ w.heap.size rfl rfl).alloc _
  have KR : Hid (Blk W0 (w.heap.size + 1) (sL zS) 33) := by rw [← hW0]; exact Blk.newAt (w.alloc _) _ _ _ (w.heap.size + 1) (by simp) rfl
  have Z0 : Hid (W0.heap.size = w.heap.size + 1 + 1) := by show W0.heap.size = _; rw [← hW0]; simp
  have BW : Hid (Below w.heap.size w W0) := by rw [← hW0]; exact below_next (below_alloc _ _) (below_alloc _ _)
  have E : uH q.k = true ∧ uA q.k = false ∧ uC q.k = false ∧ uO q.k = false ∧ uD q.k = true ∧ uM q.k = false := by rw [hk]; decide
  have EQ : Hid (ps (sk q n nm) = ⟨q.k, q.h, 0, 0, 0, (n : Int), 0⟩) := by
    show ps (sk q n nm) = _
    unfold ps sk
    simp only
    rw [E.1, E.2.1, E.2.2.1, E.2.2.2.1, E.2.2.2.2.1, E.2.2.2.2.2]
    rfl
  have EU : Hid (uv q.k = .agg #[.bool true, .bool false, .bool false, .bool false, .bool true, .bool false] ∧ uL q.k = [.bool true, .bool false, .bool false, .bool false, .bool true, .bool false]) := by
    show uv q.k = _ ∧ uL q.k = _
    unfold uv uL
    rw [E.1, E.2.1, E.2.2.1, E.2.2.2.1, E.2.2.2.2.1, E.2.2.2.2.2]
    exact ⟨rfl, rfl⟩
  have c0 := KA.out.cell 0 _ rfl
  clear hk E
  go_enter Try.func10, Try.ntmps10
  go_wp2_with fail
  clear hW0 c0
  refine (ruse_ok q.k W0).mono ?_
  rintro e W1 ⟨rfl, hb⟩
  rw [EU.out.1]
  replace BW := hid (below_next BW.out hb)
  replace KA := hid (KA.out.below hb)
  replace KR := hid (KR.out.below hb)
  have Z1 : Hid (W0.heap.size ≤ W1.heap.size) := hb.size
  clear hb
  obtain ⟨W2, s2, ku, hk2⟩ := SVu_run q.k (Blk.newAt W1 fU fU.toList 58 W1.heap.size rfl rfl) rfl
  rw [EU.out.1] at s2
  rw [EU.out.2] at ku
  have b2 : Below W1.heap.size W1 W2 := (below_alloc W1 _).trans (hk2.below (by simp) (fun j hj e => by omega))
  replace BW := hid (below_next BW.out b2)
  replace KA := hid (KA.out.below b2)
  replace KR := hid (KR.out.below b2)
  have Z2 : Hid (W1.heap.size < W2.heap.size) := ku.lt
  obtain ⟨W3, s3, ks, hk3⟩ := SVk_run ⟨q.k, 0, 0, 0, 0, 0, 0⟩ (Blk.newAt W2 #[Value.int IntKind.u8 0, Value.int IntKind.i64 0, Value.int IntKind.u8 0, Value.int IntKind.i64 0, Value.int IntKind.i64 0, Value.int IntKind.i64 0, Value.int IntKind.i64 0] (sL zS) 33 W2.heap.size rfl rfl) rfl
  have s3' : (SVk ⟨W2.heap.size, 0, none⟩ (.agg #[.int .u8 q.k, .int .i64 0, .int .u8 0, .int .i64 0, .int .i64 0, .int .i64 0, .int .i64 0])).run Try.prog (W2.alloc (.cells #[Value.int IntKind.u8 0, Value.int IntKind.i64 0, Value.int IntKind.u8 0, Value.int IntKind.i64 0, Value.int IntKind.i64 0, Value.int IntKind.i64 0, Value.int IntKind.i64 0] 33)) = .ok () W3 := s3
  have b3 : Below W2.heap.size W2 W3 := (below_alloc W2 _).trans (hk3.below (by simp) (fun j hj e => by omega))
  have o2 := KA.out.cell 0 _ rfl
  have o2' : (W2.alloc (.cells #[Value.int IntKind.u8 0, Value.int IntKind.i64 0, Value.int IntKind.u8 0, Value.int IntKind.i64 0, Value.int IntKind.i64 0, Value.int IntKind.i64 0, Value.int IntKind.i64 0] 33)).cell? ⟨w.heap.size, 0, none⟩ = _ := (KA.out.alloc _).cell 0 _ rfl
  replace BW := hid (below_next BW.out b3)
  replace KA := hid (KA.out.below b3)
  replace KR := hid (KR.out.below b3)
  have KU := hid (ku.below b3)
  clear b2 b3 hk2 hk3 s3 ku
  have uh3 := KU.out.cell 0 _ rfl
  have oh3 := KA.out.cell 1 _ rfl
  have sh3 := ks.cell 1 _ rfl
  have fh3 := ks.frozen 1
  obtain ⟨W4, hW4⟩ : ∃ W, W3.setCell ⟨W2.heap.size, 1, none⟩ (.int .i64 q.h) = W := ⟨_, rfl⟩
  have hkW4 := Kp.setCell (w := W3) W2.heap.size 1 (.int .i64 q.h)
  rw [hW4] at hkW4
  have kW4 : Blk W4 W2.heap.size (sL ⟨q.k, q.h, 0, 0, 0, 0, 0⟩) 33 := by rw [← hW4]; exact ks.set 1 _
  replace KA := hid (KA.out.kept hkW4 (by have := Z0.out; have := Z1.out; have := Z2.out; omega))
  replace KU := hid (KU.out.kept hkW4 (by have := Z2.out; omega))
  replace KR := hid (KR.out.kept hkW4 (by have := Z0.out; have := Z1.out; have := Z2.out; omega))
  replace BW := hid (BW.out.trans (hkW4.below BW.out.size (fun j hj e => by have := Z0.out; have := Z1.out; have := Z2.out; omega)))
  have ua4 := KU.out.cell 1 _ rfl
  have uc4 := KU.out.cell 2 _ rfl
  have uo4 := KU.out.cell 3 _ rfl
  have ud4 := KU.out.cell 4 _ rfl
  have od4 := KA.out.cell 5 _ rfl
  have sd4 := kW4.cell 5 _ rfl
  have fd4 := kW4.frozen 5
  obtain ⟨W5, hW5⟩ : ∃ W, W4.setCell ⟨W2.heap.size, 5, none⟩ (.int .i64 (n : Int)) = W := ⟨_, rfl⟩
  have hkW5 := Kp.setCell (w := W4) W2.heap.size 5 (.int .i64 (n : Int))
  rw [hW5] at hkW5
  have kW5 : Blk W5 W2.heap.size (sL ⟨q.k, q.h, 0, 0, 0, (n : Int), 0⟩) 33 := by rw [← hW5]; exact kW4.set 5 _
  replace KA := hid (KA.out.kept hkW5 (by have := Z0.out; have := Z1.out; have := Z2.out; omega))
  replace KU := hid (KU.out.kept hkW5 (by have := Z2.out; omega))
  replace KR := hid (KR.out.kept hkW5 (by have := Z0.out; have := Z1.out; have := Z2.out; omega))
  replace BW := hid (BW.out.trans (hkW5.below BW.out.size (fun j hj e => by have := Z0.out; have := Z1.out; have := Z2.out; omega)))
  have um5 := KU.out.cell 5 _ rfl
  have l4 : (LDk ⟨W2.heap.size, 0, none⟩).run Try.prog W5 = .ok (.agg #[.int .u8 q.k, .int .i64 q.h, .int .u8 0, .int .i64 0, .int .i64 0, .int .i64 (n : Int), .int .i64 0]) W5 := LDk_run kW5
  obtain ⟨W9, s9, k9, hk9⟩ := SVk_run ⟨q.k, q.h, 0, 0, 0, (n : Int), 0⟩ KR.out rfl
  have s9' : (SVk ⟨w.heap.size + 1, 0, none⟩ (.agg #[.int .u8 q.k, .int .i64 q.h, .int .u8 0, .int .i64 0, .int .i64 0, .int .i64 (n : Int), .int .i64 0])).run Try.prog W5 = .ok () W9 := s9
  have L9 := hid (LDk_run k9)
  have B9 : Hid (Below w.heap.size w W9) := BW.out.trans (hk9.below BW.out.size (fun j _ e => by omega))
  clear hkW4 hkW5 ks kW4 kW5 s9 hk9 k9 KA KR KU BW Z0 Z1 Z2 EU
  go_wp2_with fail
  exact bodyPost_ret (Tb.results_cell1 rfl rfl L9.out) rfl ⟨by rw [EQ.out], B9.out⟩
set_option maxRecDepth 8000 in
set_option maxHeartbeats 1200000 in
theorem rof_6 (q : Nu) (a1 a2 : Option Addr) (n c1 nm c2 : Nat) (w : World) (hk : q.k = 6) :
    Calls Try.prog 10 #[ov q (.slice a1 n c1) (.slice a2 nm c2)] w fun e w' => e = .returned (sv (ps (sk q n nm))) ∧ Below w.heap.size w w' := by
  obtain ⟨W0, hW0⟩ : ∃ W, (w.alloc (.cells #[Value.int IntKind.u8 q.k, Value.int IntKind.i64 q.h, Value.int IntKind.u8 q.a, Value.int IntKind.i64 q.c, Value.int IntKind.i64 q.o, Value.slice a1 n c1, Value.slice a2 nm c2] 28)).alloc (.cells #[Value.int IntKind.u8 0, Value.int IntKind.i64 0, Value.int IntKind.u8 0, Value.int IntKind.i64 0, Value.int IntKind.i64 0, Value.int IntKind.i64 0, Value.int IntKind.i64 0] 33) = W := ⟨_, rfl⟩
  have KA : Hid (Blk W0 w.heap.size (oL q (.slice a1 n c1) (.slice a2 nm c2)) 28) := by rw [← hW0]; exact (Blk.newAt w _ _ _ w.heap.size rfl rfl).alloc _
  have KR : Hid (Blk W0 (w.heap.size + 1) (sL zS) 33) := by rw [← hW0]; exact Blk.newAt (w.alloc _) _ _ _ (w.heap.size + 1) (by simp) rfl
  have Z0 : Hid (W0.heap.size = w.heap.size + 1 + 1) := by show W0.heap.size = _; rw [← hW0]; simp
  have BW : Hid (Below w.heap.size w W0) := by rw [← hW0]; exact below_next (below_alloc _ _) (below_alloc _ _)
  have E : uH q.k = true ∧ uA q.k = false ∧ uC q.k = false ∧ uO q.k = false ∧ uD q.k = false ∧ uM q.k = false := by rw [hk]; decide
  have EQ : Hid (ps (sk q n nm) = ⟨q.k, q.h, 0, 0, 0, 0, 0⟩) := by
    show ps (sk q n nm) = _
    unfold ps sk
    simp only
    rw [E.1, E.2.1, E.2.2.1, E.2.2.2.1, E.2.2.2.2.1, E.2.2.2.2.2]
    rfl
  have EU : Hid (uv q.k = .agg #[.bool true, .bool false, .bool false, .bool false, .bool false, .bool false] ∧ uL q.k = [.bool true, .bool false, .bool false, .bool false, .bool false, .bool false]) := by
    show uv q.k = _ ∧ uL q.k = _
    unfold uv uL
    rw [E.1, E.2.1, E.2.2.1, E.2.2.2.1, E.2.2.2.2.1, E.2.2.2.2.2]
    exact ⟨rfl, rfl⟩
  have c0 := KA.out.cell 0 _ rfl
  clear hk E
  go_enter Try.func10, Try.ntmps10
  go_wp2_with fail
  clear hW0 c0
  refine (ruse_ok q.k W0).mono ?_
  rintro e W1 ⟨rfl, hb⟩
  rw [EU.out.1]
  replace BW := hid (below_next BW.out hb)
  replace KA := hid (KA.out.below hb)
  replace KR := hid (KR.out.below hb)
  have Z1 : Hid (W0.heap.size ≤ W1.heap.size) := hb.size
  clear hb
  obtain ⟨W2, s2, ku, hk2⟩ := SVu_run q.k (Blk.newAt W1 fU fU.toList 58 W1.heap.size rfl rfl) rfl
  rw [EU.out.1] at s2
  rw [EU.out.2] at ku
  have b2 : Below W1.heap.size W1 W2 := (below_alloc W1 _).trans (hk2.below (by simp) (fun j hj e => by omega))
  replace BW := hid (below_next BW.out b2)
  replace KA := hid (KA.out.below b2)
  replace KR := hid (KR.out.below b2)
  have Z2 : Hid (W1.heap.size < W2.heap.size) := ku.lt
  obtain ⟨W3, s3, ks, hk3⟩ := SVk_run ⟨q.k, 0, 0, 0, 0, 0, 0⟩ (Blk.newAt W2 #[Value.int IntKind.u8 0, Value.int IntKind.i64 0, Value.int IntKind.u8 0, Value.int IntKind.i64 0, Value.int IntKind.i64 0, Value.int IntKind.i64 0, Value.int IntKind.i64 0] (sL zS) 33 W2.heap.size rfl rfl) rfl
  have s3' : (SVk ⟨W2.heap.size, 0, none⟩ (.agg #[.int .u8 q.k, .int .i64 0, .int .u8 0, .int .i64 0, .int .i64 0, .int .i64 0, .int .i64 0])).run Try.prog (W2.alloc (.cells #[Value.int IntKind.u8 0, Value.int IntKind.i64 0, Value.int IntKind.u8 0, Value.int IntKind.i64 0, Value.int IntKind.i64 0, Value.int IntKind.i64 0, Value.int IntKind.i64 0] 33)) = .ok () W3 := s3
  have b3 : Below W2.heap.size W2 W3 := (below_alloc W2 _).trans (hk3.below (by simp) (fun j hj e => by omega))
  have o2 := KA.out.cell 0 _ rfl
  have o2' : (W2.alloc (.cells #[Value.int IntKind.u8 0, Value.int IntKind.i64 0, Value.int IntKind.u8 0, Value.int IntKind.i64 0, Value.int IntKind.i64 0, Value.int IntKind.i64 0, Value.int IntKind.i64 0] 33)).cell? ⟨w.heap.size, 0, none⟩ = _ := (KA.out.alloc _).cell 0 _ rfl
  replace BW := hid (below_next BW.out b3)
  replace KA := hid (KA.out.below b3)
  replace KR := hid (KR.out.below b3)
  have KU := hid (ku.below b3)
  clear b2 b3 hk2 hk3 s3 ku
  have uh3 := KU.out.cell 0 _ rfl
  have oh3 := KA.out.cell 1 _ rfl
  have sh3 := ks.cell 1 _ rfl
  have fh3 := ks.frozen 1
  obtain ⟨W4, hW4⟩ : ∃ W, W3.setCell ⟨W2.heap.size, 1, none⟩ (.int .i64 q.h) = W := ⟨_, rfl⟩
  have hkW4 := Kp.setCell (w := W3) W2.heap.size 1 (.int .i64 q.h)
  rw [hW4] at hkW4
  have kW4 : Blk W4 W2.heap.size (sL ⟨q.k, q.h, 0, 0, 0, 0, 0⟩) 33 := by rw [← hW4]; exact ks.set 1 _
  replace KA := hid (KA.out.kept hkW4 (by have := Z0.out; have := Z1.out; have := Z2.out; omega))
  replace KU := hid (KU.out.kept hkW4 (by have := Z2.out; omega))
  replace KR := hid (KR.out.kept hkW4 (by have := Z0.out; have := Z1.out; have := Z2.out; omega))
  replace BW := hid (BW.out.trans (hkW4.below BW.out.size (fun j hj e => by have := Z0.out; have := Z1.out; have := Z2.out; omega)))
  have ua4 := KU.out.cell 1 _ rfl
  have uc4 := KU.out.cell 2 _ rfl
  have uo4 := KU.out.cell 3 _ rfl
  have ud4 := KU.out.cell 4 _ rfl
  have um4 := KU.out.cell 5 _ rfl
  have l4 : (LDk ⟨W2.heap.size, 0, none⟩).run Try.prog W4 = .ok (.agg #[.int .u8 q.k, .int .i64 q.h, .int .u8 0, .int .i64 0, .int .i64 0, .int .i64 0, .int .i64 0]) W4 := LDk_run kW4
  obtain ⟨W9, s9, k9, hk9⟩ := SVk_run ⟨q.k, q.h, 0, 0, 0, 0, 0⟩ KR.out rfl
  have s9' : (SVk ⟨w.heap.size + 1, 0, none⟩ (.agg #[.int .u8 q.k, .int .i64 q.h, .int .u8 0, .int .i64 0, .int .i64 0, .int .i64 0, .int .i64 0])).run Try.prog W4 = .ok () W9 := s9
  have L9 := hid (LDk_run k9)
  have B9 : Hid (Below w.heap.size w W9) := BW.out.trans (hk9.below BW.out.size (fun j _ e => by omega))
  clear hkW4 ks kW4 s9 hk9 k9 KA KR KU BW Z0 Z1 Z2 EU
  go_wp2_with fail
  exact bodyPost_ret (Tb.results_cell1 rfl rfl L9.out) rfl ⟨by rw [EQ.out], B9.out⟩
set_option maxRecDepth 8000 in
set_option maxHeartbeats 1200000 in
theorem rof_7 (q : Nu) (a1 a2 : Option Addr) (n c1 nm c2 : Nat) (w : World) (hk : q.k = 7) :
    Calls Try.prog 10 #[ov q (.slice a1 n c1) (.slice a2 nm c2)] w fun e w' => e = .returned (sv (ps (sk q n nm))) ∧ Below w.heap.size w w' := by
  obtain ⟨W0, hW0⟩ : ∃ W, (w.alloc (.cells #[Value.int IntKind.u8 q.k, Value.int IntKind.i64 q.h, Value.int IntKind.u8 q.a, Value.int IntKind.i64 q.c, Value.int IntKind.i64 q.o, Value.slice a1 n c1, Value.slice a2 nm c2] 28)).alloc (.cells #[Value.int IntKind.u8 0, Value.int IntKind.i64 0, Value.int IntKind.u8 0, Value.int IntKind.i64 0, Value.int IntKind.i64 0, Value.int IntKind.i64 0, Value.int IntKind.i64 0] 33) = W := ⟨_, rfl⟩
  have KA : Hid (Blk W0 w.heap.size (oL q (.slice a1 n c1) (.slice a2 nm c2)) 28) := by rw [← hW0]; exact (Blk.newAt w _ _ _ w.heap.size rfl rfl).alloc _
  have KR : Hid (Blk W0 (w.heap.size + 1) (sL zS) 33) := by rw [← hW0]; exact Blk.newAt (w.alloc _) _ _ _ (w.heap.size + 1) (by simp) rfl
  have Z0 : Hid (W0.heap.size = w.heap.size + 1 + 1) := by show W0.heap.size = _; rw [← hW0]; simp
  have BW : Hid (Below w.heap.size w W0) := by rw [← hW0]; exact below_next (below_alloc _ _) (below_alloc _ _)
  have E : uH q.k = true ∧ uA q.k = true ∧ uC q.k = false ∧ uO q.k = true ∧ uD q.k = true ∧ uM q.k = true := by rw [hk]; decide
  have EQ : Hid (ps (sk q n nm) = ⟨q.k, q.h, q.a, 0, q.o, (n : Int), (nm : Int)⟩) := by
    show ps (sk q n nm) = _
    unfold ps sk
    simp only
    rw [E.1, E.2.1, E.2.2.1, E.2.2.2.1, E.2.2.2.2.1, E.2.2.2.2.2]
    rfl
  have EU : Hid (uv q.k = .agg #[.bool true, .bool true, .bool false, .bool true, .bool true, .bool true] ∧ uL q.k = [.bool true, .bool true, .bool false, .bool true, .bool true, .bool true]) := by
    show uv q.k = _ ∧ uL q.k = _
    unfold uv uL
    rw [E.1, E.2.1, E.2.2.1, E.2.2.2.1, E.2.2.2.2.1, E.2.2.2.2.2]
    exact ⟨rfl, rfl⟩
  have c0 := KA.out.cell 0 _ rfl
  clear hk E
  go_enter Try.func10, Try.ntmps10
  go_wp2_with fail
  clear hW0 c0
  refine (ruse_ok q.k W0).mono ?_
  rintro e W1 ⟨rfl, hb⟩
  rw [EU.out.1]
  replace BW := hid (below_next BW.out hb)
  replace KA := hid (KA.out.below hb)
  replace KR := hid (KR.out.below hb)
  have Z1 : Hid (W0.heap.size ≤ W1.heap.size) := hb.size
  clear hb
  obtain ⟨W2, s2, ku, hk2⟩ := SVu_run q.k (Blk.newAt W1 fU fU.toList 58 W1.heap.size rfl rfl) rfl
  rw [EU.out.1] at s2
  rw [EU.out.2] at ku
  have b2 : Below W1.heap.size W1 W2 := (below_alloc W1 _).trans (hk2.below (by simp) (fun j hj e => by omega))
  replace BW := hid (below_next BW.out b2)
  replace KA := hid (KA.out.below b2)
  replace KR := hid (KR.out.below b2)
  have Z2 : Hid (W1.heap.size < W2.heap.size) := ku.lt
  obtain ⟨W3, s3, ks, hk3⟩ := SVk_run ⟨q.k, 0, 0, 0, 0, 0, 0⟩ (Blk.newAt W2 #[Value.int IntKind.u8 0, Value.int IntKind.i64 0, Value.int IntKind.u8 0, Value.int IntKind.i64 0, Value.int IntKind.i64 0, Value.int IntKind.i64 0, Value.int IntKind.i64 0] (sL zS) 33 W2.heap.size rfl rfl) rfl
  have s3' : (SVk ⟨W2.heap.size, 0, none⟩ (.agg #[.int .u8 q.k, .int .i64 0, .int .u8 0, .int .i64 0, .int .i64 0, .int .i64 0, .int .i64 0])).run Try.prog (W2.alloc (.cells #[Value.int IntKind.u8 0, Value.int IntKind.i64 0, Value.int IntKind.u8 0, Value.int IntKind.i64 0, Value.int IntKind.i64 0, Value.int IntKind.i64 0, Value.int IntKind.i64 0] 33)) = .ok () W3 := s3
  have b3 : Below W2.heap.size W2 W3 := (below_alloc W2 _).trans (hk3.below (by simp) (fun j hj e => by omega))
  have o2 := KA.out.cell 0 _ rfl
  have o2' : (W2.alloc (.cells #[Value.int IntKind.u8 0, Value.int IntKind.i64 0, Value.int IntKind.u8 0, Value.int IntKind.i64 0, Value.int IntKind.i64 0, Value.int IntKind.i64 0, Value.int IntKind.i64 0] 33)).cell? ⟨w.heap.size, 0, none⟩ = _ := (KA.out.alloc _).cell 0 _ rfl
  replace BW := hid (below_next BW.out b3)
  replace KA := hid (KA.out.below b3)
  replace KR := hid (KR.out.below b3)
  have KU := hid (ku.below b3)
  clear b2 b3 hk2 hk3 s3 ku
  have uh3 := KU.out.cell 0 _ rfl
  have oh3 := KA.out.cell 1 _ rfl
  have sh3 := ks.cell 1 _ rfl
  have fh3 := ks.frozen 1
  obtain ⟨W4, hW4⟩ : ∃ W, W3.setCell ⟨W2.heap.size, 1, none⟩ (.int .i64 q.h) = W := ⟨_, rfl⟩
  have hkW4 := Kp.setCell (w := W3) W2.heap.size 1 (.int .i64 q.h)
  rw [hW4] at hkW4
  have kW4 : Blk W4 W2.heap.size (sL ⟨q.k, q.h, 0, 0, 0, 0, 0⟩) 33 := by rw [← hW4]; exact ks.set 1 _
  replace KA := hid (KA.out.kept hkW4 (by have := Z0.out; have := Z1.out; have := Z2.out; omega))
  replace KU := hid (KU.out.kept hkW4 (by have := Z2.out; omega))
  replace KR := hid (KR.out.kept hkW4 (by have := Z0.out; have := Z1.out; have := Z2.out; omega))
  replace BW := hid (BW.out.trans (hkW4.below BW.out.size (fun j hj e => by have := Z0.out; have := Z1.out; have := Z2.out; omega)))
  have ua4 := KU.out.cell 1 _ rfl
  have oa4 := KA.out.cell 2 _ rfl
  have sa4 := kW4.cell 2 _ rfl
  have fa4 := kW4.frozen 2
  obtain ⟨W5, hW5⟩ : ∃ W, W4.setCell ⟨W2.heap.size, 2, none⟩ (.int .u8 q.a) = W := ⟨_, rfl⟩
  have hkW5 := Kp.setCell (w := W4) W2.heap.size 2 (.int .u8 q.a)
  rw [hW5] at hkW5
  have kW5 : Blk W5 W2.heap.size (sL ⟨q.k, q.h, q.a, 0, 0, 0, 0⟩) 33 := by rw [← hW5]; exact kW4.set 2 _
  replace KA := hid (KA.out.kept hkW5 (by have := Z0.out; have := Z1.out; have := Z2.out; omega))
  replace KU := hid (KU.out.kept hkW5 (by have := Z2.out; omega))
  replace KR := hid (KR.out.kept hkW5 (by have := Z0.out; have := Z1.out; have := Z2.out; omega))
  replace BW := hid (BW.out.trans (hkW5.below BW.out.size (fun j hj e => by have := Z0.out; have := Z1.out; have := Z2.out; omega)))
  have uc5 := KU.out.cell 2 _ rfl
  have uo5 := KU.out.cell 3 _ rfl
  have oo5 := KA.out.cell 4 _ rfl
  have so5 := kW5.cell 4 _ rfl
  have fo5 := kW5.frozen 4
  obtain ⟨W6, hW6⟩ : ∃ W, W5.setCell ⟨W2.heap.size, 4, none⟩ (.int .i64 q.o) = W := ⟨_, rfl⟩
  have hkW6 := Kp.setCell (w := W5) W2.heap.size 4 (.int .i64 q.o)
  rw [hW6] at hkW6
  have kW6 : Blk W6 W2.heap.size (sL ⟨q.k, q.h, q.a, 0, q.o, 0, 0⟩) 33 := by rw [← hW6]; exact kW5.set 4 _
  replace KA := hid (KA.out.kept hkW6 (by have := Z0.out; have := Z1.out; have := Z2.out; omega))
  replace KU := hid (KU.out.kept hkW6 (by have := Z2.out; omega))
  replace KR := hid (KR.out.kept hkW6 (by have := Z0.out; have := Z1.out; have := Z2.out; omega))
  replace BW := hid (BW.out.trans (hkW6.below BW.out.size (fun j hj e => by have := Z0.out; have := Z1.out; have := Z2.out; omega)))
  have ud6 := KU.out.cell 4 _ rfl
  have od6 := KA.out.cell 5 _ rfl
  have sd6 := kW6.cell 5 _ rfl
  have fd6 := kW6.frozen 5
  obtain ⟨W7, hW7⟩ : ∃ W, W6.setCell ⟨W2.heap.size, 5, none⟩ (.int .i64 (n : Int)) = W := ⟨_, rfl⟩
  have hkW7 := Kp.setCell (w := W6) W2.heap.size 5 (.int .i64 (n : Int))
  rw [hW7] at hkW7
  have kW7 : Blk W7 W2.heap.size (sL ⟨q.k, q.h, q.a, 0, q.o, (n : Int), 0⟩) 33 := by rw [← hW7]; exact kW6.set 5 _
  replace KA := hid (KA.out.kept hkW7 (by have := Z0.out; have := Z1.out; have := Z2.out; omega))
  replace KU := hid (KU.out.kept hkW7 (by have := Z2.out; omega))
  replace KR := hid (KR.out.kept hkW7 (by have := Z0.out; have := Z1.out; have := Z2.out; omega))
  replace BW := hid (BW.out.trans (hkW7.below BW.out.size (fun j hj e => by have := Z0.out; have := Z1.out; have := Z2.out; omega)))
  have um7 := KU.out.cell 5 _ rfl
  have om7 := KA.out.cell 6 _ rfl
  have sm7 := kW7.cell 6 _ rfl
  have fm7 := kW7.frozen 6
  obtain ⟨W8, hW8⟩ : ∃ W, W7.setCell ⟨W2.heap.size, 6, none⟩ (.int .i64 (nm : Int)) = W := ⟨_, rfl⟩
  have hkW8 := Kp.setCell (w := W7) W2.heap.size 6 (.int .i64 (nm : Int))
  rw [hW8] at hkW8
  have kW8 : Blk W8 W2.heap.size (sL ⟨q.k, q.h, q.a, 0, q.o, (n : Int), (nm : Int)⟩) 33 := by rw [← hW8]; exact kW7.set 6 _
  replace KA := hid (KA.out.kept hkW8 (by have := Z0.out; have := Z1.out; have := Z2.out; omega))
  replace KU := hid (KU.out.kept hkW8 (by have := Z2.out; omega))
  replace KR := hid (KR.out.kept hkW8 (by have := Z0.out; have := Z1.out; have := Z2.out; omega))
  replace BW := hid (BW.out.trans (hkW8.below BW.out.size (fun j hj e => by have := Z0.out; have := Z1.out; have := Z2.out; omega)))
  have l4 : (LDk ⟨W2.heap.size, 0, none⟩).run Try.prog W8 = .ok (.agg #[.int .u8 q.k, .int .i64 q.h, .int .u8 q.a, .int .i64 0, .int .i64 q.o, .int .i64 (n : Int), .int .i64 (nm : Int)]) W8 := LDk_run kW8
  obtain ⟨W9, s9, k9, hk9⟩ := SVk_run ⟨q.k, q.h, q.a, 0, q.o, (n : Int), (nm : Int)⟩ KR.out rfl
  have s9' : (SVk ⟨w.heap.size + 1, 0, none⟩ (.agg #[.int .u8 q.k, .int .i64 q.h, .int .u8 q.a, .int .i64 0, .int .i64 q.o, .int .i64 (n : Int), .int .i64 (nm : Int)])).run Try.prog W8 = .ok () W9 := s9
  have L9 := hid (LDk_run k9)
  have B9 : Hid (Below w.heap.size w W9) := BW.out.trans (hk9.below BW.out.size (fun j _ e => by omega))
  clear hkW4 hkW5 hkW6 hkW7 hkW8 ks kW4 kW5 kW6 kW7 kW8 s9 hk9 k9 KA KR KU BW Z0 Z1 Z2 EU
  go_wp2_with fail
  exact bodyPost_ret (Tb.results_cell1 rfl rfl L9.out) rfl ⟨by rw [EQ.out], B9.out⟩
set_option maxRecDepth 8000 in
set_option maxHeartbeats 1200000 in
theorem rof_8 (q : Nu) (a1 a2 : Option Addr) (n c1 nm c2 : Nat) (w : World) (hk : q.k = 8) :
    Calls Try.prog 10 #[ov q (.slice a1 n c1) (.slice a2 nm c2)] w fun e w' => e = .returned (sv (ps (sk q n nm))) ∧ Below w.heap.size w w' := by
  obtain ⟨W0, hW0⟩ : ∃ W, (w.alloc (.cells #[Value.int IntKind.u8 q.k, Value.int IntKind.i64 q.h, Value.int IntKind.u8 q.a, Value.int IntKind.i64 q.c, Value.int IntKind.i64 q.o, Value.slice a1 n c1, Value.slice a2 nm c2] 28)).alloc (.cells #[Value.int IntKind.u8 0, Value.int IntKind.i64 0, Value.int IntKind.u8 0, Value.int IntKind.i64 0, Value.int IntKind.i64 0, Value.int IntKind.i64 0, Value.int IntKind.i64 0] 33) = W := ⟨_, rfl⟩
  have KA : Hid (Blk W0 w.heap.size (oL q (.slice a1 n c1) (.slice a2 nm c2)) 28) := by rw [← hW0]; exact (Blk.newAt w _ _ _ w.heap.size rfl rfl).alloc _
  have KR : Hid (Blk W0 (w.heap.size + 1) (sL zS) 33) := by rw [← hW0]; exact Blk.newAt (w.alloc _) _ _ _ (w.heap.size + 1) (by simp) rfl
  have Z0 : Hid (W0.heap.size = w.heap.size + 1 + 1) := by show W0.heap.size = _; rw [← hW0]; simp
  have BW : Hid (Below w.heap.size w W0) := by rw [← hW0]; exact below_next (below_alloc _ _) (below_alloc _ _)
  have E : uH q.k = true ∧ uA q.k = true ∧ uC q.k = true ∧ uO q.k = true ∧ uD q.k = true ∧ uM q.k = false := by rw [hk]; decide
  have EQ : Hid (ps (sk q n nm) = ⟨q.k, q.h, q.a, q.c, q.o, (n : Int), 0⟩) := by
    show ps (sk q n nm) = _
    unfold ps sk
    simp only
    rw [E.1, E.2.1, E.2.2.1, E.2.2.2.1, E.2.2.2.2.1, E.2.2.2.2.2]
    rfl
  have EU : Hid (uv q.k = .agg #[.bool true, .bool true, .bool true, .bool true, .bool true, .bool false] ∧ uL q.k = [.bool true, .bool true, .bool true, .bool true, .bool true, .bool false]) := by
    show uv q.k = _ ∧ uL q.k = _
    unfold uv uL
    rw [E.1, E.2.1, E.2.2.1, E.2.2.2.1, E.2.2.2.2.1, E.2.2.2.2.2]
    exact ⟨rfl, rfl⟩
  have c0 := KA.out.cell 0 _ rfl
  clear hk E
  go_enter Try.func10, Try.ntmps10
  go_wp2_with fail
  clear hW0 c0
  refine (ruse_ok q.k W0).mono ?_
  rintro e W1 ⟨rfl, hb⟩
  rw [EU.out.1]
  replace BW := hid (below_next BW.out hb)
  replace KA := hid (KA.out.below hb)
  replace KR := hid (KR.out.below hb)
  have Z1 : Hid (W0.heap.size ≤ W1.heap.size) := hb.size
  clear hb
  obtain ⟨W2, s2, ku, hk2⟩ := SVu_run q.k (Blk.newAt W1 fU fU.toList 58 W1.heap.size rfl rfl) rfl
  rw [EU.out.1] at s2
  rw [EU.out.2] at ku
  have b2 : Below W1.heap.size W1 W2 := (below_alloc W1 _).trans (hk2.below (by simp) (fun j hj e => by omega))
  replace BW := hid (below_next BW.out b2)
  replace KA := hid (KA.out.below b2)
  replace KR := hid (KR.out.below b2)
  have Z2 : Hid (W1.heap.size < W2.heap.size) := ku.lt
  obtain ⟨W3, s3, ks, hk3⟩ := SVk_run ⟨q.k, 0, 0, 0, 0, 0, 0⟩ (Blk.newAt W2 #[Value.int IntKind.u8 0, Value.int IntKind.i64 0, Value.int IntKind.u8 0, Value.int IntKind.i64 0, Value.int IntKind.i64 0, Value.int IntKind.i64 0, Value.int IntKind.i64 0] (sL zS) 33 W2.heap.size rfl rfl) rfl
  have s3' : (SVk ⟨W2.heap.size, 0, none⟩ (.agg #[.int .u8 q.k, .int .i64 0, .int .u8 0, .int .i64 0, .int .i64 0, .int .i64 0, .int .i64 0])).run Try.prog (W2.alloc (.cells #[Value.int IntKind.u8 0, Value.int IntKind.i64 0, Value.int IntKind.u8 0, Value.int IntKind.i64 0, Value.int IntKind.i64 0, Value.int IntKind.i64 0, Value.int IntKind.i64 0] 33)) = .ok () W3 := s3
  have b3 : Below W2.heap.size W2 W3 := (below_alloc W2 _).trans (hk3.below (by simp) (fun j hj e => by omega))
  have o2 := KA.out.cell 0 _ rfl
  have o2' : (W2.alloc (.cells #[Value.int IntKind.u8 0, Value.int IntKind.i64 0, Value.int IntKind.u8 0, Value.int IntKind.i64 0, Value.int IntKind.i64 0, Value.int IntKind.i64 0, Value.int IntKind.i64 0] 33)).cell? ⟨w.heap.size, 0, none⟩ = _ := (KA.out.alloc _).cell 0 _ rfl
  replace BW := hid (below_next BW.out b3)
  replace KA := hid (KA.out.below b3)
  replace KR := hid (KR.out.below b3)
  have KU := hid (ku.below b3)
  clear b2 b3 hk2 hk3 s3 ku
  have uh3 := KU.out.cell 0 _ rfl
  have oh3 := KA.out.cell 1 _ rfl
  have sh3 := ks.cell 1 _ rfl
  have fh3 := ks.frozen 1
  obtain ⟨W4, hW4⟩ : ∃ W, W3.setCell ⟨W2.heap.size, 1, none⟩ (.int .i64 q.h) = W := ⟨_, rfl⟩
  have hkW4 := Kp.setCell (w := W3) W2.heap.size 1 (.int .i64 q.h)
  rw [hW4] at hkW4
  have kW4 : Blk W4 W2.heap.size (sL ⟨q.k, q.h, 0, 0, 0, 0, 0⟩) 33 := by rw [← hW4]; exact ks.set 1 _
  replace KA := hid (KA.out.kept hkW4 (by have := Z0.out; have := Z1.out; have := Z2.out; omega))
  replace KU := hid (KU.out.kept hkW4 (by have := Z2.out; omega))
  replace KR := hid (KR.out.kept hkW4 (by have := Z0.out; have := Z1.out; have := Z2.out; omega))
  replace BW := hid (BW.out.trans (hkW4.below BW.out.size (fun j hj e => by have := Z0.out; have := Z1.out; have := Z2.out; omega)))
  have ua4 := KU.out.cell 1 _ rfl
  have oa4 := KA.out.cell 2 _ rfl
  have sa4 := kW4.cell 2 _ rfl
  have fa4 := kW4.frozen 2
  obtain ⟨W5, hW5⟩ : ∃ W, W4.setCell ⟨W2.heap.size, 2, none⟩ (.int .u8 q.a) = W := ⟨_, rfl⟩
  have hkW5 := Kp.setCell (w := W4) W2.heap.size 2 (.int .u8 q.a)
  rw [hW5] at hkW5
  have kW5 : Blk W5 W2.heap.size (sL ⟨q.k, q.h, q.a, 0, 0, 0, 0⟩) 33 := by rw [← hW5]; exact kW4.set 2 _
  replace KA := hid (KA.out.kept hkW5 (by have := Z0.out; have := Z1.out; have := Z2.out; omega))
  replace KU := hid (KU.out.kept hkW5 (by have := Z2.out; omega))
  replace KR := hid (KR.out.kept hkW5 (by have := Z0.out; have := Z1.out; have := Z2.out; omega))
  replace BW := hid (BW.out.trans (hkW5.below BW.out.size (fun j hj e => by have := Z0.out; have := Z1.out; have := Z2.out; omega)))
  have uc5 := KU.out.cell 2 _ rfl
  have oc5 := KA.out.cell 3 _ rfl
  have sc5 := kW5.cell 3 _ rfl
  have fc5 := kW5.frozen 3
  obtain ⟨W6, hW6⟩ : ∃ W, W5.setCell ⟨W2.heap.size, 3, none⟩ (.int .i64 q.c) = W := ⟨_, rfl⟩
  have hkW6 := Kp.setCell (w := W5) W2.heap.size 3 (.int .i64 q.c)
  rw [hW6] at hkW6
  have kW6 : Blk W6 W2.heap.size (sL ⟨q.k, q.h, q.a, q.c, 0, 0, 0⟩) 33 := by rw [← hW6]; exact kW5.set 3 _
  replace KA := hid (KA.out.kept hkW6 (by have := Z0.out; have := Z1.out; have := Z2.out; omega))
  replace KU := hid (KU.out.kept hkW6 (by have := Z2.out; omega))
  replace KR := hid (KR.out.kept hkW6 (by have := Z0.out; have := Z1.out; have := Z2.out; omega))
  replace BW := hid (BW.out.trans (hkW6.below BW.out.size (fun j hj e => by have := Z0.out; have := Z1.out; have := Z2.out; omega)))
  have uo6 := KU.out.cell 3 _ rfl
  have oo6 := KA.out.cell 4 _ rfl
  have so6 := kW6.cell 4 _ rfl
  have fo6 := kW6.frozen 4
  obtain ⟨W7, hW7⟩ : ∃ W, W6.setCell ⟨W2.heap.size, 4, none⟩ (.int .i64 q.o) = W := ⟨_, rfl⟩
  have hkW7 := Kp.setCell (w := W6) W2.heap.size 4 (.int .i64 q.o)
  rw [hW7] at hkW7
  have kW7 : Blk W7 W2.heap.size (sL ⟨q.k, q.h, q.a, q.c, q.o, 0, 0⟩) 33 := by rw [← hW7]; exact kW6.set 4 _
  replace KA := hid (KA.out.kept hkW7 (by have := Z0.out; have := Z1.out; have := Z2.out; omega))
  replace KU := hid (KU.out.kept hkW7 (by have := Z2.out; omega))
  replace KR := hid (KR.out.kept hkW7 (by have := Z0.out; have := Z1.out; have := Z2.out; omega))
  replace BW := hid (BW.out.trans (hkW7.below BW.out.size (fun j hj e => by have := Z0.out; have := Z1.out; have := Z2.out; omega)))
  have ud7 := KU.out.cell 4 _ rfl
  have od7 := KA.out.cell 5 _ rfl
  have sd7 := kW7.cell 5 _ rfl
  have fd7 := kW7.frozen 5
  obtain ⟨W8, hW8⟩ : ∃ W, W7.setCell ⟨W2.heap.size, 5, none⟩ (.int .i64 (n : Int)) = W := ⟨_, rfl⟩
  have hkW8 := Kp.setCell (w := W7) W2.heap.size 5 (.int .i64 (n : Int))
  rw [hW8] at hkW8
  have kW8 : Blk W8 W2.heap.size (sL ⟨q.k, q.h, q.a, q.c, q.o, (n : Int), 0⟩) 33 := by rw [← hW8]; exact kW7.set 5 _
  replace KA := hid (KA.out.kept hkW8 (by have := Z0.out; have := Z1.out; have := Z2.out; omega))
  replace KU := hid (KU.out.kept hkW8 (by have := Z2.out; omega))
  replace KR := hid (KR.out.kept hkW8 (by have := Z0.out; have := Z1.out; have := Z2.out; omega))
  replace BW := hid (BW.out.trans (hkW8.below BW.out.size (fun j hj e => by have := Z0.out; have := Z1.out; have := Z2.out; omega)))
  have um8 := KU.out.cell 5 _ rfl
  have l4 : (LDk ⟨W2.heap.size, 0, none⟩).run Try.prog W8 = .ok (.agg #[.int .u8 q.k, .int .i64 q.h, .int .u8 q.a, .int .i64 q.c, .int .i64 q.o, .int .i64 (n : Int), .int .i64 0]) W8 := LDk_run kW8
  obtain ⟨W9, s9, k9, hk9⟩ := SVk_run ⟨q.k, q.h, q.a, q.c, q.o, (n : Int), 0⟩ KR.out rfl
  have s9' : (SVk ⟨w.heap.size + 1, 0, none⟩ (.agg #[.int .u8 q.k, .int .i64 q.h, .int .u8 q.a, .int .i64 q.c, .int .i64 q.o, .int .i64 (n : Int), .int .i64 0])).run Try.prog W8 = .ok () W9 := s9
  have L9 := hid (LDk_run k9)
  have B9 : Hid (Below w.heap.size w W9) := BW.out.trans (hk9.below BW.out.size (fun j _ e => by omega))
  clear hkW4 hkW5 hkW6 hkW7 hkW8 ks kW4 kW5 kW6 kW7 kW8 s9 hk9 k9 KA KR KU BW Z0 Z1 Z2 EU
  go_wp2_with fail
  exact bodyPost_ret (Tb.results_cell1 rfl rfl L9.out) rfl ⟨by rw [EQ.out], B9.out⟩
set_option maxRecDepth 8000 in
set_option maxHeartbeats 1200000 in
theorem rof_9 (q : Nu) (a1 a2 : Option Addr) (n c1 nm c2 : Nat) (w : World) (hk : q.k = 9) :
    Calls Try.prog 10 #[ov q (.slice a1 n c1) (.slice a2 nm c2)] w fun e w' => e = .returned (sv (ps (sk q n nm))) ∧ Below w.heap.size w w' := by
  obtain ⟨W0, hW0⟩ : ∃ W, (w.alloc (.cells #[Value.int IntKind.u8 q.k, Value.int IntKind.i64 q.h, Value.int IntKind.u8 q.a, Value.int IntKind.i64 q.c, Value.int IntKind.i64 q.o, Value.slice a1 n c1, Value.slice a2 nm c2] 28)).alloc (.cells #[Value.int IntKind.u8 0, Value.int IntKind.i64 0, Value.int IntKind.u8 0, Value.int IntKind.i64 0, Value.int IntKind.i64 0, Value.int IntKind.i64 0, Value.int IntKind.i64 0] 33) = W := ⟨_, rfl⟩
  have KA : Hid (Blk W0 w.heap.size (oL q (.slice a1 n c1) (.slice a2 nm c2)) 28) := by rw [← hW0]; exact (Blk.newAt w _ _ _ w.heap.size rfl rfl).alloc _
  have KR : Hid (Blk W0 (w.heap.size + 1) (sL zS) 33) := by rw [← hW0]; exact Blk.newAt (w.alloc _) _ _ _ (w.heap.size + 1) (by simp) rfl
  have Z0 : Hid (W0.heap.size = w.heap.size + 1 + 1) := by show W0.heap.size = _; rw [← hW0]; simp
  have BW : Hid (Below w.heap.size w W0) := by rw [← hW0]; exact below_next (below_alloc _ _) (below_alloc _ _)
  have E : uH q.k = true ∧ uA q.k = false ∧ uC q.k = false ∧ uO q.k = false ∧ uD q.k = false ∧ uM q.k = false := by rw [hk]; decide
  have EQ : Hid (ps (sk q n nm) = ⟨q.k, q.h, 0, 0, 0, 0, 0⟩) := by
    show ps (sk q n nm) = _
    unfold ps sk
    simp only
    rw [E.1, E.2.1, E.2.2.1, E.2.2.2.1, E.2.2.2.2.1, E.2.2.2.2.2]
    rfl
  have EU : Hid (uv q.k = .agg #[.bool true, .bool false, .bool false, .bool false, .bool false, .bool false] ∧ uL q.k = [.bool true, .bool false, .bool false, .bool false, .bool false, .bool false]) := by
    show uv q.k = _ ∧ uL q.k = _
    unfold uv uL
    rw [E.1, E.2.1, E.2.2.1, E.2.2.2.1, E.2.2.2.2.1, E.2.2.2.2.2]
    exact ⟨rfl, rfl⟩
  have c0 := KA.out.cell 0 _ rfl
  clear hk E
  go_enter Try.func10, Try.ntmps10
  go_wp2_with fail
  clear hW0 c0
  refine (ruse_ok q.k W0).mono ?_
  rintro e W1 ⟨rfl, hb⟩
  rw [EU.out.1]
  replace BW := hid (below_next BW.out hb)
  replace KA := hid (KA.out.below hb)
  replace KR := hid (KR.out.below hb)
  have Z1 : Hid (W0.heap.size ≤ W1.heap.size) := hb.size
  clear hb
  obtain ⟨W2, s2, ku, hk2⟩ := SVu_run q.k (Blk.newAt W1 fU fU.toList 58 W1.heap.size rfl rfl) rfl
  rw [EU.out.1] at s2
  rw [EU.out.2] at ku
  have b2 : Below W1.heap.size W1 W2 := (below_alloc W1 _).trans (hk2.below (by simp) (fun j hj e => by omega))
  replace BW := hid (below_next BW.out b2)
  replace KA := hid (KA.out.below b2)
  replace KR := hid (KR.out.below b2)
  have Z2 : Hid (W1.heap.size < W2.heap.size) := ku.lt
  obtain ⟨W3, s3, ks, hk3⟩ := SVk_run ⟨q.k, 0, 0, 0, 0, 0, 0⟩ (Blk.newAt W2 #[Value.int IntKind.u8 0, Value.int IntKind.i64 0, Value.int IntKind.u8 0, Value.int IntKind.i64 0, Value.int IntKind.i64 0, Value.int IntKind.i64 0, Value.int IntKind.i64 0] (sL zS) 33 W2.heap.size rfl rfl) rfl
  have s3' : (SVk ⟨W2.heap.size, 0, none⟩ (.agg #[.int .u8 q.k, .int .i64 0, .int .u8 0, .int .i64 0, .int .i64 0, .int .i64 0, .int .i64 0])).run Try.prog (W2.alloc (.cells #[Value.int IntKind.u8 0, Value.int IntKind.i64 0, Value.int IntKind.u8 0, Value.int IntKind.i64 0, Value.int IntKind.i64 0, Value.int IntKind.i64 0, Value.int IntKind.i64 0] 33)) = .ok () W3 := s3
  have b3 : Below W2.heap.size W2 W3 := (below_alloc W2 _).trans (hk3.below (by simp) (fun j hj e => by omega))
  have o2 := KA.out.cell 0 _ rfl
  have o2' : (W2.alloc (.cells #[Value.int IntKind.u8 0, Value.int IntKind.i64 0, Value.int IntKind.u8 0, Value.int IntKind.i64 0, Value.int IntKind.i64 0, Value.int IntKind.i64 0, Value.int IntKind.i64 0] 33)).cell? ⟨w.heap.size, 0, none⟩ = _ := (KA.out.alloc _).cell 0 _ rfl
  replace BW := hid (below_next BW.out b3)
  replace KA := hid (KA.out.below b3)
  replace KR := hid (KR.out.below b3)
  have KU := hid (ku.below b3)
  clear b2 b3 hk2 hk3 s3 ku
  have uh3 := KU.out.cell 0 _ rfl
  have oh3 := KA.out.cell 1 _ rfl
  have sh3 := ks.cell 1 _ rfl
  have fh3 := ks.frozen 1
  obtain ⟨W4, hW4⟩ : ∃ W, W3.setCell ⟨W2.heap.size, 1, none⟩ (.int .i64 q.h) = W := ⟨_, rfl⟩
  have hkW4 := Kp.setCell (w := W3) W2.heap.size 1 (.int .i64 q.h)
  rw [hW4] at hkW4
  have kW4 : Blk W4 W2.heap.size (sL ⟨q.k, q.h, 0, 0, 0, 0, 0⟩) 33 := by rw [← hW4]; exact ks.set 1 _
  replace KA := hid (KA.out.kept hkW4 (by have := Z0.out; have := Z1.out; have := Z2.out; omega))
  replace KU := hid (KU.out.kept hkW4 (by have := Z2.out; omega))
  replace KR := hid (KR.out.kept hkW4 (by have := Z0.out; have := Z1.out; have := Z2.out; omega))
  replace BW := hid (BW.out.trans (hkW4.below BW.out.size (fun j hj e => by have := Z0.out; have := Z1.out; have := Z2.out; omega)))
  have ua4 := KU.out.cell 1 _ rfl
  have uc4 := KU.out.cell 2 _ rfl
  have uo4 := KU.out.cell 3 _ rfl
  have ud4 := KU.out.cell 4 _ rfl
  have um4 := KU.out.cell 5 _ rfl
  have l4 : (LDk ⟨W2.heap.size, 0, none⟩).run Try.prog W4 = .ok (.agg #[.int .u8 q.k, .int .i64 q.h, .int .u8 0, .int .i64 0, .int .i64 0, .int .i64 0, .int .i64 0]) W4 := LDk_run kW4
  obtain ⟨W9, s9, k9, hk9⟩ := SVk_run ⟨q.k, q.h, 0, 0, 0, 0, 0⟩ KR.out rfl
  have s9' : (SVk ⟨w.heap.size + 1, 0, none⟩ (.agg #[.int .u8 q.k, .int .i64 q.h, .int .u8 0, .int .i64 0, .int .i64 0, .int .i64 0, .int .i64 0])).run Try.prog W4 = .ok () W9 := s9
  have L9 := hid (LDk_run k9)
  have B9 : Hid (Below w.heap.size w W9) := BW.out.trans (hk9.below BW.out.size (fun j _ e => by omega))
  clear hkW4 ks kW4 s9 hk9 k9 KA KR KU BW Z0 Z1 Z2 EU
  go_wp2_with fail
  exact bodyPost_ret (Tb.results_cell1 rfl rfl L9.out) rfl ⟨by rw [EQ.out], B9.out⟩
set_option maxRecDepth 8000 in
set_option maxHeartbeats 1200000 in
theorem rof_10 (q : Nu) (a1 a2 : Option Addr) (n c1 nm c2 : Nat) (w : World) (hk : q.k = 10) :
    Calls Try.prog 10 #[ov q (.slice a1 n c1) (.slice a2 nm c2)] w fun e w' => e = .returned (sv (ps (sk q n nm))) ∧ Below w.heap.size w w' := by
  obtain ⟨W0, hW0⟩ : ∃ W, (w.alloc (.cells #[Value.int IntKind.u8 q.k, Value.int IntKind.i64 q.h, Value.int IntKind.u8 q.a, Value.int IntKind.i64 q.c, Value.int IntKind.i64 q.o, Value.slice a1 n c1, Value.slice a2 nm c2] 28)).alloc (.cells #[Value.int IntKind.u8 0, Value.int IntKind.i64 0, Value.int IntKind.u8 0, Value.int IntKind.i64 0, Value.int IntKind.i64 0, Value.int IntKind.i64 0, Value.int IntKind.i64 0] 33) = W := ⟨_, rfl⟩
  have KA : Hid (Blk W0 w.heap.size (oL q (.slice a1 n c1) (.slice a2 nm c2)) 28) := by rw [← hW0]; exact (Blk.newAt w _ _ _ w.heap.size rfl rfl).alloc _
  have KR : Hid (Blk W0 (w.heap.size + 1) (sL zS) 33) := by rw [← hW0]; exact Blk.newAt (w.alloc _) _ _ _ (w.heap.size + 1) (by simp) rfl
  have Z0 : Hid (W0.heap.size = w.heap.size + 1 + 1) := by show W0.heap.size = _; rw [← hW0]; simp
  have BW : Hid (Below w.heap.size w W0) := by rw [← hW0]; exact below_next (below_alloc _ _) (below_alloc _ _)
  have E : uH q.k = true ∧ uA q.k = false ∧ uC q.k = false ∧ uO q.k = false ∧ uD q.k = false ∧ uM q.k = false := by rw [hk]; decide
  have EQ : Hid (ps (sk q n nm) = ⟨q.k, q.h, 0, 0, 0, 0, 0⟩) := by
    show ps (sk q n nm) = _
    unfold ps sk
    simp only
    rw [E.1, E.2.1, E.2.2.1, E.2.2.2.1, E.2.2.2.2.1, E.2.2.2.2.2]
    rfl
  have EU : Hid (uv q.k = .agg #[.bool true, .bool false, .bool false, .bool false, .bool false, .bool false] ∧ uL q.k = [.bool true, .bool false, .bool false, .bool false, .bool false, .bool false]) := by
    show uv q.k = _ ∧ uL q.k = _
    unfold uv uL
    rw [E.1, E.2.1, E.2.2.1, E.2.2.2.1, E.2.2.2.2.1, E.2.2.2.2.2]
    exact ⟨rfl, rfl⟩
  have c0 := KA.out.cell 0 _ rfl
  clear hk E
  go_enter Try.func10, Try.ntmps10
  go_wp2_with fail
  clear hW0 c0
  refine (ruse_ok q.k W0).mono ?_
  rintro e W1 ⟨rfl, hb⟩
  rw [EU.out.1]
  replace BW := hid (below_next BW.out hb)
  replace KA := hid (KA.out.below hb)
  replace KR := hid (KR.out.below hb)
  have Z1 : Hid (W0.heap.size ≤ W1.heap.size) := hb.size
  clear hb
  obtain ⟨W2, s2, ku, hk2⟩ := SVu_run q.k (Blk.newAt W1 fU fU.toList 58 W1.heap.size rfl rfl) rfl
  rw [EU.out.1] at s2
  rw [EU.out.2] at ku
  have b2 : Below W1.heap.size W1 W2 := (below_alloc W1 _).trans (hk2.below (by simp) (fun j hj e => by omega))
  replace BW := hid (below_next BW.out b2)
  replace KA := hid (KA.out.below b2)
  replace KR := hid (KR.out.below b2)
  have Z2 : Hid (W1.heap.size < W2.heap.size) := ku.lt
  obtain ⟨W3, s3, ks, hk3⟩ := SVk_run ⟨q.k, 0, 0, 0, 0, 0, 0⟩ (Blk.newAt W2 #[Value.int IntKind.u8 0, Value.int IntKind.i64 0, Value.int IntKind.u8 0, Value.int IntKind.i64 0, Value.int IntKind.i64 0, Value.int IntKind.i64 0, Value.int IntKind.i64 0] (sL zS) 33 W2.heap.size rfl rfl) rfl
  have s3' : (SVk ⟨W2.heap.size, 0, none⟩ (.agg #[.int .u8 q.k, .int .i64 0, .int .u8 0, .int .i64 0, .int .i64 0, .int .i64 0, .int .i64 0])).run Try.prog (W2.alloc (.cells #[Value.int IntKind.u8 0, Value.int IntKind.i64 0, Value.int IntKind.u8 0, Value.int IntKind.i64 0, Value.int IntKind.i64 0, Value.int IntKind.i64 0, Value.int IntKind.i64 0] 33)) = .ok () W3 := s3
  have b3 : Below W2.heap.size W2 W3 := (below_alloc W2 _).trans (hk3.below (by simp) (fun j hj e => by omega))
  have o2 := KA.out.cell 0 _ rfl
  have o2' : (W2.alloc (.cells #[Value.int IntKind.u8 0, Value.int IntKind.i64 0, Value.int IntKind.u8 0, Value.int IntKind.i64 0, Value.int IntKind.i64 0, Value.int IntKind.i64 0, Value.int IntKind.i64 0] 33)).cell? ⟨w.heap.size, 0, none⟩ = _ := (KA.out.alloc _).cell 0 _ rfl
  replace BW := hid (below_next BW.out b3)
  replace KA := hid (KA.out.below b3)
  replace KR := hid (KR.out.below b3)
  have KU := hid (ku.below b3)
  clear b2 b3 hk2 hk3 s3 ku
  have uh3 := KU.out.cell 0 _ rfl
  have oh3 := KA.out.cell 1 _ rfl
  have sh3 := ks.cell 1 _ rfl
  have fh3 := ks.frozen 1
  obtain ⟨W4, hW4⟩ : ∃ W, W3.setCell ⟨W2.heap.size, 1, none⟩ (.int .i64 q.h) = W := ⟨_, rfl⟩
  have hkW4 := Kp.setCell (w := W3) W2.heap.size 1 (.int .i64 q.h)
  rw [hW4] at hkW4
  have kW4 : Blk W4 W2.heap.size (sL ⟨q.k, q.h, 0, 0, 0, 0, 0⟩) 33 := by rw [← hW4]; exact ks.set 1 _
  replace KA := hid (KA.out.kept hkW4 (by have := Z0.out; have := Z1.out; have := Z2.out; omega))
  replace KU := hid (KU.out.kept hkW4 (by have := Z2.out; omega))
  replace KR := hid (KR.out.kept hkW4 (by have := Z0.out; have := Z1.out; have := Z2.out; omega))
  replace BW := hid (BW.out.trans (hkW4.below BW.out.size (fun j hj e => by have := Z0.out; have := Z1.out; have := Z2.out; omega)))
  have ua4 := KU.out.cell 1 _ rfl
  have uc4 := KU.out.cell 2 _ rfl
  have uo4 := KU.out.cell 3 _ rfl
  have ud4 := KU.out.cell 4 _ rfl
  have um4 := KU.out.cell 5 _ rfl
  have l4 : (LDk ⟨W2.heap.size, 0, none⟩).run Try.prog W4 = .ok (.agg #[.int .u8 q.k, .int .i64 q.h, .int .u8 0, .int .i64 0, .int .i64 0, .int .i64 0, .int .i64 0]) W4 := LDk_run kW4
  obtain ⟨W9, s9, k9, hk9⟩ := SVk_run ⟨q.k, q.h, 0, 0, 0, 0, 0⟩ KR.out rfl
  have s9' : (SVk ⟨w.heap.size + 1, 0, none⟩ (.agg #[.int .u8 q.k, .int .i64 q.h, .int .u8 0, .int .i64 0, .int .i64 0, .int .i64 0, .int .i64 0])).run Try.prog W4 = .ok () W9 := s9
  have L9 := hid (LDk_run k9)
  have B9 : Hid (Below w.heap.size w W9) := BW.out.trans (hk9.below BW.out.size (fun j _ e => by omega))
  clear hkW4 ks kW4 s9 hk9 k9 KA KR KU BW Z0 Z1 Z2 EU
  go_wp2_with fail
  exact bodyPost_ret (Tb.results_cell1 rfl rfl L9.out) rfl ⟨by rw [EQ.out], B9.out⟩
theorem rof_ok (q : Nu) (a1 a2 : Option Addr) (n c1 nm c2 : Nat) (w : World) :
    Calls Try.prog 10 #[ov q (.slice a1 n c1) (.slice a2 nm c2)] w fun e w' => e = .returned (sv (ps (sk q n nm))) ∧ Below w.heap.size w w' := by
  by_cases h : 1 ≤ q.k ∧ q.k ≤ 10
  · have h' : q.k = 1 ∨ q.k = 2 ∨ q.k = 3 ∨ q.k = 4 ∨ q.k = 5 ∨ q.k = 6 ∨ q.k = 7 ∨ q.k = 8 ∨ q.k = 9 ∨ q.k = 10 := by omega
    rcases h' with h | h | h | h | h | h | h | h | h | h
    · exact rof_1 q a1 a2 n c1 nm c2 w h
    · exact rof_2 q a1 a2 n c1 nm c2 w h
    · exact rof_3 q a1 a2 n c1 nm c2 w h
    · exact rof_4 q a1 a2 n c1 nm c2 w h
    · exact rof_5 q a1 a2 n c1 nm c2 w h
    · exact rof_6 q a1 a2 n c1 nm c2 w h
    · exact rof_7 q a1 a2 n c1 nm c2 w h
    · exact rof_8 q a1 a2 n c1 nm c2 w h
    · exact rof_9 q a1 a2 n c1 nm c2 w h
    · exact rof_10 q a1 a2 n c1 nm c2 w h
  · exact rof_no q a1 a2 n c1 nm c2 w h
end Go.Proofs.Ytdahogdfonhnfaa.Ou
