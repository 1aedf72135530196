/- Fill, of the document. -/
import Derived.Test.YtdahogdfonhnfaaVfi
namespace Go.Proofs.Ytdahogdfonhnfaa.Ou
open Go.ChangeShapes Go.WideShapes Go.ChangeAt Go.RowKit
open Go.Proofs.Ytdahogdfonhnfaa.By
open Go.Proofs.Ytdahogdfonhnfaa.Tb (Blk Blk.newAt put_all Kp.setCells)
set_option maxRecDepth 8000 in
set_option maxHeartbeats 1200000 in
theorem rfill_no (s : Sk) (b : Int) (w : World) (hb : 0 ≤ b ∧ b < 256) (hk : ¬ (1 ≤ s.k ∧ s.k ≤ 10)) : Calls Try.prog 23 #[sv s, .int .u8 b] w fun e w' => ∃ d m, e = .returned (.tuple #[ov (fq s) d m, .int .i64 (fe s)]) ∧ ToldF w w' s b d m := by
  obtain ⟨W0, hW0⟩ : ∃ W, (w.alloc (.cells #[Value.int IntKind.u8 s.k, Value.int IntKind.i64 s.h, Value.int IntKind.u8 s.a, Value.int IntKind.i64 s.c, Value.int IntKind.i64 s.o, Value.int IntKind.i64 s.d, Value.int IntKind.i64 s.m] 33)).alloc (.cells zA 28) = W := ⟨_, rfl⟩
  have KA : Hid (Blk W0 w.heap.size (sL s) 33) := by rw [← hW0]; exact (Blk.newAt w _ _ _ w.heap.size rfl rfl).alloc _
  have KR : Hid (Blk W0 (w.heap.size + 1) zA.toList 28) := by rw [← hW0]; exact Blk.newAt (w.alloc _) _ _ _ (w.heap.size + 1) (by simp) rfl
  have Z0 : Hid (W0.heap.size = w.heap.size + 1 + 1) := by show W0.heap.size = _; rw [← hW0]; simp
  have BW : Hid (Below w.heap.size w W0) := by rw [← hW0]; exact below_next (below_alloc _ _) (below_alloc _ _)
  have E : uH s.k = false ∧ uA s.k = false ∧ uC s.k = false ∧ uO s.k = false ∧ uD s.k = false ∧ uM s.k = false := by unfold uH uA uC uO uD uM; refine ⟨?_, ?_, ?_, ?_, ?_, ?_⟩ <;> simp <;> omega
  have EQ : Hid (ps s = ⟨s.k, 0, 0, 0, 0, 0, 0⟩) := by
    show ps s = _
    unfold ps
    rw [E.1, E.2.1, E.2.2.1, E.2.2.2.1, E.2.2.2.2.1, E.2.2.2.2.2]
    rfl
  have EU : Hid (uv s.k = .agg #[.bool false, .bool false, .bool false, .bool false, .bool false, .bool false] ∧ uL s.k = [.bool false, .bool false, .bool false, .bool false, .bool false, .bool false]) := by
    show uv s.k = _ ∧ uL s.k = _
    unfold uv uL
    rw [E.1, E.2.1, E.2.2.1, E.2.2.2.1, E.2.2.2.2.1, E.2.2.2.2.2]
    exact ⟨rfl, rfl⟩
  have HB := hid hb
  have c0 := KA.out.cell 0 _ rfl
  clear hk E hb
  go_enter Try.func23, Try.ntmps23
  go_wp2_with fail
  clear hW0 c0
  refine (ruse_ok s.k W0).mono ?_
  rintro e W1 ⟨rfl, hb⟩
  rw [EU.out.1]
  replace BW := hid (below_next BW.out hb)
  replace KA := hid (KA.out.below hb)
  replace KR := hid (KR.out.below hb)
  have Z1 : Hid (W0.heap.size ≤ W1.heap.size) := hb.size
  clear hb
  obtain ⟨W2, s2, ku, hk2⟩ := SVu_run s.k (Blk.newAt W1 fU fU.toList 58 W1.heap.size rfl rfl) rfl
  rw [EU.out.1] at s2
  rw [EU.out.2] at ku
  have b2 : Below W1.heap.size W1 W2 := (below_alloc W1 _).trans (hk2.below (by simp) (fun j hj e => by omega))
  replace BW := hid (below_next BW.out b2)
  replace KA := hid (KA.out.below b2)
  replace KR := hid (KR.out.below b2)
  have Z2 : Hid (W1.heap.size < W2.heap.size) := ku.lt
  have KU := hid ku
  clear b2 hk2 ku
  have u5 := KU.out.cell 4 _ rfl
  have u6 := KU.out.cell 5 _ rfl
  have a0 := KA.out.cell 0 _ rfl
  have a5 := KA.out.cell 5 _ rfl
  have a6 := KA.out.cell 6 _ rfl
  have FK : Hid (fk s = true) := by show fk s = true; unfold fk; rw [EQ.out]; show (mb 0 && mb 0) = true; rw [show mb 0 = true from decide_eq_true (by omega)]; rfl
  have TT : Hid (fq s = ⟨s.k, 0, 0, 0, 0⟩ ∧ fe s = 0 ∧ fd s = 0 ∧ fm s = 0) := by show fq s = _ ∧ fe s = _ ∧ fd s = _ ∧ fm s = _; unfold fq fe fd fm; rw [FK.out, EQ.out]; exact ⟨rfl, rfl, rfl, rfl⟩
  obtain ⟨W3, s3, ko, hk3⟩ := SVo_run (q := ⟨s.k, 0, 0, 0, 0⟩) (d := .slice none 0 0) (m := .slice none 0 0) (Blk.newAt W2 zA zA.toList 28 W2.heap.size rfl rfl) rfl rfl rfl
  have s3' : (SVo ⟨W2.heap.size, 0, none⟩ (.agg #[.int .u8 s.k, .int .i64 0, .int .u8 0, .int .i64 0, .int .i64 0, .slice none 0 0, .slice none 0 0])).run Try.prog (W2.alloc (.cells zA 28)) = .ok () W3 := s3
  have b3 : Below W2.heap.size W2 W3 := (below_alloc W2 _).trans (hk3.below (by simp) (fun j hj e => by omega))
  have o2' : (W2.alloc (.cells zA 28)).cell? ⟨w.heap.size, 0, none⟩ = _ := (KA.out.alloc _).cell 0 _ rfl
  replace BW := hid (below_next BW.out b3)
  replace KA := hid (KA.out.below b3)
  replace KR := hid (KR.out.below b3)
  replace KU := hid (KU.out.below b3)
  have Z3 : Hid (W2.heap.size < W3.heap.size) := ko.lt
  clear b3 hk3 s3
  have uh3 := KU.out.cell 0 _ rfl
  have ua3 := KU.out.cell 1 _ rfl
  have uc3 := KU.out.cell 2 _ rfl
  have uo3 := KU.out.cell 3 _ rfl
  have KO := hid ko
  clear ko
  have ud := KU.out.cell 4 _ rfl
  have um := KU.out.cell 5 _ rfl
  have l4 : (LDo ⟨W2.heap.size, 0, none⟩).run Try.prog W3 = .ok (.agg #[.int .u8 s.k, .int .i64 0, .int .u8 0, .int .i64 0, .int .i64 0, (.slice none 0 0), (.slice none 0 0)]) W3 := LDo_run KO.out
  obtain ⟨W9, s9, k9, hk9⟩ := SVo_run (q := ⟨s.k, 0, 0, 0, 0⟩) (d := (.slice none 0 0)) (m := (.slice none 0 0)) KR.out rfl rfl rfl
  have s9' : (SVo ⟨w.heap.size + 1, 0, none⟩ (.agg #[.int .u8 s.k, .int .i64 0, .int .u8 0, .int .i64 0, .int .i64 0, (.slice none 0 0), (.slice none 0 0)])).run Try.prog W3 = .ok () W9 := s9
  have L9 := hid (LDo_run k9)
  have R9 : Hid (By.Own W9 w.heap.size (.slice none 0 0) 0 (fun _ => b) ∧ By.Own W9 w.heap.size (.slice none 0 0) 0 (fun _ => b) ∧ (Value.ownBlock (.slice none 0 0) = none ∨ Value.ownBlock (.slice none 0 0) ≠ Value.ownBlock (.slice none 0 0)) ∧ Below w.heap.size w W9) := by
    have g0 := Z0.out
    have g1 := Z1.out
    have g2 := Z2.out
    have g3 := Z3.out
    refine ⟨own_nil _ _ _ (cst_b HB.out), own_nil _ _ _ (cst_b HB.out), .inl rfl, BW.out.trans (hk9.below BW.out.size (fun j _ e => by omega))⟩
  clear s9 k9 hk9 KR KA KU KO BW Z0 Z1 Z2 Z3 EU
  go_wp2_with fail
  refine bodyPost_ret (Tb.results_cell2 rfl rfl rfl L9.out) rfl ?_
  rw [TT.out.1, TT.out.2.1]
  refine ⟨_, _, rfl, ?_⟩
  unfold ToldF
  rw [TT.out.2.2.1, TT.out.2.2.2]
  exact R9.out
set_option maxRecDepth 8000 in
set_option maxHeartbeats 1200000 in
theorem rfill_1 (s : Sk) (b : Int) (w : World) (hb : 0 ≤ b ∧ b < 256) (hk : s.k = 1) : Calls Try.prog 23 #[sv s, .int .u8 b] w fun e w' => ∃ d m, e = .returned (.tuple #[ov (fq s) d m, .int .i64 (fe s)]) ∧ ToldF w w' s b d m := by
  obtain ⟨W0, hW0⟩ : ∃ W, (w.alloc (.cells #[Value.int IntKind.u8 s.k, Value.int IntKind.i64 s.h, Value.int IntKind.u8 s.a, Value.int IntKind.i64 s.c, Value.int IntKind.i64 s.o, Value.int IntKind.i64 s.d, Value.int IntKind.i64 s.m] 33)).alloc (.cells zA 28) = W := ⟨_, rfl⟩
  have KA : Hid (Blk W0 w.heap.size (sL s) 33) := by rw [← hW0]; exact (Blk.newAt w _ _ _ w.heap.size rfl rfl).alloc _
  have KR : Hid (Blk W0 (w.heap.size + 1) zA.toList 28) := by rw [← hW0]; exact Blk.newAt (w.alloc _) _ _ _ (w.heap.size + 1) (by simp) rfl
  have Z0 : Hid (W0.heap.size = w.heap.size + 1 + 1) := by show W0.heap.size = _; rw [← hW0]; simp
  have BW : Hid (Below w.heap.size w W0) := by rw [← hW0]; exact below_next (below_alloc _ _) (below_alloc _ _)
  have E : uH s.k = false ∧ uA s.k = false ∧ uC s.k = false ∧ uO s.k = false ∧ uD s.k = true ∧ uM s.k = false := by rw [hk]; decide
  have EQ : Hid (ps s = ⟨s.k, 0, 0, 0, 0, s.d, 0⟩) := by
    show ps s = _
    unfold ps
    rw [E.1, E.2.1, E.2.2.1, E.2.2.2.1, E.2.2.2.2.1, E.2.2.2.2.2]
    rfl
  have EU : Hid (uv s.k = .agg #[.bool false, .bool false, .bool false, .bool false, .bool true, .bool false] ∧ uL s.k = [.bool false, .bool false, .bool false, .bool false, .bool true, .bool false]) := by
    show uv s.k = _ ∧ uL s.k = _
    unfold uv uL
    rw [E.1, E.2.1, E.2.2.1, E.2.2.2.1, E.2.2.2.2.1, E.2.2.2.2.2]
    exact ⟨rfl, rfl⟩
  have HB := hid hb
  have c0 := KA.out.cell 0 _ rfl
  clear hk E hb
  go_enter Try.func23, Try.ntmps23
  go_wp2_with fail
  clear hW0 c0
  refine (ruse_ok s.k W0).mono ?_
  rintro e W1 ⟨rfl, hb⟩
  rw [EU.out.1]
  replace BW := hid (below_next BW.out hb)
  replace KA := hid (KA.out.below hb)
  replace KR := hid (KR.out.below hb)
  have Z1 : Hid (W0.heap.size ≤ W1.heap.size) := hb.size
  clear hb
  obtain ⟨W2, s2, ku, hk2⟩ := SVu_run s.k (Blk.newAt W1 fU fU.toList 58 W1.heap.size rfl rfl) rfl
  rw [EU.out.1] at s2
  rw [EU.out.2] at ku
  have b2 : Below W1.heap.size W1 W2 := (below_alloc W1 _).trans (hk2.below (by simp) (fun j hj e => by omega))
  replace BW := hid (below_next BW.out b2)
  replace KA := hid (KA.out.below b2)
  replace KR := hid (KR.out.below b2)
  have Z2 : Hid (W1.heap.size < W2.heap.size) := ku.lt
  have KU := hid ku
  clear b2 hk2 ku
  have u5 := KU.out.cell 4 _ rfl
  have u6 := KU.out.cell 5 _ rfl
  have a0 := KA.out.cell 0 _ rfl
  have a5 := KA.out.cell 5 _ rfl
  have a6 := KA.out.cell 6 _ rfl
  by_cases d0 : s.d < 0
  · have FK : Hid (fk s = false) := by show fk s = false; unfold fk; rw [EQ.out]; show (mb s.d && _) = false; rw [show mb s.d = false from decide_eq_false (by omega)]; rfl
    have TT : Hid (fq s = ⟨0, 0, 0, 0, 0⟩ ∧ fe s = 2 ∧ fd s = 0 ∧ fm s = 0) := by show fq s = _ ∧ fe s = _ ∧ fd s = _ ∧ fm s = _; unfold fq fe fd fm; rw [FK.out]; exact ⟨rfl, rfl, rfl, rfl⟩
    obtain ⟨W9, s9, k9, hk9⟩ := SVo_run (q := ⟨0, 0, 0, 0, 0⟩) (d := .slice none 0 0) (m := .slice none 0 0) KR.out rfl rfl rfl
    have s9' : (SVo ⟨w.heap.size + 1, 0, none⟩ (.agg #[Value.int IntKind.u8 0, Value.int IntKind.i64 0, Value.int IntKind.u8 0, Value.int IntKind.i64 0, Value.int IntKind.i64 0, Value.slice none 0 0, Value.slice none 0 0])).run Try.prog W2 = .ok () W9 := s9
    have L9 := hid (LDo_run k9)
    have B9 : Hid (Below w.heap.size w W9) := BW.out.trans (hk9.below BW.out.size (fun j _ e => by omega))
    clear s9 k9 hk9 KR KA KU BW
    go_wp2_with fail
    refine bodyPost_ret (Tb.results_cell2 rfl rfl rfl L9.out) rfl ?_
    rw [TT.out.1, TT.out.2.1]
    refine ⟨_, _, rfl, ?_⟩
    unfold ToldF
    rw [TT.out.2.2.1, TT.out.2.2.2]
    exact ⟨own_nil _ _ _ (cst_b HB.out), own_nil _ _ _ (cst_b HB.out), .inl rfl, B9.out⟩
  · by_cases d1 : 16777215 < s.d
    · have FK : Hid (fk s = false) := by show fk s = false; unfold fk; rw [EQ.out]; show (mb s.d && _) = false; rw [show mb s.d = false from decide_eq_false (by omega)]; rfl
      have TT : Hid (fq s = ⟨0, 0, 0, 0, 0⟩ ∧ fe s = 2 ∧ fd s = 0 ∧ fm s = 0) := by show fq s = _ ∧ fe s = _ ∧ fd s = _ ∧ fm s = _; unfold fq fe fd fm; rw [FK.out]; exact ⟨rfl, rfl, rfl, rfl⟩
      obtain ⟨W9, s9, k9, hk9⟩ := SVo_run (q := ⟨0, 0, 0, 0, 0⟩) (d := .slice none 0 0) (m := .slice none 0 0) KR.out rfl rfl rfl
      have s9' : (SVo ⟨w.heap.size + 1, 0, none⟩ (.agg #[Value.int IntKind.u8 0, Value.int IntKind.i64 0, Value.int IntKind.u8 0, Value.int IntKind.i64 0, Value.int IntKind.i64 0, Value.slice none 0 0, Value.slice none 0 0])).run Try.prog W2 = .ok () W9 := s9
      have L9 := hid (LDo_run k9)
      have B9 : Hid (Below w.heap.size w W9) := BW.out.trans (hk9.below BW.out.size (fun j _ e => by omega))
      clear s9 k9 hk9 KR KA KU BW
      go_wp2_with fail
      refine bodyPost_ret (Tb.results_cell2 rfl rfl rfl L9.out) rfl ?_
      rw [TT.out.1, TT.out.2.1]
      refine ⟨_, _, rfl, ?_⟩
      unfold ToldF
      rw [TT.out.2.2.1, TT.out.2.2.2]
      exact ⟨own_nil _ _ _ (cst_b HB.out), own_nil _ _ _ (cst_b HB.out), .inl rfl, B9.out⟩
    · obtain ⟨x, hx⟩ : ∃ x : Nat, s.d = x := ⟨s.d.toNat, by omega⟩
      have hx2 : x ≤ 16777215 := by omega
      have FK : Hid (fk s = true) := by show fk s = true; unfold fk; rw [EQ.out]; show (mb s.d && mb 0) = true; rw [show mb s.d = true from decide_eq_true (by omega), show mb 0 = true from decide_eq_true (by omega)]; rfl
      have TT : Hid (fq s = ⟨s.k, 0, 0, 0, 0⟩ ∧ fe s = 0 ∧ fd s = x ∧ fm s = 0) := by show fq s = _ ∧ fe s = _ ∧ fd s = _ ∧ fm s = _; unfold fq fe fd fm; rw [FK.out, EQ.out]; exact ⟨rfl, rfl, by show s.d.toNat = x; omega, rfl⟩
      have g0 : ¬ (x : Int) < 0 := by omega
      have g1 : ¬ (16777215 : Int) < x := by omega
      have KX : Hid (s.d = x) := hx
      rw [hx] at a5
      clear hx d0 d1
      obtain ⟨W3, s3, ko, hk3⟩ := SVo_run (q := ⟨s.k, 0, 0, 0, 0⟩) (d := .slice none 0 0) (m := .slice none 0 0) (Blk.newAt W2 zA zA.toList 28 W2.heap.size rfl rfl) rfl rfl rfl
      have s3' : (SVo ⟨W2.heap.size, 0, none⟩ (.agg #[.int .u8 s.k, .int .i64 0, .int .u8 0, .int .i64 0, .int .i64 0, .slice none 0 0, .slice none 0 0])).run Try.prog (W2.alloc (.cells zA 28)) = .ok () W3 := s3
      have b3 : Below W2.heap.size W2 W3 := (below_alloc W2 _).trans (hk3.below (by simp) (fun j hj e => by omega))
      have o2' : (W2.alloc (.cells zA 28)).cell? ⟨w.heap.size, 0, none⟩ = _ := (KA.out.alloc _).cell 0 _ rfl
      replace BW := hid (below_next BW.out b3)
      replace KA := hid (KA.out.below b3)
      replace KR := hid (KR.out.below b3)
      replace KU := hid (KU.out.below b3)
      have Z3 : Hid (W2.heap.size < W3.heap.size) := ko.lt
      clear b3 hk3 s3
      have uh3 := KU.out.cell 0 _ rfl
      have ua3 := KU.out.cell 1 _ rfl
      have uc3 := KU.out.cell 2 _ rfl
      have uo3 := KU.out.cell 3 _ rfl
      have KO := hid ko
      clear ko
      have ud := KU.out.cell 4 _ rfl
      have vd := KA.out.cell 5 _ rfl
      rw [KX.out] at vd
      go_wp2_with fail
      clear ud vd
      refine (many_ok x b W3 HB.out (by omega)).mono ?_
      rintro e V1 ⟨d9, rfl, od, hb⟩
      obtain ⟨a8, c8, rfl⟩ := own_lit_slice od
      have rd := own_row od
      replace BW := hid (below_next BW.out hb)
      replace KA := hid (KA.out.below hb)
      replace KR := hid (KR.out.below hb)
      replace KU := hid (KU.out.below hb)
      replace KO := hid (KO.out.below hb)
      have sd := KO.out.cell 5 _ rfl
      have fd := KO.out.frozen 5
      obtain ⟨U1, hU1⟩ : ∃ W, V1.setCell ⟨W2.heap.size, 5, none⟩ (.slice a8 x c8) = W := ⟨_, rfl⟩
      have hk1 := Kp.setCell (w := V1) W2.heap.size 5 (.slice a8 x c8)
      rw [hU1] at hk1
      have ko1 : Blk U1 W2.heap.size (oL ⟨s.k, 0, 0, 0, 0⟩ (.slice a8 x c8) (.slice none 0 0)) 28 := by rw [← hU1]; exact KO.out.set 5 _
      replace KA := hid (KA.out.kept hk1 (by have := Z0.out; have := Z1.out; have := Z2.out; omega))
      replace KU := hid (KU.out.kept hk1 (by have := Z2.out; omega))
      replace KR := hid (KR.out.kept hk1 (by have := Z0.out; have := Z1.out; have := Z2.out; omega))
      have OD : Hid (By.Own U1 W3.heap.size (.slice a8 x c8) x (fun _ => b)) := own_keptB od hk1 (fun j e h => by have := rd j e; have := Z3.out; omega)
      have ZV : Hid (W3.heap.size ≤ U1.heap.size) := Nat.le_trans hb.size hk1.size
      replace BW := hid (BW.out.trans (hk1.below BW.out.size (fun j hj e => by have := Z0.out; have := Z1.out; have := Z2.out; omega)))
      replace KO := hid ko1
      clear hk1 ko1 od rd hb
      have um := KU.out.cell 5 _ rfl
      have l4 : (LDo ⟨W2.heap.size, 0, none⟩).run Try.prog U1 = .ok (.agg #[.int .u8 s.k, .int .i64 0, .int .u8 0, .int .i64 0, .int .i64 0, (.slice a8 x c8), (.slice none 0 0)]) U1 := LDo_run KO.out
      obtain ⟨W9, s9, k9, hk9⟩ := SVo_run (q := ⟨s.k, 0, 0, 0, 0⟩) (d := (.slice a8 x c8)) (m := (.slice none 0 0)) KR.out rfl rfl rfl
      have s9' : (SVo ⟨w.heap.size + 1, 0, none⟩ (.agg #[.int .u8 s.k, .int .i64 0, .int .u8 0, .int .i64 0, .int .i64 0, (.slice a8 x c8), (.slice none 0 0)])).run Try.prog U1 = .ok () W9 := s9
      have L9 := hid (LDo_run k9)
      have R9 : Hid (By.Own W9 w.heap.size (.slice a8 x c8) x (fun _ => b) ∧ By.Own W9 w.heap.size (.slice none 0 0) 0 (fun _ => b) ∧ (Value.ownBlock (.slice a8 x c8) = none ∨ Value.ownBlock (.slice a8 x c8) ≠ Value.ownBlock (.slice none 0 0)) ∧ Below w.heap.size w W9) := by
        have g0 := Z0.out
        have g1 := Z1.out
        have g2 := Z2.out
        have g3 := Z3.out
        refine ⟨own_base (own_keptB OD.out hk9 (fun j e h => by have := own_row OD.out j e; omega)) (by omega), own_nil _ _ _ (cst_b HB.out), nil_apart _, BW.out.trans (hk9.below BW.out.size (fun j _ e => by omega))⟩
      clear s9 k9 hk9 KR KA KU KO BW Z0 Z1 Z2 Z3 EU OD ZV
      go_wp2_with fail
      refine bodyPost_ret (Tb.results_cell2 rfl rfl rfl L9.out) rfl ?_
      rw [TT.out.1, TT.out.2.1]
      refine ⟨_, _, rfl, ?_⟩
      unfold ToldF
      rw [TT.out.2.2.1, TT.out.2.2.2]
      exact R9.out
set_option maxRecDepth 8000 in
set_option maxHeartbeats 1200000 in
theorem rfill_2 (s : Sk) (b : Int) (w : World) (hb : 0 ≤ b ∧ b < 256) (hk : s.k = 2) : Calls Try.prog 23 #[sv s, .int .u8 b] w fun e w' => ∃ d m, e = .returned (.tuple #[ov (fq s) d m, .int .i64 (fe s)]) ∧ ToldF w w' s b d m := by
  obtain ⟨W0, hW0⟩ : ∃ W, (w.alloc (.cells #[Value.int IntKind.u8 s.k, Value.int IntKind.i64 s.h, Value.int IntKind.u8 s.a, Value.int IntKind.i64 s.c, Value.int IntKind.i64 s.o, Value.int IntKind.i64 s.d, Value.int IntKind.i64 s.m] 33)).alloc (.cells zA 28) = W := ⟨_, rfl⟩
  have KA : Hid (Blk W0 w.heap.size (sL s) 33) := by rw [← hW0]; exact (Blk.newAt w _ _ _ w.heap.size rfl rfl).alloc _
  have KR : Hid (Blk W0 (w.heap.size + 1) zA.toList 28) := by rw [← hW0]; exact Blk.newAt (w.alloc _) _ _ _ (w.heap.size + 1) (by simp) rfl
  have Z0 : Hid (W0.heap.size = w.heap.size + 1 + 1) := by show W0.heap.size = _; rw [← hW0]; simp
  have BW : Hid (Below w.heap.size w W0) := by rw [← hW0]; exact below_next (below_alloc _ _) (below_alloc _ _)
  have E : uH s.k = true ∧ uA s.k = true ∧ uC s.k = false ∧ uO s.k = true ∧ uD s.k = true ∧ uM s.k = false := by rw [hk]; decide
  have EQ : Hid (ps s = ⟨s.k, s.h, s.a, 0, s.o, s.d, 0⟩) := by
    show ps s = _
    unfold ps
    rw [E.1, E.2.1, E.2.2.1, E.2.2.2.1, E.2.2.2.2.1, E.2.2.2.2.2]
    rfl
  have EU : Hid (uv s.k = .agg #[.bool true, .bool true, .bool false, .bool true, .bool true, .bool false] ∧ uL s.k = [.bool true, .bool true, .bool false, .bool true, .bool true, .bool false]) := by
    show uv s.k = _ ∧ uL s.k = _
    unfold uv uL
    rw [E.1, E.2.1, E.2.2.1, E.2.2.2.1, E.2.2.2.2.1, E.2.2.2.2.2]
    exact ⟨rfl, rfl⟩
  have HB := hid hb
  have c0 := KA.out.cell 0 _ rfl
  clear hk E hb
  go_enter Try.func23, Try.ntmps23
  go_wp2_with fail
  clear hW0 c0
  refine (ruse_ok s.k W0).mono ?_
  rintro e W1 ⟨rfl, hb⟩
  rw [EU.out.1]
  replace BW := hid (below_next BW.out hb)
  replace KA := hid (KA.out.below hb)
  replace KR := hid (KR.out.below hb)
  have Z1 : Hid (W0.heap.size ≤ W1.heap.size) := hb.size
  clear hb
  obtain ⟨W2, s2, ku, hk2⟩ := SVu_run s.k (Blk.newAt W1 fU fU.toList 58 W1.heap.size rfl rfl) rfl
  rw [EU.out.1] at s2
  rw [EU.out.2] at ku
  have b2 : Below W1.heap.size W1 W2 := (below_alloc W1 _).trans (hk2.below (by simp) (fun j hj e => by omega))
  replace BW := hid (below_next BW.out b2)
  replace KA := hid (KA.out.below b2)
  replace KR := hid (KR.out.below b2)
  have Z2 : Hid (W1.heap.size < W2.heap.size) := ku.lt
  have KU := hid ku
  clear b2 hk2 ku
  have u5 := KU.out.cell 4 _ rfl
  have u6 := KU.out.cell 5 _ rfl
  have a0 := KA.out.cell 0 _ rfl
  have a5 := KA.out.cell 5 _ rfl
  have a6 := KA.out.cell 6 _ rfl
  by_cases d0 : s.d < 0
  · have FK : Hid (fk s = false) := by show fk s = false; unfold fk; rw [EQ.out]; show (mb s.d && _) = false; rw [show mb s.d = false from decide_eq_false (by omega)]; rfl
    have TT : Hid (fq s = ⟨0, 0, 0, 0, 0⟩ ∧ fe s = 2 ∧ fd s = 0 ∧ fm s = 0) := by show fq s = _ ∧ fe s = _ ∧ fd s = _ ∧ fm s = _; unfold fq fe fd fm; rw [FK.out]; exact ⟨rfl, rfl, rfl, rfl⟩
    obtain ⟨W9, s9, k9, hk9⟩ := SVo_run (q := ⟨0, 0, 0, 0, 0⟩) (d := .slice none 0 0) (m := .slice none 0 0) KR.out rfl rfl rfl
    have s9' : (SVo ⟨w.heap.size + 1, 0, none⟩ (.agg #[Value.int IntKind.u8 0, Value.int IntKind.i64 0, Value.int IntKind.u8 0, Value.int IntKind.i64 0, Value.int IntKind.i64 0, Value.slice none 0 0, Value.slice none 0 0])).run Try.prog W2 = .ok () W9 := s9
    have L9 := hid (LDo_run k9)
    have B9 : Hid (Below w.heap.size w W9) := BW.out.trans (hk9.below BW.out.size (fun j _ e => by omega))
    clear s9 k9 hk9 KR KA KU BW
    go_wp2_with fail
    refine bodyPost_ret (Tb.results_cell2 rfl rfl rfl L9.out) rfl ?_
    rw [TT.out.1, TT.out.2.1]
    refine ⟨_, _, rfl, ?_⟩
    unfold ToldF
    rw [TT.out.2.2.1, TT.out.2.2.2]
    exact ⟨own_nil _ _ _ (cst_b HB.out), own_nil _ _ _ (cst_b HB.out), .inl rfl, B9.out⟩
  · by_cases d1 : 16777215 < s.d
    · have FK : Hid (fk s = false) := by show fk s = false; unfold fk; rw [EQ.out]; show (mb s.d && _) = false; rw [show mb s.d = false from decide_eq_false (by omega)]; rfl
      have TT : Hid (fq s = ⟨0, 0, 0, 0, 0⟩ ∧ fe s = 2 ∧ fd s = 0 ∧ fm s = 0) := by show fq s = _ ∧ fe s = _ ∧ fd s = _ ∧ fm s = _; unfold fq fe fd fm; rw [FK.out]; exact ⟨rfl, rfl, rfl, rfl⟩
      obtain ⟨W9, s9, k9, hk9⟩ := SVo_run (q := ⟨0, 0, 0, 0, 0⟩) (d := .slice none 0 0) (m := .slice none 0 0) KR.out rfl rfl rfl
      have s9' : (SVo ⟨w.heap.size + 1, 0, none⟩ (.agg #[Value.int IntKind.u8 0, Value.int IntKind.i64 0, Value.int IntKind.u8 0, Value.int IntKind.i64 0, Value.int IntKind.i64 0, Value.slice none 0 0, Value.slice none 0 0])).run Try.prog W2 = .ok () W9 := s9
      have L9 := hid (LDo_run k9)
      have B9 : Hid (Below w.heap.size w W9) := BW.out.trans (hk9.below BW.out.size (fun j _ e => by omega))
      clear s9 k9 hk9 KR KA KU BW
      go_wp2_with fail
      refine bodyPost_ret (Tb.results_cell2 rfl rfl rfl L9.out) rfl ?_
      rw [TT.out.1, TT.out.2.1]
      refine ⟨_, _, rfl, ?_⟩
      unfold ToldF
      rw [TT.out.2.2.1, TT.out.2.2.2]
      exact ⟨own_nil _ _ _ (cst_b HB.out), own_nil _ _ _ (cst_b HB.out), .inl rfl, B9.out⟩
    · obtain ⟨x, hx⟩ : ∃ x : Nat, s.d = x := ⟨s.d.toNat, by omega⟩
      have hx2 : x ≤ 16777215 := by omega
      have FK : Hid (fk s = true) := by show fk s = true; unfold fk; rw [EQ.out]; show (mb s.d && mb 0) = true; rw [show mb s.d = true from decide_eq_true (by omega), show mb 0 = true from decide_eq_true (by omega)]; rfl
      have TT : Hid (fq s = ⟨s.k, s.h, s.a, 0, s.o⟩ ∧ fe s = 0 ∧ fd s = x ∧ fm s = 0) := by show fq s = _ ∧ fe s = _ ∧ fd s = _ ∧ fm s = _; unfold fq fe fd fm; rw [FK.out, EQ.out]; exact ⟨rfl, rfl, by show s.d.toNat = x; omega, rfl⟩
      have g0 : ¬ (x : Int) < 0 := by omega
      have g1 : ¬ (16777215 : Int) < x := by omega
      have KX : Hid (s.d = x) := hx
      rw [hx] at a5
      clear hx d0 d1
      obtain ⟨W3, s3, ko, hk3⟩ := SVo_run (q := ⟨s.k, 0, 0, 0, 0⟩) (d := .slice none 0 0) (m := .slice none 0 0) (Blk.newAt W2 zA zA.toList 28 W2.heap.size rfl rfl) rfl rfl rfl
      have s3' : (SVo ⟨W2.heap.size, 0, none⟩ (.agg #[.int .u8 s.k, .int .i64 0, .int .u8 0, .int .i64 0, .int .i64 0, .slice none 0 0, .slice none 0 0])).run Try.prog (W2.alloc (.cells zA 28)) = .ok () W3 := s3
      have b3 : Below W2.heap.size W2 W3 := (below_alloc W2 _).trans (hk3.below (by simp) (fun j hj e => by omega))
      have o2' : (W2.alloc (.cells zA 28)).cell? ⟨w.heap.size, 0, none⟩ = _ := (KA.out.alloc _).cell 0 _ rfl
      replace BW := hid (below_next BW.out b3)
      replace KA := hid (KA.out.below b3)
      replace KR := hid (KR.out.below b3)
      replace KU := hid (KU.out.below b3)
      have Z3 : Hid (W2.heap.size < W3.heap.size) := ko.lt
      clear b3 hk3 s3
      have uh3 := KU.out.cell 0 _ rfl
      have oh3 := KA.out.cell 1 _ rfl
      have sh3 := ko.cell 1 _ rfl
      have fh3 := ko.frozen 1
      obtain ⟨W4, hW4⟩ : ∃ W, W3.setCell ⟨W2.heap.size, 1, none⟩ (.int .i64 s.h) = W := ⟨_, rfl⟩
      have hkW4 := Kp.setCell (w := W3) W2.heap.size 1 (.int .i64 s.h)
      rw [hW4] at hkW4
      have kW4 : Blk W4 W2.heap.size (oL ⟨s.k, s.h, 0, 0, 0⟩ (.slice none 0 0) (.slice none 0 0)) 28 := by rw [← hW4]; exact ko.set 1 _
      replace KA := hid (KA.out.kept hkW4 (by have := Z0.out; have := Z1.out; have := Z2.out; omega))
      replace KU := hid (KU.out.kept hkW4 (by have := Z2.out; omega))
      replace KR := hid (KR.out.kept hkW4 (by have := Z0.out; have := Z1.out; have := Z2.out; omega))
      replace BW := hid (BW.out.trans (hkW4.below BW.out.size (fun j hj e => by have := Z0.out; have := Z1.out; have := Z2.out; omega)))
      replace Z3 : Hid (W2.heap.size < W4.heap.size) := kW4.lt
      clear hkW4
      have ua4 := KU.out.cell 1 _ rfl
      have oa4 := KA.out.cell 2 _ rfl
      have sa4 := kW4.cell 2 _ rfl
      have fa4 := kW4.frozen 2
      obtain ⟨W5, hW5⟩ : ∃ W, W4.setCell ⟨W2.heap.size, 2, none⟩ (.int .u8 s.a) = W := ⟨_, rfl⟩
      have hkW5 := Kp.setCell (w := W4) W2.heap.size 2 (.int .u8 s.a)
      rw [hW5] at hkW5
      have kW5 : Blk W5 W2.heap.size (oL ⟨s.k, s.h, s.a, 0, 0⟩ (.slice none 0 0) (.slice none 0 0)) 28 := by rw [← hW5]; exact kW4.set 2 _
      replace KA := hid (KA.out.kept hkW5 (by have := Z0.out; have := Z1.out; have := Z2.out; omega))
      replace KU := hid (KU.out.kept hkW5 (by have := Z2.out; omega))
      replace KR := hid (KR.out.kept hkW5 (by have := Z0.out; have := Z1.out; have := Z2.out; omega))
      replace BW := hid (BW.out.trans (hkW5.below BW.out.size (fun j hj e => by have := Z0.out; have := Z1.out; have := Z2.out; omega)))
      replace Z3 : Hid (W2.heap.size < W5.heap.size) := kW5.lt
      clear hkW5 kW4
      have uc5 := KU.out.cell 2 _ rfl
      have uo5 := KU.out.cell 3 _ rfl
      have oo5 := KA.out.cell 4 _ rfl
      have so5 := kW5.cell 4 _ rfl
      have fo5 := kW5.frozen 4
      obtain ⟨W6, hW6⟩ : ∃ W, W5.setCell ⟨W2.heap.size, 4, none⟩ (.int .i64 s.o) = W := ⟨_, rfl⟩
      have hkW6 := Kp.setCell (w := W5) W2.heap.size 4 (.int .i64 s.o)
      rw [hW6] at hkW6
      have kW6 : Blk W6 W2.heap.size (oL ⟨s.k, s.h, s.a, 0, s.o⟩ (.slice none 0 0) (.slice none 0 0)) 28 := by rw [← hW6]; exact kW5.set 4 _
      replace KA := hid (KA.out.kept hkW6 (by have := Z0.out; have := Z1.out; have := Z2.out; omega))
      replace KU := hid (KU.out.kept hkW6 (by have := Z2.out; omega))
      replace KR := hid (KR.out.kept hkW6 (by have := Z0.out; have := Z1.out; have := Z2.out; omega))
      replace BW := hid (BW.out.trans (hkW6.below BW.out.size (fun j hj e => by have := Z0.out; have := Z1.out; have := Z2.out; omega)))
      replace Z3 : Hid (W2.heap.size < W6.heap.size) := kW6.lt
      clear hkW6 kW5
      have KO := hid kW6
      clear ko kW6
      have ud := KU.out.cell 4 _ rfl
      have vd := KA.out.cell 5 _ rfl
      rw [KX.out] at vd
      go_wp2_with fail
      clear ud vd
      refine (many_ok x b W6 HB.out (by omega)).mono ?_
      rintro e V1 ⟨d9, rfl, od, hb⟩
      obtain ⟨a8, c8, rfl⟩ := own_lit_slice od
      have rd := own_row od
      replace BW := hid (below_next BW.out hb)
      replace KA := hid (KA.out.below hb)
      replace KR := hid (KR.out.below hb)
      replace KU := hid (KU.out.below hb)
      replace KO := hid (KO.out.below hb)
      have sd := KO.out.cell 5 _ rfl
      have fd := KO.out.frozen 5
      obtain ⟨U1, hU1⟩ : ∃ W, V1.setCell ⟨W2.heap.size, 5, none⟩ (.slice a8 x c8) = W := ⟨_, rfl⟩
      have hk1 := Kp.setCell (w := V1) W2.heap.size 5 (.slice a8 x c8)
      rw [hU1] at hk1
      have ko1 : Blk U1 W2.heap.size (oL ⟨s.k, s.h, s.a, 0, s.o⟩ (.slice a8 x c8) (.slice none 0 0)) 28 := by rw [← hU1]; exact KO.out.set 5 _
      replace KA := hid (KA.out.kept hk1 (by have := Z0.out; have := Z1.out; have := Z2.out; omega))
      replace KU := hid (KU.out.kept hk1 (by have := Z2.out; omega))
      replace KR := hid (KR.out.kept hk1 (by have := Z0.out; have := Z1.out; have := Z2.out; omega))
      have OD : Hid (By.Own U1 W6.heap.size (.slice a8 x c8) x (fun _ => b)) := own_keptB od hk1 (fun j e h => by have := rd j e; have := Z3.out; omega)
      have ZV : Hid (W6.heap.size ≤ U1.heap.size) := Nat.le_trans hb.size hk1.size
      replace BW := hid (BW.out.trans (hk1.below BW.out.size (fun j hj e => by have := Z0.out; have := Z1.out; have := Z2.out; omega)))
      replace KO := hid ko1
      clear hk1 ko1 od rd hb
      have um := KU.out.cell 5 _ rfl
      have l4 : (LDo ⟨W2.heap.size, 0, none⟩).run Try.prog U1 = .ok (.agg #[.int .u8 s.k, .int .i64 s.h, .int .u8 s.a, .int .i64 0, .int .i64 s.o, (.slice a8 x c8), (.slice none 0 0)]) U1 := LDo_run KO.out
      obtain ⟨W9, s9, k9, hk9⟩ := SVo_run (q := ⟨s.k, s.h, s.a, 0, s.o⟩) (d := (.slice a8 x c8)) (m := (.slice none 0 0)) KR.out rfl rfl rfl
      have s9' : (SVo ⟨w.heap.size + 1, 0, none⟩ (.agg #[.int .u8 s.k, .int .i64 s.h, .int .u8 s.a, .int .i64 0, .int .i64 s.o, (.slice a8 x c8), (.slice none 0 0)])).run Try.prog U1 = .ok () W9 := s9
      have L9 := hid (LDo_run k9)
      have R9 : Hid (By.Own W9 w.heap.size (.slice a8 x c8) x (fun _ => b) ∧ By.Own W9 w.heap.size (.slice none 0 0) 0 (fun _ => b) ∧ (Value.ownBlock (.slice a8 x c8) = none ∨ Value.ownBlock (.slice a8 x c8) ≠ Value.ownBlock (.slice none 0 0)) ∧ Below w.heap.size w W9) := by
        have g0 := Z0.out
        have g1 := Z1.out
        have g2 := Z2.out
        have g3 := Z3.out
        refine ⟨own_base (own_keptB OD.out hk9 (fun j e h => by have := own_row OD.out j e; omega)) (by omega), own_nil _ _ _ (cst_b HB.out), nil_apart _, BW.out.trans (hk9.below BW.out.size (fun j _ e => by omega))⟩
      clear s9 k9 hk9 KR KA KU KO BW Z0 Z1 Z2 Z3 EU OD ZV
      go_wp2_with fail
      refine bodyPost_ret (Tb.results_cell2 rfl rfl rfl L9.out) rfl ?_
      rw [TT.out.1, TT.out.2.1]
      refine ⟨_, _, rfl, ?_⟩
      unfold ToldF
      rw [TT.out.2.2.1, TT.out.2.2.2]
      exact R9.out
set_option maxRecDepth 8000 in
set_option maxHeartbeats 1200000 in
theorem rfill_3 (s : Sk) (b : Int) (w : World) (hb : 0 ≤ b ∧ b < 256) (hk : s.k = 3) : Calls Try.prog 23 #[sv s, .int .u8 b] w fun e w' => ∃ d m, e = .returned (.tuple #[ov (fq s) d m, .int .i64 (fe s)]) ∧ ToldF w w' s b d m := by
  obtain ⟨W0, hW0⟩ : ∃ W, (w.alloc (.cells #[Value.int IntKind.u8 s.k, Value.int IntKind.i64 s.h, Value.int IntKind.u8 s.a, Value.int IntKind.i64 s.c, Value.int IntKind.i64 s.o, Value.int IntKind.i64 s.d, Value.int IntKind.i64 s.m] 33)).alloc (.cells zA 28) = W := ⟨_, rfl⟩
  have KA : Hid (Blk W0 w.heap.size (sL s) 33) := by rw [← hW0]; exact (Blk.newAt w _ _ _ w.heap.size rfl rfl).alloc _
  have KR : Hid (Blk W0 (w.heap.size + 1) zA.toList 28) := by rw [← hW0]; exact Blk.newAt (w.alloc _) _ _ _ (w.heap.size + 1) (by simp) rfl
  have Z0 : Hid (W0.heap.size = w.heap.size + 1 + 1) := by show W0.heap.size = _; rw [← hW0]; simp
  have BW : Hid (Below w.heap.size w W0) := by rw [← hW0]; exact below_next (below_alloc _ _) (below_alloc _ _)
  have E : uH s.k = true ∧ uA s.k = false ∧ uC s.k = false ∧ uO s.k = false ∧ uD s.k = true ∧ uM s.k = false := by rw [hk]; decide
  have EQ : Hid (ps s = ⟨s.k, s.h, 0, 0, 0, s.d, 0⟩) := by
    show ps s = _
    unfold ps
    rw [E.1, E.2.1, E.2.2.1, E.2.2.2.1, E.2.2.2.2.1, E.2.2.2.2.2]
    rfl
  have EU : Hid (uv s.k = .agg #[.bool true, .bool false, .bool false, .bool false, .bool true, .bool false] ∧ uL s.k = [.bool true, .bool false, .bool false, .bool false, .bool true, .bool false]) := by
    show uv s.k = _ ∧ uL s.k = _
    unfold uv uL
    rw [E.1, E.2.1, E.2.2.1, E.2.2.2.1, E.2.2.2.2.1, E.2.2.2.2.2]
    exact ⟨rfl, rfl⟩
  have HB := hid hb
  have c0 := KA.out.cell 0 _ rfl
  clear hk E hb
  go_enter Try.func23, Try.ntmps23
  go_wp2_with fail
  clear hW0 c0
  refine (ruse_ok s.k W0).mono ?_
  rintro e W1 ⟨rfl, hb⟩
  rw [EU.out.1]
  replace BW := hid (below_next BW.out hb)
  replace KA := hid (KA.out.below hb)
  replace KR := hid (KR.out.below hb)
  have Z1 : Hid (W0.heap.size ≤ W1.heap.size) := hb.size
  clear hb
  obtain ⟨W2, s2, ku, hk2⟩ := SVu_run s.k (Blk.newAt W1 fU fU.toList 58 W1.heap.size rfl rfl) rfl
  rw [EU.out.1] at s2
  rw [EU.out.2] at ku
  have b2 : Below W1.heap.size W1 W2 := (below_alloc W1 _).trans (hk2.below (by simp) (fun j hj e => by omega))
  replace BW := hid (below_next BW.out b2)
  replace KA := hid (KA.out.below b2)
  replace KR := hid (KR.out.below b2)
  have Z2 : Hid (W1.heap.size < W2.heap.size) := ku.lt
  have KU := hid ku
  clear b2 hk2 ku
  have u5 := KU.out.cell 4 _ rfl
  have u6 := KU.out.cell 5 _ rfl
  have a0 := KA.out.cell 0 _ rfl
  have a5 := KA.out.cell 5 _ rfl
  have a6 := KA.out.cell 6 _ rfl
  by_cases d0 : s.d < 0
  · have FK : Hid (fk s = false) := by show fk s = false; unfold fk; rw [EQ.out]; show (mb s.d && _) = false; rw [show mb s.d = false from decide_eq_false (by omega)]; rfl
    have TT : Hid (fq s = ⟨0, 0, 0, 0, 0⟩ ∧ fe s = 2 ∧ fd s = 0 ∧ fm s = 0) := by show fq s = _ ∧ fe s = _ ∧ fd s = _ ∧ fm s = _; unfold fq fe fd fm; rw [FK.out]; exact ⟨rfl, rfl, rfl, rfl⟩
    obtain ⟨W9, s9, k9, hk9⟩ := SVo_run (q := ⟨0, 0, 0, 0, 0⟩) (d := .slice none 0 0) (m := .slice none 0 0) KR.out rfl rfl rfl
    have s9' : (SVo ⟨w.heap.size + 1, 0, none⟩ (.agg #[Value.int IntKind.u8 0, Value.int IntKind.i64 0, Value.int IntKind.u8 0, Value.int IntKind.i64 0, Value.int IntKind.i64 0, Value.slice none 0 0, Value.slice none 0 0])).run Try.prog W2 = .ok () W9 := s9
    have L9 := hid (LDo_run k9)
    have B9 : Hid (Below w.heap.size w W9) := BW.out.trans (hk9.below BW.out.size (fun j _ e => by omega))
    clear s9 k9 hk9 KR KA KU BW
    go_wp2_with fail
    refine bodyPost_ret (Tb.results_cell2 rfl rfl rfl L9.out) rfl ?_
    rw [TT.out.1, TT.out.2.1]
    refine ⟨_, _, rfl, ?_⟩
    unfold ToldF
    rw [TT.out.2.2.1, TT.out.2.2.2]
    exact ⟨own_nil _ _ _ (cst_b HB.out), own_nil _ _ _ (cst_b HB.out), .inl rfl, B9.out⟩
  · by_cases d1 : 16777215 < s.d
    · have FK : Hid (fk s = false) := by show fk s = false; unfold fk; rw [EQ.out]; show (mb s.d && _) = false; rw [show mb s.d = false from decide_eq_false (by omega)]; rfl
      have TT : Hid (fq s = ⟨0, 0, 0, 0, 0⟩ ∧ fe s = 2 ∧ fd s = 0 ∧ fm s = 0) := by show fq s = _ ∧ fe s = _ ∧ fd s = _ ∧ fm s = _; unfold fq fe fd fm; rw [FK.out]; exact ⟨rfl, rfl, rfl, rfl⟩
      obtain ⟨W9, s9, k9, hk9⟩ := SVo_run (q := ⟨0, 0, 0, 0, 0⟩) (d := .slice none 0 0) (m := .slice none 0 0) KR.out rfl rfl rfl
      have s9' : (SVo ⟨w.heap.size + 1, 0, none⟩ (.agg #[Value.int IntKind.u8 0, Value.int IntKind.i64 0, Value.int IntKind.u8 0, Value.int IntKind.i64 0, Value.int IntKind.i64 0, Value.slice none 0 0, Value.slice none 0 0])).run Try.prog W2 = .ok () W9 := s9
      have L9 := hid (LDo_run k9)
      have B9 : Hid (Below w.heap.size w W9) := BW.out.trans (hk9.below BW.out.size (fun j _ e => by omega))
      clear s9 k9 hk9 KR KA KU BW
      go_wp2_with fail
      refine bodyPost_ret (Tb.results_cell2 rfl rfl rfl L9.out) rfl ?_
      rw [TT.out.1, TT.out.2.1]
      refine ⟨_, _, rfl, ?_⟩
      unfold ToldF
      rw [TT.out.2.2.1, TT.out.2.2.2]
      exact ⟨own_nil _ _ _ (cst_b HB.out), own_nil _ _ _ (cst_b HB.out), .inl rfl, B9.out⟩
    · obtain ⟨x, hx⟩ : ∃ x : Nat, s.d = x := ⟨s.d.toNat, by omega⟩
      have hx2 : x ≤ 16777215 := by omega
      have FK : Hid (fk s = true) := by show fk s = true; unfold fk; rw [EQ.out]; show (mb s.d && mb 0) = true; rw [show mb s.d = true from decide_eq_true (by omega), show mb 0 = true from decide_eq_true (by omega)]; rfl
      have TT : Hid (fq s = ⟨s.k, s.h, 0, 0, 0⟩ ∧ fe s = 0 ∧ fd s = x ∧ fm s = 0) := by show fq s = _ ∧ fe s = _ ∧ fd s = _ ∧ fm s = _; unfold fq fe fd fm; rw [FK.out, EQ.out]; exact ⟨rfl, rfl, by show s.d.toNat = x; omega, rfl⟩
      have g0 : ¬ (x : Int) < 0 := by omega
      have g1 : ¬ (16777215 : Int) < x := by omega
      have KX : Hid (s.d = x) := hx
      rw [hx] at a5
      clear hx d0 d1
      obtain ⟨W3, s3, ko, hk3⟩ := SVo_run (q := ⟨s.k, 0, 0, 0, 0⟩) (d := .slice none 0 0) (m := .slice none 0 0) (Blk.newAt W2 zA zA.toList 28 W2.heap.size rfl rfl) rfl rfl rfl
      have s3' : (SVo ⟨W2.heap.size, 0, none⟩ (.agg #[.int .u8 s.k, .int .i64 0, .int .u8 0, .int .i64 0, .int .i64 0, .slice none 0 0, .slice none 0 0])).run Try.prog (W2.alloc (.cells zA 28)) = .ok () W3 := s3
      have b3 : Below W2.heap.size W2 W3 := (below_alloc W2 _).trans (hk3.below (by simp) (fun j hj e => by omega))
      have o2' : (W2.alloc (.cells zA 28)).cell? ⟨w.heap.size, 0, none⟩ = _ := (KA.out.alloc _).cell 0 _ rfl
      replace BW := hid (below_next BW.out b3)
      replace KA := hid (KA.out.below b3)
      replace KR := hid (KR.out.below b3)
      replace KU := hid (KU.out.below b3)
      have Z3 : Hid (W2.heap.size < W3.heap.size) := ko.lt
      clear b3 hk3 s3
      have uh3 := KU.out.cell 0 _ rfl
      have oh3 := KA.out.cell 1 _ rfl
      have sh3 := ko.cell 1 _ rfl
      have fh3 := ko.frozen 1
      obtain ⟨W4, hW4⟩ : ∃ W, W3.setCell ⟨W2.heap.size, 1, none⟩ (.int .i64 s.h) = W := ⟨_, rfl⟩
      have hkW4 := Kp.setCell (w := W3) W2.heap.size 1 (.int .i64 s.h)
      rw [hW4] at hkW4
      have kW4 : Blk W4 W2.heap.size (oL ⟨s.k, s.h, 0, 0, 0⟩ (.slice none 0 0) (.slice none 0 0)) 28 := by rw [← hW4]; exact ko.set 1 _
      replace KA := hid (KA.out.kept hkW4 (by have := Z0.out; have := Z1.out; have := Z2.out; omega))
      replace KU := hid (KU.out.kept hkW4 (by have := Z2.out; omega))
      replace KR := hid (KR.out.kept hkW4 (by have := Z0.out; have := Z1.out; have := Z2.out; omega))
      replace BW := hid (BW.out.trans (hkW4.below BW.out.size (fun j hj e => by have := Z0.out; have := Z1.out; have := Z2.out; omega)))
      replace Z3 : Hid (W2.heap.size < W4.heap.size) := kW4.lt
      clear hkW4
      have ua4 := KU.out.cell 1 _ rfl
      have uc4 := KU.out.cell 2 _ rfl
      have uo4 := KU.out.cell 3 _ rfl
      have KO := hid kW4
      clear ko kW4
      have ud := KU.out.cell 4 _ rfl
      have vd := KA.out.cell 5 _ rfl
      rw [KX.out] at vd
      go_wp2_with fail
      clear ud vd
      refine (many_ok x b W4 HB.out (by omega)).mono ?_
      rintro e V1 ⟨d9, rfl, od, hb⟩
      obtain ⟨a8, c8, rfl⟩ := own_lit_slice od
      have rd := own_row od
      replace BW := hid (below_next BW.out hb)
      replace KA := hid (KA.out.below hb)
      replace KR := hid (KR.out.below hb)
      replace KU := hid (KU.out.below hb)
      replace KO := hid (KO.out.below hb)
      have sd := KO.out.cell 5 _ rfl
      have fd := KO.out.frozen 5
      obtain ⟨U1, hU1⟩ : ∃ W, V1.setCell ⟨W2.heap.size, 5, none⟩ (.slice a8 x c8) = W := ⟨_, rfl⟩
      have hk1 := Kp.setCell (w := V1) W2.heap.size 5 (.slice a8 x c8)
      rw [hU1] at hk1
      have ko1 : Blk U1 W2.heap.size (oL ⟨s.k, s.h, 0, 0, 0⟩ (.slice a8 x c8) (.slice none 0 0)) 28 := by rw [← hU1]; exact KO.out.set 5 _
      replace KA := hid (KA.out.kept hk1 (by have := Z0.out; have := Z1.out; have := Z2.out; omega))
      replace KU := hid (KU.out.kept hk1 (by have := Z2.out; omega))
      replace KR := hid (KR.out.kept hk1 (by have := Z0.out; have := Z1.out; have := Z2.out; omega))
      have OD : Hid (By.Own U1 W4.heap.size (.slice a8 x c8) x (fun _ => b)) := own_keptB od hk1 (fun j e h => by have := rd j e; have := Z3.out; omega)
      have ZV : Hid (W4.heap.size ≤ U1.heap.size) := Nat.le_trans hb.size hk1.size
      replace BW := hid (BW.out.trans (hk1.below BW.out.size (fun j hj e => by have := Z0.out; have := Z1.out; have := Z2.out; omega)))
      replace KO := hid ko1
      clear hk1 ko1 od rd hb
      have um := KU.out.cell 5 _ rfl
      have l4 : (LDo ⟨W2.heap.size, 0, none⟩).run Try.prog U1 = .ok (.agg #[.int .u8 s.k, .int .i64 s.h, .int .u8 0, .int .i64 0, .int .i64 0, (.slice a8 x c8), (.slice none 0 0)]) U1 := LDo_run KO.out
      obtain ⟨W9, s9, k9, hk9⟩ := SVo_run (q := ⟨s.k, s.h, 0, 0, 0⟩) (d := (.slice a8 x c8)) (m := (.slice none 0 0)) KR.out rfl rfl rfl
      have s9' : (SVo ⟨w.heap.size + 1, 0, none⟩ (.agg #[.int .u8 s.k, .int .i64 s.h, .int .u8 0, .int .i64 0, .int .i64 0, (.slice a8 x c8), (.slice none 0 0)])).run Try.prog U1 = .ok () W9 := s9
      have L9 := hid (LDo_run k9)
      have R9 : Hid (By.Own W9 w.heap.size (.slice a8 x c8) x (fun _ => b) ∧ By.Own W9 w.heap.size (.slice none 0 0) 0 (fun _ => b) ∧ (Value.ownBlock (.slice a8 x c8) = none ∨ Value.ownBlock (.slice a8 x c8) ≠ Value.ownBlock (.slice none 0 0)) ∧ Below w.heap.size w W9) := by
        have g0 := Z0.out
        have g1 := Z1.out
        have g2 := Z2.out
        have g3 := Z3.out
        refine ⟨own_base (own_keptB OD.out hk9 (fun j e h => by have := own_row OD.out j e; omega)) (by omega), own_nil _ _ _ (cst_b HB.out), nil_apart _, BW.out.trans (hk9.below BW.out.size (fun j _ e => by omega))⟩
      clear s9 k9 hk9 KR KA KU KO BW Z0 Z1 Z2 Z3 EU OD ZV
      go_wp2_with fail
      refine bodyPost_ret (Tb.results_cell2 rfl rfl rfl L9.out) rfl ?_
      rw [TT.out.1, TT.out.2.1]
      refine ⟨_, _, rfl, ?_⟩
      unfold ToldF
      rw [TT.out.2.2.1, TT.out.2.2.2]
      exact R9.out
set_option maxRecDepth 8000 in
set_option maxHeartbeats 1200000 in
theorem rfill_4 (s : Sk) (b : Int) (w : World) (hb : 0 ≤ b ∧ b < 256) (hk : s.k = 4) : Calls Try.prog 23 #[sv s, .int .u8 b] w fun e w' => ∃ d m, e = .returned (.tuple #[ov (fq s) d m, .int .i64 (fe s)]) ∧ ToldF w w' s b d m := by
  obtain ⟨W0, hW0⟩ : ∃ W, (w.alloc (.cells #[Value.int IntKind.u8 s.k, Value.int IntKind.i64 s.h, Value.int IntKind.u8 s.a, Value.int IntKind.i64 s.c, Value.int IntKind.i64 s.o, Value.int IntKind.i64 s.d, Value.int IntKind.i64 s.m] 33)).alloc (.cells zA 28) = W := ⟨_, rfl⟩
  have KA : Hid (Blk W0 w.heap.size (sL s) 33) := by rw [← hW0]; exact (Blk.newAt w _ _ _ w.heap.size rfl rfl).alloc _
  have KR : Hid (Blk W0 (w.heap.size + 1) zA.toList 28) := by rw [← hW0]; exact Blk.newAt (w.alloc _) _ _ _ (w.heap.size + 1) (by simp) rfl
  have Z0 : Hid (W0.heap.size = w.heap.size + 1 + 1) := by show W0.heap.size = _; rw [← hW0]; simp
  have BW : Hid (Below w.heap.size w W0) := by rw [← hW0]; exact below_next (below_alloc _ _) (below_alloc _ _)
  have E : uH s.k = true ∧ uA s.k = false ∧ uC s.k = false ∧ uO s.k = false ∧ uD s.k = false ∧ uM s.k = false := by rw [hk]; decide
  have EQ : Hid (ps s = ⟨s.k, s.h, 0, 0, 0, 0, 0⟩) := by
    show ps s = _
    unfold ps
    rw [E.1, E.2.1, E.2.2.1, E.2.2.2.1, E.2.2.2.2.1, E.2.2.2.2.2]
    rfl
  have EU : Hid (uv s.k = .agg #[.bool true, .bool false, .bool false, .bool false, .bool false, .bool false] ∧ uL s.k = [.bool true, .bool false, .bool false, .bool false, .bool false, .bool false]) := by
    show uv s.k = _ ∧ uL s.k = _
    unfold uv uL
    rw [E.1, E.2.1, E.2.2.1, E.2.2.2.1, E.2.2.2.2.1, E.2.2.2.2.2]
    exact ⟨rfl, rfl⟩
  have HB := hid hb
  have c0 := KA.out.cell 0 _ rfl
  clear hk E hb
  go_enter Try.func23, Try.ntmps23
  go_wp2_with fail
  clear hW0 c0
  refine (ruse_ok s.k W0).mono ?_
  rintro e W1 ⟨rfl, hb⟩
  rw [EU.out.1]
  replace BW := hid (below_next BW.out hb)
  replace KA := hid (KA.out.below hb)
  replace KR := hid (KR.out.below hb)
  have Z1 : Hid (W0.heap.size ≤ W1.heap.size) := hb.size
  clear hb
  obtain ⟨W2, s2, ku, hk2⟩ := SVu_run s.k (Blk.newAt W1 fU fU.toList 58 W1.heap.size rfl rfl) rfl
  rw [EU.out.1] at s2
  rw [EU.out.2] at ku
  have b2 : Below W1.heap.size W1 W2 := (below_alloc W1 _).trans (hk2.below (by simp) (fun j hj e => by omega))
  replace BW := hid (below_next BW.out b2)
  replace KA := hid (KA.out.below b2)
  replace KR := hid (KR.out.below b2)
  have Z2 : Hid (W1.heap.size < W2.heap.size) := ku.lt
  have KU := hid ku
  clear b2 hk2 ku
  have u5 := KU.out.cell 4 _ rfl
  have u6 := KU.out.cell 5 _ rfl
  have a0 := KA.out.cell 0 _ rfl
  have a5 := KA.out.cell 5 _ rfl
  have a6 := KA.out.cell 6 _ rfl
  have FK : Hid (fk s = true) := by show fk s = true; unfold fk; rw [EQ.out]; show (mb 0 && mb 0) = true; rw [show mb 0 = true from decide_eq_true (by omega)]; rfl
  have TT : Hid (fq s = ⟨s.k, s.h, 0, 0, 0⟩ ∧ fe s = 0 ∧ fd s = 0 ∧ fm s = 0) := by show fq s = _ ∧ fe s = _ ∧ fd s = _ ∧ fm s = _; unfold fq fe fd fm; rw [FK.out, EQ.out]; exact ⟨rfl, rfl, rfl, rfl⟩
  obtain ⟨W3, s3, ko, hk3⟩ := SVo_run (q := ⟨s.k, 0, 0, 0, 0⟩) (d := .slice none 0 0) (m := .slice none 0 0) (Blk.newAt W2 zA zA.toList 28 W2.heap.size rfl rfl) rfl rfl rfl
  have s3' : (SVo ⟨W2.heap.size, 0, none⟩ (.agg #[.int .u8 s.k, .int .i64 0, .int .u8 0, .int .i64 0, .int .i64 0, .slice none 0 0, .slice none 0 0])).run Try.prog (W2.alloc (.cells zA 28)) = .ok () W3 := s3
  have b3 : Below W2.heap.size W2 W3 := (below_alloc W2 _).trans (hk3.below (by simp) (fun j hj e => by omega))
  have o2' : (W2.alloc (.cells zA 28)).cell? ⟨w.heap.size, 0, none⟩ = _ := (KA.out.alloc _).cell 0 _ rfl
  replace BW := hid (below_next BW.out b3)
  replace KA := hid (KA.out.below b3)
  replace KR := hid (KR.out.below b3)
  replace KU := hid (KU.out.below b3)
  have Z3 : Hid (W2.heap.size < W3.heap.size) := ko.lt
  clear b3 hk3 s3
  have uh3 := KU.out.cell 0 _ rfl
  have oh3 := KA.out.cell 1 _ rfl
  have sh3 := ko.cell 1 _ rfl
  have fh3 := ko.frozen 1
  obtain ⟨W4, hW4⟩ : ∃ W, W3.setCell ⟨W2.heap.size, 1, none⟩ (.int .i64 s.h) = W := ⟨_, rfl⟩
  have hkW4 := Kp.setCell (w := W3) W2.heap.size 1 (.int .i64 s.h)
  rw [hW4] at hkW4
  have kW4 : Blk W4 W2.heap.size (oL ⟨s.k, s.h, 0, 0, 0⟩ (.slice none 0 0) (.slice none 0 0)) 28 := by rw [← hW4]; exact ko.set 1 _
  replace KA := hid (KA.out.kept hkW4 (by have := Z0.out; have := Z1.out; have := Z2.out; omega))
  replace KU := hid (KU.out.kept hkW4 (by have := Z2.out; omega))
  replace KR := hid (KR.out.kept hkW4 (by have := Z0.out; have := Z1.out; have := Z2.out; omega))
  replace BW := hid (BW.out.trans (hkW4.below BW.out.size (fun j hj e => by have := Z0.out; have := Z1.out; have := Z2.out; omega)))
  replace Z3 : Hid (W2.heap.size < W4.heap.size) := kW4.lt
  clear hkW4
  have ua4 := KU.out.cell 1 _ rfl
  have uc4 := KU.out.cell 2 _ rfl
  have uo4 := KU.out.cell 3 _ rfl
  have KO := hid kW4
  clear ko kW4
  have ud := KU.out.cell 4 _ rfl
  have um := KU.out.cell 5 _ rfl
  have l4 : (LDo ⟨W2.heap.size, 0, none⟩).run Try.prog W4 = .ok (.agg #[.int .u8 s.k, .int .i64 s.h, .int .u8 0, .int .i64 0, .int .i64 0, (.slice none 0 0), (.slice none 0 0)]) W4 := LDo_run KO.out
  obtain ⟨W9, s9, k9, hk9⟩ := SVo_run (q := ⟨s.k, s.h, 0, 0, 0⟩) (d := (.slice none 0 0)) (m := (.slice none 0 0)) KR.out rfl rfl rfl
  have s9' : (SVo ⟨w.heap.size + 1, 0, none⟩ (.agg #[.int .u8 s.k, .int .i64 s.h, .int .u8 0, .int .i64 0, .int .i64 0, (.slice none 0 0), (.slice none 0 0)])).run Try.prog W4 = .ok () W9 := s9
  have L9 := hid (LDo_run k9)
  have R9 : Hid (By.Own W9 w.heap.size (.slice none 0 0) 0 (fun _ => b) ∧ By.Own W9 w.heap.size (.slice none 0 0) 0 (fun _ => b) ∧ (Value.ownBlock (.slice none 0 0) = none ∨ Value.ownBlock (.slice none 0 0) ≠ Value.ownBlock (.slice none 0 0)) ∧ Below w.heap.size w W9) := by
    have g0 := Z0.out
    have g1 := Z1.out
    have g2 := Z2.out
    have g3 := Z3.out
    refine ⟨own_nil _ _ _ (cst_b HB.out), own_nil _ _ _ (cst_b HB.out), .inl rfl, BW.out.trans (hk9.below BW.out.size (fun j _ e => by omega))⟩
  clear s9 k9 hk9 KR KA KU KO BW Z0 Z1 Z2 Z3 EU
  go_wp2_with fail
  refine bodyPost_ret (Tb.results_cell2 rfl rfl rfl L9.out) rfl ?_
  rw [TT.out.1, TT.out.2.1]
  refine ⟨_, _, rfl, ?_⟩
  unfold ToldF
  rw [TT.out.2.2.1, TT.out.2.2.2]
  exact R9.out
set_option maxRecDepth 8000 in
set_option maxHeartbeats 1200000 in
theorem rfill_5 (s : Sk) (b : Int) (w : World) (hb : 0 ≤ b ∧ b < 256) (hk : s.k = 5) : Calls Try.prog 23 #[sv s, .int .u8 b] w fun e w' => ∃ d m, e = .returned (.tuple #[ov (fq s) d m, .int .i64 (fe s)]) ∧ ToldF w w' s b d m := by
  obtain ⟨W0, hW0⟩ : ∃ W, (w.alloc (.cells #[Value.int IntKind.u8 s.k, Value.int IntKind.i64 s.h, Value.int IntKind.u8 s.a, Value.int IntKind.i64 s.c, Value.int IntKind.i64 s.o, Value.int IntKind.i64 s.d, Value.int IntKind.i64 s.m] 33)).alloc (.cells zA 28) = W := ⟨_, rfl⟩
  have KA : Hid (Blk W0 w.heap.size (sL s) 33) := by rw [← hW0]; exact (Blk.newAt w _ _ _ w.heap.size rfl rfl).alloc _
  have KR : Hid (Blk W0 (w.heap.size + 1) zA.toList 28) := by rw [← hW0]; exact Blk.newAt (w.alloc _) _ _ _ (w.heap.size + 1) (by simp) rfl
  have Z0 : Hid (W0.heap.size = w.heap.size + 1 + 1) := by show W0.heap.size = _; rw [← hW0]; simp
  have BW : Hid (Below w.heap.size w W0) := by rw [← hW0]; exact below_next (below_alloc _ _) (below_alloc _ _)
  have E : uH s.k = true ∧ uA s.k = false ∧ uC s.k = false ∧ uO s.k = false ∧ uD s.k = true ∧ uM s.k = false := by rw [hk]; decide
  have EQ : Hid (ps s = ⟨s.k, s.h, 0, 0, 0, s.d, 0⟩) := by
    show ps s = _
    unfold ps
    rw [E.1, E.2.1, E.2.2.1, E.2.2.2.1, E.2.2.2.2.1, E.2.2.2.2.2]
    rfl
  have EU : Hid (uv s.k = .agg #[.bool true, .bool false, .bool false, .bool false, .bool true, .bool false] ∧ uL s.k = [.bool true, .bool false, .bool false, .bool false, .bool true, .bool false]) := by
    show uv s.k = _ ∧ uL s.k = _
    unfold uv uL
    rw [E.1, E.2.1, E.2.2.1, E.2.2.2.1, E.2.2.2.2.1, E.2.2.2.2.2]
    exact ⟨rfl, rfl⟩
  have HB := hid hb
  have c0 := KA.out.cell 0 _ rfl
  clear hk E hb
  go_enter Try.func23, Try.ntmps23
  go_wp2_with fail
  clear hW0 c0
  refine (ruse_ok s.k W0).mono ?_
  rintro e W1 ⟨rfl, hb⟩
  rw [EU.out.1]
  replace BW := hid (below_next BW.out hb)
  replace KA := hid (KA.out.below hb)
  replace KR := hid (KR.out.below hb)
  have Z1 : Hid (W0.heap.size ≤ W1.heap.size) := hb.size
  clear hb
  obtain ⟨W2, s2, ku, hk2⟩ := SVu_run s.k (Blk.newAt W1 fU fU.toList 58 W1.heap.size rfl rfl) rfl
  rw [EU.out.1] at s2
  rw [EU.out.2] at ku
  have b2 : Below W1.heap.size W1 W2 := (below_alloc W1 _).trans (hk2.below (by simp) (fun j hj e => by omega))
  replace BW := hid (below_next BW.out b2)
  replace KA := hid (KA.out.below b2)
  replace KR := hid (KR.out.below b2)
  have Z2 : Hid (W1.heap.size < W2.heap.size) := ku.lt
  have KU := hid ku
  clear b2 hk2 ku
  have u5 := KU.out.cell 4 _ rfl
  have u6 := KU.out.cell 5 _ rfl
  have a0 := KA.out.cell 0 _ rfl
  have a5 := KA.out.cell 5 _ rfl
  have a6 := KA.out.cell 6 _ rfl
  by_cases d0 : s.d < 0
  · have FK : Hid (fk s = false) := by show fk s = false; unfold fk; rw [EQ.out]; show (mb s.d && _) = false; rw [show mb s.d = false from decide_eq_false (by omega)]; rfl
    have TT : Hid (fq s = ⟨0, 0, 0, 0, 0⟩ ∧ fe s = 2 ∧ fd s = 0 ∧ fm s = 0) := by show fq s = _ ∧ fe s = _ ∧ fd s = _ ∧ fm s = _; unfold fq fe fd fm; rw [FK.out]; exact ⟨rfl, rfl, rfl, rfl⟩
    obtain ⟨W9, s9, k9, hk9⟩ := SVo_run (q := ⟨0, 0, 0, 0, 0⟩) (d := .slice none 0 0) (m := .slice none 0 0) KR.out rfl rfl rfl
    have s9' : (SVo ⟨w.heap.size + 1, 0, none⟩ (.agg #[Value.int IntKind.u8 0, Value.int IntKind.i64 0, Value.int IntKind.u8 0, Value.int IntKind.i64 0, Value.int IntKind.i64 0, Value.slice none 0 0, Value.slice none 0 0])).run Try.prog W2 = .ok () W9 := s9
    have L9 := hid (LDo_run k9)
    have B9 : Hid (Below w.heap.size w W9) := BW.out.trans (hk9.below BW.out.size (fun j _ e => by omega))
    clear s9 k9 hk9 KR KA KU BW
    go_wp2_with fail
    refine bodyPost_ret (Tb.results_cell2 rfl rfl rfl L9.out) rfl ?_
    rw [TT.out.1, TT.out.2.1]
    refine ⟨_, _, rfl, ?_⟩
    unfold ToldF
    rw [TT.out.2.2.1, TT.out.2.2.2]
    exact ⟨own_nil _ _ _ (cst_b HB.out), own_nil _ _ _ (cst_b HB.out), .inl rfl, B9.out⟩
  · by_cases d1 : 16777215 < s.d
    · have FK : Hid (fk s = false) := by show fk s = false; unfold fk; rw [EQ.out]; show (mb s.d && _) = false; rw [show mb s.d = false from decide_eq_false (by omega)]; rfl
      have TT : Hid (fq s = ⟨0, 0, 0, 0, 0⟩ ∧ fe s = 2 ∧ fd s = 0 ∧ fm s = 0) := by show fq s = _ ∧ fe s = _ ∧ fd s = _ ∧ fm s = _; unfold fq fe fd fm; rw [FK.out]; exact ⟨rfl, rfl, rfl, rfl⟩
      obtain ⟨W9, s9, k9, hk9⟩ := SVo_run (q := ⟨0, 0, 0, 0, 0⟩) (d := .slice none 0 0) (m := .slice none 0 0) KR.out rfl rfl rfl
      have s9' : (SVo ⟨w.heap.size + 1, 0, none⟩ (.agg #[Value.int IntKind.u8 0, Value.int IntKind.i64 0, Value.int IntKind.u8 0, Value.int IntKind.i64 0, Value.int IntKind.i64 0, Value.slice none 0 0, Value.slice none 0 0])).run Try.prog W2 = .ok () W9 := s9
      have L9 := hid (LDo_run k9)
      have B9 : Hid (Below w.heap.size w W9) := BW.out.trans (hk9.below BW.out.size (fun j _ e => by omega))
      clear s9 k9 hk9 KR KA KU BW
      go_wp2_with fail
      refine bodyPost_ret (Tb.results_cell2 rfl rfl rfl L9.out) rfl ?_
      rw [TT.out.1, TT.out.2.1]
      refine ⟨_, _, rfl, ?_⟩
      unfold ToldF
      rw [TT.out.2.2.1, TT.out.2.2.2]
      exact ⟨own_nil _ _ _ (cst_b HB.out), own_nil _ _ _ (cst_b HB.out), .inl rfl, B9.out⟩
    · obtain ⟨x, hx⟩ : ∃ x : Nat, s.d = x := ⟨s.d.toNat, by omega⟩
      have hx2 : x ≤ 16777215 := by omega
      have FK : Hid (fk s = true) := by show fk s = true; unfold fk; rw [EQ.out]; show (mb s.d && mb 0) = true; rw [show mb s.d = true from decide_eq_true (by omega), show mb 0 = true from decide_eq_true (by omega)]; rfl
      have TT : Hid (fq s = ⟨s.k, s.h, 0, 0, 0⟩ ∧ fe s = 0 ∧ fd s = x ∧ fm s = 0) := by show fq s = _ ∧ fe s = _ ∧ fd s = _ ∧ fm s = _; unfold fq fe fd fm; rw [FK.out, EQ.out]; exact ⟨rfl, rfl, by show s.d.toNat = x; omega, rfl⟩
      have g0 : ¬ (x : Int) < 0 := by omega
      have g1 : ¬ (16777215 : Int) < x := by omega
      have KX : Hid (s.d = x) := hx
      rw [hx] at a5
      clear hx d0 d1
      obtain ⟨W3, s3, ko, hk3⟩ := SVo_run (q := ⟨s.k, 0, 0, 0, 0⟩) (d := .slice none 0 0) (m := .slice none 0 0) (Blk.newAt W2 zA zA.toList 28 W2.heap.size rfl rfl) rfl rfl rfl
      have s3' : (SVo ⟨W2.heap.size, 0, none⟩ (.agg #[.int .u8 s.k, .int .i64 0, .int .u8 0, .int .i64 0, .int .i64 0, .slice none 0 0, .slice none 0 0])).run Try.prog (W2.alloc (.cells zA 28)) = .ok () W3 := s3
      have b3 : Below W2.heap.size W2 W3 := (below_alloc W2 _).trans (hk3.below (by simp) (fun j hj e => by omega))
      have o2' : (W2.alloc (.cells zA 28)).cell? ⟨w.heap.size, 0, none⟩ = _ := (KA.out.alloc _).cell 0 _ rfl
      replace BW := hid (below_next BW.out b3)
      replace KA := hid (KA.out.below b3)
      replace KR := hid (KR.out.below b3)
      replace KU := hid (KU.out.below b3)
      have Z3 : Hid (W2.heap.size < W3.heap.size) := ko.lt
      clear b3 hk3 s3
      have uh3 := KU.out.cell 0 _ rfl
      have oh3 := KA.out.cell 1 _ rfl
      have sh3 := ko.cell 1 _ rfl
      have fh3 := ko.frozen 1
      obtain ⟨W4, hW4⟩ : ∃ W, W3.setCell ⟨W2.heap.size, 1, none⟩ (.int .i64 s.h) = W := ⟨_, rfl⟩
      have hkW4 := Kp.setCell (w := W3) W2.heap.size 1 (.int .i64 s.h)
      rw [hW4] at hkW4
      have kW4 : Blk W4 W2.heap.size (oL ⟨s.k, s.h, 0, 0, 0⟩ (.slice none 0 0) (.slice none 0 0)) 28 := by rw [← hW4]; exact ko.set 1 _
      replace KA := hid (KA.out.kept hkW4 (by have := Z0.out; have := Z1.out; have := Z2.out; omega))
      replace KU := hid (KU.out.kept hkW4 (by have := Z2.out; omega))
      replace KR := hid (KR.out.kept hkW4 (by have := Z0.out; have := Z1.out; have := Z2.out; omega))
      replace BW := hid (BW.out.trans (hkW4.below BW.out.size (fun j hj e => by have := Z0.out; have := Z1.out; have := Z2.out; omega)))
      replace Z3 : Hid (W2.heap.size < W4.heap.size) := kW4.lt
      clear hkW4
      have ua4 := KU.out.cell 1 _ rfl
      have uc4 := KU.out.cell 2 _ rfl
      have uo4 := KU.out.cell 3 _ rfl
      have KO := hid kW4
      clear ko kW4
      have ud := KU.out.cell 4 _ rfl
      have vd := KA.out.cell 5 _ rfl
      rw [KX.out] at vd
      go_wp2_with fail
      clear ud vd
      refine (many_ok x b W4 HB.out (by omega)).mono ?_
      rintro e V1 ⟨d9, rfl, od, hb⟩
      obtain ⟨a8, c8, rfl⟩ := own_lit_slice od
      have rd := own_row od
      replace BW := hid (below_next BW.out hb)
      replace KA := hid (KA.out.below hb)
      replace KR := hid (KR.out.below hb)
      replace KU := hid (KU.out.below hb)
      replace KO := hid (KO.out.below hb)
      have sd := KO.out.cell 5 _ rfl
      have fd := KO.out.frozen 5
      obtain ⟨U1, hU1⟩ : ∃ W, V1.setCell ⟨W2.heap.size, 5, none⟩ (.slice a8 x c8) = W := ⟨_, rfl⟩
      have hk1 := Kp.setCell (w := V1) W2.heap.size 5 (.slice a8 x c8)
      rw [hU1] at hk1
      have ko1 : Blk U1 W2.heap.size (oL ⟨s.k, s.h, 0, 0, 0⟩ (.slice a8 x c8) (.slice none 0 0)) 28 := by rw [← hU1]; exact KO.out.set 5 _
      replace KA := hid (KA.out.kept hk1 (by have := Z0.out; have := Z1.out; have := Z2.out; omega))
      replace KU := hid (KU.out.kept hk1 (by have := Z2.out; omega))
      replace KR := hid (KR.out.kept hk1 (by have := Z0.out; have := Z1.out; have := Z2.out; omega))
      have OD : Hid (By.Own U1 W4.heap.size (.slice a8 x c8) x (fun _ => b)) := own_keptB od hk1 (fun j e h => by have := rd j e; have := Z3.out; omega)
      have ZV : Hid (W4.heap.size ≤ U1.heap.size) := Nat.le_trans hb.size hk1.size
      replace BW := hid (BW.out.trans (hk1.below BW.out.size (fun j hj e => by have := Z0.out; have := Z1.out; have := Z2.out; omega)))
      replace KO := hid ko1
      clear hk1 ko1 od rd hb
      have um := KU.out.cell 5 _ rfl
      have l4 : (LDo ⟨W2.heap.size, 0, none⟩).run Try.prog U1 = .ok (.agg #[.int .u8 s.k, .int .i64 s.h, .int .u8 0, .int .i64 0, .int .i64 0, (.slice a8 x c8), (.slice none 0 0)]) U1 := LDo_run KO.out
      obtain ⟨W9, s9, k9, hk9⟩ := SVo_run (q := ⟨s.k, s.h, 0, 0, 0⟩) (d := (.slice a8 x c8)) (m := (.slice none 0 0)) KR.out rfl rfl rfl
      have s9' : (SVo ⟨w.heap.size + 1, 0, none⟩ (.agg #[.int .u8 s.k, .int .i64 s.h, .int .u8 0, .int .i64 0, .int .i64 0, (.slice a8 x c8), (.slice none 0 0)])).run Try.prog U1 = .ok () W9 := s9
      have L9 := hid (LDo_run k9)
      have R9 : Hid (By.Own W9 w.heap.size (.slice a8 x c8) x (fun _ => b) ∧ By.Own W9 w.heap.size (.slice none 0 0) 0 (fun _ => b) ∧ (Value.ownBlock (.slice a8 x c8) = none ∨ Value.ownBlock (.slice a8 x c8) ≠ Value.ownBlock (.slice none 0 0)) ∧ Below w.heap.size w W9) := by
        have g0 := Z0.out
        have g1 := Z1.out
        have g2 := Z2.out
        have g3 := Z3.out
        refine ⟨own_base (own_keptB OD.out hk9 (fun j e h => by have := own_row OD.out j e; omega)) (by omega), own_nil _ _ _ (cst_b HB.out), nil_apart _, BW.out.trans (hk9.below BW.out.size (fun j _ e => by omega))⟩
      clear s9 k9 hk9 KR KA KU KO BW Z0 Z1 Z2 Z3 EU OD ZV
      go_wp2_with fail
      refine bodyPost_ret (Tb.results_cell2 rfl rfl rfl L9.out) rfl ?_
      rw [TT.out.1, TT.out.2.1]
      refine ⟨_, _, rfl, ?_⟩
      unfold ToldF
      rw [TT.out.2.2.1, TT.out.2.2.2]
      exact R9.out
set_option maxRecDepth 8000 in
set_option maxHeartbeats 1200000 in
theorem rfill_6 (s : Sk) (b : Int) (w : World) (hb : 0 ≤ b ∧ b < 256) (hk : s.k = 6) : Calls Try.prog 23 #[sv s, .int .u8 b] w fun e w' => ∃ d m, e = .returned (.tuple #[ov (fq s) d m, .int .i64 (fe s)]) ∧ ToldF w w' s b d m := by
  obtain ⟨W0, hW0⟩ : ∃ W, (w.alloc (.cells #[Value.int IntKind.u8 s.k, Value.int IntKind.i64 s.h, Value.int IntKind.u8 s.a, Value.int IntKind.i64 s.c, Value.int IntKind.i64 s.o, Value.int IntKind.i64 s.d, Value.int IntKind.i64 s.m] 33)).alloc (.cells zA 28) = W := ⟨_, rfl⟩
  have KA : Hid (Blk W0 w.heap.size (sL s) 33) := by rw [← hW0]; exact (Blk.newAt w _ _ _ w.heap.size rfl rfl).alloc _
  have KR : Hid (Blk W0 (w.heap.size + 1) zA.toList 28) := by rw [← hW0]; exact Blk.newAt (w.alloc _) _ _ _ (w.heap.size + 1) (by simp) rfl
  have Z0 : Hid (W0.heap.size = w.heap.size + 1 + 1) := by show W0.heap.size = _; rw [← hW0]; simp
  have BW : Hid (Below w.heap.size w W0) := by rw [← hW0]; exact below_next (below_alloc _ _) (below_alloc _ _)
  have E : uH s.k = true ∧ uA s.k = false ∧ uC s.k = false ∧ uO s.k = false ∧ uD s.k = false ∧ uM s.k = false := by rw [hk]; decide
  have EQ : Hid (ps s = ⟨s.k, s.h, 0, 0, 0, 0, 0⟩) := by
    show ps s = _
    unfold ps
    rw [E.1, E.2.1, E.2.2.1, E.2.2.2.1, E.2.2.2.2.1, E.2.2.2.2.2]
    rfl
  have EU : Hid (uv s.k = .agg #[.bool true, .bool false, .bool false, .bool false, .bool false, .bool false] ∧ uL s.k = [.bool true, .bool false, .bool false, .bool false, .bool false, .bool false]) := by
    show uv s.k = _ ∧ uL s.k = _
    unfold uv uL
    rw [E.1, E.2.1, E.2.2.1, E.2.2.2.1, E.2.2.2.2.1, E.2.2.2.2.2]
    exact ⟨rfl, rfl⟩
  have HB := hid hb
  have c0 := KA.out.cell 0 _ rfl
  clear hk E hb
  go_enter Try.func23, Try.ntmps23
  go_wp2_with fail
  clear hW0 c0
  refine (ruse_ok s.k W0).mono ?_
  rintro e W1 ⟨rfl, hb⟩
  rw [EU.out.1]
  replace BW := hid (below_next BW.out hb)
  replace KA := hid (KA.out.below hb)
  replace KR := hid (KR.out.below hb)
  have Z1 : Hid (W0.heap.size ≤ W1.heap.size) := hb.size
  clear hb
  obtain ⟨W2, s2, ku, hk2⟩ := SVu_run s.k (Blk.newAt W1 fU fU.toList 58 W1.heap.size rfl rfl) rfl
  rw [EU.out.1] at s2
  rw [EU.out.2] at ku
  have b2 : Below W1.heap.size W1 W2 := (below_alloc W1 _).trans (hk2.below (by simp) (fun j hj e => by omega))
  replace BW := hid (below_next BW.out b2)
  replace KA := hid (KA.out.below b2)
  replace KR := hid (KR.out.below b2)
  have Z2 : Hid (W1.heap.size < W2.heap.size) := ku.lt
  have KU := hid ku
  clear b2 hk2 ku
  have u5 := KU.out.cell 4 _ rfl
  have u6 := KU.out.cell 5 _ rfl
  have a0 := KA.out.cell 0 _ rfl
  have a5 := KA.out.cell 5 _ rfl
  have a6 := KA.out.cell 6 _ rfl
  have FK : Hid (fk s = true) := by show fk s = true; unfold fk; rw [EQ.out]; show (mb 0 && mb 0) = true; rw [show mb 0 = true from decide_eq_true (by omega)]; rfl
  have TT : Hid (fq s = ⟨s.k, s.h, 0, 0, 0⟩ ∧ fe s = 0 ∧ fd s = 0 ∧ fm s = 0) := by show fq s = _ ∧ fe s = _ ∧ fd s = _ ∧ fm s = _; unfold fq fe fd fm; rw [FK.out, EQ.out]; exact ⟨rfl, rfl, rfl, rfl⟩
  obtain ⟨W3, s3, ko, hk3⟩ := SVo_run (q := ⟨s.k, 0, 0, 0, 0⟩) (d := .slice none 0 0) (m := .slice none 0 0) (Blk.newAt W2 zA zA.toList 28 W2.heap.size rfl rfl) rfl rfl rfl
  have s3' : (SVo ⟨W2.heap.size, 0, none⟩ (.agg #[.int .u8 s.k, .int .i64 0, .int .u8 0, .int .i64 0, .int .i64 0, .slice none 0 0, .slice none 0 0])).run Try.prog (W2.alloc (.cells zA 28)) = .ok () W3 := s3
  have b3 : Below W2.heap.size W2 W3 := (below_alloc W2 _).trans (hk3.below (by simp) (fun j hj e => by omega))
  have o2' : (W2.alloc (.cells zA 28)).cell? ⟨w.heap.size, 0, none⟩ = _ := (KA.out.alloc _).cell 0 _ rfl
  replace BW := hid (below_next BW.out b3)
  replace KA := hid (KA.out.below b3)
  replace KR := hid (KR.out.below b3)
  replace KU := hid (KU.out.below b3)
  have Z3 : Hid (W2.heap.size < W3.heap.size) := ko.lt
  clear b3 hk3 s3
  have uh3 := KU.out.cell 0 _ rfl
  have oh3 := KA.out.cell 1 _ rfl
  have sh3 := ko.cell 1 _ rfl
  have fh3 := ko.frozen 1
  obtain ⟨W4, hW4⟩ : ∃ W, W3.setCell ⟨W2.heap.size, 1, none⟩ (.int .i64 s.h) = W := ⟨_, rfl⟩
  have hkW4 := Kp.setCell (w := W3) W2.heap.size 1 (.int .i64 s.h)
  rw [hW4] at hkW4
  have kW4 : Blk W4 W2.heap.size (oL ⟨s.k, s.h, 0, 0, 0⟩ (.slice none 0 0) (.slice none 0 0)) 28 := by rw [← hW4]; exact ko.set 1 _
  replace KA := hid (KA.out.kept hkW4 (by have := Z0.out; have := Z1.out; have := Z2.out; omega))
  replace KU := hid (KU.out.kept hkW4 (by have := Z2.out; omega))
  replace KR := hid (KR.out.kept hkW4 (by have := Z0.out; have := Z1.out; have := Z2.out; omega))
  replace BW := hid (BW.out.trans (hkW4.below BW.out.size (fun j hj e => by have := Z0.out; have := Z1.out; have := Z2.out; omega)))
  replace Z3 : Hid (W2.heap.size < W4.heap.size) := kW4.lt
  clear hkW4
  have ua4 := KU.out.cell 1 _ rfl
  have uc4 := KU.out.cell 2 _ rfl
  have uo4 := KU.out.cell 3 _ rfl
  have KO := hid kW4
  clear ko kW4
  have ud := KU.out.cell 4 _ rfl
  have um := KU.out.cell 5 _ rfl
  have l4 : (LDo ⟨W2.heap.size, 0, none⟩).run Try.prog W4 = .ok (.agg #[.int .u8 s.k, .int .i64 s.h, .int .u8 0, .int .i64 0, .int .i64 0, (.slice none 0 0), (.slice none 0 0)]) W4 := LDo_run KO.out
  obtain ⟨W9, s9, k9, hk9⟩ := SVo_run (q := ⟨s.k, s.h, 0, 0, 0⟩) (d := (.slice none 0 0)) (m := (.slice none 0 0)) KR.out rfl rfl rfl
  have s9' : (SVo ⟨w.heap.size + 1, 0, none⟩ (.agg #[.int .u8 s.k, .int .i64 s.h, .int .u8 0, .int .i64 0, .int .i64 0, (.slice none 0 0), (.slice none 0 0)])).run Try.prog W4 = .ok () W9 := s9
  have L9 := hid (LDo_run k9)
  have R9 : Hid (By.Own W9 w.heap.size (.slice none 0 0) 0 (fun _ => b) ∧ By.Own W9 w.heap.size (.slice none 0 0) 0 (fun _ => b) ∧ (Value.ownBlock (.slice none 0 0) = none ∨ Value.ownBlock (.slice none 0 0) ≠ Value.ownBlock (.slice none 0 0)) ∧ Below w.heap.size w W9) := by
    have g0 := Z0.out
    have g1 := Z1.out
    have g2 := Z2.out
    have g3 := Z3.out
    refine ⟨own_nil _ _ _ (cst_b HB.out), own_nil _ _ _ (cst_b HB.out), .inl rfl, BW.out.trans (hk9.below BW.out.size (fun j _ e => by omega))⟩
  clear s9 k9 hk9 KR KA KU KO BW Z0 Z1 Z2 Z3 EU
  go_wp2_with fail
  refine bodyPost_ret (Tb.results_cell2 rfl rfl rfl L9.out) rfl ?_
  rw [TT.out.1, TT.out.2.1]
  refine ⟨_, _, rfl, ?_⟩
  unfold ToldF
  rw [TT.out.2.2.1, TT.out.2.2.2]
  exact R9.out
set_option maxRecDepth 8000 in
set_option maxHeartbeats 1200000 in
theorem rfill_7 (s : Sk) (b : Int) (w : World) (hb : 0 ≤ b ∧ b < 256) (hk : s.k = 7) : Calls Try.prog 23 #[sv s, .int .u8 b] w fun e w' => ∃ d m, e = .returned (.tuple #[ov (fq s) d m, .int .i64 (fe s)]) ∧ ToldF w w' s b d m := by
  obtain ⟨W0, hW0⟩ : ∃ W, (w.alloc (.cells #[Value.int IntKind.u8 s.k, Value.int IntKind.i64 s.h, Value.int IntKind.u8 s.a, Value.int IntKind.i64 s.c, Value.int IntKind.i64 s.o, Value.int IntKind.i64 s.d, Value.int IntKind.i64 s.m] 33)).alloc (.cells zA 28) = W := ⟨_, rfl⟩
  have KA : Hid (Blk W0 w.heap.size (sL s) 33) := by rw [← hW0]; exact (Blk.newAt w _ _ _ w.heap.size rfl rfl).alloc _
  have KR : Hid (Blk W0 (w.heap.size + 1) zA.toList 28) := by rw [← hW0]; exact Blk.newAt (w.alloc _) _ _ _ (w.heap.size + 1) (by simp) rfl
  have Z0 : Hid (W0.heap.size = w.heap.size + 1 + 1) := by show W0.heap.size = _; rw [← hW0]; simp
  have BW : Hid (Below w.heap.size w W0) := by rw [← hW0]; exact below_next (below_alloc _ _) (below_alloc _ _)
  have E : uH s.k = true ∧ uA s.k = true ∧ uC s.k = false ∧ uO s.k = true ∧ uD s.k = true ∧ uM s.k = true := by rw [hk]; decide
  have EQ : Hid (ps s = ⟨s.k, s.h, s.a, 0, s.o, s.d, s.m⟩) := by
    show ps s = _
    unfold ps
    rw [E.1, E.2.1, E.2.2.1, E.2.2.2.1, E.2.2.2.2.1, E.2.2.2.2.2]
    rfl
  have EU : Hid (uv s.k = .agg #[.bool true, .bool true, .bool false, .bool true, .bool true, .bool true] ∧ uL s.k = [.bool true, .bool true, .bool false, .bool true, .bool true, .bool true]) := by
    show uv s.k = _ ∧ uL s.k = _
    unfold uv uL
    rw [E.1, E.2.1, E.2.2.1, E.2.2.2.1, E.2.2.2.2.1, E.2.2.2.2.2]
    exact ⟨rfl, rfl⟩
  have HB := hid hb
  have c0 := KA.out.cell 0 _ rfl
  clear hk E hb
  go_enter Try.func23, Try.ntmps23
  go_wp2_with fail
  clear hW0 c0
  refine (ruse_ok s.k W0).mono ?_
  rintro e W1 ⟨rfl, hb⟩
  rw [EU.out.1]
  replace BW := hid (below_next BW.out hb)
  replace KA := hid (KA.out.below hb)
  replace KR := hid (KR.out.below hb)
  have Z1 : Hid (W0.heap.size ≤ W1.heap.size) := hb.size
  clear hb
  obtain ⟨W2, s2, ku, hk2⟩ := SVu_run s.k (Blk.newAt W1 fU fU.toList 58 W1.heap.size rfl rfl) rfl
  rw [EU.out.1] at s2
  rw [EU.out.2] at ku
  have b2 : Below W1.heap.size W1 W2 := (below_alloc W1 _).trans (hk2.below (by simp) (fun j hj e => by omega))
  replace BW := hid (below_next BW.out b2)
  replace KA := hid (KA.out.below b2)
  replace KR := hid (KR.out.below b2)
  have Z2 : Hid (W1.heap.size < W2.heap.size) := ku.lt
  have KU := hid ku
  clear b2 hk2 ku
  have u5 := KU.out.cell 4 _ rfl
  have u6 := KU.out.cell 5 _ rfl
  have a0 := KA.out.cell 0 _ rfl
  have a5 := KA.out.cell 5 _ rfl
  have a6 := KA.out.cell 6 _ rfl
  by_cases d0 : s.d < 0
  · have FK : Hid (fk s = false) := by show fk s = false; unfold fk; rw [EQ.out]; show (mb s.d && _) = false; rw [show mb s.d = false from decide_eq_false (by omega)]; rfl
    have TT : Hid (fq s = ⟨0, 0, 0, 0, 0⟩ ∧ fe s = 2 ∧ fd s = 0 ∧ fm s = 0) := by show fq s = _ ∧ fe s = _ ∧ fd s = _ ∧ fm s = _; unfold fq fe fd fm; rw [FK.out]; exact ⟨rfl, rfl, rfl, rfl⟩
    obtain ⟨W9, s9, k9, hk9⟩ := SVo_run (q := ⟨0, 0, 0, 0, 0⟩) (d := .slice none 0 0) (m := .slice none 0 0) KR.out rfl rfl rfl
    have s9' : (SVo ⟨w.heap.size + 1, 0, none⟩ (.agg #[Value.int IntKind.u8 0, Value.int IntKind.i64 0, Value.int IntKind.u8 0, Value.int IntKind.i64 0, Value.int IntKind.i64 0, Value.slice none 0 0, Value.slice none 0 0])).run Try.prog W2 = .ok () W9 := s9
    have L9 := hid (LDo_run k9)
    have B9 : Hid (Below w.heap.size w W9) := BW.out.trans (hk9.below BW.out.size (fun j _ e => by omega))
    clear s9 k9 hk9 KR KA KU BW
    go_wp2_with fail
    refine bodyPost_ret (Tb.results_cell2 rfl rfl rfl L9.out) rfl ?_
    rw [TT.out.1, TT.out.2.1]
    refine ⟨_, _, rfl, ?_⟩
    unfold ToldF
    rw [TT.out.2.2.1, TT.out.2.2.2]
    exact ⟨own_nil _ _ _ (cst_b HB.out), own_nil _ _ _ (cst_b HB.out), .inl rfl, B9.out⟩
  · by_cases d1 : 16777215 < s.d
    · have FK : Hid (fk s = false) := by show fk s = false; unfold fk; rw [EQ.out]; show (mb s.d && _) = false; rw [show mb s.d = false from decide_eq_false (by omega)]; rfl
      have TT : Hid (fq s = ⟨0, 0, 0, 0, 0⟩ ∧ fe s = 2 ∧ fd s = 0 ∧ fm s = 0) := by show fq s = _ ∧ fe s = _ ∧ fd s = _ ∧ fm s = _; unfold fq fe fd fm; rw [FK.out]; exact ⟨rfl, rfl, rfl, rfl⟩
      obtain ⟨W9, s9, k9, hk9⟩ := SVo_run (q := ⟨0, 0, 0, 0, 0⟩) (d := .slice none 0 0) (m := .slice none 0 0) KR.out rfl rfl rfl
      have s9' : (SVo ⟨w.heap.size + 1, 0, none⟩ (.agg #[Value.int IntKind.u8 0, Value.int IntKind.i64 0, Value.int IntKind.u8 0, Value.int IntKind.i64 0, Value.int IntKind.i64 0, Value.slice none 0 0, Value.slice none 0 0])).run Try.prog W2 = .ok () W9 := s9
      have L9 := hid (LDo_run k9)
      have B9 : Hid (Below w.heap.size w W9) := BW.out.trans (hk9.below BW.out.size (fun j _ e => by omega))
      clear s9 k9 hk9 KR KA KU BW
      go_wp2_with fail
      refine bodyPost_ret (Tb.results_cell2 rfl rfl rfl L9.out) rfl ?_
      rw [TT.out.1, TT.out.2.1]
      refine ⟨_, _, rfl, ?_⟩
      unfold ToldF
      rw [TT.out.2.2.1, TT.out.2.2.2]
      exact ⟨own_nil _ _ _ (cst_b HB.out), own_nil _ _ _ (cst_b HB.out), .inl rfl, B9.out⟩
    · by_cases m0 : s.m < 0
      · have FK : Hid (fk s = false) := by show fk s = false; unfold fk; rw [EQ.out]; show (_ && mb s.m) = false; rw [show mb s.m = false from decide_eq_false (by omega), Bool.and_false]
        have TT : Hid (fq s = ⟨0, 0, 0, 0, 0⟩ ∧ fe s = 2 ∧ fd s = 0 ∧ fm s = 0) := by show fq s = _ ∧ fe s = _ ∧ fd s = _ ∧ fm s = _; unfold fq fe fd fm; rw [FK.out]; exact ⟨rfl, rfl, rfl, rfl⟩
        obtain ⟨W9, s9, k9, hk9⟩ := SVo_run (q := ⟨0, 0, 0, 0, 0⟩) (d := .slice none 0 0) (m := .slice none 0 0) KR.out rfl rfl rfl
        have s9' : (SVo ⟨w.heap.size + 1, 0, none⟩ (.agg #[Value.int IntKind.u8 0, Value.int IntKind.i64 0, Value.int IntKind.u8 0, Value.int IntKind.i64 0, Value.int IntKind.i64 0, Value.slice none 0 0, Value.slice none 0 0])).run Try.prog W2 = .ok () W9 := s9
        have L9 := hid (LDo_run k9)
        have B9 : Hid (Below w.heap.size w W9) := BW.out.trans (hk9.below BW.out.size (fun j _ e => by omega))
        clear s9 k9 hk9 KR KA KU BW
        go_wp2_with fail
        refine bodyPost_ret (Tb.results_cell2 rfl rfl rfl L9.out) rfl ?_
        rw [TT.out.1, TT.out.2.1]
        refine ⟨_, _, rfl, ?_⟩
        unfold ToldF
        rw [TT.out.2.2.1, TT.out.2.2.2]
        exact ⟨own_nil _ _ _ (cst_b HB.out), own_nil _ _ _ (cst_b HB.out), .inl rfl, B9.out⟩
      · by_cases m1 : 16777215 < s.m
        · have FK : Hid (fk s = false) := by show fk s = false; unfold fk; rw [EQ.out]; show (_ && mb s.m) = false; rw [show mb s.m = false from decide_eq_false (by omega), Bool.and_false]
          have TT : Hid (fq s = ⟨0, 0, 0, 0, 0⟩ ∧ fe s = 2 ∧ fd s = 0 ∧ fm s = 0) := by show fq s = _ ∧ fe s = _ ∧ fd s = _ ∧ fm s = _; unfold fq fe fd fm; rw [FK.out]; exact ⟨rfl, rfl, rfl, rfl⟩
          obtain ⟨W9, s9, k9, hk9⟩ := SVo_run (q := ⟨0, 0, 0, 0, 0⟩) (d := .slice none 0 0) (m := .slice none 0 0) KR.out rfl rfl rfl
          have s9' : (SVo ⟨w.heap.size + 1, 0, none⟩ (.agg #[Value.int IntKind.u8 0, Value.int IntKind.i64 0, Value.int IntKind.u8 0, Value.int IntKind.i64 0, Value.int IntKind.i64 0, Value.slice none 0 0, Value.slice none 0 0])).run Try.prog W2 = .ok () W9 := s9
          have L9 := hid (LDo_run k9)
          have B9 : Hid (Below w.heap.size w W9) := BW.out.trans (hk9.below BW.out.size (fun j _ e => by omega))
          clear s9 k9 hk9 KR KA KU BW
          go_wp2_with fail
          refine bodyPost_ret (Tb.results_cell2 rfl rfl rfl L9.out) rfl ?_
          rw [TT.out.1, TT.out.2.1]
          refine ⟨_, _, rfl, ?_⟩
          unfold ToldF
          rw [TT.out.2.2.1, TT.out.2.2.2]
          exact ⟨own_nil _ _ _ (cst_b HB.out), own_nil _ _ _ (cst_b HB.out), .inl rfl, B9.out⟩
        · obtain ⟨x, hx⟩ : ∃ x : Nat, s.d = x := ⟨s.d.toNat, by omega⟩
          have hx2 : x ≤ 16777215 := by omega
          obtain ⟨y, hy⟩ : ∃ y : Nat, s.m = y := ⟨s.m.toNat, by omega⟩
          have hy2 : y ≤ 16777215 := by omega
          have FK : Hid (fk s = true) := by show fk s = true; unfold fk; rw [EQ.out]; show (mb s.d && mb s.m) = true; rw [show mb s.d = true from decide_eq_true (by omega), show mb s.m = true from decide_eq_true (by omega)]; rfl
          have TT : Hid (fq s = ⟨s.k, s.h, s.a, 0, s.o⟩ ∧ fe s = 0 ∧ fd s = x ∧ fm s = y) := by show fq s = _ ∧ fe s = _ ∧ fd s = _ ∧ fm s = _; unfold fq fe fd fm; rw [FK.out, EQ.out]; exact ⟨rfl, rfl, by show s.d.toNat = x; omega, by show s.m.toNat = y; omega⟩
          have g0 : ¬ (x : Int) < 0 := by omega
          have g1 : ¬ (16777215 : Int) < x := by omega
          have KX : Hid (s.d = x) := hx
          rw [hx] at a5
          have g2 : ¬ (y : Int) < 0 := by omega
          have g3 : ¬ (16777215 : Int) < y := by omega
          have KY : Hid (s.m = y) := hy
          rw [hy] at a6
          clear hx d0 d1 hy m0 m1
          obtain ⟨W3, s3, ko, hk3⟩ := SVo_run (q := ⟨s.k, 0, 0, 0, 0⟩) (d := .slice none 0 0) (m := .slice none 0 0) (Blk.newAt W2 zA zA.toList 28 W2.heap.size rfl rfl) rfl rfl rfl
          have s3' : (SVo ⟨W2.heap.size, 0, none⟩ (.agg #[.int .u8 s.k, .int .i64 0, .int .u8 0, .int .i64 0, .int .i64 0, .slice none 0 0, .slice none 0 0])).run Try.prog (W2.alloc (.cells zA 28)) = .ok () W3 := s3
          have b3 : Below W2.heap.size W2 W3 := (below_alloc W2 _).trans (hk3.below (by simp) (fun j hj e => by omega))
          have o2' : (W2.alloc (.cells zA 28)).cell? ⟨w.heap.size, 0, none⟩ = _ := (KA.out.alloc _).cell 0 _ rfl
          replace BW := hid (below_next BW.out b3)
          replace KA := hid (KA.out.below b3)
          replace KR := hid (KR.out.below b3)
          replace KU := hid (KU.out.below b3)
          have Z3 : Hid (W2.heap.size < W3.heap.size) := ko.lt
          clear b3 hk3 s3
          have uh3 := KU.out.cell 0 _ rfl
          have oh3 := KA.out.cell 1 _ rfl
          have sh3 := ko.cell 1 _ rfl
          have fh3 := ko.frozen 1
          obtain ⟨W4, hW4⟩ : ∃ W, W3.setCell ⟨W2.heap.size, 1, none⟩ (.int .i64 s.h) = W := ⟨_, rfl⟩
          have hkW4 := Kp.setCell (w := W3) W2.heap.size 1 (.int .i64 s.h)
          rw [hW4] at hkW4
          have kW4 : Blk W4 W2.heap.size (oL ⟨s.k, s.h, 0, 0, 0⟩ (.slice none 0 0) (.slice none 0 0)) 28 := by rw [← hW4]; exact ko.set 1 _
          replace KA := hid (KA.out.kept hkW4 (by have := Z0.out; have := Z1.out; have := Z2.out; omega))
          replace KU := hid (KU.out.kept hkW4 (by have := Z2.out; omega))
          replace KR := hid (KR.out.kept hkW4 (by have := Z0.out; have := Z1.out; have := Z2.out; omega))
          replace BW := hid (BW.out.trans (hkW4.below BW.out.size (fun j hj e => by have := Z0.out; have := Z1.out; have := Z2.out; omega)))
          replace Z3 : Hid (W2.heap.size < W4.heap.size) := kW4.lt
          clear hkW4
          have ua4 := KU.out.cell 1 _ rfl
          have oa4 := KA.out.cell 2 _ rfl
          have sa4 := kW4.cell 2 _ rfl
          have fa4 := kW4.frozen 2
          obtain ⟨W5, hW5⟩ : ∃ W, W4.setCell ⟨W2.heap.size, 2, none⟩ (.int .u8 s.a) = W := ⟨_, rfl⟩
          have hkW5 := Kp.setCell (w := W4) W2.heap.size 2 (.int .u8 s.a)
          rw [hW5] at hkW5
          have kW5 : Blk W5 W2.heap.size (oL ⟨s.k, s.h, s.a, 0, 0⟩ (.slice none 0 0) (.slice none 0 0)) 28 := by rw [← hW5]; exact kW4.set 2 _
          replace KA := hid (KA.out.kept hkW5 (by have := Z0.out; have := Z1.out; have := Z2.out; omega))
          replace KU := hid (KU.out.kept hkW5 (by have := Z2.out; omega))
          replace KR := hid (KR.out.kept hkW5 (by have := Z0.out; have := Z1.out; have := Z2.out; omega))
          replace BW := hid (BW.out.trans (hkW5.below BW.out.size (fun j hj e => by have := Z0.out; have := Z1.out; have := Z2.out; omega)))
          replace Z3 : Hid (W2.heap.size < W5.heap.size) := kW5.lt
          clear hkW5 kW4
          have uc5 := KU.out.cell 2 _ rfl
          have uo5 := KU.out.cell 3 _ rfl
          have oo5 := KA.out.cell 4 _ rfl
          have so5 := kW5.cell 4 _ rfl
          have fo5 := kW5.frozen 4
          obtain ⟨W6, hW6⟩ : ∃ W, W5.setCell ⟨W2.heap.size, 4, none⟩ (.int .i64 s.o) = W := ⟨_, rfl⟩
          have hkW6 := Kp.setCell (w := W5) W2.heap.size 4 (.int .i64 s.o)
          rw [hW6] at hkW6
          have kW6 : Blk W6 W2.heap.size (oL ⟨s.k, s.h, s.a, 0, s.o⟩ (.slice none 0 0) (.slice none 0 0)) 28 := by rw [← hW6]; exact kW5.set 4 _
          replace KA := hid (KA.out.kept hkW6 (by have := Z0.out; have := Z1.out; have := Z2.out; omega))
          replace KU := hid (KU.out.kept hkW6 (by have := Z2.out; omega))
          replace KR := hid (KR.out.kept hkW6 (by have := Z0.out; have := Z1.out; have := Z2.out; omega))
          replace BW := hid (BW.out.trans (hkW6.below BW.out.size (fun j hj e => by have := Z0.out; have := Z1.out; have := Z2.out; omega)))
          replace Z3 : Hid (W2.heap.size < W6.heap.size) := kW6.lt
          clear hkW6 kW5
          have KO := hid kW6
          clear ko kW6
          have ud := KU.out.cell 4 _ rfl
          have vd := KA.out.cell 5 _ rfl
          rw [KX.out] at vd
          go_wp2_with fail
          clear ud vd
          refine (many_ok x b W6 HB.out (by omega)).mono ?_
          rintro e V1 ⟨d9, rfl, od, hb⟩
          obtain ⟨a8, c8, rfl⟩ := own_lit_slice od
          have rd := own_row od
          replace BW := hid (below_next BW.out hb)
          replace KA := hid (KA.out.below hb)
          replace KR := hid (KR.out.below hb)
          replace KU := hid (KU.out.below hb)
          replace KO := hid (KO.out.below hb)
          have sd := KO.out.cell 5 _ rfl
          have fd := KO.out.frozen 5
          obtain ⟨U1, hU1⟩ : ∃ W, V1.setCell ⟨W2.heap.size, 5, none⟩ (.slice a8 x c8) = W := ⟨_, rfl⟩
          have hk1 := Kp.setCell (w := V1) W2.heap.size 5 (.slice a8 x c8)
          rw [hU1] at hk1
          have ko1 : Blk U1 W2.heap.size (oL ⟨s.k, s.h, s.a, 0, s.o⟩ (.slice a8 x c8) (.slice none 0 0)) 28 := by rw [← hU1]; exact KO.out.set 5 _
          replace KA := hid (KA.out.kept hk1 (by have := Z0.out; have := Z1.out; have := Z2.out; omega))
          replace KU := hid (KU.out.kept hk1 (by have := Z2.out; omega))
          replace KR := hid (KR.out.kept hk1 (by have := Z0.out; have := Z1.out; have := Z2.out; omega))
          have OD : Hid (By.Own U1 W6.heap.size (.slice a8 x c8) x (fun _ => b)) := own_keptB od hk1 (fun j e h => by have := rd j e; have := Z3.out; omega)
          have ZV : Hid (W6.heap.size ≤ U1.heap.size) := Nat.le_trans hb.size hk1.size
          replace BW := hid (BW.out.trans (hk1.below BW.out.size (fun j hj e => by have := Z0.out; have := Z1.out; have := Z2.out; omega)))
          replace KO := hid ko1
          clear hk1 ko1 od rd hb
          have um := KU.out.cell 5 _ rfl
          have vm := KA.out.cell 6 _ rfl
          rw [KY.out] at vm
          go_wp2_with fail
          clear um vm
          refine (many_ok y b U1 HB.out (by omega)).mono ?_
          rintro e V2 ⟨m9, rfl, om, hb⟩
          obtain ⟨a9, c9, rfl⟩ := own_lit_slice om
          have rm := own_row om
          replace BW := hid (below_next BW.out hb)
          replace KR := hid (KR.out.below hb)
          replace KO := hid (KO.out.below hb)
          have NB := hid hb
          have sm := KO.out.cell 6 _ rfl
          have fm := KO.out.frozen 6
          obtain ⟨U2, hU2⟩ : ∃ W, V2.setCell ⟨W2.heap.size, 6, none⟩ (.slice a9 y c9) = W := ⟨_, rfl⟩
          have hk1 := Kp.setCell (w := V2) W2.heap.size 6 (.slice a9 y c9)
          rw [hU2] at hk1
          have ko1 : Blk U2 W2.heap.size (oL ⟨s.k, s.h, s.a, 0, s.o⟩ (.slice a8 x c8) (.slice a9 y c9)) 28 := by rw [← hU2]; exact KO.out.set 6 _
          replace KR := hid (KR.out.kept hk1 (by have := Z0.out; have := Z1.out; have := Z2.out; omega))
          have AP := hid (own_apart OD.out (Nat.le_refl _) om)
          have OM : Hid (By.Own U2 U1.heap.size (.slice a9 y c9) y (fun _ => b)) := own_keptB om hk1 (fun j e h => by have := rm j e; have := ZV.out; have := Z3.out; omega)
          have R8 := own_row OD.out
          replace OD := hid (own_keptB (own_below OD.out NB.out) hk1 (fun j e h => by have := R8 j e; have := Z3.out; omega))
          replace BW := hid (BW.out.trans (hk1.below BW.out.size (fun j hj e => by have := Z0.out; have := Z1.out; have := Z2.out; omega)))
          replace KO := hid ko1
          clear hk1 ko1 om rm hb R8
          have l4 : (LDo ⟨W2.heap.size, 0, none⟩).run Try.prog U2 = .ok (.agg #[.int .u8 s.k, .int .i64 s.h, .int .u8 s.a, .int .i64 0, .int .i64 s.o, (.slice a8 x c8), (.slice a9 y c9)]) U2 := LDo_run KO.out
          obtain ⟨W9, s9, k9, hk9⟩ := SVo_run (q := ⟨s.k, s.h, s.a, 0, s.o⟩) (d := (.slice a8 x c8)) (m := (.slice a9 y c9)) KR.out rfl rfl rfl
          have s9' : (SVo ⟨w.heap.size + 1, 0, none⟩ (.agg #[.int .u8 s.k, .int .i64 s.h, .int .u8 s.a, .int .i64 0, .int .i64 s.o, (.slice a8 x c8), (.slice a9 y c9)])).run Try.prog U2 = .ok () W9 := s9
          have L9 := hid (LDo_run k9)
          have R9 : Hid (By.Own W9 w.heap.size (.slice a8 x c8) x (fun _ => b) ∧ By.Own W9 w.heap.size (.slice a9 y c9) y (fun _ => b) ∧ (Value.ownBlock (.slice a8 x c8) = none ∨ Value.ownBlock (.slice a8 x c8) ≠ Value.ownBlock (.slice a9 y c9)) ∧ Below w.heap.size w W9) := by
            have g0 := Z0.out
            have g1 := Z1.out
            have g2 := Z2.out
            have g3 := Z3.out
            refine ⟨own_base (own_keptB OD.out hk9 (fun j e h => by have := own_row OD.out j e; omega)) (by omega), own_base (own_keptB OM.out hk9 (fun j e h => by have := own_row OM.out j e; have := ZV.out; omega)) (by have := ZV.out; omega), AP.out, BW.out.trans (hk9.below BW.out.size (fun j _ e => by omega))⟩
          clear s9 k9 hk9 KR KA KU KO BW Z0 Z1 Z2 Z3 EU OD ZV OM AP NB
          go_wp2_with fail
          refine bodyPost_ret (Tb.results_cell2 rfl rfl rfl L9.out) rfl ?_
          rw [TT.out.1, TT.out.2.1]
          refine ⟨_, _, rfl, ?_⟩
          unfold ToldF
          rw [TT.out.2.2.1, TT.out.2.2.2]
          exact R9.out
set_option maxRecDepth 8000 in
set_option maxHeartbeats 1200000 in
theorem rfill_8 (s : Sk) (b : Int) (w : World) (hb : 0 ≤ b ∧ b < 256) (hk : s.k = 8) : Calls Try.prog 23 #[sv s, .int .u8 b] w fun e w' => ∃ d m, e = .returned (.tuple #[ov (fq s) d m, .int .i64 (fe s)]) ∧ ToldF w w' s b d m := by
  obtain ⟨W0, hW0⟩ : ∃ W, (w.alloc (.cells #[Value.int IntKind.u8 s.k, Value.int IntKind.i64 s.h, Value.int IntKind.u8 s.a, Value.int IntKind.i64 s.c, Value.int IntKind.i64 s.o, Value.int IntKind.i64 s.d, Value.int IntKind.i64 s.m] 33)).alloc (.cells zA 28) = W := ⟨_, rfl⟩
  have KA : Hid (Blk W0 w.heap.size (sL s) 33) := by rw [← hW0]; exact (Blk.newAt w _ _ _ w.heap.size rfl rfl).alloc _
  have KR : Hid (Blk W0 (w.heap.size + 1) zA.toList 28) := by rw [← hW0]; exact Blk.newAt (w.alloc _) _ _ _ (w.heap.size + 1) (by simp) rfl
  have Z0 : Hid (W0.heap.size = w.heap.size + 1 + 1) := by show W0.heap.size = _; rw [← hW0]; simp
  have BW : Hid (Below w.heap.size w W0) := by rw [← hW0]; exact below_next (below_alloc _ _) (below_alloc _ _)
  have E : uH s.k = true ∧ uA s.k = true ∧ uC s.k = true ∧ uO s.k = true ∧ uD s.k = true ∧ uM s.k = false := by rw [hk]; decide
  have EQ : Hid (ps s = ⟨s.k, s.h, s.a, s.c, s.o, s.d, 0⟩) := by
    show ps s = _
    unfold ps
    rw [E.1, E.2.1, E.2.2.1, E.2.2.2.1, E.2.2.2.2.1, E.2.2.2.2.2]
    rfl
  have EU : Hid (uv s.k = .agg #[.bool true, .bool true, .bool true, .bool true, .bool true, .bool false] ∧ uL s.k = [.bool true, .bool true, .bool true, .bool true, .bool true, .bool false]) := by
    show uv s.k = _ ∧ uL s.k = _
    unfold uv uL
    rw [E.1, E.2.1, E.2.2.1, E.2.2.2.1, E.2.2.2.2.1, E.2.2.2.2.2]
    exact ⟨rfl, rfl⟩
  have HB := hid hb
  have c0 := KA.out.cell 0 _ rfl
  clear hk E hb
  go_enter Try.func23, Try.ntmps23
  go_wp2_with fail
  clear hW0 c0
  refine (ruse_ok s.k W0).mono ?_
  rintro e W1 ⟨rfl, hb⟩
  rw [EU.out.1]
  replace BW := hid (below_next BW.out hb)
  replace KA := hid (KA.out.below hb)
  replace KR := hid (KR.out.below hb)
  have Z1 : Hid (W0.heap.size ≤ W1.heap.size) := hb.size
  clear hb
  obtain ⟨W2, s2, ku, hk2⟩ := SVu_run s.k (Blk.newAt W1 fU fU.toList 58 W1.heap.size rfl rfl) rfl
  rw [EU.out.1] at s2
  rw [EU.out.2] at ku
  have b2 : Below W1.heap.size W1 W2 := (below_alloc W1 _).trans (hk2.below (by simp) (fun j hj e => by omega))
  replace BW := hid (below_next BW.out b2)
  replace KA := hid (KA.out.below b2)
  replace KR := hid (KR.out.below b2)
  have Z2 : Hid (W1.heap.size < W2.heap.size) := ku.lt
  have KU := hid ku
  clear b2 hk2 ku
  have u5 := KU.out.cell 4 _ rfl
  have u6 := KU.out.cell 5 _ rfl
  have a0 := KA.out.cell 0 _ rfl
  have a5 := KA.out.cell 5 _ rfl
  have a6 := KA.out.cell 6 _ rfl
  by_cases d0 : s.d < 0
  · have FK : Hid (fk s = false) := by show fk s = false; unfold fk; rw [EQ.out]; show (mb s.d && _) = false; rw [show mb s.d = false from decide_eq_false (by omega)]; rfl
    have TT : Hid (fq s = ⟨0, 0, 0, 0, 0⟩ ∧ fe s = 2 ∧ fd s = 0 ∧ fm s = 0) := by show fq s = _ ∧ fe s = _ ∧ fd s = _ ∧ fm s = _; unfold fq fe fd fm; rw [FK.out]; exact ⟨rfl, rfl, rfl, rfl⟩
    obtain ⟨W9, s9, k9, hk9⟩ := SVo_run (q := ⟨0, 0, 0, 0, 0⟩) (d := .slice none 0 0) (m := .slice none 0 0) KR.out rfl rfl rfl
    have s9' : (SVo ⟨w.heap.size + 1, 0, none⟩ (.agg #[Value.int IntKind.u8 0, Value.int IntKind.i64 0, Value.int IntKind.u8 0, Value.int IntKind.i64 0, Value.int IntKind.i64 0, Value.slice none 0 0, Value.slice none 0 0])).run Try.prog W2 = .ok () W9 := s9
    have L9 := hid (LDo_run k9)
    have B9 : Hid (Below w.heap.size w W9) := BW.out.trans (hk9.below BW.out.size (fun j _ e => by omega))
    clear s9 k9 hk9 KR KA KU BW
    go_wp2_with fail
    refine bodyPost_ret (Tb.results_cell2 rfl rfl rfl L9.out) rfl ?_
    rw [TT.out.1, TT.out.2.1]
    refine ⟨_, _, rfl, ?_⟩
    unfold ToldF
    rw [TT.out.2.2.1, TT.out.2.2.2]
    exact ⟨own_nil _ _ _ (cst_b HB.out), own_nil _ _ _ (cst_b HB.out), .inl rfl, B9.out⟩
  · by_cases d1 : 16777215 < s.d
    · have FK : Hid (fk s = false) := by show fk s = false; unfold fk; rw [EQ.out]; show (mb s.d && _) = false; rw [show mb s.d = false from decide_eq_false (by omega)]; rfl
      have TT : Hid (fq s = ⟨0, 0, 0, 0, 0⟩ ∧ fe s = 2 ∧ fd s = 0 ∧ fm s = 0) := by show fq s = _ ∧ fe s = _ ∧ fd s = _ ∧ fm s = _; unfold fq fe fd fm; rw [FK.out]; exact ⟨rfl, rfl, rfl, rfl⟩
      obtain ⟨W9, s9, k9, hk9⟩ := SVo_run (q := ⟨0, 0, 0, 0, 0⟩) (d := .slice none 0 0) (m := .slice none 0 0) KR.out rfl rfl rfl
      have s9' : (SVo ⟨w.heap.size + 1, 0, none⟩ (.agg #[Value.int IntKind.u8 0, Value.int IntKind.i64 0, Value.int IntKind.u8 0, Value.int IntKind.i64 0, Value.int IntKind.i64 0, Value.slice none 0 0, Value.slice none 0 0])).run Try.prog W2 = .ok () W9 := s9
      have L9 := hid (LDo_run k9)
      have B9 : Hid (Below w.heap.size w W9) := BW.out.trans (hk9.below BW.out.size (fun j _ e => by omega))
      clear s9 k9 hk9 KR KA KU BW
      go_wp2_with fail
      refine bodyPost_ret (Tb.results_cell2 rfl rfl rfl L9.out) rfl ?_
      rw [TT.out.1, TT.out.2.1]
      refine ⟨_, _, rfl, ?_⟩
      unfold ToldF
      rw [TT.out.2.2.1, TT.out.2.2.2]
      exact ⟨own_nil _ _ _ (cst_b HB.out), own_nil _ _ _ (cst_b HB.out), .inl rfl, B9.out⟩
    · obtain ⟨x, hx⟩ : ∃ x : Nat, s.d = x := ⟨s.d.toNat, by omega⟩
      have hx2 : x ≤ 16777215 := by omega
      have FK : Hid (fk s = true) := by show fk s = true; unfold fk; rw [EQ.out]; show (mb s.d && mb 0) = true; rw [show mb s.d = true from decide_eq_true (by omega), show mb 0 = true from decide_eq_true (by omega)]; rfl
      have TT : Hid (fq s = ⟨s.k, s.h, s.a, s.c, s.o⟩ ∧ fe s = 0 ∧ fd s = x ∧ fm s = 0) := by show fq s = _ ∧ fe s = _ ∧ fd s = _ ∧ fm s = _; unfold fq fe fd fm; rw [FK.out, EQ.out]; exact ⟨rfl, rfl, by show s.d.toNat = x; omega, rfl⟩
      have g0 : ¬ (x : Int) < 0 := by omega
      have g1 : ¬ (16777215 : Int) < x := by omega
      have KX : Hid (s.d = x) := hx
      rw [hx] at a5
      clear hx d0 d1
      obtain ⟨W3, s3, ko, hk3⟩ := SVo_run (q := ⟨s.k, 0, 0, 0, 0⟩) (d := .slice none 0 0) (m := .slice none 0 0) (Blk.newAt W2 zA zA.toList 28 W2.heap.size rfl rfl) rfl rfl rfl
      have s3' : (SVo ⟨W2.heap.size, 0, none⟩ (.agg #[.int .u8 s.k, .int .i64 0, .int .u8 0, .int .i64 0, .int .i64 0, .slice none 0 0, .slice none 0 0])).run Try.prog (W2.alloc (.cells zA 28)) = .ok () W3 := s3
      have b3 : Below W2.heap.size W2 W3 := (below_alloc W2 _).trans (hk3.below (by simp) (fun j hj e => by omega))
      have o2' : (W2.alloc (.cells zA 28)).cell? ⟨w.heap.size, 0, none⟩ = _ := (KA.out.alloc _).cell 0 _ rfl
      replace BW := hid (below_next BW.out b3)
      replace KA := hid (KA.out.below b3)
      replace KR := hid (KR.out.below b3)
      replace KU := hid (KU.out.below b3)
      have Z3 : Hid (W2.heap.size < W3.heap.size) := ko.lt
      clear b3 hk3 s3
      have uh3 := KU.out.cell 0 _ rfl
      have oh3 := KA.out.cell 1 _ rfl
      have sh3 := ko.cell 1 _ rfl
      have fh3 := ko.frozen 1
      obtain ⟨W4, hW4⟩ : ∃ W, W3.setCell ⟨W2.heap.size, 1, none⟩ (.int .i64 s.h) = W := ⟨_, rfl⟩
      have hkW4 := Kp.setCell (w := W3) W2.heap.size 1 (.int .i64 s.h)
      rw [hW4] at hkW4
      have kW4 : Blk W4 W2.heap.size (oL ⟨s.k, s.h, 0, 0, 0⟩ (.slice none 0 0) (.slice none 0 0)) 28 := by rw [← hW4]; exact ko.set 1 _
      replace KA := hid (KA.out.kept hkW4 (by have := Z0.out; have := Z1.out; have := Z2.out; omega))
      replace KU := hid (KU.out.kept hkW4 (by have := Z2.out; omega))
      replace KR := hid (KR.out.kept hkW4 (by have := Z0.out; have := Z1.out; have := Z2.out; omega))
      replace BW := hid (BW.out.trans (hkW4.below BW.out.size (fun j hj e => by have := Z0.out; have := Z1.out; have := Z2.out; omega)))
      replace Z3 : Hid (W2.heap.size < W4.heap.size) := kW4.lt
      clear hkW4
      have ua4 := KU.out.cell 1 _ rfl
      have oa4 := KA.out.cell 2 _ rfl
      have sa4 := kW4.cell 2 _ rfl
      have fa4 := kW4.frozen 2
      obtain ⟨W5, hW5⟩ : ∃ W, W4.setCell ⟨W2.heap.size, 2, none⟩ (.int .u8 s.a) = W := ⟨_, rfl⟩
      have hkW5 := Kp.setCell (w := W4) W2.heap.size 2 (.int .u8 s.a)
      rw [hW5] at hkW5
      have kW5 : Blk W5 W2.heap.size (oL ⟨s.k, s.h, s.a, 0, 0⟩ (.slice none 0 0) (.slice none 0 0)) 28 := by rw [← hW5]; exact kW4.set 2 _
      replace KA := hid (KA.out.kept hkW5 (by have := Z0.out; have := Z1.out; have := Z2.out; omega))
      replace KU := hid (KU.out.kept hkW5 (by have := Z2.out; omega))
      replace KR := hid (KR.out.kept hkW5 (by have := Z0.out; have := Z1.out; have := Z2.out; omega))
      replace BW := hid (BW.out.trans (hkW5.below BW.out.size (fun j hj e => by have := Z0.out; have := Z1.out; have := Z2.out; omega)))
      replace Z3 : Hid (W2.heap.size < W5.heap.size) := kW5.lt
      clear hkW5 kW4
      have uc5 := KU.out.cell 2 _ rfl
      have oc5 := KA.out.cell 3 _ rfl
      have sc5 := kW5.cell 3 _ rfl
      have fc5 := kW5.frozen 3
      obtain ⟨W6, hW6⟩ : ∃ W, W5.setCell ⟨W2.heap.size, 3, none⟩ (.int .i64 s.c) = W := ⟨_, rfl⟩
      have hkW6 := Kp.setCell (w := W5) W2.heap.size 3 (.int .i64 s.c)
      rw [hW6] at hkW6
      have kW6 : Blk W6 W2.heap.size (oL ⟨s.k, s.h, s.a, s.c, 0⟩ (.slice none 0 0) (.slice none 0 0)) 28 := by rw [← hW6]; exact kW5.set 3 _
      replace KA := hid (KA.out.kept hkW6 (by have := Z0.out; have := Z1.out; have := Z2.out; omega))
      replace KU := hid (KU.out.kept hkW6 (by have := Z2.out; omega))
      replace KR := hid (KR.out.kept hkW6 (by have := Z0.out; have := Z1.out; have := Z2.out; omega))
      replace BW := hid (BW.out.trans (hkW6.below BW.out.size (fun j hj e => by have := Z0.out; have := Z1.out; have := Z2.out; omega)))
      replace Z3 : Hid (W2.heap.size < W6.heap.size) := kW6.lt
      clear hkW6 kW5
      have uo6 := KU.out.cell 3 _ rfl
      have oo6 := KA.out.cell 4 _ rfl
      have so6 := kW6.cell 4 _ rfl
      have fo6 := kW6.frozen 4
      obtain ⟨W7, hW7⟩ : ∃ W, W6.setCell ⟨W2.heap.size, 4, none⟩ (.int .i64 s.o) = W := ⟨_, rfl⟩
      have hkW7 := Kp.setCell (w := W6) W2.heap.size 4 (.int .i64 s.o)
      rw [hW7] at hkW7
      have kW7 : Blk W7 W2.heap.size (oL ⟨s.k, s.h, s.a, s.c, s.o⟩ (.slice none 0 0) (.slice none 0 0)) 28 := by rw [← hW7]; exact kW6.set 4 _
      replace KA := hid (KA.out.kept hkW7 (by have := Z0.out; have := Z1.out; have := Z2.out; omega))
      replace KU := hid (KU.out.kept hkW7 (by have := Z2.out; omega))
      replace KR := hid (KR.out.kept hkW7 (by have := Z0.out; have := Z1.out; have := Z2.out; omega))
      replace BW := hid (BW.out.trans (hkW7.below BW.out.size (fun j hj e => by have := Z0.out; have := Z1.out; have := Z2.out; omega)))
      replace Z3 : Hid (W2.heap.size < W7.heap.size) := kW7.lt
      clear hkW7 kW6
      have KO := hid kW7
      clear ko kW7
      have ud := KU.out.cell 4 _ rfl
      have vd := KA.out.cell 5 _ rfl
      rw [KX.out] at vd
      go_wp2_with fail
      clear ud vd
      refine (many_ok x b W7 HB.out (by omega)).mono ?_
      rintro e V1 ⟨d9, rfl, od, hb⟩
      obtain ⟨a8, c8, rfl⟩ := own_lit_slice od
      have rd := own_row od
      replace BW := hid (below_next BW.out hb)
      replace KA := hid (KA.out.below hb)
      replace KR := hid (KR.out.below hb)
      replace KU := hid (KU.out.below hb)
      replace KO := hid (KO.out.below hb)
      have sd := KO.out.cell 5 _ rfl
      have fd := KO.out.frozen 5
      obtain ⟨U1, hU1⟩ : ∃ W, V1.setCell ⟨W2.heap.size, 5, none⟩ (.slice a8 x c8) = W := ⟨_, rfl⟩
      have hk1 := Kp.setCell (w := V1) W2.heap.size 5 (.slice a8 x c8)
      rw [hU1] at hk1
      have ko1 : Blk U1 W2.heap.size (oL ⟨s.k, s.h, s.a, s.c, s.o⟩ (.slice a8 x c8) (.slice none 0 0)) 28 := by rw [← hU1]; exact KO.out.set 5 _
      replace KA := hid (KA.out.kept hk1 (by have := Z0.out; have := Z1.out; have := Z2.out; omega))
      replace KU := hid (KU.out.kept hk1 (by have := Z2.out; omega))
      replace KR := hid (KR.out.kept hk1 (by have := Z0.out; have := Z1.out; have := Z2.out; omega))
      have OD : Hid (By.Own U1 W7.heap.size (.slice a8 x c8) x (fun _ => b)) := own_keptB od hk1 (fun j e h => by have := rd j e; have := Z3.out; omega)
      have ZV : Hid (W7.heap.size ≤ U1.heap.size) := Nat.le_trans hb.size hk1.size
      replace BW := hid (BW.out.trans (hk1.below BW.out.size (fun j hj e => by have := Z0.out; have := Z1.out; have := Z2.out; omega)))
      replace KO := hid ko1
      clear hk1 ko1 od rd hb
      have um := KU.out.cell 5 _ rfl
      have l4 : (LDo ⟨W2.heap.size, 0, none⟩).run Try.prog U1 = .ok (.agg #[.int .u8 s.k, .int .i64 s.h, .int .u8 s.a, .int .i64 s.c, .int .i64 s.o, (.slice a8 x c8), (.slice none 0 0)]) U1 := LDo_run KO.out
      obtain ⟨W9, s9, k9, hk9⟩ := SVo_run (q := ⟨s.k, s.h, s.a, s.c, s.o⟩) (d := (.slice a8 x c8)) (m := (.slice none 0 0)) KR.out rfl rfl rfl
      have s9' : (SVo ⟨w.heap.size + 1, 0, none⟩ (.agg #[.int .u8 s.k, .int .i64 s.h, .int .u8 s.a, .int .i64 s.c, .int .i64 s.o, (.slice a8 x c8), (.slice none 0 0)])).run Try.prog U1 = .ok () W9 := s9
      have L9 := hid (LDo_run k9)
      have R9 : Hid (By.Own W9 w.heap.size (.slice a8 x c8) x (fun _ => b) ∧ By.Own W9 w.heap.size (.slice none 0 0) 0 (fun _ => b) ∧ (Value.ownBlock (.slice a8 x c8) = none ∨ Value.ownBlock (.slice a8 x c8) ≠ Value.ownBlock (.slice none 0 0)) ∧ Below w.heap.size w W9) := by
        have g0 := Z0.out
        have g1 := Z1.out
        have g2 := Z2.out
        have g3 := Z3.out
        refine ⟨own_base (own_keptB OD.out hk9 (fun j e h => by have := own_row OD.out j e; omega)) (by omega), own_nil _ _ _ (cst_b HB.out), nil_apart _, BW.out.trans (hk9.below BW.out.size (fun j _ e => by omega))⟩
      clear s9 k9 hk9 KR KA KU KO BW Z0 Z1 Z2 Z3 EU OD ZV
      go_wp2_with fail
      refine bodyPost_ret (Tb.results_cell2 rfl rfl rfl L9.out) rfl ?_
      rw [TT.out.1, TT.out.2.1]
      refine ⟨_, _, rfl, ?_⟩
      unfold ToldF
      rw [TT.out.2.2.1, TT.out.2.2.2]
      exact R9.out
set_option maxRecDepth 8000 in
set_option maxHeartbeats 1200000 in
theorem rfill_9 (s : Sk) (b : Int) (w : World) (hb : 0 ≤ b ∧ b < 256) (hk : s.k = 9) : Calls Try.prog 23 #[sv s, .int .u8 b] w fun e w' => ∃ d m, e = .returned (.tuple #[ov (fq s) d m, .int .i64 (fe s)]) ∧ ToldF w w' s b d m := by
  obtain ⟨W0, hW0⟩ : ∃ W, (w.alloc (.cells #[Value.int IntKind.u8 s.k, Value.int IntKind.i64 s.h, Value.int IntKind.u8 s.a, Value.int IntKind.i64 s.c, Value.int IntKind.i64 s.o, Value.int IntKind.i64 s.d, Value.int IntKind.i64 s.m] 33)).alloc (.cells zA 28) = W := ⟨_, rfl⟩
  have KA : Hid (Blk W0 w.heap.size (sL s) 33) := by rw [← hW0]; exact (Blk.newAt w _ _ _ w.heap.size rfl rfl).alloc _
  have KR : Hid (Blk W0 (w.heap.size + 1) zA.toList 28) := by rw [← hW0]; exact Blk.newAt (w.alloc _) _ _ _ (w.heap.size + 1) (by simp) rfl
  have Z0 : Hid (W0.heap.size = w.heap.size + 1 + 1) := by show W0.heap.size = _; rw [← hW0]; simp
  have BW : Hid (Below w.heap.size w W0) := by rw [← hW0]; exact below_next (below_alloc _ _) (below_alloc _ _)
  have E : uH s.k = true ∧ uA s.k = false ∧ uC s.k = false ∧ uO s.k = false ∧ uD s.k = false ∧ uM s.k = false := by rw [hk]; decide
  have EQ : Hid (ps s = ⟨s.k, s.h, 0, 0, 0, 0, 0⟩) := by
    show ps s = _
    unfold ps
    rw [E.1, E.2.1, E.2.2.1, E.2.2.2.1, E.2.2.2.2.1, E.2.2.2.2.2]
    rfl
  have EU : Hid (uv s.k = .agg #[.bool true, .bool false, .bool false, .bool false, .bool false, .bool false] ∧ uL s.k = [.bool true, .bool false, .bool false, .bool false, .bool false, .bool false]) := by
    show uv s.k = _ ∧ uL s.k = _
    unfold uv uL
    rw [E.1, E.2.1, E.2.2.1, E.2.2.2.1, E.2.2.2.2.1, E.2.2.2.2.2]
    exact ⟨rfl, rfl⟩
  have HB := hid hb
  have c0 := KA.out.cell 0 _ rfl
  clear hk E hb
  go_enter Try.func23, Try.ntmps23
  go_wp2_with fail
  clear hW0 c0
  refine (ruse_ok s.k W0).mono ?_
  rintro e W1 ⟨rfl, hb⟩
  rw [EU.out.1]
  replace BW := hid (below_next BW.out hb)
  replace KA := hid (KA.out.below hb)
  replace KR := hid (KR.out.below hb)
  have Z1 : Hid (W0.heap.size ≤ W1.heap.size) := hb.size
  clear hb
  obtain ⟨W2, s2, ku, hk2⟩ := SVu_run s.k (Blk.newAt W1 fU fU.toList 58 W1.heap.size rfl rfl) rfl
  rw [EU.out.1] at s2
  rw [EU.out.2] at ku
  have b2 : Below W1.heap.size W1 W2 := (below_alloc W1 _).trans (hk2.below (by simp) (fun j hj e => by omega))
  replace BW := hid (below_next BW.out b2)
  replace KA := hid (KA.out.below b2)
  replace KR := hid (KR.out.below b2)
  have Z2 : Hid (W1.heap.size < W2.heap.size) := ku.lt
  have KU := hid ku
  clear b2 hk2 ku
  have u5 := KU.out.cell 4 _ rfl
  have u6 := KU.out.cell 5 _ rfl
  have a0 := KA.out.cell 0 _ rfl
  have a5 := KA.out.cell 5 _ rfl
  have a6 := KA.out.cell 6 _ rfl
  have FK : Hid (fk s = true) := by show fk s = true; unfold fk; rw [EQ.out]; show (mb 0 && mb 0) = true; rw [show mb 0 = true from decide_eq_true (by omega)]; rfl
  have TT : Hid (fq s = ⟨s.k, s.h, 0, 0, 0⟩ ∧ fe s = 0 ∧ fd s = 0 ∧ fm s = 0) := by show fq s = _ ∧ fe s = _ ∧ fd s = _ ∧ fm s = _; unfold fq fe fd fm; rw [FK.out, EQ.out]; exact ⟨rfl, rfl, rfl, rfl⟩
  obtain ⟨W3, s3, ko, hk3⟩ := SVo_run (q := ⟨s.k, 0, 0, 0, 0⟩) (d := .slice none 0 0) (m := .slice none 0 0) (Blk.newAt W2 zA zA.toList 28 W2.heap.size rfl rfl) rfl rfl rfl
  have s3' : (SVo ⟨W2.heap.size, 0, none⟩ (.agg #[.int .u8 s.k, .int .i64 0, .int .u8 0, .int .i64 0, .int .i64 0, .slice none 0 0, .slice none 0 0])).run Try.prog (W2.alloc (.cells zA 28)) = .ok () W3 := s3
  have b3 : Below W2.heap.size W2 W3 := (below_alloc W2 _).trans (hk3.below (by simp) (fun j hj e => by omega))
  have o2' : (W2.alloc (.cells zA 28)).cell? ⟨w.heap.size, 0, none⟩ = _ := (KA.out.alloc _).cell 0 _ rfl
  replace BW := hid (below_next BW.out b3)
  replace KA := hid (KA.out.below b3)
  replace KR := hid (KR.out.below b3)
  replace KU := hid (KU.out.below b3)
  have Z3 : Hid (W2.heap.size < W3.heap.size) := ko.lt
  clear b3 hk3 s3
  have uh3 := KU.out.cell 0 _ rfl
  have oh3 := KA.out.cell 1 _ rfl
  have sh3 := ko.cell 1 _ rfl
  have fh3 := ko.frozen 1
  obtain ⟨W4, hW4⟩ : ∃ W, W3.setCell ⟨W2.heap.size, 1, none⟩ (.int .i64 s.h) = W := ⟨_, rfl⟩
  have hkW4 := Kp.setCell (w := W3) W2.heap.size 1 (.int .i64 s.h)
  rw [hW4] at hkW4
  have kW4 : Blk W4 W2.heap.size (oL ⟨s.k, s.h, 0, 0, 0⟩ (.slice none 0 0) (.slice none 0 0)) 28 := by rw [← hW4]; exact ko.set 1 _
  replace KA := hid (KA.out.kept hkW4 (by have := Z0.out; have := Z1.out; have := Z2.out; omega))
  replace KU := hid (KU.out.kept hkW4 (by have := Z2.out; omega))
  replace KR := hid (KR.out.kept hkW4 (by have := Z0.out; have := Z1.out; have := Z2.out; omega))
  replace BW := hid (BW.out.trans (hkW4.below BW.out.size (fun j hj e => by have := Z0.out; have := Z1.out; have := Z2.out; omega)))
  replace Z3 : Hid (W2.heap.size < W4.heap.size) := kW4.lt
  clear hkW4
  have ua4 := KU.out.cell 1 _ rfl
  have uc4 := KU.out.cell 2 _ rfl
  have uo4 := KU.out.cell 3 _ rfl
  have KO := hid kW4
  clear ko kW4
  have ud := KU.out.cell 4 _ rfl
  have um := KU.out.cell 5 _ rfl
  have l4 : (LDo ⟨W2.heap.size, 0, none⟩).run Try.prog W4 = .ok (.agg #[.int .u8 s.k, .int .i64 s.h, .int .u8 0, .int .i64 0, .int .i64 0, (.slice none 0 0), (.slice none 0 0)]) W4 := LDo_run KO.out
  obtain ⟨W9, s9, k9, hk9⟩ := SVo_run (q := ⟨s.k, s.h, 0, 0, 0⟩) (d := (.slice none 0 0)) (m := (.slice none 0 0)) KR.out rfl rfl rfl
  have s9' : (SVo ⟨w.heap.size + 1, 0, none⟩ (.agg #[.int .u8 s.k, .int .i64 s.h, .int .u8 0, .int .i64 0, .int .i64 0, (.slice none 0 0), (.slice none 0 0)])).run Try.prog W4 = .ok () W9 := s9
  have L9 := hid (LDo_run k9)
  have R9 : Hid (By.Own W9 w.heap.size (.slice none 0 0) 0 (fun _ => b) ∧ By.Own W9 w.heap.size (.slice none 0 0) 0 (fun _ => b) ∧ (Value.ownBlock (.slice none 0 0) = none ∨ Value.ownBlock (.slice none 0 0) ≠ Value.ownBlock (.slice none 0 0)) ∧ Below w.heap.size w W9) := by
    have g0 := Z0.out
    have g1 := Z1.out
    have g2 := Z2.out
    have g3 := Z3.out
    refine ⟨own_nil _ _ _ (cst_b HB.out), own_nil _ _ _ (cst_b HB.out), .inl rfl, BW.out.trans (hk9.below BW.out.size (fun j _ e => by omega))⟩
  clear s9 k9 hk9 KR KA KU KO BW Z0 Z1 Z2 Z3 EU
  go_wp2_with fail
  refine bodyPost_ret (Tb.results_cell2 rfl rfl rfl L9.out) rfl ?_
  rw [TT.out.1, TT.out.2.1]
  refine ⟨_, _, rfl, ?_⟩
  unfold ToldF
  rw [TT.out.2.2.1, TT.out.2.2.2]
  exact R9.out
set_option maxRecDepth 8000 in
set_option maxHeartbeats 1200000 in
theorem rfill_10 (s : Sk) (b : Int) (w : World) (hb : 0 ≤ b ∧ b < 256) (hk : s.k = 10) : Calls Try.prog 23 #[sv s, .int .u8 b] w fun e w' => ∃ d m, e = .returned (.tuple #[ov (fq s) d m, .int .i64 (fe s)]) ∧ ToldF w w' s b d m := by
  obtain ⟨W0, hW0⟩ : ∃ W, (w.alloc (.cells #[Value.int IntKind.u8 s.k, Value.int IntKind.i64 s.h, Value.int IntKind.u8 s.a, Value.int IntKind.i64 s.c, Value.int IntKind.i64 s.o, Value.int IntKind.i64 s.d, Value.int IntKind.i64 s.m] 33)).alloc (.cells zA 28) = W := ⟨_, rfl⟩
  have KA : Hid (Blk W0 w.heap.size (sL s) 33) := by rw [← hW0]; exact (Blk.newAt w _ _ _ w.heap.size rfl rfl).alloc _
  have KR : Hid (Blk W0 (w.heap.size + 1) zA.toList 28) := by rw [← hW0]; exact Blk.newAt (w.alloc _) _ _ _ (w.heap.size + 1) (by simp) rfl
  have Z0 : Hid (W0.heap.size = w.heap.size + 1 + 1) := by show W0.heap.size = _; rw [← hW0]; simp
  have BW : Hid (Below w.heap.size w W0) := by rw [← hW0]; exact below_next (below_alloc _ _) (below_alloc _ _)
  have E : uH s.k = true ∧ uA s.k = false ∧ uC s.k = false ∧ uO s.k = false ∧ uD s.k = false ∧ uM s.k = false := by rw [hk]; decide
  have EQ : Hid (ps s = ⟨s.k, s.h, 0, 0, 0, 0, 0⟩) := by
    show ps s = _
    unfold ps
    rw [E.1, E.2.1, E.2.2.1, E.2.2.2.1, E.2.2.2.2.1, E.2.2.2.2.2]
    rfl
  have EU : Hid (uv s.k = .agg #[.bool true, .bool false, .bool false, .bool false, .bool false, .bool false] ∧ uL s.k = [.bool true, .bool false, .bool false, .bool false, .bool false, .bool false]) := by
    show uv s.k = _ ∧ uL s.k = _
    unfold uv uL
    rw [E.1, E.2.1, E.2.2.1, E.2.2.2.1, E.2.2.2.2.1, E.2.2.2.2.2]
    exact ⟨rfl, rfl⟩
  have HB := hid hb
  have c0 := KA.out.cell 0 _ rfl
  clear hk E hb
  go_enter Try.func23, Try.ntmps23
  go_wp2_with fail
  clear hW0 c0
  refine (ruse_ok s.k W0).mono ?_
  rintro e W1 ⟨rfl, hb⟩
  rw [EU.out.1]
  replace BW := hid (below_next BW.out hb)
  replace KA := hid (KA.out.below hb)
  replace KR := hid (KR.out.below hb)
  have Z1 : Hid (W0.heap.size ≤ W1.heap.size) := hb.size
  clear hb
  obtain ⟨W2, s2, ku, hk2⟩ := SVu_run s.k (Blk.newAt W1 fU fU.toList 58 W1.heap.size rfl rfl) rfl
  rw [EU.out.1] at s2
  rw [EU.out.2] at ku
  have b2 : Below W1.heap.size W1 W2 := (below_alloc W1 _).trans (hk2.below (by simp) (fun j hj e => by omega))
  replace BW := hid (below_next BW.out b2)
  replace KA := hid (KA.out.below b2)
  replace KR := hid (KR.out.below b2)
  have Z2 : Hid (W1.heap.size < W2.heap.size) := ku.lt
  have KU := hid ku
  clear b2 hk2 ku
  have u5 := KU.out.cell 4 _ rfl
  have u6 := KU.out.cell 5 _ rfl
  have a0 := KA.out.cell 0 _ rfl
  have a5 := KA.out.cell 5 _ rfl
  have a6 := KA.out.cell 6 _ rfl
  have FK : Hid (fk s = true) := by show fk s = true; unfold fk; rw [EQ.out]; show (mb 0 && mb 0) = true; rw [show mb 0 = true from decide_eq_true (by omega)]; rfl
  have TT : Hid (fq s = ⟨s.k, s.h, 0, 0, 0⟩ ∧ fe s = 0 ∧ fd s = 0 ∧ fm s = 0) := by show fq s = _ ∧ fe s = _ ∧ fd s = _ ∧ fm s = _; unfold fq fe fd fm; rw [FK.out, EQ.out]; exact ⟨rfl, rfl, rfl, rfl⟩
  obtain ⟨W3, s3, ko, hk3⟩ := SVo_run (q := ⟨s.k, 0, 0, 0, 0⟩) (d := .slice none 0 0) (m := .slice none 0 0) (Blk.newAt W2 zA zA.toList 28 W2.heap.size rfl rfl) rfl rfl rfl
  have s3' : (SVo ⟨W2.heap.size, 0, none⟩ (.agg #[.int .u8 s.k, .int .i64 0, .int .u8 0, .int .i64 0, .int .i64 0, .slice none 0 0, .slice none 0 0])).run Try.prog (W2.alloc (.cells zA 28)) = .ok () W3 := s3
  have b3 : Below W2.heap.size W2 W3 := (below_alloc W2 _).trans (hk3.below (by simp) (fun j hj e => by omega))
  have o2' : (W2.alloc (.cells zA 28)).cell? ⟨w.heap.size, 0, none⟩ = _ := (KA.out.alloc _).cell 0 _ rfl
  replace BW := hid (below_next BW.out b3)
  replace KA := hid (KA.out.below b3)
  replace KR := hid (KR.out.below b3)
  replace KU := hid (KU.out.below b3)
  have Z3 : Hid (W2.heap.size < W3.heap.size) := ko.lt
  clear b3 hk3 s3
  have uh3 := KU.out.cell 0 _ rfl
  have oh3 := KA.out.cell 1 _ rfl
  have sh3 := ko.cell 1 _ rfl
  have fh3 := ko.frozen 1
  obtain ⟨W4, hW4⟩ : ∃ W, W3.setCell ⟨W2.heap.size, 1, none⟩ (.int .i64 s.h) = W := ⟨_, rfl⟩
  have hkW4 := Kp.setCell (w := W3) W2.heap.size 1 (.int .i64 s.h)
  rw [hW4] at hkW4
  have kW4 : Blk W4 W2.heap.size (oL ⟨s.k, s.h, 0, 0, 0⟩ (.slice none 0 0) (.slice none 0 0)) 28 := by rw [← hW4]; exact ko.set 1 _
  replace KA := hid (KA.out.kept hkW4 (by have := Z0.out; have := Z1.out; have := Z2.out; omega))
  replace KU := hid (KU.out.kept hkW4 (by have := Z2.out; omega))
  replace KR := hid (KR.out.kept hkW4 (by have := Z0.out; have := Z1.out; have := Z2.out; omega))
  replace BW := hid (BW.out.trans (hkW4.below BW.out.size (fun j hj e => by have := Z0.out; have := Z1.out; have := Z2.out; omega)))
  replace Z3 : Hid (W2.heap.size < W4.heap.size) := kW4.lt
  clear hkW4
  have ua4 := KU.out.cell 1 _ rfl
  have uc4 := KU.out.cell 2 _ rfl
  have uo4 := KU.out.cell 3 _ rfl
  have KO := hid kW4
  clear ko kW4
  have ud := KU.out.cell 4 _ rfl
  have um := KU.out.cell 5 _ rfl
  have l4 : (LDo ⟨W2.heap.size, 0, none⟩).run Try.prog W4 = .ok (.agg #[.int .u8 s.k, .int .i64 s.h, .int .u8 0, .int .i64 0, .int .i64 0, (.slice none 0 0), (.slice none 0 0)]) W4 := LDo_run KO.out
  obtain ⟨W9, s9, k9, hk9⟩ := SVo_run (q := ⟨s.k, s.h, 0, 0, 0⟩) (d := (.slice none 0 0)) (m := (.slice none 0 0)) KR.out rfl rfl rfl
  have s9' : (SVo ⟨w.heap.size + 1, 0, none⟩ (.agg #[.int .u8 s.k, .int .i64 s.h, .int .u8 0, .int .i64 0, .int .i64 0, (.slice none 0 0), (.slice none 0 0)])).run Try.prog W4 = .ok () W9 := s9
  have L9 := hid (LDo_run k9)
  have R9 : Hid (By.Own W9 w.heap.size (.slice none 0 0) 0 (fun _ => b) ∧ By.Own W9 w.heap.size (.slice none 0 0) 0 (fun _ => b) ∧ (Value.ownBlock (.slice none 0 0) = none ∨ Value.ownBlock (.slice none 0 0) ≠ Value.ownBlock (.slice none 0 0)) ∧ Below w.heap.size w W9) := by
    have g0 := Z0.out
    have g1 := Z1.out
    have g2 := Z2.out
    have g3 := Z3.out
    refine ⟨own_nil _ _ _ (cst_b HB.out), own_nil _ _ _ (cst_b HB.out), .inl rfl, BW.out.trans (hk9.below BW.out.size (fun j _ e => by omega))⟩
  clear s9 k9 hk9 KR KA KU KO BW Z0 Z1 Z2 Z3 EU
  go_wp2_with fail
  refine bodyPost_ret (Tb.results_cell2 rfl rfl rfl L9.out) rfl ?_
  rw [TT.out.1, TT.out.2.1]
  refine ⟨_, _, rfl, ?_⟩
  unfold ToldF
  rw [TT.out.2.2.1, TT.out.2.2.2]
  exact R9.out
theorem rfill_ok (s : Sk) (b : Int) (w : World) (hb : 0 ≤ b ∧ b < 256) : Calls Try.prog 23 #[sv s, .int .u8 b] w fun e w' => ∃ d m, e = .returned (.tuple #[ov (fq s) d m, .int .i64 (fe s)]) ∧ ToldF w w' s b d m := by
  by_cases h : 1 ≤ s.k ∧ s.k ≤ 10
  · have h' : s.k = 1 ∨ s.k = 2 ∨ s.k = 3 ∨ s.k = 4 ∨ s.k = 5 ∨ s.k = 6 ∨ s.k = 7 ∨ s.k = 8 ∨ s.k = 9 ∨ s.k = 10 := by omega
    rcases h' with h | h | h | h | h | h | h | h | h | h
    · exact rfill_1 s b w hb h
    · exact rfill_2 s b w hb h
    · exact rfill_3 s b w hb h
    · exact rfill_4 s b w hb h
    · exact rfill_5 s b w hb h
    · exact rfill_6 s b w hb h
    · exact rfill_7 s b w hb h
    · exact rfill_8 s b w hb h
    · exact rfill_9 s b w hb h
    · exact rfill_10 s b w hb h
  · exact rfill_no s b w hb h
end Go.Proofs.Ytdahogdfonhnfaa.Ou
