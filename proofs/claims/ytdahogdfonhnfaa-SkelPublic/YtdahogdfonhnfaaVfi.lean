/- Fill, of the program. -/
import Derived.Test.YtdahogdfonhnfaaVfl
namespace Go.Proofs.Ytdahogdfonhnfaa.Ou
open Go.ChangeShapes Go.WideShapes Go.ChangeAt Go.RowKit
open Go.Proofs.Ytdahogdfonhnfaa.By
open Go.Proofs.Ytdahogdfonhnfaa.Tb (Blk Blk.newAt put_all Kp.setCells)
/-- The numbers of an operation that has a skeleton. -/
def sq (s : Sk) : Nu := ⟨s.k, s.h, s.a, s.c, s.o⟩
/-- Can it be filled? -/
def fk (s : Sk) : Bool := mb (ps s).d && mb (ps s).m
def fe (s : Sk) : Int := if fk s then 0 else 2
def fq (s : Sk) : Nu := if fk s then sq (ps s) else ⟨0, 0, 0, 0, 0⟩
def fd (s : Sk) : Nat := if fk s then (ps s).d.toNat else 0
def fm (s : Sk) : Nat := if fk s then (ps s).m.toNat else 0
/-- An operation that was made. -/
def ToldF (w w' : World) (s : Sk) (b : Int) (d m : Value) : Prop :=
  By.Own w' w.heap.size d (fd s) (fun _ => b) ∧ By.Own w' w.heap.size m (fm s) (fun _ => b) ∧ (d.ownBlock = none ∨ d.ownBlock ≠ m.ownBlock) ∧ Below w.heap.size w w'
set_option maxRecDepth 8000 in
set_option maxHeartbeats 1200000 in
theorem fill_ok (s : Sk) (b : Int) (w : World) (hk : 0 ≤ s.k ∧ s.k < 256) (hb : 0 ≤ b ∧ b < 256) : Calls Try.prog 22 #[sv s, .int .u8 b] w fun e w' => ∃ d m, e = .returned (.tuple #[ov (fq s) d m, .int .i64 (fe s)]) ∧ ToldF w w' s b d m := by
  obtain ⟨W0, hW0⟩ : ∃ W, (w.alloc (.cells #[Value.int IntKind.u8 s.k, Value.int IntKind.i64 s.h, Value.int IntKind.u8 s.a, Value.int IntKind.i64 s.c, Value.int IntKind.i64 s.o, Value.int IntKind.i64 s.d, Value.int IntKind.i64 s.m] 33)).alloc (.cells zA 28) = W := ⟨_, rfl⟩
  have KA : Hid (Blk W0 w.heap.size (sL s) 33) := by rw [← hW0]; exact (Blk.newAt w _ _ _ w.heap.size rfl rfl).alloc _
  have KR : Hid (Blk W0 (w.heap.size + 1) zA.toList 28) := by rw [← hW0]; exact Blk.newAt (w.alloc _) _ _ _ (w.heap.size + 1) (by simp) rfl
  have Z0 : Hid (W0.heap.size = w.heap.size + 1 + 1) := by show W0.heap.size = _; rw [← hW0]; simp
  have BW : Hid (Below w.heap.size w W0) := by rw [← hW0]; exact below_next (below_alloc _ _) (below_alloc _ _)
  have P := hid (splain_ok s W0 hk)
  have HB := hid hb
  have l0 := LDk_run KA.out
  clear hk hb
  go_enter Try.func22, Try.ntmps22
  go_wp2_with fail
  clear hW0 l0
  refine P.out.mono ?_
  rintro e W1 ⟨rfl, hb⟩
  obtain ⟨p, hp⟩ : ∃ p, ps s = p := ⟨_, rfl⟩
  rw [hp]
  have HP := hid hp
  replace BW := hid (below_next BW.out hb)
  replace KR := hid (KR.out.below hb)
  have Z1 : Hid (W0.heap.size ≤ W1.heap.size) := hb.size
  clear hb KA P hp
  obtain ⟨W2, s2, kp, hk2⟩ := SVk_run p (Blk.newAt W1 #[Value.int IntKind.u8 0, Value.int IntKind.i64 0, Value.int IntKind.u8 0, Value.int IntKind.i64 0, Value.int IntKind.i64 0, Value.int IntKind.i64 0, Value.int IntKind.i64 0] (sL zS) 33 W1.heap.size rfl rfl) rfl
  have b2 : Below W1.heap.size W1 W2 := (below_alloc W1 _).trans (hk2.below (by simp) (fun j hj e => by omega))
  replace BW := hid (below_next BW.out b2)
  replace KR := hid (KR.out.below b2)
  have KP := hid kp
  have Z2 : Hid (W1.heap.size < W2.heap.size) := kp.lt
  have c0 := kp.cell 0 _ rfl
  have c1 := kp.cell 1 _ rfl
  have c2 := kp.cell 2 _ rfl
  have c3 := kp.cell 3 _ rfl
  have c4 := kp.cell 4 _ rfl
  have c5 := kp.cell 5 _ rfl
  have c6 := kp.cell 6 _ rfl
  clear b2 hk2 kp
  have D5 := hid (maybe_ok p.d W2)
  have D6 := hid (maybe_ok p.m W2)
  cases e5 : mb p.d with
  | false =>
    rw [e5] at D5
    have FK : Hid (fk s = false) := by show fk s = false; unfold fk; rw [HP.out, e5]; rfl
    clear e5 D6
    go_wp2_with fail
    refine D5.out.mono ?_
    rintro e W3 ⟨rfl, rfl⟩
    have TT : Hid (fq s = ⟨0, 0, 0, 0, 0⟩ ∧ fe s = 2 ∧ fd s = 0 ∧ fm s = 0) := by show fq s = _ ∧ fe s = _ ∧ fd s = _ ∧ fm s = _; unfold fq fe fd fm; rw [FK.out]; exact ⟨rfl, rfl, rfl, rfl⟩
    obtain ⟨W9, s9, k9, hk9⟩ := SVo_run (q := ⟨0, 0, 0, 0, 0⟩) (d := .slice none 0 0) (m := .slice none 0 0) KR.out rfl rfl rfl
    have s9' : (SVo ⟨w.heap.size + 1, 0, none⟩ (.agg #[Value.int IntKind.u8 0, Value.int IntKind.i64 0, Value.int IntKind.u8 0, Value.int IntKind.i64 0, Value.int IntKind.i64 0, Value.slice none 0 0, Value.slice none 0 0])).run Try.prog W3 = .ok () W9 := s9
    have L9 := hid (LDo_run k9)
    have B9 : Hid (Below w.heap.size w W9) := BW.out.trans (hk9.below BW.out.size (fun j _ e => by omega))
    clear s9 k9 hk9 KR KP BW
    go_wp2_with fail
    refine bodyPost_ret (Tb.results_cell2 rfl rfl rfl L9.out) rfl ?_
    rw [TT.out.1, TT.out.2.1]
    refine ⟨_, _, rfl, ?_⟩
    unfold ToldF
    rw [TT.out.2.2.1, TT.out.2.2.2]
    exact ⟨own_nil _ _ _ (cst_b HB.out), own_nil _ _ _ (cst_b HB.out), .inl rfl, B9.out⟩
  | true =>
    rw [e5] at D5
    cases e6 : mb p.m with
    | false =>
      rw [e6] at D6
      have FK : Hid (fk s = false) := by show fk s = false; unfold fk; rw [HP.out, e5, e6]; rfl
      clear e5 e6
      go_wp2_with fail
      refine D5.out.mono ?_
      rintro e W3 ⟨rfl, rfl⟩
      go_wp2_with fail
      refine D6.out.mono ?_
      rintro e W3 ⟨rfl, rfl⟩
      have TT : Hid (fq s = ⟨0, 0, 0, 0, 0⟩ ∧ fe s = 2 ∧ fd s = 0 ∧ fm s = 0) := by show fq s = _ ∧ fe s = _ ∧ fd s = _ ∧ fm s = _; unfold fq fe fd fm; rw [FK.out]; exact ⟨rfl, rfl, rfl, rfl⟩
      obtain ⟨W9, s9, k9, hk9⟩ := SVo_run (q := ⟨0, 0, 0, 0, 0⟩) (d := .slice none 0 0) (m := .slice none 0 0) KR.out rfl rfl rfl
      have s9' : (SVo ⟨w.heap.size + 1, 0, none⟩ (.agg #[Value.int IntKind.u8 0, Value.int IntKind.i64 0, Value.int IntKind.u8 0, Value.int IntKind.i64 0, Value.int IntKind.i64 0, Value.slice none 0 0, Value.slice none 0 0])).run Try.prog W3 = .ok () W9 := s9
      have L9 := hid (LDo_run k9)
      have B9 : Hid (Below w.heap.size w W9) := BW.out.trans (hk9.below BW.out.size (fun j _ e => by omega))
      clear s9 k9 hk9 KR KP BW
      go_wp2_with fail
      refine bodyPost_ret (Tb.results_cell2 rfl rfl rfl L9.out) rfl ?_
      rw [TT.out.1, TT.out.2.1]
      refine ⟨_, _, rfl, ?_⟩
      unfold ToldF
      rw [TT.out.2.2.1, TT.out.2.2.2]
      exact ⟨own_nil _ _ _ (cst_b HB.out), own_nil _ _ _ (cst_b HB.out), .inl rfl, B9.out⟩
    | true =>
      rw [e6] at D6
      have FK : Hid (fk s = true) := by show fk s = true; unfold fk; rw [HP.out, e5, e6]; rfl
      have bd : 0 ≤ p.d ∧ p.d ≤ 16777215 := of_decide_eq_true e5
      have bm : 0 ≤ p.m ∧ p.m ≤ 16777215 := of_decide_eq_true e6
      clear e5 e6
      obtain ⟨x, hx⟩ : ∃ x : Nat, p.d = x := ⟨p.d.toNat, by omega⟩
      obtain ⟨y, hy⟩ : ∃ y : Nat, p.m = y := ⟨p.m.toNat, by omega⟩
      have hx2 : x ≤ 16777215 := by omega
      have hy2 : y ≤ 16777215 := by omega
      rw [hx] at c5 D5
      rw [hy] at c6 D6
      have TT : Hid (fq s = sq p ∧ fe s = 0 ∧ fd s = x ∧ fm s = y) := by show fq s = _ ∧ fe s = _ ∧ fd s = _ ∧ fm s = _; unfold fq fe fd fm; rw [FK.out, HP.out, hx, hy]; exact ⟨rfl, rfl, rfl, rfl⟩
      clear hx hy bd bm
      have SW : Hid (∀ V, Below W2.heap.size W2 V → V.cell? ⟨W1.heap.size, 0, none⟩ = some (.int .u8 p.k) ∧ V.cell? ⟨W1.heap.size, 1, none⟩ = some (.int .i64 p.h) ∧ V.cell? ⟨W1.heap.size, 2, none⟩ = some (.int .u8 p.a) ∧ V.cell? ⟨W1.heap.size, 3, none⟩ = some (.int .i64 p.c) ∧ V.cell? ⟨W1.heap.size, 4, none⟩ = some (.int .i64 p.o) ∧ V.cell? ⟨W1.heap.size, 5, none⟩ = some (.int .i64 (x : Int)) ∧ V.cell? ⟨W1.heap.size, 6, none⟩ = some (.int .i64 (y : Int))) := fun V hV => by
        have ex := fun i v (h : W2.cell? ⟨W1.heap.size, i, none⟩ = some v) => (hV.cell (p := ⟨W1.heap.size, i, none⟩) (block_lt_of_cell h)).trans h
        exact ⟨ex _ _ c0, ex _ _ c1, ex _ _ c2, ex _ _ c3, ex _ _ c4, ex _ _ c5, ex _ _ c6⟩
      have FIN : Hid (∀ V, Below W2.heap.size W2 V → ∀ d m : Value, d.oneCell' = true → m.oneCell' = true → ∃ W9, (SVo ⟨w.heap.size + 1, 0, none⟩ (.agg #[Value.int IntKind.u8 p.k, Value.int IntKind.i64 p.h, Value.int IntKind.u8 p.a, Value.int IntKind.i64 p.c, Value.int IntKind.i64 p.o, d, m])).run Try.prog V = .ok () W9 ∧ (LDo ⟨w.heap.size + 1, 0, none⟩).run Try.prog W9 = .ok (ov (sq p) d m) W9 ∧ Below w.heap.size w W9 ∧ Kp (fun j => j = w.heap.size + 1) V W9) := fun V hV d m h1 h2 => by
        obtain ⟨W9, s9, k9, hk9⟩ := SVo_run (q := sq p) (d := d) (m := m) (KR.out.below hV) rfl h1 h2
        have bb := below_next BW.out hV
        exact ⟨W9, s9, LDo_run k9, bb.trans (hk9.below bb.size (fun j _ e => by omega)), hk9⟩
      have SW9 : Hid (∀ V U, Below W2.heap.size W2 V → (Below w.heap.size w U ∧ Kp (fun j => j = w.heap.size + 1) V U) → U.cell? ⟨W1.heap.size, 0, none⟩ = some (.int .u8 p.k) ∧ U.cell? ⟨W1.heap.size, 1, none⟩ = some (.int .i64 p.h) ∧ U.cell? ⟨W1.heap.size, 2, none⟩ = some (.int .u8 p.a) ∧ U.cell? ⟨W1.heap.size, 3, none⟩ = some (.int .i64 p.c) ∧ U.cell? ⟨W1.heap.size, 4, none⟩ = some (.int .i64 p.o) ∧ U.cell? ⟨W1.heap.size, 5, none⟩ = some (.int .i64 (x : Int)) ∧ U.cell? ⟨W1.heap.size, 6, none⟩ = some (.int .i64 (y : Int))) := fun V U hV hU => by
        have tt := SW.out V hV
        have g0 := Z0.out
        have g1 := Z1.out
        have ex := fun i v (h : V.cell? ⟨W1.heap.size, i, none⟩ = some v) => (World.cell?_of_block (w := V) (a := ⟨W1.heap.size, i, none⟩) (hU.2.block W1.heap.size (block_lt_of_cell h) (by omega))).trans h
        exact ⟨ex _ _ tt.1, ex _ _ tt.2.1, ex _ _ tt.2.2.1, ex _ _ tt.2.2.2.1, ex _ _ tt.2.2.2.2.1, ex _ _ tt.2.2.2.2.2.1, ex _ _ tt.2.2.2.2.2.2⟩
      have D1 : Hid (Below W2.heap.size W2 W2.drew) := below_drewN W2 1
      have F1 := hid (filled_ok x b W2.drew HB.out (by omega))
      go_wp2_with fail
      refine D5.out.mono ?_
      rintro e W3 ⟨rfl, rfl⟩
      go_wp2_with fail
      refine D6.out.mono ?_
      rintro e W3 ⟨rfl, rfl⟩
      go_wp2_with fail
      obtain ⟨z0, z1, z2, z3, z4, z5, z6⟩ := SW.out W3.drew D1.out
      go_region_held3 (fun V => V.cell? ⟨W1.heap.size, 0, none⟩ = some (.int .u8 p.k) ∧ V.cell? ⟨W1.heap.size, 1, none⟩ = some (.int .i64 p.h) ∧ V.cell? ⟨W1.heap.size, 2, none⟩ = some (.int .u8 p.a) ∧ V.cell? ⟨W1.heap.size, 3, none⟩ = some (.int .i64 p.c) ∧ V.cell? ⟨W1.heap.size, 4, none⟩ = some (.int .i64 p.o) ∧ V.cell? ⟨W1.heap.size, 5, none⟩ = some (.int .i64 (x : Int)) ∧ V.cell? ⟨W1.heap.size, 6, none⟩ = some (.int .i64 (y : Int))) (go_keep) (first
        | (go_at_call 39; with_reducible refine (F2.out).mono ?_; rintro e V2 ⟨m9, rfl, om, hb⟩; have N2 := hid (below_next N1.out hb); have tt := SW.out V2 N2.out; have z20 := tt.1; have z21 := tt.2.1; have z22 := tt.2.2.1; have z23 := tt.2.2.2.1; have z24 := tt.2.2.2.2.1; have z25 := tt.2.2.2.2.2.1; have z26 := tt.2.2.2.2.2.2; clear tt; have NB := hid hb; have OM := hid om; clear om hb; obtain ⟨a9, c9, rfl⟩ := own_lit_slice OM.out; obtain ⟨W9, s9, f9⟩ := FIN.out V2 N2.out _ _ (own_one (own_below OD.out NB.out)) (own_one OM.out); have F9 := hid f9; have tt := (SW9.out V2 W9 N2.out F9.out.2); have y20 := tt.1; have y21 := tt.2.1; have y22 := tt.2.2.1; have y23 := tt.2.2.2.1; have y24 := tt.2.2.2.2.1; have y25 := tt.2.2.2.2.2.1; have y26 := tt.2.2.2.2.2.2; clear f9 tt)
        | (go_at_call 39; with_reducible refine (F1.out).mono ?_; rintro e V1 ⟨d9, rfl, od, hb⟩; have N1 := hid (below_next D1.out hb); have tt := SW.out V1 N1.out; have z10 := tt.1; have z11 := tt.2.1; have z12 := tt.2.2.1; have z13 := tt.2.2.2.1; have z14 := tt.2.2.2.2.1; have z15 := tt.2.2.2.2.2.1; have z16 := tt.2.2.2.2.2.2; clear tt; have OD := hid od; clear od hb; obtain ⟨a8, c8, rfl⟩ := own_lit_slice OD.out; have F2 := hid (filled_ok y b V1 HB.out (Nat.le_trans hy2 (by decide)))))
      have L9 := hid F9.out.1
      have R9 : Hid (By.Own W9 w.heap.size (.slice a8 x c8) x (fun _ => b) ∧ By.Own W9 w.heap.size (.slice a9 y c9) y (fun _ => b) ∧ ((Value.slice a8 x c8).ownBlock = none ∨ (Value.slice a8 x c8).ownBlock ≠ (Value.slice a9 y c9).ownBlock) ∧ Below w.heap.size w W9) := by
        have g0 := Z0.out
        have g1 := Z1.out
        have g2 := Z2.out
        have g3 : W3.heap.size ≤ V1.heap.size := N1.out.size
        have o1 := own_below OD.out NB.out
        have r1 := own_row OD.out
        have r2 := own_row OM.out
        have e3 : W3.drew.heap.size = W3.heap.size := rfl
        refine ⟨own_base (own_keptB o1 F9.out.2.2 (fun j e h => by have := r1 j e; omega)) (by omega), own_base (own_keptB OM.out F9.out.2.2 (fun j e h => by have := r2 j e; omega)) (by omega), own_apart OD.out (Nat.le_refl _) OM.out, F9.out.2.1⟩
      clear SW SW9 FIN F1 F2 D1 D5 D6 KP KR BW N1 N2 NB OD OM F9 s2 s9 c0 c1 c2 c3 c4 c5 c6 z0 z1 z2 z3 z4 z5 z6 z10 z11 z12 z13 z14 z15 z16 z20 z21 z22 z23 z24 z25 z26 y20 y21 y22 y23 y24 y25 y26
      go_wp2_with fail
      refine bodyPost_ret (Tb.results_cell2 rfl rfl rfl L9.out) rfl ?_
      rw [TT.out.1, TT.out.2.1]
      refine ⟨_, _, rfl, ?_⟩
      unfold ToldF
      rw [TT.out.2.2.1, TT.out.2.2.2]
      exact R9.out
end Go.Proofs.Ytdahogdfonhnfaa.Ou
