/- The walk of SkelPublic. -/
import Derived.Test.YtdahogdfonhnfaaVpu
import Derived.Deep.DeepCutAuto
namespace Go.Proofs.Ytdahogdfonhnfaa.Ou
open Go.ChangeShapes Go.WideShapes Go.ChangeAt Go.RowKit
open Go.Proofs.Ytdahogdfonhnfaa.By
open Go.Proofs.Ytdahogdfonhnfaa.Tb (Blk Blk.newAt put_all Kp.setCells)
/-- The greater of two. -/
def mx (x y : Int) : Int := if y > x then y else x
theorem mx_le (x y : Int) : x ≤ mx x y := by unfold mx; split <;> omega
@[go_sem high] theorem run_mx {P : Program} {w : World} (ts : Array TypeId) (t : TypeId) (k k' : IntKind) (x y : Int) : (Builtin.max_ ts t #[.int k x, .int k' y]).run P w = .ok (.int k (mx x y)) w := run_max_int2 w ts t k k' x y
def l2 (s t : Sk) (i : Nat) : Sk := if i = 0 then s else t
theorem lit2 (s t : Sk) (V : World) (g : Nat) (cs : Array Value) (hg : g = V.heap.size) (hc : cs.toList = sL s ++ sL t) : Sx.RB (V.alloc (.cells cs 33)) (.slice (some ⟨g, 0, none⟩) 2 2) 2 (l2 s t) := by
  subst hg
  refine ⟨_, 2, rfl, Nat.le_refl _, by simp [maxLen], .inr ⟨_, 0, rfl, fun p u hu => ?_⟩⟩
  have e : Sx.sl 2 (l2 s t) = sL s ++ sL t := rfl
  rw [e, ← hc] at hu
  rw [World.cell?_alloc_at _ _ _ _ rfl, Nat.zero_add]
  simpa using hu
set_option maxRecDepth 8000 in
theorem same2 (s t : Sk) (V : World) (g h : Nat) (h1 : Sx.RB V (.slice (some ⟨g, 0, none⟩) 2 2) 2 (l2 s t)) (h2 : Sx.RB V (.slice (some ⟨h, 0, none⟩) 2 2) 2 (l2 s t)) :
    Calls Try.prog 17 #[.slice (some ⟨g, 0, none⟩) 2 2, .slice (some ⟨h, 0, none⟩) 2 2] V fun e w' => e = .returned (.bool true) ∧ Below V.heap.size V w' := by
  refine (Sx.psame_ok _ _ 2 2 _ _ V h1 h2 (by omega) (by omega)).mono ?_
  rintro e w' ⟨rfl, hb⟩
  exact ⟨by rw [Sx.eqM_refl], hb⟩
set_option maxRecDepth 8000 in
set_option maxHeartbeats 1600000 in
theorem public_q (q : Nu) (a1 a2 : Option Addr) (n c1 nm c2 : Nat) (f g : Nat → Int) (b : Int) (r : Sk) (w : World) (hq : 0 ≤ q.k ∧ q.k < 256) (h1 : By.RB w (.slice a1 n c1) n f) (h2 : By.RB w (.slice a2 nm c2) nm g) (hn : n ≤ 140737488351232) (hnm : nm ≤ 140737488351232) (hb : 0 ≤ b ∧ b < 256) : Calls Try.prog 7 #[ov q (.slice a1 n c1) (.slice a2 nm c2), .int .u8 b, sv r] w fun e w' => e = .returned (.bool true) ∧ Below w.heap.size w w' := by
  have X1 := fun V => of_ok q a1 a2 n c1 nm c2 V hq
  have X2 := fun V (hV : Below w.heap.size w V) => plain_ok q _ _ n nm f g V (h1.below hV) (h2.below hV) (by omega) (by omega)
  have X3 := fun V => fill_ok (ps (sk q n nm)) b V hq hb
  have X4 := fun A A' C C' V => of_ok (pq q) A A' (pN q n) C (pM q nm) C' V hq
  have Y1 : 16777215 < pN q n ∨ 16777215 < pM q nm → fe (ps (sk q n nm)) = 2 := fill_no q n nm
  have Y2 := fill_of q n nm
  have eS := ps_nums q n nm
  simp only [ToldF, ToldP] at X2 X3
  simp only [ps_plain] at X4
  rw [eS] at Y1 Y2
  simp only [eS] at X1 X3 X4
  obtain ⟨P, hP⟩ : ∃ P, pq q = P := ⟨_, rfl⟩
  obtain ⟨N, hN⟩ : ∃ N, pN q n = N := ⟨_, rfl⟩
  obtain ⟨M, hM⟩ : ∃ M, pM q nm = M := ⟨_, rfl⟩
  rw [hP, hN, hM] at Y1 Y2
  simp only [hP, hN, hM] at X1 X2 X3 X4
  have G1 := hid X1
  have G2 := hid X2
  have G3 := hid X3
  have G4 := hid X4
  have E1 := hid Y1
  have E2 := hid Y2
  have HB := hid hb
  clear X1 X2 X3 X4 Y1 Y2 eS hP hN hM hq h1 h2 hn hnm hb
  obtain ⟨W0, hW0⟩ : ∃ W, (w.alloc (.cells #[Value.int IntKind.u8 q.k, Value.int IntKind.i64 q.h, Value.int IntKind.u8 q.a, Value.int IntKind.i64 q.c, Value.int IntKind.i64 q.o, Value.slice a1 n c1, Value.slice a2 nm c2] 28)).alloc (.cells #[Value.int IntKind.u8 r.k, Value.int IntKind.i64 r.h, Value.int IntKind.u8 r.a, Value.int IntKind.i64 r.c, Value.int IntKind.i64 r.o, Value.int IntKind.i64 r.d, Value.int IntKind.i64 r.m] 33) = W := ⟨_, rfl⟩
  have KO : Hid (Blk W0 w.heap.size (oL q (.slice a1 n c1) (.slice a2 nm c2)) 28) := by rw [← hW0]; exact (Blk.newAt w _ _ _ w.heap.size rfl rfl).alloc _
  have KR : Hid (Blk W0 (w.heap.size + 1) (sL r) 33) := by rw [← hW0]; exact Blk.newAt (w.alloc _) _ _ _ (w.heap.size + 1) (by simp) rfl
  have B : Hid (Below w.heap.size w W0) := by rw [← hW0]; exact below_next (below_alloc _ _) (below_alloc _ _)
  have l0 := LDo_run KO.out
  go_enter Try.func7, Try.ntmps7
  go_wp2_with fail
  clear hW0 l0
  refine (G1.out W0).mono ?_
  rintro e W1 ⟨rfl, hb⟩
  obtain ⟨U1, t1, kx, hv, _⟩ := var_sk W1 ⟨q.k, P.h, P.a, P.c, P.o, (N : Int), (M : Int)⟩
  have hbv := below_next hb hv
  replace B := hid (below_next B.out hbv)
  replace KO := hid (KO.out.below hbv)
  replace KR := hid (KR.out.below hbv)
  have KS := hid kx
  have l0 := LDo_run KO.out
  clear hb hv hbv kx
  go_wp2_with fail
  clear t1 l0
  refine (G2.out U1 B.out).mono ?_
  rintro e W2 ⟨dp, mp, rfl, od, om, ap, hb⟩
  obtain ⟨a3, c3, rfl⟩ := own_lit_slice od
  obtain ⟨a4, c4, rfl⟩ := own_lit_slice om
  obtain ⟨U2, t2, kx, hv, _⟩ := var_op W2 P (d := .slice a3 N c3) (m := .slice a4 M c4) rfl rfl
  have hbv := below_next hb hv
  replace B := hid (below_next B.out hbv)
  replace KO := hid (KO.out.below hbv)
  replace KR := hid (KR.out.below hbv)
  replace KS := hid (KS.out.below hbv)
  have KP := hid kx
  have l0 := LDk_run KS.out
  clear od om ap hb hv hbv kx
  go_wp2_with fail
  clear t2 l0
  refine (G3.out U2).mono ?_
  rintro e W3 ⟨df, mf, rfl, od, om, ap, hb⟩
  replace B := hid (below_next B.out hb)
  replace KO := hid (KO.out.below hb)
  replace KR := hid (KR.out.below hb)
  replace KS := hid (KS.out.below hb)
  replace KP := hid (KP.out.below hb)
  by_cases big : 16777215 < N ∨ 16777215 < M
  · obtain ⟨a5, c5, rfl⟩ := own_lit_slice od
    obtain ⟨a6, c6, rfl⟩ := own_lit_slice om
    obtain ⟨U3, t3, _, hv, _⟩ := var_op W3 (fq ⟨q.k, P.h, P.a, P.c, P.o, (N : Int), (M : Int)⟩) (d := .slice a5 (fd ⟨q.k, P.h, P.a, P.c, P.o, (N : Int), (M : Int)⟩) c5) (m := .slice a6 (fm ⟨q.k, P.h, P.a, P.c, P.o, (N : Int), (M : Int)⟩) c6) rfl rfl
    have e2 := E1.out big
    rw [e2]
    obtain ⟨Z, hZ⟩ : ∃ Z, fq ⟨q.k, P.h, P.a, P.c, P.o, (N : Int), (M : Int)⟩ = Z := ⟨_, rfl⟩
    rw [hZ] at t3 ⊢
    replace B := hid (below_next B.out hv)
    replace KS := hid (KS.out.below hv)
    clear od om ap hb E1 E2 G1 G2 G3 G4 KO KR KP hZ e2
    have x5 := KS.out.cell 5 _ rfl
    have x6 := KS.out.cell 6 _ rfl
    clear hv
    by_cases h1 : 16777215 < N
    · have g1 : (16777215 : Int) < N := by omega
      clear big h1 KS
      go_wp2_with fail
      clear t3
      refine (awake_ok U3).mono ?_
      rintro e W4 ⟨rfl, hb⟩
      replace B := hid (below_next B.out hb)
      clear hb
      go_wp2
      go_ret
      exact ⟨rfl, B.out⟩
    · have g1 : ¬ (16777215 : Int) < N := by omega
      have g2 : (16777215 : Int) < M := by omega
      clear big h1 KS
      go_wp2_with fail
      clear t3
      refine (awake_ok U3).mono ?_
      rintro e W4 ⟨rfl, hb⟩
      replace B := hid (below_next B.out hb)
      clear hb
      go_wp2
      go_ret
      exact ⟨rfl, B.out⟩
  · have q5 : N ≤ 16777215 := by omega
    have q6 : M ≤ 16777215 := by omega
    have e2 := E2.out q5 q6
    have o5 : By.Own W3 U2.heap.size df N (fun _ => b) := by rw [← e2.2.2.1]; exact od
    have o6 : By.Own W3 U2.heap.size mf M (fun _ => b) := by rw [← e2.2.2.2]; exact om
    rw [e2.1, e2.2.1]
    obtain ⟨a5, c5, rfl⟩ := own_lit_slice o5
    obtain ⟨a6, c6, rfl⟩ := own_lit_slice o6
    obtain ⟨U3, t3, kx, hv, _⟩ := var_op W3 P (d := .slice a5 N c5) (m := .slice a6 M c6) rfl rfl
    replace B := hid (below_next B.out hv)
    replace KO := hid (KO.out.below hv)
    replace KR := hid (KR.out.below hv)
    replace KS := hid (KS.out.below hv)
    replace KP := hid (KP.out.below hv)
    have KF := hid kx
    have O5 := hid (own_below o5 hv).reads
    have O6 := hid (own_below o6 hv).reads
    have x5 := KS.out.cell 5 _ rfl
    have x6 := KS.out.cell 6 _ rfl
    have g1 : ¬ (16777215 : Int) < N := by omega
    have g2 : ¬ (16777215 : Int) < M := by omega
    clear od om ap hb hv kx e2 E1 E2 G1 G2 G3 o5 o6 big q5 q6
    have SW : Hid (∀ V, Below U3.heap.size U3 V → (LDo ⟨W2.heap.size, 0, none⟩).run Try.prog V = .ok (ov P (.slice a3 N c3) (.slice a4 M c4)) V ∧ (LDo ⟨W3.heap.size, 0, none⟩).run Try.prog V = .ok (ov P (.slice a5 N c5) (.slice a6 M c6)) V ∧ (LDk ⟨W1.heap.size, 0, none⟩).run Try.prog V = .ok (sv ⟨q.k, P.h, P.a, P.c, P.o, (N : Int), (M : Int)⟩) V ∧ V.cell? ⟨W1.heap.size, 0, none⟩ = some (.int .u8 q.k) ∧ V.cell? ⟨w.heap.size, 0, none⟩ = some (.int .u8 q.k)) := fun V hV => ⟨LDo_run (KP.out.below hV), LDo_run (KF.out.below hV), LDk_run (KS.out.below hV), (KS.out.below hV).cell 0 _ rfl, (KO.out.below hV).cell 0 _ rfl⟩
    have D1 : Hid (Below U3.heap.size U3 U3.drew) := below_drewN U3 1
    have C1 := hid (awake_ok U3.drew)
    have qS := Sx.eqS_refl ⟨q.k, P.h, P.a, P.c, P.o, (N : Int), (M : Int)⟩
    obtain ⟨z0, z1, z2, z3, z4⟩ := SW.out U3.drew D1.out
    go_wp2_with fail
    clear t3 x5 x6
    go_region_held3 (fun V => (LDo ⟨W2.heap.size, 0, none⟩).run Try.prog V = .ok (ov P (.slice a3 N c3) (.slice a4 M c4)) V ∧ (LDo ⟨W3.heap.size, 0, none⟩).run Try.prog V = .ok (ov P (.slice a5 N c5) (.slice a6 M c6)) V ∧ (LDk ⟨W1.heap.size, 0, none⟩).run Try.prog V = .ok (sv ⟨q.k, P.h, P.a, P.c, P.o, (N : Int), (M : Int)⟩) V ∧ V.cell? ⟨W1.heap.size, 0, none⟩ = some (.int .u8 q.k) ∧ V.cell? ⟨w.heap.size, 0, none⟩ = some (.int .u8 q.k)) (go_keep) (first
      | (go_at_call 9; with_reducible refine C3.out.mono ?_; rintro e V3 ⟨rfl, hb⟩; have N3 : Hid (Below U3.heap.size U3 V3) := hid (below_next N2.out hb); have tt := SW.out V3 N3.out; have y30 := tt.1; have y31 := tt.2.1; have y32 := tt.2.2.1; have y33 := tt.2.2.2.1; have y34 := tt.2.2.2.2; clear tt hb)
      | (go_at_call 9; with_reducible refine C2.out.mono ?_; rintro e V2 ⟨rfl, hb⟩; have N2 : Hid (Below U3.heap.size U3 V2) := hid (below_next N1.out hb); have tt := SW.out V2 N2.out; have y20 := tt.1; have y21 := tt.2.1; have y22 := tt.2.2.1; have y23 := tt.2.2.2.1; have y24 := tt.2.2.2.2; clear tt hb; have C3 := hid (G4.out a5 a6 c5 c6 V2))
      | (go_at_call 21; with_reducible refine C1.out.mono ?_; rintro e V1 ⟨rfl, hb⟩; have N1 : Hid (Below U3.heap.size U3 V1) := hid (below_next D1.out hb); have tt := SW.out V1 N1.out; have y10 := tt.1; have y11 := tt.2.1; have y12 := tt.2.2.1; have y13 := tt.2.2.2.1; have y14 := tt.2.2.2.2; clear tt hb; have C2 := hid (G4.out a3 a4 c3 c4 V1)))
    clear z0 z1 z2 z3 z4 y10 y11 y12 y13 y14 y20 y21 y22 y23 y24 y30 y31 y32 y33 y34 C1 C2 C3 SW D1 N1 N2 qS g1 g2
    have hb := N3.out
    replace B := hid (below_next B.out hb)
    replace KR := hid (KR.out.below hb)
    replace KS := hid (KS.out.below hb)
    replace KP := hid (KP.out.below hb)
    replace KF := hid (KF.out.below hb)
    replace O5 := hid (O5.out.below hb)
    replace O6 := hid (O6.out.below hb)
    clear hb N3 KO
    have f1 := KF.out.cell 1 _ rfl
    have f2 := KF.out.cell 2 _ rfl
    have f3 := KF.out.cell 3 _ rfl
    have f4 := KF.out.cell 4 _ rfl
    have f5 := KF.out.cell 5 _ rfl
    have f6 := KF.out.cell 6 _ rfl
    have p1 := KP.out.cell 1 _ rfl
    have p2 := KP.out.cell 2 _ rfl
    have p3 := KP.out.cell 3 _ rfl
    have p4 := KP.out.cell 4 _ rfl
    have p5 := KP.out.cell 5 _ rfl
    have p6 := KP.out.cell 6 _ rfl
    have s5 := KS.out.cell 5 _ rfl
    have s6 := KS.out.cell 6 _ rfl
    go_wp2_with fail
    clear f1 f2 f3 f4 p1 p2 p3 p4 p5 p6 s5 s6
    go_loop [11] (fun x => ∃ k : Nat, k ≤ N ∧ x = .int .i64 k) (fun x => N - (intOf x).toNat)
    case atStart => exact ⟨0, Nat.zero_le _, rfl⟩
    case round =>
    obtain ⟨k, hk, rfl⟩ := hrel
    by_cases hlt : k < N
    · obtain ⟨bb, off, rfl, c9⟩ := rb_at O5.out hlt
      have e9 : (b != b) = false := by simp
      go_wp2
      exact ⟨⟨k + 1, by omega, by go_num⟩, by simp [intOf]; omega⟩
    · have l9 : ¬ (k : Int) < N := by omega
      clear hk hlt
      go_wp2
      go_loop [12] (fun x => ∃ k : Nat, k ≤ M ∧ x = .int .i64 k) (fun x => M - (intOf x).toNat)
      case atStart => exact ⟨0, Nat.zero_le _, rfl⟩
      case round =>
      obtain ⟨k, hk, rfl⟩ := hrel
      by_cases hlt : k < M
      · obtain ⟨bb, off, rfl, c9⟩ := rb_at O6.out hlt
        have e9 : (b != b) = false := by simp
        go_wp2
        exact ⟨⟨k + 1, by omega, by go_num⟩, by simp [intOf]; omega⟩
      · have l9 : ¬ (k : Int) < M := by omega
        clear hk hlt
        obtain ⟨V4, t5, kx, hv, _⟩ := var_sk V3 ⟨q.k, P.h, P.a, P.c, P.o, (N : Int), (M : Int)⟩
        replace B := hid (below_next B.out hv)
        have zf := KF.out.lt
        replace KF := hid (KF.out.below hv)
        have zs := KS.out.lt
        have zr := KR.out.lt
        have l0 := LDk_run KS.out
        replace KS := hid (KS.out.below hv)
        replace KR := hid (KR.out.below hv)
        clear hv
        have sV5 := KS.out.cell 5 _ rfl
        have rV5 := KR.out.cell 5 _ rfl
        have kV5 := kx.cell 5 _ rfl
        have fV5 := kx.frozen 5
        obtain ⟨V5, hV5⟩ : ∃ W, V4.setCell ⟨V3.heap.size, 5, none⟩ (.int .i64 (mx (N : Int) r.d)) = W := ⟨_, rfl⟩
        have hk := Kp.setCell (w := V4) V3.heap.size 5 (.int .i64 (mx (N : Int) r.d))
        rw [hV5] at hk
        have KV5 : Blk V5 V3.heap.size (sL ⟨q.k, P.h, P.a, P.c, P.o, (mx (N : Int) r.d), (M : Int)⟩) 33 := by rw [← hV5]; exact kx.set 5 _
        replace KS := hid (KS.out.kept hk (by omega))
        replace KR := hid (KR.out.kept hk (by omega))
        replace KF := hid (KF.out.kept hk (by omega))
        replace B := hid (B.out.trans (hk.below B.out.size (fun j hj e => by omega)))
        clear hk
        have sV6 := KS.out.cell 6 _ rfl
        have rV6 := KR.out.cell 6 _ rfl
        have kV6 := KV5.cell 6 _ rfl
        have fV6 := KV5.frozen 6
        obtain ⟨V6, hV6⟩ : ∃ W, V5.setCell ⟨V3.heap.size, 6, none⟩ (.int .i64 (mx (M : Int) r.m)) = W := ⟨_, rfl⟩
        have hk := Kp.setCell (w := V5) V3.heap.size 6 (.int .i64 (mx (M : Int) r.m))
        rw [hV6] at hk
        have KV6 : Blk V6 V3.heap.size (sL ⟨q.k, P.h, P.a, P.c, P.o, (mx (N : Int) r.d), (mx (M : Int) r.m)⟩) 33 := by rw [← hV6]; exact KV5.set 6 _
        replace KS := hid (KS.out.kept hk (by omega))
        replace KR := hid (KR.out.kept hk (by omega))
        replace KF := hid (KF.out.kept hk (by omega))
        replace B := hid (B.out.trans (hk.below B.out.size (fun j hj e => by omega)))
        clear hk
        have sV7 := KS.out.cell 4 _ rfl
        have rV7 := KR.out.cell 4 _ rfl
        have kV7 := KV6.cell 4 _ rfl
        have fV7 := KV6.frozen 4
        obtain ⟨V7, hV7⟩ : ∃ W, V6.setCell ⟨V3.heap.size, 4, none⟩ (.int .i64 (mx P.o r.o)) = W := ⟨_, rfl⟩
        have hk := Kp.setCell (w := V6) V3.heap.size 4 (.int .i64 (mx P.o r.o))
        rw [hV7] at hk
        have KV7 : Blk V7 V3.heap.size (sL ⟨q.k, P.h, P.a, P.c, (mx P.o r.o), (mx (N : Int) r.d), (mx (M : Int) r.m)⟩) 33 := by rw [← hV7]; exact KV6.set 4 _
        replace KS := hid (KS.out.kept hk (by omega))
        replace KR := hid (KR.out.kept hk (by omega))
        replace KF := hid (KF.out.kept hk (by omega))
        replace B := hid (B.out.trans (hk.below B.out.size (fun j hj e => by omega)))
        clear hk
        have sV8 := KS.out.cell 3 _ rfl
        have rV8 := KR.out.cell 3 _ rfl
        have kV8 := KV7.cell 3 _ rfl
        have fV8 := KV7.frozen 3
        obtain ⟨V8, hV8⟩ : ∃ W, V7.setCell ⟨V3.heap.size, 3, none⟩ (.int .i64 (mx P.c r.c)) = W := ⟨_, rfl⟩
        have hk := Kp.setCell (w := V7) V3.heap.size 3 (.int .i64 (mx P.c r.c))
        rw [hV8] at hk
        have KV8 : Blk V8 V3.heap.size (sL ⟨q.k, P.h, P.a, (mx P.c r.c), (mx P.o r.o), (mx (N : Int) r.d), (mx (M : Int) r.m)⟩) 33 := by rw [← hV8]; exact KV7.set 3 _
        replace KS := hid (KS.out.kept hk (by omega))
        replace KR := hid (KR.out.kept hk (by omega))
        replace KF := hid (KF.out.kept hk (by omega))
        replace B := hid (B.out.trans (hk.below B.out.size (fun j hj e => by omega)))
        clear hk
        have KT := hid KV8
        have bm : bd ⟨q.k, P.h, P.a, P.c, P.o, (N : Int), (M : Int)⟩ ≤ bd ⟨q.k, P.h, P.a, mx P.c r.c, mx P.o r.o, mx (N : Int) r.d, mx (M : Int) r.m⟩ := bd_mono (mx_le _ _) (mx_le _ _) (mx_le _ _) (mx_le _ _)
        have b9 := bd_96 ⟨q.k, P.h, P.a, P.c, P.o, (N : Int), (M : Int)⟩
        have Bs := fun V => bound_ok ⟨q.k, P.h, P.a, P.c, P.o, (N : Int), (M : Int)⟩ V
        have Bt := fun V => bound_ok ⟨q.k, P.h, P.a, mx P.c r.c, mx P.o r.o, mx (N : Int) r.d, mx (M : Int) r.m⟩ V
        obtain ⟨bs, hbs⟩ : ∃ x, bd ⟨q.k, P.h, P.a, P.c, P.o, (N : Int), (M : Int)⟩ = x := ⟨_, rfl⟩
        obtain ⟨bt, hbt⟩ : ∃ x, bd ⟨q.k, P.h, P.a, mx P.c r.c, mx P.o r.o, mx (N : Int) r.d, mx (M : Int) r.m⟩ = x := ⟨_, rfl⟩
        rw [hbs] at bm b9
        rw [hbt] at bm
        simp only [hbs] at Bs
        simp only [hbt] at Bt
        have BS := hid Bs
        have BT := hid Bt
        clear Bs Bt hbs hbt
        clear kx KV5 KV6 KV7 KV8 zs zr zf
        have SW : Hid (∀ V, Below V8.heap.size V8 V → (LDk ⟨V3.heap.size, 0, none⟩).run Try.prog V = .ok (sv ⟨q.k, P.h, P.a, mx P.c r.c, mx P.o r.o, mx (N : Int) r.d, mx (M : Int) r.m⟩) V ∧ (LDk ⟨W1.heap.size, 0, none⟩).run Try.prog V = .ok (sv ⟨q.k, P.h, P.a, P.c, P.o, (N : Int), (M : Int)⟩) V ∧ (LDo ⟨W3.heap.size, 0, none⟩).run Try.prog V = .ok (ov P (.slice a5 N c5) (.slice a6 M c6)) V) := fun V hV => ⟨LDk_run (KT.out.below hV), LDk_run (KS.out.below hV), LDo_run (KF.out.below hV)⟩
        have D1 : Hid (Below V8.heap.size V8 V8.drew) := below_drewN V8 1
        have C1 := hid (BT.out V8.drew)
        obtain ⟨z0, z1, z2⟩ := SW.out V8.drew D1.out
        go_wp2_with fail
        go_region_held3 (fun V => (LDk ⟨V3.heap.size, 0, none⟩).run Try.prog V = .ok (sv ⟨q.k, P.h, P.a, mx P.c r.c, mx P.o r.o, mx (N : Int) r.d, mx (M : Int) r.m⟩) V ∧ (LDk ⟨W1.heap.size, 0, none⟩).run Try.prog V = .ok (sv ⟨q.k, P.h, P.a, P.c, P.o, (N : Int), (M : Int)⟩) V ∧ (LDo ⟨W3.heap.size, 0, none⟩).run Try.prog V = .ok (ov P (.slice a5 N c5) (.slice a6 M c6)) V) (go_keep) (first
          | (go_at_call 17; first
            | (with_reducible refine (same2 ⟨q.k, P.h, P.a, P.c, P.o, (N : Int), (M : Int)⟩ ⟨q.k, P.h, P.a, mx P.c r.c, mx P.o r.o, mx (N : Int) r.d, mx (M : Int) r.m⟩ (X4.alloc (Obj.cells #[Value.int IntKind.u8 q.k, Value.int IntKind.i64 P.h, Value.int IntKind.u8 P.a, Value.int IntKind.i64 P.c, Value.int IntKind.i64 P.o, Value.int IntKind.i64 ((N : Int)), Value.int IntKind.i64 ((M : Int)), Value.int IntKind.u8 q.k, Value.int IntKind.i64 P.h, Value.int IntKind.u8 P.a, Value.int IntKind.i64 (mx P.c r.c), Value.int IntKind.i64 (mx P.o r.o), Value.int IntKind.i64 (mx (N : Int) r.d), Value.int IntKind.i64 (mx (M : Int) r.m)] 33)) _ _ (RA.out.below (below_alloc _ _)) (lit2 ⟨q.k, P.h, P.a, P.c, P.o, (N : Int), (M : Int)⟩ ⟨q.k, P.h, P.a, mx P.c r.c, mx P.o r.o, mx (N : Int) r.d, mx (M : Int) r.m⟩ X4 X4.heap.size #[Value.int IntKind.u8 q.k, Value.int IntKind.i64 P.h, Value.int IntKind.u8 P.a, Value.int IntKind.i64 P.c, Value.int IntKind.i64 P.o, Value.int IntKind.i64 ((N : Int)), Value.int IntKind.i64 ((M : Int)), Value.int IntKind.u8 q.k, Value.int IntKind.i64 P.h, Value.int IntKind.u8 P.a, Value.int IntKind.i64 (mx P.c r.c), Value.int IntKind.i64 (mx P.o r.o), Value.int IntKind.i64 (mx (N : Int) r.d), Value.int IntKind.i64 (mx (M : Int) r.m)] rfl rfl)).mono ?_; rintro e X5 ⟨rfl, hb⟩; have N5 : Hid (Below V8.heap.size V8 X5) := hid (below_next (below_next N4.out (below_alloc _ _)) hb); have tt := SW.out X5 N5.out; have y11a := tt.1; have y11b := tt.2.1; have y11c := tt.2.2; clear tt; clear hb)
            | (with_reducible refine (same2 ⟨q.k, P.h, P.a, P.c, P.o, (N : Int), (M : Int)⟩ ⟨q.k, P.h, P.a, mx P.c r.c, mx P.o r.o, mx (N : Int) r.d, mx (M : Int) r.m⟩ ((X4.alloc (Obj.cells #[Value.int IntKind.u8 q.k, Value.int IntKind.i64 P.h, Value.int IntKind.u8 P.a, Value.int IntKind.i64 P.c, Value.int IntKind.i64 P.o, Value.int IntKind.i64 ((N : Int)), Value.int IntKind.i64 ((M : Int)), Value.int IntKind.u8 q.k, Value.int IntKind.i64 P.h, Value.int IntKind.u8 P.a, Value.int IntKind.i64 (mx P.c r.c), Value.int IntKind.i64 (mx P.o r.o), Value.int IntKind.i64 (mx (N : Int) r.d), Value.int IntKind.i64 (mx (M : Int) r.m)] 33)).alloc (Obj.cells #[Value.int IntKind.u8 q.k, Value.int IntKind.i64 P.h, Value.int IntKind.u8 P.a, Value.int IntKind.i64 P.c, Value.int IntKind.i64 P.o, Value.int IntKind.i64 ((N : Int)), Value.int IntKind.i64 ((M : Int)), Value.int IntKind.u8 q.k, Value.int IntKind.i64 P.h, Value.int IntKind.u8 P.a, Value.int IntKind.i64 (mx P.c r.c), Value.int IntKind.i64 (mx P.o r.o), Value.int IntKind.i64 (mx (N : Int) r.d), Value.int IntKind.i64 (mx (M : Int) r.m)] 33)) _ _ (RC.out.below (below_alloc _ _)) (lit2 ⟨q.k, P.h, P.a, P.c, P.o, (N : Int), (M : Int)⟩ ⟨q.k, P.h, P.a, mx P.c r.c, mx P.o r.o, mx (N : Int) r.d, mx (M : Int) r.m⟩ (X4.alloc (Obj.cells #[Value.int IntKind.u8 q.k, Value.int IntKind.i64 P.h, Value.int IntKind.u8 P.a, Value.int IntKind.i64 P.c, Value.int IntKind.i64 P.o, Value.int IntKind.i64 ((N : Int)), Value.int IntKind.i64 ((M : Int)), Value.int IntKind.u8 q.k, Value.int IntKind.i64 P.h, Value.int IntKind.u8 P.a, Value.int IntKind.i64 (mx P.c r.c), Value.int IntKind.i64 (mx P.o r.o), Value.int IntKind.i64 (mx (N : Int) r.d), Value.int IntKind.i64 (mx (M : Int) r.m)] 33)) (X4.heap.size + 1) #[Value.int IntKind.u8 q.k, Value.int IntKind.i64 P.h, Value.int IntKind.u8 P.a, Value.int IntKind.i64 P.c, Value.int IntKind.i64 P.o, Value.int IntKind.i64 ((N : Int)), Value.int IntKind.i64 ((M : Int)), Value.int IntKind.u8 q.k, Value.int IntKind.i64 P.h, Value.int IntKind.u8 P.a, Value.int IntKind.i64 (mx P.c r.c), Value.int IntKind.i64 (mx P.o r.o), Value.int IntKind.i64 (mx (N : Int) r.d), Value.int IntKind.i64 (mx (M : Int) r.m)] (by simp) rfl)).mono ?_; rintro e X5 ⟨rfl, hb⟩; have N5 : Hid (Below V8.heap.size V8 X5) := hid (below_next (below_next (below_next N4.out (below_alloc _ _)) (below_alloc _ _)) hb); have tt := SW.out X5 N5.out; have y12a := tt.1; have y12b := tt.2.1; have y12c := tt.2.2; clear tt; clear hb)
            | (with_reducible refine (same2 ⟨q.k, P.h, P.a, P.c, P.o, (N : Int), (M : Int)⟩ ⟨q.k, P.h, P.a, mx P.c r.c, mx P.o r.o, mx (N : Int) r.d, mx (M : Int) r.m⟩ ((X4.alloc (Obj.cells #[Value.int IntKind.u8 q.k, Value.int IntKind.i64 P.h, Value.int IntKind.u8 P.a, Value.int IntKind.i64 P.c, Value.int IntKind.i64 P.o, Value.int IntKind.i64 ((N : Int)), Value.int IntKind.i64 ((M : Int)), Value.int IntKind.u8 q.k, Value.int IntKind.i64 P.h, Value.int IntKind.u8 P.a, Value.int IntKind.i64 (mx P.c r.c), Value.int IntKind.i64 (mx P.o r.o), Value.int IntKind.i64 (mx (N : Int) r.d), Value.int IntKind.i64 (mx (M : Int) r.m)] 33)).alloc (Obj.cells #[Value.int IntKind.u8 q.k, Value.int IntKind.i64 P.h, Value.int IntKind.u8 P.a, Value.int IntKind.i64 P.c, Value.int IntKind.i64 P.o, Value.int IntKind.i64 ((N : Int)), Value.int IntKind.i64 ((M : Int)), Value.int IntKind.u8 q.k, Value.int IntKind.i64 P.h, Value.int IntKind.u8 P.a, Value.int IntKind.i64 (mx P.c r.c), Value.int IntKind.i64 (mx P.o r.o), Value.int IntKind.i64 (mx (N : Int) r.d), Value.int IntKind.i64 (mx (M : Int) r.m)] 33)) _ _ (lit2 ⟨q.k, P.h, P.a, P.c, P.o, (N : Int), (M : Int)⟩ ⟨q.k, P.h, P.a, mx P.c r.c, mx P.o r.o, mx (N : Int) r.d, mx (M : Int) r.m⟩ (X4.alloc (Obj.cells #[Value.int IntKind.u8 q.k, Value.int IntKind.i64 P.h, Value.int IntKind.u8 P.a, Value.int IntKind.i64 P.c, Value.int IntKind.i64 P.o, Value.int IntKind.i64 ((N : Int)), Value.int IntKind.i64 ((M : Int)), Value.int IntKind.u8 q.k, Value.int IntKind.i64 P.h, Value.int IntKind.u8 P.a, Value.int IntKind.i64 (mx P.c r.c), Value.int IntKind.i64 (mx P.o r.o), Value.int IntKind.i64 (mx (N : Int) r.d), Value.int IntKind.i64 (mx (M : Int) r.m)] 33)) (X4.heap.size + 1) #[Value.int IntKind.u8 q.k, Value.int IntKind.i64 P.h, Value.int IntKind.u8 P.a, Value.int IntKind.i64 P.c, Value.int IntKind.i64 P.o, Value.int IntKind.i64 ((N : Int)), Value.int IntKind.i64 ((M : Int)), Value.int IntKind.u8 q.k, Value.int IntKind.i64 P.h, Value.int IntKind.u8 P.a, Value.int IntKind.i64 (mx P.c r.c), Value.int IntKind.i64 (mx P.o r.o), Value.int IntKind.i64 (mx (N : Int) r.d), Value.int IntKind.i64 (mx (M : Int) r.m)] (by simp) rfl) (RC.out.below (below_alloc _ _))).mono ?_; rintro e X5 ⟨rfl, hb⟩; have N5 : Hid (Below V8.heap.size V8 X5) := hid (below_next (below_next (below_next N4.out (below_alloc _ _)) (below_alloc _ _)) hb); have tt := SW.out X5 N5.out; have y13a := tt.1; have y13b := tt.2.1; have y13c := tt.2.2; clear tt; clear hb))
          | (go_at_call 9; first
            | (with_reducible refine (G4.out a5 a6 c5 c6 (X3.alloc (Obj.cells #[Value.int IntKind.u8 q.k, Value.int IntKind.i64 P.h, Value.int IntKind.u8 P.a, Value.int IntKind.i64 P.c, Value.int IntKind.i64 P.o, Value.int IntKind.i64 ((N : Int)), Value.int IntKind.i64 ((M : Int)), Value.int IntKind.u8 q.k, Value.int IntKind.i64 P.h, Value.int IntKind.u8 P.a, Value.int IntKind.i64 (mx P.c r.c), Value.int IntKind.i64 (mx P.o r.o), Value.int IntKind.i64 (mx (N : Int) r.d), Value.int IntKind.i64 (mx (M : Int) r.m)] 33))).mono ?_; rintro e X4 ⟨rfl, hb⟩; have RA := hid ((lit2 ⟨q.k, P.h, P.a, P.c, P.o, (N : Int), (M : Int)⟩ ⟨q.k, P.h, P.a, mx P.c r.c, mx P.o r.o, mx (N : Int) r.d, mx (M : Int) r.m⟩ X3 X3.heap.size #[Value.int IntKind.u8 q.k, Value.int IntKind.i64 P.h, Value.int IntKind.u8 P.a, Value.int IntKind.i64 P.c, Value.int IntKind.i64 P.o, Value.int IntKind.i64 ((N : Int)), Value.int IntKind.i64 ((M : Int)), Value.int IntKind.u8 q.k, Value.int IntKind.i64 P.h, Value.int IntKind.u8 P.a, Value.int IntKind.i64 (mx P.c r.c), Value.int IntKind.i64 (mx P.o r.o), Value.int IntKind.i64 (mx (N : Int) r.d), Value.int IntKind.i64 (mx (M : Int) r.m)] rfl rfl).below hb); have N4 : Hid (Below V8.heap.size V8 X4) := hid (below_next (below_next N3.out (below_alloc _ _)) hb); have tt := SW.out X4 N4.out; have y5a := tt.1; have y5b := tt.2.1; have y5c := tt.2.2; clear tt; have tt := SW.out (X4.alloc (Obj.cells #[Value.int IntKind.u8 q.k, Value.int IntKind.i64 P.h, Value.int IntKind.u8 P.a, Value.int IntKind.i64 P.c, Value.int IntKind.i64 P.o, Value.int IntKind.i64 ((N : Int)), Value.int IntKind.i64 ((M : Int)), Value.int IntKind.u8 q.k, Value.int IntKind.i64 P.h, Value.int IntKind.u8 P.a, Value.int IntKind.i64 (mx P.c r.c), Value.int IntKind.i64 (mx P.o r.o), Value.int IntKind.i64 (mx (N : Int) r.d), Value.int IntKind.i64 (mx (M : Int) r.m)] 33)) (below_next N4.out (below_alloc _ _)); have y6a := tt.1; have y6b := tt.2.1; have y6c := tt.2.2; clear tt; have tt := SW.out ((X4.alloc (Obj.cells #[Value.int IntKind.u8 q.k, Value.int IntKind.i64 P.h, Value.int IntKind.u8 P.a, Value.int IntKind.i64 P.c, Value.int IntKind.i64 P.o, Value.int IntKind.i64 ((N : Int)), Value.int IntKind.i64 ((M : Int)), Value.int IntKind.u8 q.k, Value.int IntKind.i64 P.h, Value.int IntKind.u8 P.a, Value.int IntKind.i64 (mx P.c r.c), Value.int IntKind.i64 (mx P.o r.o), Value.int IntKind.i64 (mx (N : Int) r.d), Value.int IntKind.i64 (mx (M : Int) r.m)] 33)).alloc (Obj.cells #[Value.int IntKind.u8 q.k, Value.int IntKind.i64 P.h, Value.int IntKind.u8 P.a, Value.int IntKind.i64 P.c, Value.int IntKind.i64 P.o, Value.int IntKind.i64 ((N : Int)), Value.int IntKind.i64 ((M : Int)), Value.int IntKind.u8 q.k, Value.int IntKind.i64 P.h, Value.int IntKind.u8 P.a, Value.int IntKind.i64 (mx P.c r.c), Value.int IntKind.i64 (mx P.o r.o), Value.int IntKind.i64 (mx (N : Int) r.d), Value.int IntKind.i64 (mx (M : Int) r.m)] 33)) (below_next (below_next N4.out (below_alloc _ _)) (below_alloc _ _)); have y7a := tt.1; have y7b := tt.2.1; have y7c := tt.2.2; clear tt; clear hb)
            | (with_reducible refine (G4.out a5 a6 c5 c6 X3).mono ?_; rintro e X4 ⟨rfl, hb⟩; have N4 : Hid (Below V8.heap.size V8 X4) := hid (below_next N3.out hb); have RC := hid (lit2 ⟨q.k, P.h, P.a, P.c, P.o, (N : Int), (M : Int)⟩ ⟨q.k, P.h, P.a, mx P.c r.c, mx P.o r.o, mx (N : Int) r.d, mx (M : Int) r.m⟩ X4 X4.heap.size #[Value.int IntKind.u8 q.k, Value.int IntKind.i64 P.h, Value.int IntKind.u8 P.a, Value.int IntKind.i64 P.c, Value.int IntKind.i64 P.o, Value.int IntKind.i64 ((N : Int)), Value.int IntKind.i64 ((M : Int)), Value.int IntKind.u8 q.k, Value.int IntKind.i64 P.h, Value.int IntKind.u8 P.a, Value.int IntKind.i64 (mx P.c r.c), Value.int IntKind.i64 (mx P.o r.o), Value.int IntKind.i64 (mx (N : Int) r.d), Value.int IntKind.i64 (mx (M : Int) r.m)] rfl rfl); have tt := SW.out X4 N4.out; have y8a := tt.1; have y8b := tt.2.1; have y8c := tt.2.2; clear tt; have tt := SW.out (X4.alloc (Obj.cells #[Value.int IntKind.u8 q.k, Value.int IntKind.i64 P.h, Value.int IntKind.u8 P.a, Value.int IntKind.i64 P.c, Value.int IntKind.i64 P.o, Value.int IntKind.i64 ((N : Int)), Value.int IntKind.i64 ((M : Int)), Value.int IntKind.u8 q.k, Value.int IntKind.i64 P.h, Value.int IntKind.u8 P.a, Value.int IntKind.i64 (mx P.c r.c), Value.int IntKind.i64 (mx P.o r.o), Value.int IntKind.i64 (mx (N : Int) r.d), Value.int IntKind.i64 (mx (M : Int) r.m)] 33)) (below_next N4.out (below_alloc _ _)); have y9a := tt.1; have y9b := tt.2.1; have y9c := tt.2.2; clear tt; have tt := SW.out ((X4.alloc (Obj.cells #[Value.int IntKind.u8 q.k, Value.int IntKind.i64 P.h, Value.int IntKind.u8 P.a, Value.int IntKind.i64 P.c, Value.int IntKind.i64 P.o, Value.int IntKind.i64 ((N : Int)), Value.int IntKind.i64 ((M : Int)), Value.int IntKind.u8 q.k, Value.int IntKind.i64 P.h, Value.int IntKind.u8 P.a, Value.int IntKind.i64 (mx P.c r.c), Value.int IntKind.i64 (mx P.o r.o), Value.int IntKind.i64 (mx (N : Int) r.d), Value.int IntKind.i64 (mx (M : Int) r.m)] 33)).alloc (Obj.cells #[Value.int IntKind.u8 q.k, Value.int IntKind.i64 P.h, Value.int IntKind.u8 P.a, Value.int IntKind.i64 P.c, Value.int IntKind.i64 P.o, Value.int IntKind.i64 ((N : Int)), Value.int IntKind.i64 ((M : Int)), Value.int IntKind.u8 q.k, Value.int IntKind.i64 P.h, Value.int IntKind.u8 P.a, Value.int IntKind.i64 (mx P.c r.c), Value.int IntKind.i64 (mx P.o r.o), Value.int IntKind.i64 (mx (N : Int) r.d), Value.int IntKind.i64 (mx (M : Int) r.m)] 33)) (below_next (below_next N4.out (below_alloc _ _)) (below_alloc _ _)); have y10a := tt.1; have y10b := tt.2.1; have y10c := tt.2.2; clear tt; clear hb))
          | (go_at_call 19; with_reducible refine C3.out.mono ?_; rintro e X3 ⟨rfl, hb⟩; have N3 : Hid (Below V8.heap.size V8 X3) := hid (below_next N2.out hb); have tt := SW.out X3 N3.out; have y1a := tt.1; have y1b := tt.2.1; have y1c := tt.2.2; clear tt; have tt := SW.out (X3.alloc (Obj.cells #[Value.int IntKind.u8 q.k, Value.int IntKind.i64 P.h, Value.int IntKind.u8 P.a, Value.int IntKind.i64 P.c, Value.int IntKind.i64 P.o, Value.int IntKind.i64 ((N : Int)), Value.int IntKind.i64 ((M : Int)), Value.int IntKind.u8 q.k, Value.int IntKind.i64 P.h, Value.int IntKind.u8 P.a, Value.int IntKind.i64 (mx P.c r.c), Value.int IntKind.i64 (mx P.o r.o), Value.int IntKind.i64 (mx (N : Int) r.d), Value.int IntKind.i64 (mx (M : Int) r.m)] 33)) (below_next N3.out (below_alloc _ _)); have y2a := tt.1; have y2b := tt.2.1; have y2c := tt.2.2; clear tt; have tag3 := True.intro; clear hb)
          | (go_at_call 19; with_reducible refine C2.out.mono ?_; rintro e X2 ⟨rfl, hb⟩; have N2 : Hid (Below V8.heap.size V8 X2) := hid (below_next N1.out hb); have tt := SW.out X2 N2.out; have y3a := tt.1; have y3b := tt.2.1; have y3c := tt.2.2; clear tt; have C3 := hid (BS.out X2); clear hb)
          | (go_at_call 19; with_reducible refine C1.out.mono ?_; rintro e X1 ⟨rfl, hb⟩; have N1 : Hid (Below V8.heap.size V8 X1) := hid (below_next D1.out hb); have tt := SW.out X1 N1.out; have y4a := tt.1; have y4b := tt.2.1; have y4c := tt.2.2; clear tt; have C2 := hid (BS.out X1); clear hb))
        all_goals (
          replace B := hid (below_next B.out N5.out)
          clear SW D1 C1 KT KS KF KR G4 BS BT N1 N2 N3 N4 N5
          go_wp2
          go_ret
          exact ⟨rfl, B.out⟩)
theorem public_w (x : OE) (b : Int) (r : Sk) (w : World) (hx : x.Ok w) (hb : 0 ≤ b ∧ b < 256) : Calls Try.prog 7 #[ov x.q (.slice x.da x.dn x.dc) (.slice x.ma x.mn x.mc), .int .u8 b, sv r] w fun e w' => e = .returned (.bool true) ∧ Below w.heap.size w w' :=
  public_q x.q x.da x.ma x.dn x.dc x.mn x.mc x.f x.g b r w ⟨hx.q.k0, hx.q.k1⟩ hx.rd hx.rm hx.ld hx.lm hb
end Go.Proofs.Ytdahogdfonhnfaa.Ou
