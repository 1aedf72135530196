/- MacNames. -/
import Derived.Test.YtpohogpkfdebdaaGreatDoorOcod
import Derived.Test.YtpohogpkfdebdaaGreatDoorOknd
import Derived.Test.YtpohogpkfdebdaaGreatDoorObgu
namespace Go.Proofs.YtpohogpkfdebdaaGreatDoor.Oc
open Go.ChangeShapes Go.WideShapes Go.ChangeAt Go.RowKit
open Go.Proofs.YtpohogpkfdebdaaGreatDoor.By
open Go.Proofs.YtpohogpkfdebdaaGreatDoor.Sh (Blk size_alloc)
open Go.Proofs.YtpohogpkfdebdaaGreatDoor.Dg (BB LG lpv Lt Tl IsMk MB kjf mjf)
theorem bx_ne {z : Int} (h0 : 0 ≤ z) (h1 : z < 256) : ¬ bits BinOp.xor IntKind.u8 z 1 = z := by
  have key : ∀ n : Nat, n < 256 → ¬ bits BinOp.xor IntKind.u8 (n : Int) 1 = (n : Int) := by decide +kernel
  have := key z.toNat (by omega)
  rwa [show ((z.toNat : Nat) : Int) = z by omega] at this
theorem own_at {w : World} {base g n cap : Nat} {f : Nat → Int} (h : By.Own w base (.slice (some ⟨g, 0, none⟩) n cap) n f) (i : Nat) (hi : i < n) : w.cell? ⟨g, i, none⟩ = some (.int .u8 (f i)) := by
  obtain ⟨_, a, c, e, _, _, h0 | ⟨b, o, rfl, hc⟩⟩ := h.reads
  · omega
  · simp only [Value.slice.injEq, Option.some.injEq, Addr.mk.injEq, true_and] at e
    obtain ⟨⟨rfl, rfl, -⟩, rfl⟩ := e
    have := hc i hi
    rwa [Nat.zero_add] at this
set_option maxRecDepth 20000 in
set_option maxHeartbeats 16000000 in
theorem names_walk (w : World) (hk : KA w) : Calls Tryz.prog 8 #[] w fun e w' => e = .returned (.bool true) ∧ Below w.heap.size w w' := by
  have HK := hid hk
  have hm16 : ∀ W : World, (Instr.makeSlice 23 (.int .i64 16) (.int .i64 16)).run Tryz.prog W = .ok (.slice (some ⟨W.heap.size, 0, none⟩) 16 16) (W.alloc (.cells (bl 16 (fun _ => 0)).toArray 5)) := fun W => make_n 16 (by decide) W
  have hm65 : ∀ W : World, (Instr.makeSlice 23 (.int .i64 65) (.int .i64 65)).run Tryz.prog W = .ok (.slice (some ⟨W.heap.size, 0, none⟩) 65 65) (W.alloc (.cells (bl 65 (fun _ => 0)).toArray 5)) := fun W => make_n 65 (by decide) W
  have hm64 : ∀ W : World, (Instr.makeSlice 23 (.int .i64 64) (.int .i64 64)).run Tryz.prog W = .ok (.slice (some ⟨W.heap.size, 0, none⟩) 64 64) (W.alloc (.cells (bl 64 (fun _ => 0)).toArray 5)) := fun W => make_n 64 (by decide) W
  clear hk
  go_enter Tryz.func8, Tryz.ntmps8
  go_wp2_with fail
  have B0 := hid (below_alloc w (.cells (bl 16 (fun _ => 0)).toArray 5))
  obtain ⟨W0, hW0⟩ : ∃ x, w.alloc (.cells (bl 16 (fun _ => 0)).toArray 5) = x := ⟨_, rfl⟩
  rw [hW0] at B0 ⊢
  clear hW0
  refine (show Calls Tryz.prog 38 #[.agg #[.int .u8 1, .slice none 0 0, .slice none 0 0, .int .i64 33]] W0 (fun e w' => e = .returned (.int .i64 11) ∧ Below W0.heap.size W0 w') from code_no 1 0 0 0 0 none none 33 11 (by decide) (by decide) W0).mono ?_
  rintro e W1 ⟨rfl, hb1⟩
  have B1 := hid (below_next B0.out hb1)
  clear hb1 B0
  go_wp2_with fail
  refine (show Calls Tryz.prog 38 #[.agg #[.int .u8 3, .slice (some ⟨w.heap.size, 0, none⟩) 16 16, .slice none 0 0, .int .i64 17]] W1 (fun e w' => e = .returned (.int .i64 11) ∧ Below W1.heap.size W1 w') from code_no 3 16 16 0 0 (some ⟨w.heap.size, 0, none⟩) none 17 11 (by decide) (by decide) W1).mono ?_
  rintro e W2 ⟨rfl, hb2⟩
  have B2 := hid (below_next B1.out hb2)
  clear hb2 B1
  go_wp2_with fail
  refine (show Calls Tryz.prog 38 #[.agg #[.int .u8 4, .slice none 0 0, .slice none 0 0, .int .i64 65]] W2 (fun e w' => e = .returned (.int .i64 11) ∧ Below W2.heap.size W2 w') from code_no 4 0 0 0 0 none none 65 11 (by decide) (by decide) W2).mono ?_
  rintro e W3 ⟨rfl, hb3⟩
  have B3 := hid (below_next B2.out hb3)
  clear hb3 B2
  go_wp2_with fail
  refine (show Calls Tryz.prog 38 #[.agg #[.int .u8 4, .slice none 0 0, .slice none 0 0, .int .i64 0]] W3 (fun e w' => e = .returned (.int .i64 11) ∧ Below W3.heap.size W3 w') from code_no 4 0 0 0 0 none none 0 11 (by decide) (by decide) W3).mono ?_
  rintro e W4 ⟨rfl, hb4⟩
  have B4 := hid (below_next B3.out hb4)
  clear hb4 B3
  go_wp2_with fail
  refine (show Calls Tryz.prog 38 #[.agg #[.int .u8 3, .slice (some ⟨w.heap.size, 0, none⟩) 15 16, .slice none 0 0, .int .i64 16]] W4 (fun e w' => e = .returned (.int .i64 7) ∧ Below W4.heap.size W4 w') from code_no 3 15 16 0 0 (some ⟨w.heap.size, 0, none⟩) none 16 7 (by decide) (by decide) W4).mono ?_
  rintro e W5 ⟨rfl, hb5⟩
  have B5 := hid (below_next B4.out hb5)
  clear hb5 B4
  go_wp2_with fail
  refine (show Calls Tryz.prog 38 #[.agg #[.int .u8 3, .slice (some ⟨w.heap.size, 0, none⟩) 16 16, .slice (some ⟨w.heap.size, 0, none⟩) 16 16, .int .i64 16]] W5 (fun e w' => e = .returned (.int .i64 2) ∧ Below W5.heap.size W5 w') from code_no 3 16 16 16 16 (some ⟨w.heap.size, 0, none⟩) (some ⟨w.heap.size, 0, none⟩) 16 2 (by decide) (by decide) W5).mono ?_
  rintro e W6 ⟨rfl, hb6⟩
  have B6 := hid (below_next B5.out hb6)
  clear hb6 B5
  go_wp2_with fail
  refine (show Calls Tryz.prog 38 #[.agg #[.int .u8 2, .slice none 0 0, .slice (some ⟨w.heap.size, 0, none⟩) 16 16, .int .i64 16]] W6 (fun e w' => e = .returned (.int .i64 2) ∧ Below W6.heap.size W6 w') from code_no 2 0 0 16 16 none (some ⟨w.heap.size, 0, none⟩) 16 2 (by decide) (by decide) W6).mono ?_
  rintro e W7 ⟨rfl, hb7⟩
  have B7 := hid (below_next B6.out hb7)
  clear hb7 B6
  go_wp2_with fail
  refine (show Calls Tryz.prog 38 #[.agg #[.int .u8 0, .slice none 0 0, .slice none 0 0, .int .i64 16]] W7 (fun e w' => e = .returned (.int .i64 4) ∧ Below W7.heap.size W7 w') from code_no 0 0 0 0 0 none none 16 4 (by decide) (by decide) W7).mono ?_
  rintro e W8 ⟨rfl, hb8⟩
  have B8 := hid (below_next B7.out hb8)
  clear hb8 B7
  go_wp2_with fail
  refine (show Calls Tryz.prog 38 #[.agg #[.int .u8 8, .slice none 0 0, .slice none 0 0, .int .i64 16]] W8 (fun e w' => e = .returned (.int .i64 4) ∧ Below W8.heap.size W8 w') from code_no 8 0 0 0 0 none none 16 4 (by decide) (by decide) W8).mono ?_
  rintro e W9 ⟨rfl, hb9⟩
  have B9 := hid (below_next B8.out hb9)
  clear hb9 B8
  go_wp2_with fail
  refine (show Calls Tryz.prog 38 #[.agg #[.int .u8 5, .slice none 0 0, .slice (some ⟨W9.heap.size, 0, none⟩) 65 65, .int .i64 16]] (W9.alloc (.cells (bl 65 (fun _ => 0)).toArray 5)) (fun e w' => e = .returned (.int .i64 9) ∧ Below (W9.alloc (.cells (bl 65 (fun _ => 0)).toArray 5)).heap.size (W9.alloc (.cells (bl 65 (fun _ => 0)).toArray 5)) w') from code_no 5 0 0 65 65 none (some ⟨W9.heap.size, 0, none⟩) 16 9 (by decide) (by decide) _).mono ?_
  rintro e W10 ⟨rfl, hb10⟩
  have B10 := hid (below_next B9.out (below_next (below_alloc W9 _) hb10))
  clear hb10 B9
  go_wp2_with fail
  have zz : BB (fun _ => (0 : Int)) := fun _ => ⟨Int.le_refl 0, by show (0 : Int) < 256; decide⟩
  have b11 := below_alloc W10 (.cells (bl 64 (fun _ => 0)).toArray 5)
  refine (show Calls Tryz.prog 38 #[.agg #[.int .u8 5, .slice none 0 0, .slice (some ⟨W10.heap.size, 0, none⟩) 64 64, .int .i64 64]] (W10.alloc (.cells (bl 64 (fun _ => 0)).toArray 5)) (fun e w' => e = .returned (.int .i64 0) ∧ Below (W10.alloc (.cells (bl 64 (fun _ => 0)).toArray 5)).heap.size (W10.alloc (.cells (bl 64 (fun _ => 0)).toArray 5)) w') from code_yes ⟨5, 64, none, 0, 0, some ⟨W10.heap.size, 0, none⟩, 64, 64, fun _ => 0, fun _ => 0⟩ 64 _ (HK.out.below (below_next B10.out b11)) ⟨rb_none _ _ zz, rb_of_blk (Blk.new W10 (bl 64 (fun _ => 0)) 5) zz (show 64 ≤ maxLen by decide), Nat.zero_le _, (show 64 ≤ 140737488355328 by decide), (show 5 < 256 by decide), (show -9223372036854775808 ≤ (64 : Int) ∧ (64 : Int) < 9223372036854775808 by decide)⟩ (show 0 ≤ 1000000 by decide) (show code 5 0 64 64 = 0 by decide)).mono ?_
  rintro e W11 ⟨rfl, hb11⟩
  have B11 := hid (below_next B10.out (below_next b11 hb11))
  clear hb11 b11 B10 zz hm16 hm64 hm65
  have hcv := fun w => Lib.run_convert_bytes_const (P := Tryz.prog) w 23 5 #[Value.int .u8 74, .int .u8 101, .int .u8 102, .int .u8 101] 4 4 Tryz.underlying23 Tryz.underlying5
  have hcw := fun w => Lib.run_convert_bytes_const (P := Tryz.prog) w 23 5 #[.int .u8 119, .int .u8 104, .int .u8 97, .int .u8 116, .int .u8 32, .int .u8 100, .int .u8 111, .int .u8 32, .int .u8 121, .int .u8 97, .int .u8 32, .int .u8 119, .int .u8 97, .int .u8 110, .int .u8 116, .int .u8 32, .int .u8 102, .int .u8 111, .int .u8 114, .int .u8 32, .int .u8 110, .int .u8 111, .int .u8 116, .int .u8 104, .int .u8 105, .int .u8 110, .int .u8 103, .int .u8 63] 28 28 Tryz.underlying23 Tryz.underlying5
  go_wp2_with fail
  have G0 := GX.start W11 (HK.out.below B11.out)
  have R1 := Sg.rb_marked W11 4 kjf (4, 5) Dg.kjf_b (by decide)
  have c1 := below_alloc W11 (.cells (bl 4 kjf).toArray 5 (4, 5))
  have G1 := G0.below c1
  rw [kj_arr] at R1 G1
  refine (gx_begin (i := 0) (k := 9) (lo := none) (L := []) G1 rfl (by decide) 1 4 0 32 0 _ _ kjf (fun _ => 0) Fit.nil (by decide) (fun w' hk' => R1.below (no_kp (t := fun _ => Th.no) (k := 9) rfl hk')) (fun w' _ => rb_none _ _ (fun _ => ⟨Int.le_refl 0, by show (0 : Int) < 256; decide⟩)) (by decide) (by decide)).mono ?_
  rintro e w1 ⟨x, rfl, -, hx2, hx3, t1, hG1, ht1, hl1, -⟩
  have HX2 := hid hx2
  have HX3 := hid hx3
  have GG := hid hG1
  have T1 := hid ht1
  have L1 := hid (show t1 9 = Th.no from hl1)
  clear hx2 hx3 hG1 ht1 hl1 R1 c1 G1 G0
  go_wp2_with fail
  obtain ⟨t2, G2, h28, b2⟩ := gx_lit GG.out 1 28 mjf (28, 29) Dg.mjf_b (by decide)
  rw [mj_arr] at G2
  have e0 : t2 0 = tS x := (b2 0 (by decide) (by decide)).trans T1.out
  have l2 : Ledg t2 9 none [] := (b2 9 (by decide) (by decide)).trans L1.out
  refine (gx_write (i := 0) (k := 9) (lo := none) G2 e0 l2 (by decide) 28 0 _ mjf Fit.nil (by decide) (G2.rdR h28 (G2.apW e0 (by decide) (by decide))) (by rw [HX3.out]; decide)).mono ?_
  rintro e w3 ⟨rfl, t3, G3, s3, l3, -⟩
  have GG3 := hid G3
  have S3 := hid s3
  have L3 := hid (show t3 9 = Th.no from l3)
  clear GG T1 L1 G2 h28 b2 e0 l2 G3 s3 l3 hcv hcw
  go_wp2_with fail
  refine (gx_sum (i := 0) (k := 9) (m := 2) (lo := none) (L := []) GG3.out S3.out L3.out (by decide) 0 Fit.nil (by decide) (by show (x.p.add 28 mjf).ml ≤ _; rw [HX3.out]; decide)).mono ?_
  rintro e w4 ⟨v, rfl, t4, G4, s4, l4, b4⟩
  have hv := G4.all 2
  rw [s4] at hv
  obtain ⟨y, hy⟩ : ∃ y : SX, y = { x with p := x.p.add 28 mjf } := ⟨_, rfl⟩
  have hy2 : y.out = 32 := by rw [hy]; exact HX2.out
  have S4 := hid (show t4 0 = tS y from by rw [hy]; exact (b4 0 (by decide) (by decide)).trans S3.out)
  have hys : x.s = y.s := by rw [hy]
  have hym : y.p.ml ≤ 4900000 := by rw [hy]; show (x.p.add 28 mjf).ml ≤ _; rw [HX3.out]; decide
  have hv : By.Own w4 0 v 32 y.p.tf := by
    have e : By.Own w4 0 v x.out (x.p.add 28 mjf).tf := hv
    rw [HX2.out] at e
    rw [hy]
    exact e
  have V := hid hv
  have G4' := hid G4
  have L4 := hid (show t4 9 = Th.no from l4)
  have T4 := hid (show t4 2 = tB v 32 y.p.tf from by
    have : t4 2 = tB v x.out (x.p.add 28 mjf).tf := s4
    rw [HX2.out] at this
    rw [hy]
    exact this)
  obtain ⟨gv, cv', rfl, -⟩ := own_cells hv (by decide)
  have hcv' : 32 ≤ cv' := by have := rb_cap hv.reads; omega
  rw [hys]
  have HY2 := hid hy2
  have HYM := hid hym
  clear GG3 S3 L3 hv s4 G4 l4 b4 HX2 HX3 hy hys hym hy2
  go_wp2_with fail
  refine (gx_verify (i := 0) (k := 9) (lo := none) (L := []) G4'.out S4.out L4.out 0 (.slice (some ⟨gv, 0, none⟩) 32 cv') y.p.tf Fit.nil (by decide) HYM.out (by rw [HY2.out]; exact G4'.out.rdO T4.out (fun j hj => by rw [L4.out] at hj; exact hj.elim))).mono ?_
  rintro e w5 ⟨rfl, t5, g5, l5, b5⟩
  rw [eqB_refl]
  have S5 := hid ((b5 0 (by decide) (by decide)).trans S4.out)
  have T5 := hid ((b5 2 (by decide) (by decide)).trans T4.out)
  have L5 := hid (show t5 9 = Th.no from l5)
  have G5 := hid g5
  have hs5 := g5.all 0
  rw [S5.out] at hs5
  have VL := hid (vf_len y 31 cv' (some ⟨gv, 0, none⟩) (.pointer none) w5 hs5 (by rw [HY2.out]; decide))
  have hv5 := g5.all 2
  rw [T5.out] at hv5
  have V5 := hid (show By.Own w5 0 (.slice (some ⟨gv, 0, none⟩) 32 cv') 32 y.p.tf from hv5)
  have c7 : w5.cell? ⟨gv, 7, none⟩ = some (.int .u8 (y.p.tf 7)) := own_at V5.out 7 (by decide)
  obtain ⟨cs8, hb8⟩ := own_kind (j := gv) V5.out rfl
  have f7 := hb8.frozen 7
  obtain ⟨z7, hz7⟩ : ∃ z, y.p.tf 7 = z := ⟨_, rfl⟩
  rw [hz7] at c7
  have HZ7 := hid hz7
  clear hz7
  have HF := hid (PX.tf_b (IsX.fine (IsS.mx hs5)))
  clear g5 l5 b5 hs5 hv5 G4' S4 T4 L4 hb8
  go_wp2_with fail
  refine VL.out.mono ?_
  rintro e w6 ⟨rfl, rfl⟩
  clear VL
  go_wp2_with fail
  obtain ⟨x7, hx7⟩ : ∃ x7, bits BinOp.xor IntKind.u8 z7 1 = x7 := ⟨_, rfl⟩
  have xb : 0 ≤ x7 ∧ x7 < 256 := by rw [← hx7]; exact Dg.bx_b z7 1
  have xn : ¬ z7 = x7 := by rw [← hx7]; have := HF.out 7; rw [HZ7.out] at this; exact fun e => bx_ne this.1 this.2 e.symm
  rw [hx7]
  have o7 := (own_store V5.out 7 x7 xb).1
  have hB2 : ∀ j, (t5 2).F j ↔ j = gv := fun j => by rw [T5.out]; show some gv = some j ↔ _; constructor; exact fun e => (Option.some.inj e).symm; exact fun e => by rw [e]
  obtain ⟨t8, g8, s8, b8⟩ : ∃ t8, GX W11 W11.heap.size t8 (w6.setCell ⟨gv, 7, none⟩ (.int .u8 x7)) ∧ t8 2 = tB (.slice (some ⟨gv, 0, none⟩) 32 cv') 32 (fun i => if i = 7 then x7 else y.p.tf i) ∧ But t5 t8 2 2 :=
    ⟨_, G5.out.one 2 (tB (.slice (some ⟨gv, 0, none⟩) 32 cv') 32 (fun i => if i = 7 then x7 else y.p.tf i)) (Kp.setCell gv 7 _) (fun j e _ => (hB2 j).2 e) o7 (fun j hj => .inl ((hB2 j).2 ((Option.some.inj hj).symm))), up_at _ _ _, fun _ h1 _ => up_ne _ _ h1⟩
  have hL8 : t8 9 = Th.no := (b8 9 (by decide) (by decide)).trans L5.out
  have hne : By.eqB y.p.tf (fun i => if i = 7 then x7 else y.p.tf i) 32 = false := eqB_false.2 (fun h => xn (by have := h 7 (by decide); rw [HZ7.out] at this; simpa using this))
  have VV := hid (gx_verify (i := 0) (k := 9) (lo := none) (L := []) g8 ((b8 0 (by decide) (by decide)).trans S5.out) hL8 0 (.slice (some ⟨gv, 0, none⟩) 32 cv') (fun i => if i = 7 then x7 else y.p.tf i) Fit.nil (by decide) HYM.out (by rw [HY2.out]; exact g8.rdO s8 (fun j hj => by rw [hL8] at hj; exact hj.elim)))
  rw [HY2.out, hne] at VV
  clear hne hL8 g8 s8 b8 hB2 o7 hx7 xb xn G5 S5 T5 L5 V5 HF c7 f7
  refine VV.out.mono ?_
  rintro e w9 ⟨rfl, t9, g9, -, -⟩
  have G9 := hid g9
  clear g9 VV
  go_wp2_with fail
  refine (lives1 _ G9.out.ka).mono ?_
  rintro e wa ⟨rfl, hba⟩
  have GA := hid (G9.out.below hba)
  clear hba G9
  go_wp2_with fail
  refine (kinds1 wa).mono ?_
  rintro e wb ⟨rfl, hbb⟩
  have GB := hid (GA.out.below hbb)
  clear hbb GA
  go_wp2_with fail
  go_ret
  exact ⟨rfl, B11.out.trans (GB.out.bel.mono B11.out.size)⟩
end Go.Proofs.YtpohogpkfdebdaaGreatDoor.Oc
