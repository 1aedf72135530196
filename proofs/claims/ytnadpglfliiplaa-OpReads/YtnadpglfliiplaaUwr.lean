/- OpReads. -/
import Derived.Test.YtnadpglfliiplaaUls
namespace Go.Proofs.Ytnadpglfliiplaa.Ou
open Go.ChangeShapes Go.WideShapes Go.ChangeAt Go.RowKit
open Go.Proofs.Ytnadpglfliiplaa.By
open Go.Proofs.Ytnadpglfliiplaa.Tb (Blk Blk.newAt)
set_option maxRecDepth 8000 in
set_option maxHeartbeats 1200000 in
theorem reads_w (v : Value) (n : Nat) (f : Nat → Int) (w : World) (h1 : By.RB w v n f) (hn : n ≤ 140737488351232) :
    Calls Try.prog 5 #[v] w fun e w' => e = .returned (.bool true) ∧ Below w.heap.size w w' := by
  obtain ⟨a1, c1, rfl⟩ := rb_sl h1
  have H1 := hid h1
  clear h1
  obtain ⟨t1, ht1⟩ : ∃ t, decide (n = zl f) = t := ⟨_, rfl⟩
  obtain ⟨t2, ht2⟩ : ∃ t, decide (zl f ≤ n) = t := ⟨_, rfl⟩
  have T1 := hid ht1
  have T2 := hid ht2
  have bN1 : Hid (dN t1 f ≤ 140737488355000 ∧ dM t1 f ≤ 140737488355000 ∧ dN t2 f ≤ 140737488355000 ∧ dM t2 f ≤ 140737488355000) := by
    have x1 := (dl_lt H1.out.1).1
    have y1 := (ml_lt H1.out.1).1
    refine ⟨?_, ?_, ?_, ?_⟩ <;> first | (unfold dN; split <;> omega) | (unfold dM; split <;> omega)
  clear ht1 ht2
  go_enter Try.func5, Try.ntmps5
  go_wp2_with fail
  refine (lives_ok w).mono ?_
  rintro e W1 ⟨rfl, hb⟩
  have BW := hid hb
  replace H1 := hid (H1.out.below hb)
  have LL := hid (LS.nil (w := W1) (B := w.heap.size) hb.size)
  clear hb
  go_wp2_with fail
  refine (lentb _ n f W1 H1.out (by omega)).mono ?_
  rintro e W2 ⟨g1, e1, rfl, o1, hb⟩
  replace LL := hid (LL.out.snoc hb o1)
  replace BW := hid (below_next BW.out hb)
  replace H1 := hid (H1.out.below hb)
  have X1 := hid (rb_lent o1 H1.out.1)
  have r1 : (n : Int) ≤ (e1 : Int) := by have := rb_cap o1.reads; omega
  have r0 : (0 : Int) ≤ (n : Int) := by omega
  have GL := hid (own_lt o1 g1 rfl)
  clear o1 hb
  go_wp2_with fail
  refine (decode_ok _ n f W2 X1.out (by omega)).mono ?_
  rintro e W3 ⟨d, m, rfl, ht⟩
  rw [T1.out] at ht ⊢
  obtain ⟨a2, c2, rfl⟩ := own_lit_slice ht.1
  obtain ⟨b2, k2, rfl⟩ := own_lit_slice ht.2.1
  replace LL := hid (LL.out.told ht)
  have hb := ht.2.2.2
  replace BW := hid (below_next BW.out hb)
  replace H1 := hid (H1.out.below hb)
  replace X1 := hid (X1.out.below hb)
  have GS2 := hid hb.size
  clear hb ht
  obtain ⟨W4, s1, kk, hb, _⟩ := var_op W3 (dq t1 f) (d := .slice a2 (dN t1 f) c2) (m := .slice b2 (dM t1 f) k2) rfl rfl
  replace LL := hid (LL.out.below hb)
  replace BW := hid (below_next BW.out hb)
  replace H1 := hid (H1.out.below hb)
  replace X1 := hid (X1.out.below hb)
  have KO := hid kk
  have GV2 := hid hb.size
  clear hb kk
  go_wp2_with fail
  clear s1
  refine (next_ok _ n f W4 X1.out (by omega)).mono ?_
  rintro e W5 ⟨d, m, rfl, ht⟩
  rw [T2.out] at ht ⊢
  obtain ⟨a3, c3, rfl⟩ := own_lit_slice ht.1
  obtain ⟨b3, k3, rfl⟩ := own_lit_slice ht.2.1
  replace LL := hid (LL.out.told ht)
  have hb := ht.2.2.2
  replace BW := hid (below_next BW.out hb)
  replace H1 := hid (H1.out.below hb)
  replace X1 := hid (X1.out.below hb)
  replace KO := hid (KO.out.below hb)
  have GS3 := hid hb.size
  clear hb ht
  obtain ⟨W6, s1, kk, hb, _⟩ := var_op W5 (dq t2 f) (d := .slice a3 (dN t2 f) c3) (m := .slice b3 (dM t2 f) k3) rfl rfl
  replace LL := hid (LL.out.below hb)
  replace BW := hid (below_next BW.out hb)
  replace H1 := hid (H1.out.below hb)
  replace X1 := hid (X1.out.below hb)
  replace KO := hid (KO.out.below hb)
  have KP := hid kk
  have GV3 := hid hb.size
  clear hb kk
  go_wp2_with fail
  clear s1
  refine (rdecode_ok _ n f W6 H1.out (by omega)).mono ?_
  rintro e W7 ⟨d, m, rfl, ht⟩
  rw [T1.out] at ht ⊢
  obtain ⟨a4, c4, rfl⟩ := own_lit_slice ht.1
  obtain ⟨b4, k4, rfl⟩ := own_lit_slice ht.2.1
  replace LL := hid (LL.out.told ht)
  have hb := ht.2.2.2
  replace BW := hid (below_next BW.out hb)
  replace H1 := hid (H1.out.below hb)
  replace X1 := hid (X1.out.below hb)
  replace KO := hid (KO.out.below hb)
  replace KP := hid (KP.out.below hb)
  have GS4 := hid hb.size
  clear hb ht
  obtain ⟨W8, s1, kk, hb, _⟩ := var_op W7 (dq t1 f) (d := .slice a4 (dN t1 f) c4) (m := .slice b4 (dM t1 f) k4) rfl rfl
  replace LL := hid (LL.out.below hb)
  replace BW := hid (below_next BW.out hb)
  replace H1 := hid (H1.out.below hb)
  replace X1 := hid (X1.out.below hb)
  replace KO := hid (KO.out.below hb)
  replace KP := hid (KP.out.below hb)
  have KW := hid kk
  have GV4 := hid hb.size
  clear hb kk
  go_wp2_with fail
  clear s1
  refine (rnext_ok _ n f W8 H1.out (by omega)).mono ?_
  rintro e W9 ⟨d, m, rfl, ht⟩
  rw [T2.out] at ht ⊢
  obtain ⟨a5, c5, rfl⟩ := own_lit_slice ht.1
  obtain ⟨b5, k5, rfl⟩ := own_lit_slice ht.2.1
  replace LL := hid (LL.out.told ht)
  have hb := ht.2.2.2
  replace BW := hid (below_next BW.out hb)
  replace H1 := hid (H1.out.below hb)
  replace X1 := hid (X1.out.below hb)
  replace KO := hid (KO.out.below hb)
  replace KP := hid (KP.out.below hb)
  replace KW := hid (KW.out.below hb)
  have GS5 := hid hb.size
  clear hb ht
  obtain ⟨W10, s1, kk, hb, _⟩ := var_op W9 (dq t2 f) (d := .slice a5 (dN t2 f) c5) (m := .slice b5 (dM t2 f) k5) rfl rfl
  replace LL := hid (LL.out.below hb)
  replace BW := hid (below_next BW.out hb)
  replace H1 := hid (H1.out.below hb)
  replace X1 := hid (X1.out.below hb)
  replace KO := hid (KO.out.below hb)
  replace KP := hid (KP.out.below hb)
  replace KW := hid (KW.out.below hb)
  have KX := hid kk
  have GV5 := hid hb.size
  clear hb kk
  have l1 := LDo_run KO.out
  have l2 := LDo_run KW.out
  go_wp2_with fail
  clear s1 l1 l2
  refine (sameop_ok (dq t1 f) _ _ _ _ (dN t1 f) (dM t1 f) (sh 32 f) (sh 32 f) (sh (32 + dl f) f) (sh (32 + dl f) f) W10 (LL.out.at (i := 1) rfl).reads (LL.out.at (i := 5) rfl).reads (LL.out.at (i := 2) rfl).reads (LL.out.at (i := 6) rfl).reads (by have := bN1.out; omega) (by have := bN1.out; omega) (fun _ _ => rfl) (fun _ _ => rfl)).mono ?_
  rintro e W11 ⟨rfl, hb⟩
  replace LL := hid (LL.out.below hb)
  replace BW := hid (below_next BW.out hb)
  replace H1 := hid (H1.out.below hb)
  replace X1 := hid (X1.out.below hb)
  replace KO := hid (KO.out.below hb)
  replace KP := hid (KP.out.below hb)
  replace KW := hid (KW.out.below hb)
  replace KX := hid (KX.out.below hb)
  have l1 := LDo_run KP.out
  have l2 := LDo_run KX.out
  have GA := hid hb.size
  clear hb
  go_wp2_with fail
  clear l1 l2
  refine (sameop_ok (dq t2 f) _ _ _ _ (dN t2 f) (dM t2 f) (sh 32 f) (sh 32 f) (sh (32 + dl f) f) (sh (32 + dl f) f) W11 (LL.out.at (i := 3) rfl).reads (LL.out.at (i := 7) rfl).reads (LL.out.at (i := 4) rfl).reads (LL.out.at (i := 8) rfl).reads (by have := bN1.out; omega) (by have := bN1.out; omega) (fun _ _ => rfl) (fun _ _ => rfl)).mono ?_
  rintro e W12 ⟨rfl, hb⟩
  replace LL := hid (LL.out.below hb)
  replace BW := hid (below_next BW.out hb)
  replace H1 := hid (H1.out.below hb)
  replace X1 := hid (X1.out.below hb)
  replace KO := hid (KO.out.below hb)
  replace KP := hid (KP.out.below hb)
  replace KW := hid (KW.out.below hb)
  replace KX := hid (KX.out.below hb)
  clear hb
  go_wp2_with fail
  refine (kept17 _ _ n f W12 (LL.out.at (i := 0) rfl).reads H1.out (by omega)).mono ?_
  rintro e W13 ⟨rfl, hb⟩
  replace LL := hid (LL.out.below hb)
  replace BW := hid (below_next BW.out hb)
  replace H1 := hid (H1.out.below hb)
  replace X1 := hid (X1.out.below hb)
  replace KO := hid (KO.out.below hb)
  replace KP := hid (KP.out.below hb)
  replace KW := hid (KW.out.below hb)
  replace KX := hid (KX.out.below hb)
  clear hb
  go_wp2_with fail
  refine (over18 g1 e1 (n + 6) w.heap.size _ W13 (LL.out.at (i := 0) rfl) (by omega)).mono ?_
  rintro e W14 ⟨rfl, ho, hg⟩
  have hg1 : w.heap.size ≤ g1 := own_row (LL.out.at (i := 0) rfl) g1 rfl
  replace LL := hid (LS.over (l1 := []) LL.out hg ho)
  have hk := Kp.of_grown hg
  replace BW := hid (BW.out.trans (hk.below BW.out.size (fun j hj e => by cases e; omega)))
  replace KO := hid (KO.out.kept hk (fun e => by cases e; have := GL.out; have := GS2.out; have := GV2.out; have := GS3.out; have := GV3.out; have := GS4.out; have := GV4.out; have := GS5.out; have := GV5.out; omega))
  replace KP := hid (KP.out.kept hk (fun e => by cases e; have := GL.out; have := GS2.out; have := GV2.out; have := GS3.out; have := GV3.out; have := GS4.out; have := GV4.out; have := GS5.out; have := GV5.out; omega))
  replace KW := hid (KW.out.kept hk (fun e => by cases e; have := GL.out; have := GS2.out; have := GV2.out; have := GS3.out; have := GV3.out; have := GS4.out; have := GV4.out; have := GS5.out; have := GV5.out; omega))
  replace KX := hid (KX.out.kept hk (fun e => by cases e; have := GL.out; have := GS2.out; have := GV2.out; have := GS3.out; have := GV3.out; have := GS4.out; have := GV4.out; have := GS5.out; have := GV5.out; omega))
  have l1 := LDo_run KO.out
  have l2 := LDo_run KW.out
  clear ho hg hk hg1 H1 X1
  go_wp2_with fail
  clear l1 l2
  refine (sameop_ok (dq t1 f) _ _ _ _ (dN t1 f) (dM t1 f) (sh 32 f) (sh 32 f) (sh (32 + dl f) f) (sh (32 + dl f) f) W14 (LL.out.at (i := 1) rfl).reads (LL.out.at (i := 5) rfl).reads (LL.out.at (i := 2) rfl).reads (LL.out.at (i := 6) rfl).reads (by have := bN1.out; omega) (by have := bN1.out; omega) (fun _ _ => rfl) (fun _ _ => rfl)).mono ?_
  rintro e W15 ⟨rfl, hb⟩
  replace LL := hid (LL.out.below hb)
  replace BW := hid (below_next BW.out hb)
  replace KO := hid (KO.out.below hb)
  replace KP := hid (KP.out.below hb)
  replace KW := hid (KW.out.below hb)
  replace KX := hid (KX.out.below hb)
  have l1 := LDo_run KP.out
  have l2 := LDo_run KX.out
  clear hb
  go_wp2_with fail
  clear l1 l2
  refine (sameop_ok (dq t2 f) _ _ _ _ (dN t2 f) (dM t2 f) (sh 32 f) (sh 32 f) (sh (32 + dl f) f) (sh (32 + dl f) f) W15 (LL.out.at (i := 3) rfl).reads (LL.out.at (i := 7) rfl).reads (LL.out.at (i := 4) rfl).reads (LL.out.at (i := 8) rfl).reads (by have := bN1.out; omega) (by have := bN1.out; omega) (fun _ _ => rfl) (fun _ _ => rfl)).mono ?_
  rintro e W16 ⟨rfl, hb⟩
  replace LL := hid (LL.out.below hb)
  replace BW := hid (below_next BW.out hb)
  replace KO := hid (KO.out.below hb)
  replace KP := hid (KP.out.below hb)
  replace KW := hid (KW.out.below hb)
  replace KX := hid (KX.out.below hb)
  clear hb
  have x1 := KO.out.cell 5 _ rfl
  have x2 := KO.out.cell 6 _ rfl
  have x3 := KP.out.cell 5 _ rfl
  have x4 := KP.out.cell 6 _ rfl
  go_wp2_with fail
  clear x1 x2 x3 x4
  have L5 : LS W16 w.heap.size ([⟨.slice (some ⟨g1, 0, none⟩) (n + 6) e1, n + 6, over⟩] ++ [⟨.slice a2 (dN t1 f) c2, dN t1 f, sh 32 f⟩, ⟨.slice b2 (dM t1 f) k2, dM t1 f, sh (32 + dl f) f⟩, ⟨.slice a3 (dN t2 f) c3, dN t2 f, sh 32 f⟩, ⟨.slice b3 (dM t2 f) k3, dM t2 f, sh (32 + dl f) f⟩]) := LL.out.take 5
  have L6 := L5.perm List.perm_append_comm
  refine (L6.apart _ rfl 5 rfl (by omega) (by omega) (fun x hx => ?_)).mono ?_
  · have := bN1.out
    simp only [List.cons_append, List.nil_append, List.mem_cons, List.not_mem_nil, or_false] at hx
    rcases hx with rfl | rfl | rfl | rfl | rfl
    · exact this.1
    · exact this.2.1
    · exact this.2.2.1
    · exact this.2.2.2
    · show n + 6 ≤ _; omega
  rintro e W17 ⟨rfl, hb⟩
  replace BW := hid ((below_next BW.out (below_alloc _ _)).trans hb)
  clear hb L5 L6
  go_wp2
  go_ret
  exact ⟨rfl, BW.out⟩
end Go.Proofs.Ytnadpglfliiplaa.Ou
