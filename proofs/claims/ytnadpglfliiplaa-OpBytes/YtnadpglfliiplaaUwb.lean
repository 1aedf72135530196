/- OpBytes. -/
import Derived.Test.YtnadpglfliiplaaUls
import Derived.Test.YtnadpglfliiplaaUrp
import Derived.Test.YtnadpglfliiplaaUer
import Derived.Test.YtnadpglfliiplaaUopn
namespace Go.Proofs.Ytnadpglfliiplaa.Ou
open Go.ChangeShapes Go.WideShapes Go.ChangeAt Go.RowKit
open Go.Proofs.Ytnadpglfliiplaa.By
open Go.Proofs.Ytnadpglfliiplaa.Tb (Blk Blk.newAt)
set_option maxRecDepth 8000 in
set_option maxHeartbeats 2000000 in
theorem bytes_w (y : OE) (w : World) (ok : y.Ok w) :
    Calls Try.prog 3 #[ov y.q (.slice y.da y.dn y.dc) (.slice y.ma y.mn y.mc)] w fun e w' => e = .returned (.bool true) ∧ Below w.heap.size w w' := by
  obtain ⟨q, da, n, dc, f, ma, nm, mc, g⟩ := y
  obtain ⟨hq, h1, h2, hn, hm⟩ := ok
  dsimp only at hq h1 h2 hn hm ⊢
  have BN : Hid (el n nm ≤ 140737488355000 ∧ pN q n ≤ 140737488355000 ∧ pM q nm ≤ 140737488355000) := by
    refine ⟨?_, ?_, ?_⟩
    · show el n nm ≤ _
      unfold el
      by_cases h : big n nm
      · rw [if_pos h]; omega
      · rw [if_neg h]; unfold big at h; omega
    · unfold pN; split <;> omega
    · unfold pM; split <;> omega
  have HQ := hid hq
  obtain ⟨W0, hW0⟩ : ∃ W, w.alloc (.cells #[Value.int IntKind.u8 q.k, Value.int IntKind.i64 q.h, Value.int IntKind.u8 q.a, Value.int IntKind.i64 q.c, Value.int IntKind.i64 q.o, Value.slice da n dc, Value.slice ma nm mc] 26) = W := ⟨_, rfl⟩
  have KA : Hid (Blk W0 w.heap.size (oL q (Value.slice da n dc) (Value.slice ma nm mc)) 26) := by rw [← hW0]; exact Blk.newAt w _ _ 26 w.heap.size rfl rfl
  have BW : Hid (Below w.heap.size w W0) := by rw [← hW0]; exact below_alloc _ _
  have H1 := hid (h1.below BW.out)
  have H2 := hid (h2.below BW.out)
  clear hq h1 h2
  go_enter Try.func3, Try.ntmps3
  go_wp2_with fail
  clear hW0
  refine (lives_ok W0).mono ?_
  rintro e W1 ⟨rfl, hb⟩
  replace BW := hid (below_next BW.out hb)
  replace KA := hid (KA.out.below hb)
  replace H1 := hid (H1.out.below hb)
  replace H2 := hid (H2.out.below hb)
  have LL := hid (LS.nil (w := W1) (B := w.heap.size) BW.out.size)
  have l1 := LDo_run KA.out
  clear hb
  go_wp2_with fail
  clear l1
  refine (lentop_ok q _ _ n nm f g W1 H1.out H2.out (by omega) (by omega)).mono ?_
  rintro e W2 ⟨g1, g2, e1, e2, rfl, o1, o2, n12, hb⟩
  replace LL := hid (LL.out.two hb o1 o2 (.inr (fun e => n12 (by simpa [Value.ownBlock] using e))))
  replace BW := hid (below_next BW.out hb)
  replace KA := hid (KA.out.below hb)
  replace H1 := hid (H1.out.below hb)
  replace H2 := hid (H2.out.below hb)
  have X1 := hid (rb_lent o1 H1.out.1)
  have X2 := hid (rb_lent o2 H2.out.1)
  have G1 := hid (own_lt o1 g1 rfl)
  have G2 := hid (own_lt o2 g2 rfl)
  have N12 := hid n12
  clear o1 o2 hb n12
  obtain ⟨Wa, W3, s1, s2, kx, kf, hb⟩ := var_two W2 q (d := .slice (some ⟨g1, 0, none⟩) n e1) (m := .slice (some ⟨g2, 0, none⟩) nm e2) (u := .slice (some ⟨g1, 0, none⟩) (n + 6) e1) (v := .slice (some ⟨g2, 0, none⟩) (nm + 6) e2) rfl rfl rfl rfl
  have KO := hid kx
  have KF := hid kf
  replace LL := hid (LL.out.below hb)
  have S3 := hid hb.size
  replace BW := hid (below_next BW.out hb)
  replace KA := hid (KA.out.below hb)
  replace H1 := hid (H1.out.below hb)
  replace H2 := hid (H2.out.below hb)
  replace X1 := hid (X1.out.below hb)
  replace X2 := hid (X2.out.below hb)
  have l1 := LDo_run KO.out
  clear hb kx kf
  go_wp2_with fail
  clear s1 s2 l1
  refine (encode_ok q _ _ n nm f g W3 HQ.out X1.out X2.out).mono ?_
  rintro e W4 ⟨v4, rfl, ho, hb⟩
  obtain ⟨a4, c4, rfl⟩ := own_lit_slice ho
  replace LL := hid (LL.out.snoc hb ho)
  have S4 := hid hb.size
  replace BW := hid (below_next BW.out hb)
  replace KA := hid (KA.out.below hb)
  replace H1 := hid (H1.out.below hb)
  replace H2 := hid (H2.out.below hb)
  replace X1 := hid (X1.out.below hb)
  replace X2 := hid (X2.out.below hb)
  replace KO := hid (KO.out.below hb)
  replace KF := hid (KF.out.below hb)
  have l1 := LDo_run KO.out
  clear hb ho
  go_wp2_with fail
  clear l1
  refine (encode_ok q _ _ n nm f g W4 HQ.out X1.out X2.out).mono ?_
  rintro e W5 ⟨v5, rfl, ho, hb⟩
  obtain ⟨a5, c5, rfl⟩ := own_lit_slice ho
  replace LL := hid (LL.out.snoc hb ho)
  have S5 := hid hb.size
  replace BW := hid (below_next BW.out hb)
  replace KA := hid (KA.out.below hb)
  replace H1 := hid (H1.out.below hb)
  replace H2 := hid (H2.out.below hb)
  replace X1 := hid (X1.out.below hb)
  replace X2 := hid (X2.out.below hb)
  replace KO := hid (KO.out.below hb)
  replace KF := hid (KF.out.below hb)
  have l1 := LDo_run KA.out
  clear hb ho
  go_wp2_with fail
  clear l1
  refine (rencode_ok q _ _ n nm f g W5 HQ.out H1.out H2.out).mono ?_
  rintro e W6 ⟨v6, rfl, ho, hb⟩
  obtain ⟨a6, c6, rfl⟩ := own_lit_slice ho
  replace LL := hid (LL.out.snoc hb ho)
  have S6 := hid hb.size
  replace BW := hid (below_next BW.out hb)
  replace KA := hid (KA.out.below hb)
  replace H1 := hid (H1.out.below hb)
  replace H2 := hid (H2.out.below hb)
  replace X1 := hid (X1.out.below hb)
  replace X2 := hid (X2.out.below hb)
  replace KO := hid (KO.out.below hb)
  replace KF := hid (KF.out.below hb)
  have l1 := LDo_run KO.out
  clear hb ho
  go_wp2_with fail
  clear l1
  refine (plain_ok q _ _ n nm f g W6 X1.out X2.out (by omega) (by omega)).mono ?_
  rintro e W7 ⟨d, m, rfl, ht⟩
  obtain ⟨d1, p1, rfl⟩ := own_lit_slice ht.1
  obtain ⟨m1, r1, rfl⟩ := own_lit_slice ht.2.1
  replace LL := hid (LL.out.two ht.2.2.2 ht.1 ht.2.1 ht.2.2.1)
  have hb := ht.2.2.2
  have S7 := hid hb.size
  replace BW := hid (below_next BW.out hb)
  replace KA := hid (KA.out.below hb)
  replace H1 := hid (H1.out.below hb)
  replace H2 := hid (H2.out.below hb)
  replace X1 := hid (X1.out.below hb)
  replace X2 := hid (X2.out.below hb)
  replace KO := hid (KO.out.below hb)
  replace KF := hid (KF.out.below hb)
  clear hb ht
  obtain ⟨W8, s1, kk, hb, _⟩ := var_op W7 (pq q) (d := .slice d1 (pN q n) p1) (m := .slice m1 (pM q nm) r1) rfl rfl
  replace LL := hid (LL.out.below hb)
  have S8 := hid hb.size
  replace BW := hid (below_next BW.out hb)
  replace KA := hid (KA.out.below hb)
  replace H1 := hid (H1.out.below hb)
  replace H2 := hid (H2.out.below hb)
  replace X1 := hid (X1.out.below hb)
  replace X2 := hid (X2.out.below hb)
  replace KO := hid (KO.out.below hb)
  replace KF := hid (KF.out.below hb)
  have KP := hid kk
  clear hb kk
  have l1 := LDo_run KO.out
  go_wp2_with fail
  clear l1 s1
  refine (plain_ok q _ _ n nm f g W8 X1.out X2.out (by omega) (by omega)).mono ?_
  rintro e W9 ⟨d, m, rfl, ht⟩
  obtain ⟨d2, p2, rfl⟩ := own_lit_slice ht.1
  obtain ⟨m2, r2, rfl⟩ := own_lit_slice ht.2.1
  replace LL := hid (LL.out.two ht.2.2.2 ht.1 ht.2.1 ht.2.2.1)
  have hb := ht.2.2.2
  have S9 := hid hb.size
  replace BW := hid (below_next BW.out hb)
  replace KA := hid (KA.out.below hb)
  replace H1 := hid (H1.out.below hb)
  replace H2 := hid (H2.out.below hb)
  replace X1 := hid (X1.out.below hb)
  replace X2 := hid (X2.out.below hb)
  replace KO := hid (KO.out.below hb)
  replace KF := hid (KF.out.below hb)
  replace KP := hid (KP.out.below hb)
  clear hb ht
  obtain ⟨W10, s1, kk, hb, _⟩ := var_op W9 (pq q) (d := .slice d2 (pN q n) p2) (m := .slice m2 (pM q nm) r2) rfl rfl
  replace LL := hid (LL.out.below hb)
  have S10 := hid hb.size
  replace BW := hid (below_next BW.out hb)
  replace KA := hid (KA.out.below hb)
  replace H1 := hid (H1.out.below hb)
  replace H2 := hid (H2.out.below hb)
  replace X1 := hid (X1.out.below hb)
  replace X2 := hid (X2.out.below hb)
  replace KO := hid (KO.out.below hb)
  replace KF := hid (KF.out.below hb)
  replace KP := hid (KP.out.below hb)
  have KQ := hid kk
  clear hb kk
  have l1 := LDo_run KA.out
  go_wp2_with fail
  clear l1 s1
  refine (rplain_ok q _ _ n nm f g W10 ⟨HQ.out.k0, HQ.out.k1⟩ H1.out H2.out (by omega) (by omega)).mono ?_
  rintro e W11 ⟨d, m, rfl, ht⟩
  obtain ⟨d3, p3, rfl⟩ := own_lit_slice ht.1
  obtain ⟨m3, r3, rfl⟩ := own_lit_slice ht.2.1
  replace LL := hid (LL.out.two ht.2.2.2 ht.1 ht.2.1 ht.2.2.1)
  have hb := ht.2.2.2
  have S11 := hid hb.size
  replace BW := hid (below_next BW.out hb)
  replace KA := hid (KA.out.below hb)
  replace H1 := hid (H1.out.below hb)
  replace H2 := hid (H2.out.below hb)
  replace X1 := hid (X1.out.below hb)
  replace X2 := hid (X2.out.below hb)
  replace KO := hid (KO.out.below hb)
  replace KF := hid (KF.out.below hb)
  replace KP := hid (KP.out.below hb)
  replace KQ := hid (KQ.out.below hb)
  clear hb ht
  obtain ⟨W12, s1, kk, hb, _⟩ := var_op W11 (pq q) (d := .slice d3 (pN q n) p3) (m := .slice m3 (pM q nm) r3) rfl rfl
  replace LL := hid (LL.out.below hb)
  have S12 := hid hb.size
  replace BW := hid (below_next BW.out hb)
  replace KA := hid (KA.out.below hb)
  replace H1 := hid (H1.out.below hb)
  replace H2 := hid (H2.out.below hb)
  replace X1 := hid (X1.out.below hb)
  replace X2 := hid (X2.out.below hb)
  replace KO := hid (KO.out.below hb)
  replace KF := hid (KF.out.below hb)
  replace KP := hid (KP.out.below hb)
  replace KQ := hid (KQ.out.below hb)
  have KL := hid kk
  clear hb kk
  go_wp2_with fail
  clear s1
  refine (same_true _ _ (el n nm) _ _ W12 (LL.out.at (i := 2) rfl).reads (LL.out.at (i := 4) rfl).reads (by have := BN.out; omega) (fun _ _ => rfl)).mono ?_
  rintro e V ⟨rfl, dn, hv⟩
  obtain ⟨W13, hW⟩ : ∃ W, W12.drewN dn = W := ⟨_, rfl⟩
  rw [hW] at hv
  rw [hv]
  have hb : Below W12.heap.size W12 W13 := by rw [← hW]; exact below_drewN _ _
  clear hW
  replace LL := hid (LL.out.below hb)
  replace BW := hid (below_next BW.out hb)
  replace KA := hid (KA.out.below hb)
  replace H1 := hid (H1.out.below hb)
  replace H2 := hid (H2.out.below hb)
  replace X1 := hid (X1.out.below hb)
  replace X2 := hid (X2.out.below hb)
  replace KO := hid (KO.out.below hb)
  replace KF := hid (KF.out.below hb)
  replace KP := hid (KP.out.below hb)
  replace KQ := hid (KQ.out.below hb)
  replace KL := hid (KL.out.below hb)
  clear hb hv V
  go_wp2_with fail
  refine (same_true _ _ (el n nm) _ _ W13 (LL.out.at (i := 3) rfl).reads (LL.out.at (i := 4) rfl).reads (by have := BN.out; omega) (fun _ _ => rfl)).mono ?_
  rintro e V ⟨rfl, dn, hv⟩
  obtain ⟨W14, hW⟩ : ∃ W, W13.drewN dn = W := ⟨_, rfl⟩
  rw [hW] at hv
  rw [hv]
  have hb : Below W13.heap.size W13 W14 := by rw [← hW]; exact below_drewN _ _
  clear hW
  replace LL := hid (LL.out.below hb)
  replace BW := hid (below_next BW.out hb)
  replace KA := hid (KA.out.below hb)
  replace H1 := hid (H1.out.below hb)
  replace H2 := hid (H2.out.below hb)
  replace X1 := hid (X1.out.below hb)
  replace X2 := hid (X2.out.below hb)
  replace KO := hid (KO.out.below hb)
  replace KF := hid (KF.out.below hb)
  replace KP := hid (KP.out.below hb)
  replace KQ := hid (KQ.out.below hb)
  replace KL := hid (KL.out.below hb)
  clear hb hv V
  have l1 := LDo_run KP.out
  have l2 := LDo_run KL.out
  go_wp2_with fail
  clear l1 l2
  refine (sameop_ok (pq q) _ _ _ _ (pN q n) (pM q nm) f f g g W14 (LL.out.at (i := 5) rfl).reads (LL.out.at (i := 9) rfl).reads (LL.out.at (i := 6) rfl).reads (LL.out.at (i := 10) rfl).reads (by have := BN.out; omega) (by have := BN.out; omega) (fun _ _ => rfl) (fun _ _ => rfl)).mono ?_
  rintro e W15 ⟨rfl, hb⟩
  replace LL := hid (LL.out.below hb)
  replace BW := hid (below_next BW.out hb)
  replace KA := hid (KA.out.below hb)
  replace H1 := hid (H1.out.below hb)
  replace H2 := hid (H2.out.below hb)
  replace X1 := hid (X1.out.below hb)
  replace X2 := hid (X2.out.below hb)
  replace KO := hid (KO.out.below hb)
  replace KF := hid (KF.out.below hb)
  replace KP := hid (KP.out.below hb)
  replace KQ := hid (KQ.out.below hb)
  replace KL := hid (KL.out.below hb)
  clear hb
  have l1 := LDo_run KQ.out
  have l2 := LDo_run KL.out
  go_wp2_with fail
  clear l1 l2
  refine (sameop_ok (pq q) _ _ _ _ (pN q n) (pM q nm) f f g g W15 (LL.out.at (i := 7) rfl).reads (LL.out.at (i := 9) rfl).reads (LL.out.at (i := 8) rfl).reads (LL.out.at (i := 10) rfl).reads (by have := BN.out; omega) (by have := BN.out; omega) (fun _ _ => rfl) (fun _ _ => rfl)).mono ?_
  rintro e W16 ⟨rfl, hb⟩
  replace LL := hid (LL.out.below hb)
  replace BW := hid (below_next BW.out hb)
  replace KA := hid (KA.out.below hb)
  replace H1 := hid (H1.out.below hb)
  replace H2 := hid (H2.out.below hb)
  replace X1 := hid (X1.out.below hb)
  replace X2 := hid (X2.out.below hb)
  replace KO := hid (KO.out.below hb)
  replace KF := hid (KF.out.below hb)
  replace KP := hid (KP.out.below hb)
  replace KQ := hid (KQ.out.below hb)
  replace KL := hid (KL.out.below hb)
  clear hb
  have l1 := LDa_run KF.out
  have l2 := LDo_run KA.out
  go_wp2_with fail
  clear l1 l2
  refine (keptop_ok q _ _ _ _ n nm f g W16 H1.out H2.out (LL.out.at (i := 0) rfl).reads (LL.out.at (i := 1) rfl).reads (by omega) (by omega)).mono ?_
  rintro e W17 ⟨rfl, hb⟩
  replace LL := hid (LL.out.below hb)
  replace BW := hid (below_next BW.out hb)
  replace KA := hid (KA.out.below hb)
  replace H1 := hid (H1.out.below hb)
  replace H2 := hid (H2.out.below hb)
  replace X1 := hid (X1.out.below hb)
  replace X2 := hid (X2.out.below hb)
  replace KO := hid (KO.out.below hb)
  replace KF := hid (KF.out.below hb)
  replace KP := hid (KP.out.below hb)
  replace KQ := hid (KQ.out.below hb)
  replace KL := hid (KL.out.below hb)
  clear hb
  have l1 := LDa_run KF.out
  go_wp2_with fail
  clear l1
  have gb1 : w.heap.size ≤ g1 := own_row (LL.out.at (i := 0) rfl) g1 rfl
  have gb2 : w.heap.size ≤ g2 := own_row (LL.out.at (i := 1) rfl) g2 rfl
  refine (overop_ok g1 g2 e1 e2 (n + 6) (nm + 6) w.heap.size _ _ W17 (LL.out.at (i := 0) rfl) (LL.out.at (i := 1) rfl) N12.out (by omega) (by omega)).mono ?_
  rintro e W18 ⟨rfl, o1, o2, hk⟩
  replace LL := hid (LS.over2 LL.out hk o1 o2)
  replace BW := hid (BW.out.trans (hk.below BW.out.size (fun j hj e => by omega)))
  replace KF := hid (KF.out.kept hk (fun e => by have := G1.out; have := G2.out; have := S3.out; have := S4.out; have := S5.out; have := S6.out; have := S7.out; have := S8.out; have := S9.out; have := S10.out; have := S11.out; have := S12.out; omega))
  replace KP := hid (KP.out.kept hk (fun e => by have := G1.out; have := G2.out; have := S3.out; have := S4.out; have := S5.out; have := S6.out; have := S7.out; have := S8.out; have := S9.out; have := S10.out; have := S11.out; have := S12.out; omega))
  replace KQ := hid (KQ.out.kept hk (fun e => by have := G1.out; have := G2.out; have := S3.out; have := S4.out; have := S5.out; have := S6.out; have := S7.out; have := S8.out; have := S9.out; have := S10.out; have := S11.out; have := S12.out; omega))
  replace KL := hid (KL.out.kept hk (fun e => by have := G1.out; have := G2.out; have := S3.out; have := S4.out; have := S5.out; have := S6.out; have := S7.out; have := S8.out; have := S9.out; have := S10.out; have := S11.out; have := S12.out; omega))
  clear o1 o2 hk gb1 gb2 H1 H2 X1 X2 KA KO
  go_wp2_with fail
  refine (same_true _ _ (el n nm) _ _ W18 (LL.out.at (i := 2) rfl).reads (LL.out.at (i := 4) rfl).reads (by have := BN.out; omega) (fun _ _ => rfl)).mono ?_
  rintro e V ⟨rfl, dn, hv⟩
  obtain ⟨W19, hW⟩ : ∃ W, W18.drewN dn = W := ⟨_, rfl⟩
  rw [hW] at hv
  rw [hv]
  have hb : Below W18.heap.size W18 W19 := by rw [← hW]; exact below_drewN _ _
  clear hW
  replace LL := hid (LL.out.below hb)
  replace BW := hid (below_next BW.out hb)
  replace KF := hid (KF.out.below hb)
  replace KP := hid (KP.out.below hb)
  replace KQ := hid (KQ.out.below hb)
  replace KL := hid (KL.out.below hb)
  clear hb hv V
  have l1 := LDo_run KP.out
  have l2 := LDo_run KL.out
  go_wp2_with fail
  clear l1 l2
  refine (sameop_ok (pq q) _ _ _ _ (pN q n) (pM q nm) f f g g W19 (LL.out.at (i := 5) rfl).reads (LL.out.at (i := 9) rfl).reads (LL.out.at (i := 6) rfl).reads (LL.out.at (i := 10) rfl).reads (by have := BN.out; omega) (by have := BN.out; omega) (fun _ _ => rfl) (fun _ _ => rfl)).mono ?_
  rintro e W20 ⟨rfl, hb⟩
  replace LL := hid (LL.out.below hb)
  replace BW := hid (below_next BW.out hb)
  replace KF := hid (KF.out.below hb)
  replace KP := hid (KP.out.below hb)
  replace KQ := hid (KQ.out.below hb)
  replace KL := hid (KL.out.below hb)
  clear hb
  have x1 := KP.out.cell 5 _ rfl
  have x2 := KP.out.cell 6 _ rfl
  have x3 := KQ.out.cell 5 _ rfl
  have x4 := KQ.out.cell 6 _ rfl
  have x5 := KF.out.cell 0 _ rfl
  have x6 := KF.out.cell 1 _ rfl
  go_wp2_with fail
  clear x1 x2 x3 x4 x5 x6
  have L5 : LS W20 w.heap.size ([⟨.slice (some ⟨g1, 0, none⟩) (n + 6) e1, n + 6, over⟩, ⟨.slice (some ⟨g2, 0, none⟩) (nm + 6) e2, nm + 6, over⟩] ++ [⟨.slice a4 (el n nm) c4, el n nm, en q n f nm g⟩, ⟨.slice a5 (el n nm) c5, el n nm, en q n f nm g⟩, ⟨.slice d1 (pN q n) p1, pN q n, f⟩, ⟨.slice m1 (pM q nm) r1, pM q nm, g⟩, ⟨.slice d2 (pN q n) p2, pN q n, f⟩, ⟨.slice m2 (pM q nm) r2, pM q nm, g⟩]) := LL.out.sublist (by
    refine .cons_cons _ (.cons_cons _ (.cons_cons _ (.cons_cons _ (.cons _ (.cons_cons _ (.cons_cons _ (.cons_cons _ (.cons_cons _ (.cons _ (.cons _ .slnil)))))))))))
  have L6 := L5.perm List.perm_append_comm
  refine (L6.apart _ rfl 8 rfl (by omega) (by omega) (fun x hx => ?_)).mono ?_
  · have := BN.out
    simp only [List.cons_append, List.nil_append, List.mem_cons, List.not_mem_nil, or_false] at hx
    rcases hx with rfl | rfl | rfl | rfl | rfl | rfl | rfl | rfl
    · exact this.1
    · exact this.1
    · exact this.2.1
    · exact this.2.2
    · exact this.2.1
    · exact this.2.2
    · show n + 6 ≤ _; omega
    · show nm + 6 ≤ _; omega
  rintro e WZ ⟨rfl, hb⟩
  replace BW := hid ((below_next BW.out (below_alloc _ _)).trans hb)
  clear hb L5 L6
  go_wp2
  go_ret
  exact ⟨rfl, BW.out⟩
end Go.Proofs.Ytnadpglfliiplaa.Ou
