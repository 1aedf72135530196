/- OpSame. -/
import Derived.Test.YtnadpglfliiplaaUlv
import Derived.Test.YtnadpglfliiplaaUlo
import Derived.Test.YtnadpglfliiplaaUko
namespace Go.Proofs.Ytnadpglfliiplaa.Ou
open Go.ChangeShapes Go.WideShapes Go.ChangeAt Go.RowKit
open Go.Proofs.Ytnadpglfliiplaa.By
open Go.Proofs.Ytnadpglfliiplaa.Tb (Blk Blk.newAt)
/-- Two new variables: an operation, and its lists with their marks. -/
theorem var_two (V : World) (q : Nu) {d m u v : Value} (hd : d.oneCell' = true) (hm : m.oneCell' = true) (hu : u.oneCell' = true) (hv : v.oneCell' = true) :
    ∃ Wa Wb, (SVo ⟨V.heap.size, 0, none⟩ (ov q d m)).run Try.prog ((V.alloc (.cells zA 26)).alloc (.cells #[.slice none 0 0, .slice none 0 0] 28)) = .ok () Wa ∧ (SVa ⟨V.heap.size + 1, 0, none⟩ (.agg #[u, v])).run Try.prog Wa = .ok () Wb ∧
      Blk Wb V.heap.size (oL q d m) 26 ∧ Blk Wb (V.heap.size + 1) [u, v] 28 ∧ Below V.heap.size V Wb := by
  obtain ⟨Wa, s1, k1, hk1⟩ := SVo_run ((Blk.newAt V zA zA.toList 26 V.heap.size rfl rfl).alloc (.cells #[.slice none 0 0, .slice none 0 0] 28)) rfl (q := q) hd hm
  have k2 : Blk Wa (V.heap.size + 1) [.slice none 0 0, .slice none 0 0] 28 := (Blk.newAt (V.alloc (.cells zA 26)) _ _ 28 (V.heap.size + 1) (by simp) rfl).kept hk1 (by omega)
  obtain ⟨Wb, s2, k3, hk2⟩ := SVa_run k2 rfl hu hv
  have b1 : Below V.heap.size V Wa := (below_next (below_alloc V _) (below_alloc _ _)).trans (hk1.below (by simp; omega) (fun j hj => by omega))
  exact ⟨Wa, Wb, s1, s2, k1.kept hk2 (by omega), k3, b1.trans (hk2.below b1.size (fun j hj => by omega))⟩
set_option maxRecDepth 8000 in
set_option maxHeartbeats 1200000 in
theorem same_w (q r : Nu) (d m d' m' : Value) (n n' nm nm' : Nat) (f f' g g' : Nat → Int) (w : World) (h1 : By.RB w d n f) (h2 : By.RB w d' n' f') (h3 : By.RB w m nm g) (h4 : By.RB w m' nm' g') (b1 : n ≤ 140737488351232) (b2 : n' ≤ 140737488351232) (b3 : nm ≤ 140737488351232) (b4 : nm' ≤ 140737488351232) :
    Calls Try.prog 4 #[ov q d m, ov r d' m'] w fun e w' => e = .returned (.bool true) ∧ Below w.heap.size w w' := by
  obtain ⟨a1, c1, rfl⟩ := rb_sl h1
  obtain ⟨a2, c2, rfl⟩ := rb_sl h2
  obtain ⟨a3, c3, rfl⟩ := rb_sl h3
  obtain ⟨a4, c4, rfl⟩ := rb_sl h4
  have H1 := hid h1
  have H2 := hid h2
  have H3 := hid h3
  have H4 := hid h4
  clear h1 h2 h3 h4
  obtain ⟨W0, hW0⟩ : ∃ W, (w.alloc (.cells #[Value.int IntKind.u8 q.k, Value.int IntKind.i64 q.h, Value.int IntKind.u8 q.a, Value.int IntKind.i64 q.c, Value.int IntKind.i64 q.o, Value.slice a1 n c1, Value.slice a3 nm c3] 26)).alloc (.cells #[Value.int IntKind.u8 r.k, Value.int IntKind.i64 r.h, Value.int IntKind.u8 r.a, Value.int IntKind.i64 r.c, Value.int IntKind.i64 r.o, Value.slice a2 n' c2, Value.slice a4 nm' c4] 26) = W := ⟨_, rfl⟩
  have KA : Hid (Blk W0 w.heap.size (oL q (Value.slice a1 n c1) (Value.slice a3 nm c3)) 26) := by rw [← hW0]; exact (Blk.newAt w _ _ 26 w.heap.size rfl rfl).alloc _
  have KB : Hid (Blk W0 (w.heap.size + 1) (oL r (Value.slice a2 n' c2) (Value.slice a4 nm' c4)) 26) := by rw [← hW0]; exact Blk.newAt (w.alloc _) _ _ 26 (w.heap.size + 1) (by simp) rfl
  have BW : Hid (Below w.heap.size w W0) := by rw [← hW0]; exact below_next (below_alloc _ _) (below_alloc _ _)
  replace H1 := hid (H1.out.below BW.out)
  replace H2 := hid (H2.out.below BW.out)
  replace H3 := hid (H3.out.below BW.out)
  replace H4 := hid (H4.out.below BW.out)
  have l1 := LDo_run KA.out
  go_enter Try.func4, Try.ntmps4
  go_wp2_with fail
  clear hW0 l1
  refine (lentop_ok q _ _ n nm f g W0 H1.out H3.out (by omega) (by omega)).mono ?_
  rintro e W1 ⟨g1, g2, e1, e2, rfl, o1, o2, n12, hb⟩
  replace BW := hid (below_next BW.out hb)
  replace KA := hid (KA.out.below hb)
  replace KB := hid (KB.out.below hb)
  replace H1 := hid (H1.out.below hb)
  replace H2 := hid (H2.out.below hb)
  replace H3 := hid (H3.out.below hb)
  replace H4 := hid (H4.out.below hb)
  have X1 := hid (rb_lent o1 H1.out.1)
  have X2 := hid (rb_lent o2 H3.out.1)
  have F1 := hid o1.reads
  have F2 := hid o2.reads
  clear o1 o2 hb n12
  obtain ⟨Wa, W2, s1, s2, kx, kf, hb⟩ := var_two W1 q (d := .slice (some ⟨g1, 0, none⟩) n e1) (m := .slice (some ⟨g2, 0, none⟩) nm e2) (u := .slice (some ⟨g1, 0, none⟩) (n + 6) e1) (v := .slice (some ⟨g2, 0, none⟩) (nm + 6) e2) rfl rfl rfl rfl
  have KX := hid kx
  have KF := hid kf
  replace BW := hid (below_next BW.out hb)
  replace KA := hid (KA.out.below hb)
  replace KB := hid (KB.out.below hb)
  replace H1 := hid (H1.out.below hb)
  replace H2 := hid (H2.out.below hb)
  replace H3 := hid (H3.out.below hb)
  replace H4 := hid (H4.out.below hb)
  replace X1 := hid (X1.out.below hb)
  replace X2 := hid (X2.out.below hb)
  replace F1 := hid (F1.out.below hb)
  replace F2 := hid (F2.out.below hb)
  have l1 := LDo_run KB.out
  clear hb kx kf
  go_wp2_with fail
  clear s1 s2 l1
  refine (lentop_ok r _ _ n' nm' f' g' W2 H2.out H4.out (by omega) (by omega)).mono ?_
  rintro e W3 ⟨g3, g4, e3, e4, rfl, o1, o2, n12, hb⟩
  replace BW := hid (below_next BW.out hb)
  replace KA := hid (KA.out.below hb)
  replace KB := hid (KB.out.below hb)
  replace H1 := hid (H1.out.below hb)
  replace H2 := hid (H2.out.below hb)
  replace H3 := hid (H3.out.below hb)
  replace H4 := hid (H4.out.below hb)
  replace X1 := hid (X1.out.below hb)
  replace X2 := hid (X2.out.below hb)
  replace F1 := hid (F1.out.below hb)
  replace F2 := hid (F2.out.below hb)
  replace KX := hid (KX.out.below hb)
  replace KF := hid (KF.out.below hb)
  have Y1 := hid (rb_lent o1 H2.out.1)
  have Y2 := hid (rb_lent o2 H4.out.1)
  have G1 := hid o1.reads
  have G2 := hid o2.reads
  clear o1 o2 hb n12
  obtain ⟨Wc, W4, s1, s2, ky, kg, hb⟩ := var_two W3 r (d := .slice (some ⟨g3, 0, none⟩) n' e3) (m := .slice (some ⟨g4, 0, none⟩) nm' e4) (u := .slice (some ⟨g3, 0, none⟩) (n' + 6) e3) (v := .slice (some ⟨g4, 0, none⟩) (nm' + 6) e4) rfl rfl rfl rfl
  have KY := hid ky
  have KG := hid kg
  replace BW := hid (below_next BW.out hb)
  replace KA := hid (KA.out.below hb)
  replace KB := hid (KB.out.below hb)
  replace H1 := hid (H1.out.below hb)
  replace H2 := hid (H2.out.below hb)
  replace H3 := hid (H3.out.below hb)
  replace H4 := hid (H4.out.below hb)
  replace X1 := hid (X1.out.below hb)
  replace X2 := hid (X2.out.below hb)
  replace F1 := hid (F1.out.below hb)
  replace F2 := hid (F2.out.below hb)
  replace KX := hid (KX.out.below hb)
  replace KF := hid (KF.out.below hb)
  replace Y1 := hid (Y1.out.below hb)
  replace Y2 := hid (Y2.out.below hb)
  replace G1 := hid (G1.out.below hb)
  replace G2 := hid (G2.out.below hb)
  have l1 := LDo_run KX.out
  have l2 := LDo_run KY.out
  clear hb ky kg
  go_wp2_with fail
  clear s1 s2 l1 l2
  refine (same_op q r _ _ _ _ n n' nm nm' f f' g g' W4 X1.out Y1.out X2.out Y2.out (by omega) (by omega) (by omega) (by omega)).mono ?_
  rintro e W5 ⟨rfl, hb⟩
  replace BW := hid (below_next BW.out hb)
  replace KA := hid (KA.out.below hb)
  replace KB := hid (KB.out.below hb)
  replace H1 := hid (H1.out.below hb)
  replace H2 := hid (H2.out.below hb)
  replace H3 := hid (H3.out.below hb)
  replace H4 := hid (H4.out.below hb)
  replace X1 := hid (X1.out.below hb)
  replace X2 := hid (X2.out.below hb)
  replace F1 := hid (F1.out.below hb)
  replace F2 := hid (F2.out.below hb)
  replace KX := hid (KX.out.below hb)
  replace KF := hid (KF.out.below hb)
  replace Y1 := hid (Y1.out.below hb)
  replace Y2 := hid (Y2.out.below hb)
  replace G1 := hid (G1.out.below hb)
  replace G2 := hid (G2.out.below hb)
  replace KY := hid (KY.out.below hb)
  replace KG := hid (KG.out.below hb)
  obtain ⟨sv, hsv⟩ : ∃ x, eqO q r n n' f f' nm nm' g g' = x := ⟨_, rfl⟩
  rw [hsv]
  have SV := hid hsv
  clear hsv hb
  go_wp2_with fail
  refine (lives_ok W5).mono ?_
  rintro e W6 ⟨rfl, hb⟩
  replace BW := hid (below_next BW.out hb)
  replace KA := hid (KA.out.below hb)
  replace KB := hid (KB.out.below hb)
  replace H1 := hid (H1.out.below hb)
  replace H2 := hid (H2.out.below hb)
  replace H3 := hid (H3.out.below hb)
  replace H4 := hid (H4.out.below hb)
  replace X1 := hid (X1.out.below hb)
  replace X2 := hid (X2.out.below hb)
  replace F1 := hid (F1.out.below hb)
  replace F2 := hid (F2.out.below hb)
  replace KX := hid (KX.out.below hb)
  replace KF := hid (KF.out.below hb)
  replace Y1 := hid (Y1.out.below hb)
  replace Y2 := hid (Y2.out.below hb)
  replace G1 := hid (G1.out.below hb)
  replace G2 := hid (G2.out.below hb)
  replace KY := hid (KY.out.below hb)
  replace KG := hid (KG.out.below hb)
  have l1 := LDo_run KA.out
  have l2 := LDo_run KB.out
  clear hb
  go_wp2_with fail
  clear l1 l2
  refine (same_ref q r _ _ _ _ n n' nm nm' f f' g g' W6 H1.out H2.out H3.out H4.out (by omega) (by omega) (by omega) (by omega)).mono ?_
  rintro e W7 ⟨rfl, hb⟩
  rw [SV.out]
  replace BW := hid (below_next BW.out hb)
  replace KA := hid (KA.out.below hb)
  replace KB := hid (KB.out.below hb)
  replace H1 := hid (H1.out.below hb)
  replace H2 := hid (H2.out.below hb)
  replace H3 := hid (H3.out.below hb)
  replace H4 := hid (H4.out.below hb)
  replace X1 := hid (X1.out.below hb)
  replace X2 := hid (X2.out.below hb)
  replace F1 := hid (F1.out.below hb)
  replace F2 := hid (F2.out.below hb)
  replace KX := hid (KX.out.below hb)
  replace KF := hid (KF.out.below hb)
  replace Y1 := hid (Y1.out.below hb)
  replace Y2 := hid (Y2.out.below hb)
  replace G1 := hid (G1.out.below hb)
  replace G2 := hid (G2.out.below hb)
  replace KY := hid (KY.out.below hb)
  replace KG := hid (KG.out.below hb)
  have l1 := LDo_run KX.out
  have l2 := LDo_run KY.out
  clear hb
  go_wp2_with fail
  clear l1 l2
  refine (same_op r q _ _ _ _ n' n nm' nm f' f g' g W7 Y1.out X1.out Y2.out X2.out (by omega) (by omega) (by omega) (by omega)).mono ?_
  rintro e W8 ⟨rfl, hb⟩
  rw [eqO_comm, SV.out]
  replace BW := hid (below_next BW.out hb)
  replace KA := hid (KA.out.below hb)
  replace KB := hid (KB.out.below hb)
  replace H1 := hid (H1.out.below hb)
  replace H2 := hid (H2.out.below hb)
  replace H3 := hid (H3.out.below hb)
  replace H4 := hid (H4.out.below hb)
  replace X1 := hid (X1.out.below hb)
  replace X2 := hid (X2.out.below hb)
  replace F1 := hid (F1.out.below hb)
  replace F2 := hid (F2.out.below hb)
  replace KX := hid (KX.out.below hb)
  replace KF := hid (KF.out.below hb)
  replace Y1 := hid (Y1.out.below hb)
  replace Y2 := hid (Y2.out.below hb)
  replace G1 := hid (G1.out.below hb)
  replace G2 := hid (G2.out.below hb)
  replace KY := hid (KY.out.below hb)
  replace KG := hid (KG.out.below hb)
  have l1 := LDo_run KX.out
  clear hb
  go_wp2_with fail
  clear l1
  refine (same_op q q _ _ _ _ n n nm nm f f g g W8 X1.out X1.out X2.out X2.out (by omega) (by omega) (by omega) (by omega)).mono ?_
  rintro e W9 ⟨rfl, hb⟩
  rw [eqO_refl]
  replace BW := hid (below_next BW.out hb)
  replace KA := hid (KA.out.below hb)
  replace KB := hid (KB.out.below hb)
  replace H1 := hid (H1.out.below hb)
  replace H2 := hid (H2.out.below hb)
  replace H3 := hid (H3.out.below hb)
  replace H4 := hid (H4.out.below hb)
  replace X1 := hid (X1.out.below hb)
  replace X2 := hid (X2.out.below hb)
  replace F1 := hid (F1.out.below hb)
  replace F2 := hid (F2.out.below hb)
  replace KX := hid (KX.out.below hb)
  replace KF := hid (KF.out.below hb)
  replace Y1 := hid (Y1.out.below hb)
  replace Y2 := hid (Y2.out.below hb)
  replace G1 := hid (G1.out.below hb)
  replace G2 := hid (G2.out.below hb)
  replace KY := hid (KY.out.below hb)
  replace KG := hid (KG.out.below hb)
  have l1 := LDa_run KF.out
  have l2 := LDo_run KA.out
  clear hb
  go_wp2_with fail
  clear l1 l2
  refine (keptop_ok q _ _ _ _ n nm f g W9 H1.out H3.out F1.out F2.out (by omega) (by omega)).mono ?_
  rintro e W10 ⟨rfl, hb⟩
  replace BW := hid (below_next BW.out hb)
  replace KA := hid (KA.out.below hb)
  replace KB := hid (KB.out.below hb)
  replace H1 := hid (H1.out.below hb)
  replace H2 := hid (H2.out.below hb)
  replace H3 := hid (H3.out.below hb)
  replace H4 := hid (H4.out.below hb)
  replace X1 := hid (X1.out.below hb)
  replace X2 := hid (X2.out.below hb)
  replace F1 := hid (F1.out.below hb)
  replace F2 := hid (F2.out.below hb)
  replace KX := hid (KX.out.below hb)
  replace KF := hid (KF.out.below hb)
  replace Y1 := hid (Y1.out.below hb)
  replace Y2 := hid (Y2.out.below hb)
  replace G1 := hid (G1.out.below hb)
  replace G2 := hid (G2.out.below hb)
  replace KY := hid (KY.out.below hb)
  replace KG := hid (KG.out.below hb)
  have l1 := LDa_run KG.out
  have l2 := LDo_run KB.out
  clear hb
  go_wp2_with fail
  clear l1 l2
  refine (keptop_ok r _ _ _ _ n' nm' f' g' W10 H2.out H4.out G1.out G2.out (by omega) (by omega)).mono ?_
  rintro e W11 ⟨rfl, hb⟩
  replace BW := hid (below_next BW.out hb)
  clear hb
  go_wp2
  go_ret
  exact ⟨rfl, BW.out⟩
end Go.Proofs.Ytnadpglfliiplaa.Ou
