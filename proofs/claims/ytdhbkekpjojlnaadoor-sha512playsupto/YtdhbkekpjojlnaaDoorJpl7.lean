/- The law Sha512Plays: one step: Sum, Form, Clone. -/
import Derived.Test.YtdhbkekpjojlnaaDoorJpl5
import Derived.Deep.RegionHeld3
namespace Go.Proofs.YtdhbkekpjojlnaaDoor.Sg
open Go.ChangeShapes Go.WideShapes Go.ChangeAt Go.RowKit
open Go.Proofs.YtdhbkekpjojlnaaDoor.By Go.Proofs.YtdhbkekpjojlnaaDoor.Wd
set_option maxRecDepth 100000 in
set_option maxHeartbeats 1000000 in
theorem step_sum (B xb lb mb T tn ln q : Nat) (tt : Int) (pa : Option Addr) (pn pc : Nat) (w0 w : World) (hq : q < 256) (h : PG w0 B xb lb mb T tn tt ln w) (ht : tt ≤ 1152921504606800000) (hl : ln ≤ 999990) (htn : tn ≤ 999990) (hTn : T ≤ 140737488351232) :
    Calls Tryd.prog 8 #[.pointer (some ⟨xb, 0, none⟩), .agg #[.int .i64 2, .int .u8 q, .slice pa pn pc]] w fun r w' => r = .returned (.bool true) ∧ PG w0 B xb lb mb T (tn + 1) (tt + 2) (ln + 1) w' := by
  obtain ⟨sts, rts, tl, L, sv, rv, tv, wv, lv, mv, hP, hev, h3, h12, htl, hT, hL1, hL2⟩ := h
  obtain ⟨ns, hns⟩ : ∃ n, sts.length = n := ⟨_, rfl⟩
  rw [hns] at h3 h12
  obtain ⟨k, hk⟩ : ∃ k, q % ns = k := ⟨_, rfl⟩
  have hkn : k < ns := by rw [← hk]; exact Nat.mod_lt _ (by omega)
  obtain ⟨hrl, e, e', he, he', hkk⟩ := kinds_at hev (i := k) (by omega)
  rw [hns] at hrl
  have hki : Hid ((q : Int) % ns = (k : Int)) := by show (q : Int) % ns = (k : Int); rw [← hk]; rfl
  have hlt : (k : Int) < ns := by omega
  have hn0 : ¬ (ns : Int) = 0 := by omega
  have HE := hid he
  have HE' := hid he'
  have HEV := hid hev
  have HT := hid hT
  have HKK := hid hkk
  have HP := hid hP
  clear hP
  go_enter Tryd.func8, Tryd.ntmps8
  go_wp2
  obtain ⟨W, hW⟩ : ∃ x, w.alloc (.cells #[.int .i64 2, .int .u8 q, .slice pa pn pc] 47) = x := ⟨_, rfl⟩
  rw [hW]
  have bW : Below w.heap.size w W := by rw [← hW]; exact below_alloc _ _
  have hC : Blk W w.heap.size [.int .i64 2, .int .u8 q, .slice pa pn pc] 47 := by rw [← hW]; exact Blk.newAt w _ _ _ _ rfl rfl
  have a0 := hC.cell 0 _ rfl
  have a1 := hC.cell 1 _ rfl
  have a2 := hC.cell 2 _ rfl
  have HC := hid hC
  have H := hid (HP.out.below bW)
  have BW := hid bW
  obtain ⟨gs, cs, rfl, hcs⟩ := H.out.viewS hns (by omega)
  obtain ⟨gr, cr, rfl, hcr⟩ := H.out.viewR hrl (by omega)
  have c0 := H.out.four.here.cell 0 _ rfl
  have c1 := H.out.four.here.cell 1 _ rfl
  have c2 := H.out.four.here.cell 2 _ rfl
  have c3 := H.out.four.here.cell 3 _ rfl
  have x1 : W.cell? ⟨gs, k, none⟩ = some (sp e) := hcs k e he
  have x2 : W.cell? ⟨gr, k, none⟩ = some (sp e') := hcr k e' he'
  clear HP hcs hcr hW bW hC he he' hev hT hkk
  go_quiet (fail)
  go_wp2
  rw [hki.out]
  go_region_held3 (fun w' => w'.cell? ⟨xb, 2, none⟩ = some (.slice (some ⟨gs, 0, none⟩) ns cs) ∧ w'.cell? ⟨xb, 3, none⟩ = some (.slice (some ⟨gr, 0, none⟩) ns cr) ∧ w'.cell? ⟨gs, k, none⟩ = some (sp e) ∧ w'.cell? ⟨gr, k, none⟩ = some (sp e')) (go_keep) (fail)
  go_wp2_with fail
  have hv := H.out.below (below_drewN W (nq + 1))
  obtain ⟨V, hV⟩ : ∃ x, W.drewN (nq + 1) = x := ⟨_, rfl⟩
  rw [hV] at hv
  rw [hV]
  have HV := hid hv
  have d0 := hv.four.here.cell 0 _ rfl
  have d1 := hv.four.here.cell 1 _ rfl
  have d2 := hv.four.here.cell 2 _ rfl
  have d3 := hv.four.here.cell 3 _ rfl
  have hpos := hid hv.lled.pos
  have hek := hid (lens_at HT.out HE.out)
  have hek' := hid (show lk (kd e') ≤ T by rw [HKK.out]; exact hek.out)
  clear hv hV a0 a1 a2 c0 c1 c2 c3 x1 x2 H HC BW
  have hW : Hid (Wide L) := ⟨by omega, by omega⟩
  have hB1 : Hid (Big (sl L (kd e))) := by
    have t1 := sl_tot hpos.out (kd e) (by omega)
    exact ⟨by omega, by omega⟩
  refine (HV.out.sumP HE.out (by have := hek.out; omega) hW.out.big).mono ?_
  rintro r1 w1 ⟨b1, lv1, rfl, o1, h1, ku1, sz1⟩
  obtain ⟨ab, cb, rfl⟩ := own_lit_slice o1
  have H1 := hid h1
  have O1 := hid o1
  have y0 := h1.four.here.cell 0 _ rfl
  have y1 := h1.four.here.cell 1 _ rfl
  clear h1 o1 ku1 d0 d1 d2 d3
  go_wp2_with fail
  refine (H1.out.sumR HE'.out hW.out).mono ?_
  rintro r2 w2 ⟨b2, mv2, rfl, o2, h2, ku2⟩
  rw [HKK.out] at o2 h2
  obtain ⟨ac, cc, rfl⟩ := own_lit_slice o2
  have hB := HV.out.gs.hB
  have H2 := hid h2
  have O1' := hid (ku2 _ _ _ _ O1.out)
  have O2 := hid o2
  clear h2 o2 ku2 y0 y1
  go_wp2_with fail
  refine (H2.out.tell _ _ (sn (kd e)) (sf (kd e)) (own_base O1'.out hB) (own_base O2.out (by omega)) (sn_le _) (by omega) (HV.out.fresh O1'.out)).mono ?_
  rintro r3 w3 ⟨rfl, tv3, wv3, h3'⟩
  have H3 := hid h3'
  clear h3'
  go_wp2
  go_ret
  have t1 := sl_tot hpos.out (kd e) (by omega)
  exact ⟨by rw [HKK.out]; simp, _, _, _, _, _, _, _, _, _, _, H3.out, HEV.out, by omega, by omega, by simp; omega, HT.out, by omega, by omega⟩
set_option maxRecDepth 100000 in
set_option maxHeartbeats 1000000 in
theorem step_form (B xb lb mb T tn ln q : Nat) (tt : Int) (pa : Option Addr) (pn pc : Nat) (w0 w : World) (hq : q < 256) (h : PG w0 B xb lb mb T tn tt ln w) (htn : tn ≤ 999990) :
    Calls Tryd.prog 8 #[.pointer (some ⟨xb, 0, none⟩), .agg #[.int .i64 6, .int .u8 q, .slice pa pn pc]] w fun r w' => r = .returned (.bool true) ∧ PG w0 B xb lb mb T (tn + 1) tt ln w' := by
  obtain ⟨sts, rts, tl, L, sv, rv, tv, wv, lv, mv, hP, hev, h3, h12, htl, hT, hL1, hL2⟩ := h
  obtain ⟨ns, hns⟩ : ∃ n, sts.length = n := ⟨_, rfl⟩
  rw [hns] at h3 h12
  obtain ⟨k, hk⟩ : ∃ k, q % ns = k := ⟨_, rfl⟩
  have hkn : k < ns := by rw [← hk]; exact Nat.mod_lt _ (by omega)
  obtain ⟨hrl, e, e', he, he', hkk⟩ := kinds_at hev (i := k) (by omega)
  rw [hns] at hrl
  have hki : Hid ((q : Int) % ns = (k : Int)) := by show (q : Int) % ns = (k : Int); rw [← hk]; rfl
  have hlt : (k : Int) < ns := by omega
  have hn0 : ¬ (ns : Int) = 0 := by omega
  have HE := hid he
  have HE' := hid he'
  have HEV := hid hev
  have HT := hid hT
  have HKK := hid hkk
  have HP := hid hP
  clear hP
  go_enter Tryd.func8, Tryd.ntmps8
  go_wp2
  obtain ⟨W, hW⟩ : ∃ x, w.alloc (.cells #[.int .i64 6, .int .u8 q, .slice pa pn pc] 47) = x := ⟨_, rfl⟩
  rw [hW]
  have bW : Below w.heap.size w W := by rw [← hW]; exact below_alloc _ _
  have hC : Blk W w.heap.size [.int .i64 6, .int .u8 q, .slice pa pn pc] 47 := by rw [← hW]; exact Blk.newAt w _ _ _ _ rfl rfl
  have a0 := hC.cell 0 _ rfl
  have a1 := hC.cell 1 _ rfl
  have a2 := hC.cell 2 _ rfl
  have HC := hid hC
  have H := hid (HP.out.below bW)
  have BW := hid bW
  obtain ⟨gs, cs, rfl, hcs⟩ := H.out.viewS hns (by omega)
  obtain ⟨gr, cr, rfl, hcr⟩ := H.out.viewR hrl (by omega)
  have c0 := H.out.four.here.cell 0 _ rfl
  have c1 := H.out.four.here.cell 1 _ rfl
  have c2 := H.out.four.here.cell 2 _ rfl
  have c3 := H.out.four.here.cell 3 _ rfl
  have x1 : W.cell? ⟨gs, k, none⟩ = some (sp e) := hcs k e he
  have x2 : W.cell? ⟨gr, k, none⟩ = some (sp e') := hcr k e' he'
  clear HP hcs hcr hW bW hC he he' hev hT hkk
  go_quiet (fail)
  go_wp2
  rw [hki.out]
  go_region_held3 (fun w' => w'.cell? ⟨xb, 2, none⟩ = some (.slice (some ⟨gs, 0, none⟩) ns cs) ∧ w'.cell? ⟨xb, 3, none⟩ = some (.slice (some ⟨gr, 0, none⟩) ns cr) ∧ w'.cell? ⟨gs, k, none⟩ = some (sp e) ∧ w'.cell? ⟨gr, k, none⟩ = some (sp e')) (go_keep) (fail)
  go_wp2_with fail
  have hv := H.out.below (below_drewN W (nq + 1))
  obtain ⟨V, hV⟩ : ∃ x, W.drewN (nq + 1) = x := ⟨_, rfl⟩
  rw [hV] at hv
  rw [hV]
  have HV := hid hv
  have d0 := hv.four.here.cell 0 _ rfl
  have d1 := hv.four.here.cell 1 _ rfl
  have d2 := hv.four.here.cell 2 _ rfl
  have d3 := hv.four.here.cell 3 _ rfl
  have hpos := hid hv.lled.pos
  have hek := hid (lens_at HT.out HE.out)
  have hek' := hid (show lk (kd e') ≤ T by rw [HKK.out]; exact hek.out)
  clear hv hV a0 a1 a2 c0 c1 c2 c3 x1 x2 H HC BW
  refine (HV.out.formP HE.out).mono ?_
  rintro r1 w1 ⟨b1, rfl, o1, hb1⟩
  obtain ⟨ab, cb, rfl⟩ := own_lit_slice o1
  have H1 := hid (HV.out.below hb1)
  have O1 := hid o1
  have sz1 := hb1.size
  clear o1 hb1 d0 d1 d2 d3
  go_wp2_with fail
  refine (H1.out.formR HE'.out).mono ?_
  rintro r2 w2 ⟨b2, rfl, o2, hb2⟩
  rw [HKK.out] at o2
  obtain ⟨ac, cc, rfl⟩ := own_lit_slice o2
  have hB := HV.out.gs.hB
  have H2 := hid (H1.out.below hb2)
  have O1' := hid (ku_below hb2 _ _ _ _ O1.out)
  have O2 := hid o2
  clear o2 hb2
  go_wp2_with fail
  refine (H2.out.tell _ _ (fn (kd e)) (ff (kd e)) (own_base O1'.out hB) (own_base O2.out (by omega)) (fn_le _) (by omega) (HV.out.fresh O1'.out)).mono ?_
  rintro r3 w3 ⟨rfl, tv3, wv3, h3'⟩
  have H3 := hid h3'
  clear h3'
  go_wp2_with fail
  refine (H3.out.lenP HE.out).mono ?_
  rintro r4 w4 ⟨rfl, rfl⟩
  go_wp2_with fail
  refine (H3.out.lenR HE'.out).mono ?_
  rintro r5 w5 ⟨rfl, rfl⟩
  go_wp2
  go_ret
  exact ⟨by rw [HKK.out]; simp, _, _, _, _, _, _, _, _, _, _, H3.out, HEV.out, by omega, by omega, by simp; omega, HT.out, by omega, by omega⟩
set_option maxRecDepth 100000 in
set_option maxHeartbeats 1000000 in
theorem step_clone (B xb lb mb T tn ln q : Nat) (tt : Int) (pa : Option Addr) (pn pc : Nat) (w0 w : World) (hq : q < 256) (h : PG w0 B xb lb mb T tn tt ln w) :
    Calls Tryd.prog 8 #[.pointer (some ⟨xb, 0, none⟩), .agg #[.int .i64 3, .int .u8 q, .slice pa pn pc]] w fun r w' => r = .returned (.bool true) ∧ PG w0 B xb lb mb T tn tt ln w' := by
  obtain ⟨sts, rts, tl, L, sv, rv, tv, wv, lv, mv, hP, hev, h3, h12, htl, hT, hL1, hL2⟩ := h
  obtain ⟨ns, hns⟩ : ∃ n, sts.length = n := ⟨_, rfl⟩
  rw [hns] at h3 h12
  obtain ⟨k, hk⟩ : ∃ k, q % ns = k := ⟨_, rfl⟩
  have hkn : k < ns := by rw [← hk]; exact Nat.mod_lt _ (by omega)
  obtain ⟨hrl, e, e', he, he', hkk⟩ := kinds_at hev (i := k) (by omega)
  rw [hns] at hrl
  have hki : Hid ((q : Int) % ns = (k : Int)) := by show (q : Int) % ns = (k : Int); rw [← hk]; rfl
  have hlt : (k : Int) < ns := by omega
  have hn0 : ¬ (ns : Int) = 0 := by omega
  have HE := hid he
  have HE' := hid he'
  have HEV := hid hev
  have HT := hid hT
  have HKK := hid hkk
  have HP := hid hP
  clear hP
  go_enter Tryd.func8, Tryd.ntmps8
  go_wp2
  obtain ⟨W, hW⟩ : ∃ x, w.alloc (.cells #[.int .i64 3, .int .u8 q, .slice pa pn pc] 47) = x := ⟨_, rfl⟩
  rw [hW]
  have bW : Below w.heap.size w W := by rw [← hW]; exact below_alloc _ _
  have hC : Blk W w.heap.size [.int .i64 3, .int .u8 q, .slice pa pn pc] 47 := by rw [← hW]; exact Blk.newAt w _ _ _ _ rfl rfl
  have a0 := hC.cell 0 _ rfl
  have a1 := hC.cell 1 _ rfl
  have a2 := hC.cell 2 _ rfl
  have HC := hid hC
  have H := hid (HP.out.below bW)
  have BW := hid bW
  obtain ⟨gs, cs, rfl, hcs⟩ := H.out.viewS hns (by omega)
  obtain ⟨gr, cr, rfl, hcr⟩ := H.out.viewR hrl (by omega)
  have c0 := H.out.four.here.cell 0 _ rfl
  have c1 := H.out.four.here.cell 1 _ rfl
  have c2 := H.out.four.here.cell 2 _ rfl
  have c3 := H.out.four.here.cell 3 _ rfl
  have x1 : W.cell? ⟨gs, k, none⟩ = some (sp e) := hcs k e he
  have x2 : W.cell? ⟨gr, k, none⟩ = some (sp e') := hcr k e' he'
  clear HP hcs hcr hW bW hC he he' hev hT hkk
  go_quiet (fail)
  go_wp2
  rw [hki.out]
  go_region_held3 (fun w' => w'.cell? ⟨xb, 2, none⟩ = some (.slice (some ⟨gs, 0, none⟩) ns cs) ∧ w'.cell? ⟨xb, 3, none⟩ = some (.slice (some ⟨gr, 0, none⟩) ns cr) ∧ w'.cell? ⟨gs, k, none⟩ = some (sp e) ∧ w'.cell? ⟨gr, k, none⟩ = some (sp e')) (go_keep) (fail)
  go_wp2_with fail
  have hv := H.out.below (below_drewN W (nq + 1))
  obtain ⟨V, hV⟩ : ∃ x, W.drewN (nq + 1) = x := ⟨_, rfl⟩
  rw [hV] at hv
  rw [hV]
  have HV := hid hv
  have d0 := hv.four.here.cell 0 _ rfl
  have d1 := hv.four.here.cell 1 _ rfl
  have d2 := hv.four.here.cell 2 _ rfl
  have d3 := hv.four.here.cell 3 _ rfl
  have hpos := hid hv.lled.pos
  have hek := hid (lens_at HT.out HE.out)
  have hek' := hid (show lk (kd e') ≤ T by rw [HKK.out]; exact hek.out)
  clear hv hV a0 a1 a2 c0 c1 c2 c3 x1 x2 H HC BW
  rcases hke : kd e with _ | ⟨m, f⟩
  · refine (HV.out.cloneP0 HE.out hke).mono ?_
    rintro r1 w1 ⟨rfl, rfl⟩
    go_wp2_with fail
    refine (HV.out.cloneR0 HE'.out (HKK.out.trans hke)).mono ?_
    rintro r2 w2 ⟨rfl, rfl⟩
    go_wp2
    go_ret
    exact ⟨rfl, _, _, _, _, _, _, _, _, _, _, HV.out, HEV.out, by omega, by omega, htl, HT.out, hL1, hL2⟩
  · refine (HV.out.cloneP1 HE.out hke).mono ?_
    rintro r1 w1 ⟨rfl, s1, hb1⟩
    have S1 := hid s1
    have B1 := hid hb1
    have K := hid hke
    obtain ⟨cv, hcv⟩ : ∃ x, V.heap.size = x := ⟨_, rfl⟩
    have HCV := hid hcv
    rw [hcv]
    clear s1 hb1 hke hcv
    go_wp2_with fail
    refine ((HV.out.below B1.out).cloneR1 HE'.out (HKK.out.trans K.out)).mono ?_
    rintro r2 w2 ⟨rfl, s2, hb2⟩
    have S2 := hid s2
    have B2 := hid (below_next B1.out hb2)
    have S1' := hid (S1.out.kept (Kp.of_below (fun _ => False) hb2) id)
    have H2 := hid (HV.out.below B2.out)
    obtain ⟨cw, hcw⟩ : ∃ x, w1.heap.size = x := ⟨_, rfl⟩
    have HCW := hid hcw
    rw [hcw]
    have sz1 := B1.out.size
    have e2' := H2.out.four.here.cell 2 _ rfl
    clear s2 hb2 hcw d0 d1 d2 d3
    by_cases hlt12 : ns < 12
    · skip
      have R1 : Hid (w2.ownsRow B 33 1 (.slice (some ⟨gs, 0, none⟩) ns cs) ns (sts.map sp)) := by have := H2.out.four.r1; rw [List.length_map, hns] at this; exact this
      have e2 := H2.out.four.here.cell 2 _ rfl
      have e3 := H2.out.four.here.cell 3 _ rfl
      have f2 := H2.out.four.here.frozen 2
      have f3 := H2.out.four.here.frozen 3
      have hltx := H2.out.four.here.lt
      have hBw := H2.out.gs.hB
      have l12 : (ns : Int) < 12 := by omega
      go_wp2_with (at_builtin; go_must (refine wpList_pushG 28 33 (.pointer none) 8 Tryd.underlying28 infoP rfl (by decide) rfl _ _ rfl B _ ns (sts.map sp) _ (rowG_kept R1.out (Kp.of_below (fun _ => False) (below_alloc _ _)) (fun _ _ => id)) rfl ?c1 ?c2 ⟨_, 0, none⟩ rfl rfl (cell_newG _ _ _ _ rfl) ?_))
      case c1 => simp; omega
      case c2 => omega
      intro u1 w3 hown hkp hson
      obtain ⟨b3, t3, k3, s3⟩ := H2.out.four.pushS (below_alloc w2 _) (by rw [List.length_map, hns]; exact hown) hkp hson
      obtain ⟨ua, uc, rfl⟩ := rowG_slice hown
      have hsz3 := hkp.size
      have hz3 : w2.heap.size ≤ w3.heap.size := by simp at hsz3; omega
      have g2 := b3.cell 2 _ rfl
      have g3 := b3.cell 3 _ rfl
      have i2 := b3.frozen 2
      have hlt3 := b3.lt
      have T3 := hid t3
      have K3 := hid k3
      have j3 := t3.here.cell 3 _ rfl
      have hset : (w3.setCell ⟨xb, 2, none⟩ (.slice ua (ns + 1) uc)).heap.size = w3.heap.size := by simp [World.setCell]
      have R2 : Hid ((w3.setCell ⟨xb, 2, none⟩ (.slice ua (ns + 1) uc)).ownsRow B 40 1 (.slice (some ⟨gr, 0, none⟩) ns cr) ns (rts.map sp)) := by have := t3.r2; rw [List.length_map, hrl] at this; exact this
      clear hown hkp hson b3 t3 k3 s3 hsz3 R1
      go_wp2_with (at_builtin; go_must (refine wpList_pushG 29 40 (.pointer none) 8 Tryd.underlying29 infoQ rfl (by decide) rfl _ _ rfl B _ ns (rts.map sp) _ (rowG_kept R2.out (Kp.of_below (fun _ => False) (below_alloc _ _)) (fun _ _ => id)) rfl ?c1 ?c2 ⟨_, 0, none⟩ rfl rfl (cell_newG _ _ _ _ (by simp)) ?_))
      case c1 => simp; omega
      case c2 => omega
      intro u2 w4 hown hkp hson
      obtain ⟨b4, t4, k4, s4⟩ := T3.out.pushR (below_alloc _ _) (by rw [List.length_map, hrl]; exact hown) hkp hson
      obtain ⟨ub, ud, rfl⟩ := rowG_slice hown
      have o2 := b4.cell 2 _ rfl
      have o3 := b4.cell 3 _ rfl
      have p3 := b4.frozen 3
      have T4 := hid t4
      have K4 := hid (show Kp (fun j => j = xb ∨ (Value.slice (some ⟨gs, 0, none⟩) ns cs).ownBlock = some j ∨ (Value.slice (some ⟨gr, 0, none⟩) ns cr).ownBlock = some j) w2 _ from (K3.out.mono (fun j _ e => e.elim .inl (fun e => .inr (.inl e)))).trans k4 (fun j _ e => e.elim .inl (fun e => .inr (.inr e))))
      clear hown hkp hson b4 t4 k4 s4 R2
      go_wp2
      go_ret
      refine ⟨rfl, _, _, _, _, _, _, _, _, _, _, HV.out.grow (k := some (m, f)) B2.out S1'.out (Nat.le_refl _) S2.out sz1 (by rw [HCV.out, HCW.out]; exact T4.out) K4.out, ?_, ?_, ?_, htl, ?_, hL1, hL2⟩
      · rw [List.map_append, List.map_append, HEV.out]; rfl
      · simp; omega
      · simp; omega
      · intro k' hk'
        rw [List.map_append] at hk'
        rcases List.mem_append.1 hk' with hk' | hk'
        · exact HT.out k' hk'
        · rw [show List.map kd [some (V.heap.size, some (m, f))] = [some (m, f)] from rfl] at hk'
          rw [List.mem_singleton.1 hk']
          have := hek.out
          rw [K.out] at this
          exact this
    · have hlt12' : ¬ (ns : Int) < 12 := by omega
      go_wp2
      go_ret
      exact ⟨rfl, _, _, _, _, _, _, _, _, _, _, H2.out, HEV.out, by omega, by omega, htl, HT.out, hL1, hL2⟩
end Go.Proofs.YtdhbkekpjojlnaaDoor.Sg
