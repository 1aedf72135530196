/- The law Sha512Plays: one step: Reset, Wipe, Write. -/
import Derived.Test.YtdhbkekpjojlnaaDoorJpl5
import Derived.Deep.RegionHeld3
namespace Go.Proofs.YtdhbkekpjojlnaaDoor.Sg
open Go.ChangeShapes Go.WideShapes Go.ChangeAt Go.RowKit
open Go.Proofs.YtdhbkekpjojlnaaDoor.By Go.Proofs.YtdhbkekpjojlnaaDoor.Wd
set_option maxRecDepth 100000 in
set_option maxHeartbeats 1000000 in
theorem step_reset (B xb lb mb T tn ln q : Nat) (tt : Int) (pa : Option Addr) (pn pc : Nat) (w0 w : World) (hq : q < 256) (h : PG w0 B xb lb mb T tn tt ln w) :
    Calls Tryd.prog 8 #[.pointer (some ⟨xb, 0, none⟩), .agg #[.int .i64 4, .int .u8 q, .slice pa pn pc]] w fun r w' => r = .returned (.bool true) ∧ PG w0 B xb lb mb T tn tt ln w' := by
  obtain ⟨sts, rts, tl, L, sv, rv, tv, wv, lv, mv, hP, hev, h3, h12, htl, hT, hL1, hL2⟩ := h
  obtain ⟨ns, hns⟩ : ∃ n, sts.length = n := ⟨_, rfl⟩
  rw [hns] at h3 h12
  obtain ⟨k, hk⟩ : ∃ k, q % ns = k := ⟨_, rfl⟩
  have hkn : k < ns := by rw [← hk]; exact Nat.mod_lt _ (by omega)
  obtain ⟨hrl, e, e', he, he', hkk⟩ := kinds_at hev (i := k) (by omega)
  rw [hns] at hrl
  have hki : Hid ((q : Int) % ns = (k : Int)) := by show (q : Int) % ns = (k : Int); rw [← hk]; rfl
  have hlt : (k : Int) < ns := by omega
  have hn0 : ¬ (ns : Int) = 0 := by omega
  have HE := hid he
  have HE' := hid he'
  have HEV := hid hev
  have HT := hid hT
  have HKK := hid hkk
  have HP := hid hP
  clear hP
  go_enter Tryd.func8, Tryd.ntmps8
  go_wp2
  obtain ⟨W, hW⟩ : ∃ x, w.alloc (.cells #[.int .i64 4, .int .u8 q, .slice pa pn pc] 47) = x := ⟨_, rfl⟩
  rw [hW]
  have bW : Below w.heap.size w W := by rw [← hW]; exact below_alloc _ _
  have hC : Blk W w.heap.size [.int .i64 4, .int .u8 q, .slice pa pn pc] 47 := by rw [← hW]; exact Blk.newAt w _ _ _ _ rfl rfl
  have a0 := hC.cell 0 _ rfl
  have a1 := hC.cell 1 _ rfl
  have a2 := hC.cell 2 _ rfl
  have HC := hid hC
  have H := hid (HP.out.below bW)
  have BW := hid bW
  obtain ⟨gs, cs, rfl, hcs⟩ := H.out.viewS hns (by omega)
  obtain ⟨gr, cr, rfl, hcr⟩ := H.out.viewR hrl (by omega)
  have c0 := H.out.four.here.cell 0 _ rfl
  have c1 := H.out.four.here.cell 1 _ rfl
  have c2 := H.out.four.here.cell 2 _ rfl
  have c3 := H.out.four.here.cell 3 _ rfl
  have x1 : W.cell? ⟨gs, k, none⟩ = some (sp e) := hcs k e he
  have x2 : W.cell? ⟨gr, k, none⟩ = some (sp e') := hcr k e' he'
  clear HP hcs hcr hW bW hC he he' hev hT hkk
  go_quiet (fail)
  go_wp2
  rw [hki.out]
  go_region_held3 (fun w' => w'.cell? ⟨xb, 2, none⟩ = some (.slice (some ⟨gs, 0, none⟩) ns cs) ∧ w'.cell? ⟨xb, 3, none⟩ = some (.slice (some ⟨gr, 0, none⟩) ns cr) ∧ w'.cell? ⟨gs, k, none⟩ = some (sp e) ∧ w'.cell? ⟨gr, k, none⟩ = some (sp e')) (go_keep) (fail)
  go_wp2_with fail
  refine ((H.out.below (below_drewN _ _)).resetP HE.out).mono ?_
  rintro r w1 ⟨rfl, h1⟩
  have H1 := hid h1
  clear h1
  go_wp2_with fail
  refine (H1.out.resetR HE'.out).mono ?_
  rintro r w2 ⟨rfl, h2⟩
  have H2 := hid h2
  clear h2
  go_wp2
  go_ret
  refine ⟨by rw [HKK.out]; simp, _, _, _, _, _, _, _, _, _, _, H2.out, kinds_set HEV.out rk rfl HKK.out, by simpa [hns] using h3, by simpa [hns] using h12, htl, lens_set HT.out (Nat.le_refl _) rk rfl ?_, hL1, hL2⟩
  cases kd e <;> exact Nat.zero_le _
set_option maxRecDepth 100000 in
set_option maxHeartbeats 1000000 in
theorem step_wipe (B xb lb mb T tn ln q : Nat) (tt : Int) (pa : Option Addr) (pn pc : Nat) (w0 w : World) (hq : q < 256) (h : PG w0 B xb lb mb T tn tt ln w) (ht : tt ≤ 1152921504606800000) (hl : ln ≤ 999990) :
    Calls Tryd.prog 8 #[.pointer (some ⟨xb, 0, none⟩), .agg #[.int .i64 5, .int .u8 q, .slice pa pn pc]] w fun r w' => r = .returned (.bool true) ∧ PG w0 B xb lb mb T tn (tt + 2) (ln + 1) w' := by
  obtain ⟨sts, rts, tl, L, sv, rv, tv, wv, lv, mv, hP, hev, h3, h12, htl, hT, hL1, hL2⟩ := h
  obtain ⟨ns, hns⟩ : ∃ n, sts.length = n := ⟨_, rfl⟩
  rw [hns] at h3 h12
  obtain ⟨k, hk⟩ : ∃ k, q % ns = k := ⟨_, rfl⟩
  have hkn : k < ns := by rw [← hk]; exact Nat.mod_lt _ (by omega)
  obtain ⟨hrl, e, e', he, he', hkk⟩ := kinds_at hev (i := k) (by omega)
  rw [hns] at hrl
  have hki : Hid ((q : Int) % ns = (k : Int)) := by show (q : Int) % ns = (k : Int); rw [← hk]; rfl
  have hlt : (k : Int) < ns := by omega
  have hn0 : ¬ (ns : Int) = 0 := by omega
  have HE := hid he
  have HE' := hid he'
  have HEV := hid hev
  have HT := hid hT
  have HKK := hid hkk
  have HP := hid hP
  clear hP
  go_enter Tryd.func8, Tryd.ntmps8
  go_wp2
  obtain ⟨W, hW⟩ : ∃ x, w.alloc (.cells #[.int .i64 5, .int .u8 q, .slice pa pn pc] 47) = x := ⟨_, rfl⟩
  rw [hW]
  have bW : Below w.heap.size w W := by rw [← hW]; exact below_alloc _ _
  have hC : Blk W w.heap.size [.int .i64 5, .int .u8 q, .slice pa pn pc] 47 := by rw [← hW]; exact Blk.newAt w _ _ _ _ rfl rfl
  have a0 := hC.cell 0 _ rfl
  have a1 := hC.cell 1 _ rfl
  have a2 := hC.cell 2 _ rfl
  have HC := hid hC
  have H := hid (HP.out.below bW)
  have BW := hid bW
  obtain ⟨gs, cs, rfl, hcs⟩ := H.out.viewS hns (by omega)
  obtain ⟨gr, cr, rfl, hcr⟩ := H.out.viewR hrl (by omega)
  have c0 := H.out.four.here.cell 0 _ rfl
  have c1 := H.out.four.here.cell 1 _ rfl
  have c2 := H.out.four.here.cell 2 _ rfl
  have c3 := H.out.four.here.cell 3 _ rfl
  have x1 : W.cell? ⟨gs, k, none⟩ = some (sp e) := hcs k e he
  have x2 : W.cell? ⟨gr, k, none⟩ = some (sp e') := hcr k e' he'
  clear HP hcs hcr hW bW hC he he' hev hT hkk
  go_quiet (fail)
  go_wp2
  rw [hki.out]
  go_region_held3 (fun w' => w'.cell? ⟨xb, 2, none⟩ = some (.slice (some ⟨gs, 0, none⟩) ns cs) ∧ w'.cell? ⟨xb, 3, none⟩ = some (.slice (some ⟨gr, 0, none⟩) ns cr) ∧ w'.cell? ⟨gs, k, none⟩ = some (sp e) ∧ w'.cell? ⟨gr, k, none⟩ = some (sp e')) (go_keep) (fail)
  go_wp2_with fail
  have hv := H.out.below (below_drewN W (nq + 1))
  obtain ⟨V, hV⟩ : ∃ x, W.drewN (nq + 1) = x := ⟨_, rfl⟩
  rw [hV] at hv
  rw [hV]
  have HV := hid hv
  have d0 := hv.four.here.cell 0 _ rfl
  have d1 := hv.four.here.cell 1 _ rfl
  have hR : Hid (Room L) := ⟨by omega, by omega⟩
  have hpos := hid hv.lled.pos
  clear hv hV a0 a1 a2 c0 c1 c2 c3 x1 x2 H HC BW
  go_region_held3 (fun w' => w'.cell? ⟨xb, 0, none⟩ = some (.pointer (some ⟨lb, 0, none⟩)) ∧ w'.cell? ⟨xb, 1, none⟩ = some (.pointer (some ⟨mb, 0, none⟩))) (go_keep) (first | (go_at_call 28; go_must (refine ((HV.out.below (Below.refl _ _).drew).wipeP HE.out hR.out).mono ?_; rintro r1 w1 ⟨rfl, lv1, h1⟩; have H1 := hid h1; have y0 := h1.four.here.cell 0 _ rfl; have y1 := h1.four.here.cell 1 _ rfl; clear h1)) | (go_at_call 29; go_must (refine (H1.out.wipeR HE'.out hR.out).mono ?_; rintro r2 w2 ⟨rfl, mv2, h2⟩; have H2 := hid h2; have z0 := h2.four.here.cell 0 _ rfl; have z1 := h2.four.here.cell 1 _ rfl; clear h2)))
  all_goals go_wp2
  all_goals go_ret
  all_goals (
    have h2 := H2.out
    rw [HKK.out] at h2
    have t1 := pl_tot hpos.out (kd e) (by omega)
    exact ⟨by rw [HKK.out]; simp, _, _, _, _, _, _, _, _, _, _, h2, kinds_set HEV.out (fun _ => none) rfl HKK.out, by simpa [hns] using h3, by simpa [hns] using h12, htl, lens_set HT.out (Nat.le_refl _) (fun _ => none) rfl (Nat.zero_le _), by omega, by omega⟩)
set_option maxRecDepth 100000 in
set_option maxHeartbeats 1000000 in
theorem step_write (B xb lb mb T tn ln q : Nat) (tt : Int) (pa : Option Addr) (pn pc : Nat) (w0 w : World) (hq : q < 256) (h : PG w0 B xb lb mb T tn tt ln w) (ht : tt ≤ 1152921504606800000) (hl : ln ≤ 999990) (hTn : T + pn ≤ 140737488351232) (g : Nat → Int) (hp : ∀ w', Below B w0 w' → By.RB w' (.slice pa pn pc) pn g) :
    Calls Tryd.prog 8 #[.pointer (some ⟨xb, 0, none⟩), .agg #[.int .i64 1, .int .u8 q, .slice pa pn pc]] w fun r w' => r = .returned (.bool true) ∧ PG w0 B xb lb mb (T + pn) tn (tt + pn) (ln + 1) w' := by
  obtain ⟨sts, rts, tl, L, sv, rv, tv, wv, lv, mv, hP, hev, h3, h12, htl, hT, hL1, hL2⟩ := h
  obtain ⟨ns, hns⟩ : ∃ n, sts.length = n := ⟨_, rfl⟩
  rw [hns] at h3 h12
  obtain ⟨k, hk⟩ : ∃ k, q % ns = k := ⟨_, rfl⟩
  have hkn : k < ns := by rw [← hk]; exact Nat.mod_lt _ (by omega)
  obtain ⟨hrl, e, e', he, he', hkk⟩ := kinds_at hev (i := k) (by omega)
  rw [hns] at hrl
  have hki : Hid ((q : Int) % ns = (k : Int)) := by show (q : Int) % ns = (k : Int); rw [← hk]; rfl
  have hlt : (k : Int) < ns := by omega
  have hn0 : ¬ (ns : Int) = 0 := by omega
  have HE := hid he
  have HE' := hid he'
  have HEV := hid hev
  have HT := hid hT
  have HKK := hid hkk
  have HP := hid hP
  clear hP
  go_enter Tryd.func8, Tryd.ntmps8
  go_wp2
  obtain ⟨W, hW⟩ : ∃ x, w.alloc (.cells #[.int .i64 1, .int .u8 q, .slice pa pn pc] 47) = x := ⟨_, rfl⟩
  rw [hW]
  have bW : Below w.heap.size w W := by rw [← hW]; exact below_alloc _ _
  have hC : Blk W w.heap.size [.int .i64 1, .int .u8 q, .slice pa pn pc] 47 := by rw [← hW]; exact Blk.newAt w _ _ _ _ rfl rfl
  have a0 := hC.cell 0 _ rfl
  have a1 := hC.cell 1 _ rfl
  have a2 := hC.cell 2 _ rfl
  have HC := hid hC
  have H := hid (HP.out.below bW)
  have BW := hid bW
  obtain ⟨gs, cs, rfl, hcs⟩ := H.out.viewS hns (by omega)
  obtain ⟨gr, cr, rfl, hcr⟩ := H.out.viewR hrl (by omega)
  have c0 := H.out.four.here.cell 0 _ rfl
  have c1 := H.out.four.here.cell 1 _ rfl
  have c2 := H.out.four.here.cell 2 _ rfl
  have c3 := H.out.four.here.cell 3 _ rfl
  have x1 : W.cell? ⟨gs, k, none⟩ = some (sp e) := hcs k e he
  have x2 : W.cell? ⟨gr, k, none⟩ = some (sp e') := hcr k e' he'
  clear HP hcs hcr hW bW hC he he' hev hT hkk
  go_quiet (fail)
  go_wp2
  rw [hki.out]
  go_region_held3 (fun w' => w'.cell? ⟨xb, 2, none⟩ = some (.slice (some ⟨gs, 0, none⟩) ns cs) ∧ w'.cell? ⟨xb, 3, none⟩ = some (.slice (some ⟨gr, 0, none⟩) ns cr) ∧ w'.cell? ⟨gs, k, none⟩ = some (sp e) ∧ w'.cell? ⟨gr, k, none⟩ = some (sp e')) (go_keep) (fail)
  go_wp2_with fail
  have hv := H.out.below (below_drewN W (nq + 1))
  have hc := HC.out.drewN (nq + 1)
  obtain ⟨V, hV⟩ : ∃ x, W.drewN (nq + 1) = x := ⟨_, rfl⟩
  rw [hV] at hv hc
  rw [hV]
  have HV := hid hv
  have HX := hid hc
  have hW : Hid (Wide L) := ⟨by omega, by omega⟩
  have hpos := hid hv.lled.pos
  have hek := hid (lens_at HT.out HE.out)
  have hek' := hid (show lk (kd e') ≤ T by rw [HKK.out]; exact hek.out)
  have HP := hid hp
  clear hv hc hV a0 a1 a2 c0 c1 c2 c3 x1 x2 H HC BW hp
  refine (lent14 _ pn g V (HP.out _ HV.out.gs.bel) (by omega)).mono ?_
  rintro r w1 ⟨fu, rfl, ho, hb⟩
  rcases ho.shape with ⟨_, h0⟩ | ⟨gf, cf, rfl, hgb, hgl, hnc, hcm, _, _⟩
  · omega
  have H1 := hid (HV.out.below hb)
  have HO := hid ho
  have B1 := hid hb
  have X1 := hid (HX.out.below hb)
  have a2 := X1.out.cell 2 _ rfl
  have d0 := H1.out.four.here.cell 0 _ rfl
  have d1 := H1.out.four.here.cell 1 _ rfl
  have l1 : (pn : Int) ≤ cf := by omega
  clear ho hb
  go_wp2_with fail
  go_region_held3 (fun w' => w'.cell? ⟨xb, 0, none⟩ = some (.pointer (some ⟨lb, 0, none⟩)) ∧ w'.cell? ⟨w.heap.size, 2, none⟩ = some (.slice pa pn pc)) (go_keep) (first | (go_at_call 18; go_must (refine ((H1.out.below (Below.refl _ _).drew).writeP HE.out pn _ g (show By.Own _ 0 (.slice (some ⟨gf, 0, none⟩) pn cf) pn g from own_congr (own_prefix (own_base HO.out (Nat.zero_le _)) (by omega)) (HP.out _ HV.out.gs.bel).1 (fun i hi => by unfold lent; rw [if_pos hi])) (by have := hek.out; omega) hW.out.big).mono ?_; rintro r2 w2 ⟨rfl, lv2, h2, ko2⟩; have H2 := hid h2; have KO2 := hid (show Ko w1 w2 from fun b cs t hb q1 q2 q3 q4 => ko2 b cs t hb q1 q2 q3 q4); have y0 := h2.four.here.cell 0 _ rfl; have y1 := h2.four.here.cell 1 _ rfl; have X2 := hid (KO2.out _ _ _ X1.out (by decide) (by decide) (by decide) (by decide)); have y2 := X2.out.cell 2 _ rfl; clear h2 ko2)))
  all_goals go_wp2_with fail
  refine (kept17 _ _ pn g w2 (KO2.out.own HO.out).reads (HP.out _ H2.out.gs.bel) (by omega)).mono ?_
  rintro r3 w3 ⟨rfl, hb3⟩
  have O3 := hid (own_below (KO2.out.own HO.out) hb3)
  have B3 := hid hb3
  have X3 := hid (X2.out.below hb3)
  have KV := hid ((ko_below B1.out).trans KO2.out)
  clear hb3 y0 y1 y2 d0 d1 a2
  go_wp2_with fail
  refine (over18 gf cf (pn + 6) _ _ w3 O3.out (by omega)).mono ?_
  rintro r4 w4 ⟨rfl, -, hg4⟩
  have H4 := hid (HV.out.over H2.out KV.out (map_sp_set _ _ _ _ HE.out) B3.out O3.out hg4)
  have X4 := hid (X3.out.kept (Kp.of_grown hg4) (fun e => by
    obtain ⟨c, hc⟩ := own8_type O3.out (show (Value.slice (some ⟨gf, 0, none⟩) (pn + 6) cf).ownBlock = some gf from rfl)
    have e' : gf = w.heap.size := by cases e; rfl
    exact Blk.ne (show Blk w3 gf c.toList 5 from by show w3.heap[gf]? = _; rw [hc]) X3.out (by decide) e'))
  have z1 := H4.out.four.here.cell 1 _ rfl
  have z2 := X4.out.cell 2 _ rfl
  clear hg4
  go_wp2_with fail
  go_region_held3 (fun w' => w'.cell? ⟨xb, 1, none⟩ = some (.pointer (some ⟨mb, 0, none⟩)) ∧ w'.cell? ⟨w.heap.size, 2, none⟩ = some (.slice pa pn pc)) (go_keep) (first | (go_at_call 21; go_must (refine ((H4.out.below (Below.refl _ _).drew).writeR HE'.out pn _ g (HP.out _ (H4.out.below (Below.refl _ _).drew).gs.bel) (by have := hek'.out; omega) hW.out).mono ?_; rintro r5 w5 ⟨rfl, mv5, h5, kr5⟩; have H5 := hid h5; have X5 := hid (kr5 _ _ _ (show Blk (w4.drew) _ _ _ from X4.out) (by decide) (by decide) (by decide)); have v2 := X5.out.cell 2 _ rfl; have v1 := h5.four.here.cell 1 _ rfl; clear h5 kr5)))
  all_goals go_wp2
  all_goals go_ret
  all_goals (
    have h2 := H5.out
    rw [HKK.out] at h2
    have t1 := wtl_tot hpos.out pn T (kd e) hek.out (by omega) (by omega)
    have hd := hek.out
    refine ⟨by rw [HKK.out]; simp, _, _, _, _, _, _, _, _, _, _, h2, ?_, by simpa [hns] using h3, by simpa [hns] using h12, htl, lens_set HT.out (Nat.le_add_right _ _) (wk pn g) rfl ?_, by omega, by omega⟩
    · have := kinds_set (i := k) HEV.out (wk pn g) rfl HKK.out
      rw [HKK.out] at this
      exact this
    · revert hd
      match kd e with
      | none => exact fun _ => Nat.zero_le _
      | some (m, f) => intro hd; have hd' : m ≤ T := hd; show m + pn ≤ T + pn; omega)
end Go.Proofs.YtdhbkekpjojlnaaDoor.Sg
