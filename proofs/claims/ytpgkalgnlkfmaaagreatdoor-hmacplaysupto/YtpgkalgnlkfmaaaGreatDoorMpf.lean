/- The law HmacPlays: one step. -/
import Derived.Test.YtpgkalgnlkfmaaaGreatDoorMp6
import Derived.Deep.RegionHeld3
import Derived.Test.YtpgkalgnlkfmaaaGreatDoorMp7
import Derived.Test.YtpgkalgnlkfmaaaGreatDoorMp8
import Derived.Test.YtpgkalgnlkfmaaaGreatDoorMp9
import Derived.Test.YtpgkalgnlkfmaaaGreatDoorMpa
import Derived.Test.YtpgkalgnlkfmaaaGreatDoorMpb
import Derived.Test.YtpgkalgnlkfmaaaGreatDoorMpc
import Derived.Test.YtpgkalgnlkfmaaaGreatDoorMpd
namespace Go.Proofs.YtpgkalgnlkfmaaaGreatDoor.Dg
open Go.ChangeShapes Go.WideShapes Go.ChangeAt Go.RowKit
open Go.Proofs.YtpgkalgnlkfmaaaGreatDoor.By
open Go.Proofs.YtpgkalgnlkfmaaaGreatDoor.Sh (Blk size_alloc)
set_option linter.unusedVariables false
set_option maxRecDepth 100000 in
set_option maxHeartbeats 2000000 in
theorem step_else (B xb lb mb T tn q : Nat) (d : Int) (al tt : Int) (pa qa : Option Addr) (pn pc qn qc : Nat) (w0 w : World) (hd : ¬ d = 1 ∧ ¬ d = 2 ∧ ¬ d = 3 ∧ ¬ d = 4 ∧ ¬ d = 5 ∧ ¬ d = 6 ∧ ¬ d = 7 ∧ ¬ d = 8) (hq : q < 256) (h : PG w0 B xb lb mb T tn tt (fun _ => False) w) (ht : tt ≤ 50000000) (htn : tn ≤ 999990) (hTn : T + pn + qn ≤ 4000000) (g g2 : Nat → Int) (hp : ∀ w', Below B w0 w' → By.RB w' (.slice pa pn pc) pn g) (hp2 : ∀ w', Below B w0 w' → By.RB w' (.slice qa qn qc) qn g2) :
    Calls Tryz.prog 7 #[.pointer (some ⟨xb, 0, none⟩), .agg #[.int .i64 d, .int .u8 q, .int .u8 al, .slice pa pn pc, .slice qa qn qc]] w fun r w' => r = .returned (.bool true) ∧ PG w0 B xb lb mb (T + pn + qn) (tn + 1) (tt + pn + qn + 7) (fun _ => False) w' := by
  obtain ⟨q1, q2, q3, q4, q5, q6, q7, q8⟩ := hd
  obtain ⟨sts, rts, tl, L, sv, rv, tv, wv, lv, mv, hP, hev, h3, h12, htl, hT, hL1, -⟩ := h
  obtain ⟨ns, hns⟩ : ∃ n, sts.length = n := ⟨_, rfl⟩
  rw [hns] at h3 h12
  obtain ⟨k, hk⟩ : ∃ k, q % ns = k := ⟨_, rfl⟩
  have hkn : k < ns := by rw [← hk]; exact Nat.mod_lt _ (by omega)
  obtain ⟨hrl, e, e', he, he', hkk⟩ := kinds_at hev (i := k) (by omega)
  rw [hns] at hrl
  have hki : Hid ((q : Int) % ns = (k : Int)) := by show (q : Int) % ns = (k : Int); rw [← hk]; rfl
  have hlt : (k : Int) < ns := by omega
  have hn0 : ¬ (ns : Int) = 0 := by omega
  have HE := hid he
  have HE' := hid he'
  have HEV := hid hev
  have HT := hid hT
  have HKK := hid hkk
  have HP := hid hP
  have HR1 := hid hp
  have HR2 := hid hp2
  clear hP hp hp2
  go_enter Tryz.func7, Tryz.ntmps7
  go_wp2
  obtain ⟨W, hW⟩ : ∃ x, w.alloc (.cells #[.int .i64 d, .int .u8 q, .int .u8 al, .slice pa pn pc, .slice qa qn qc] 46) = x := ⟨_, rfl⟩
  rw [hW]
  have bW : Below w.heap.size w W := by rw [← hW]; exact below_alloc _ _
  have hC : Blk W w.heap.size [.int .i64 d, .int .u8 q, .int .u8 al, .slice pa pn pc, .slice qa qn qc] 46 := by rw [← hW]; exact Sg.Blk.newAt w _ _ _ _ rfl rfl
  have a0 := hC.cell 0 _ rfl
  have a1 := hC.cell 1 _ rfl
  have a2 := hC.cell 2 _ rfl
  have a3 := hC.cell 3 _ rfl
  have a4 := hC.cell 4 _ rfl
  have HC := hid hC
  have H := hid (PLg.below HP.out bW)
  obtain ⟨gs, cs, rfl, hcs⟩ := PL.viewS H.out hns (by omega)
  obtain ⟨gr, cr, rfl, hcr⟩ := PL.viewR H.out hrl (by omega)
  have c0 := H.out.four.here.cell 0 _ rfl
  have c1 := H.out.four.here.cell 1 _ rfl
  have c2 := H.out.four.here.cell 2 _ rfl
  have c3 := H.out.four.here.cell 3 _ rfl
  have x1 : W.cell? ⟨gs, k, none⟩ = some (spP e) := hcs k e he
  have x2 : W.cell? ⟨gr, k, none⟩ = some (spQ e') := hcr k e' he'
  clear HP hcs hcr hW bW hC he he' hev hT hkk
  go_quiet (fail)
  go_wp2
  rw [hki.out]
  go_region_held3 (fun w' => w'.cell? ⟨xb, 2, none⟩ = some (.slice (some ⟨gs, 0, none⟩) ns cs) ∧ w'.cell? ⟨xb, 3, none⟩ = some (.slice (some ⟨gr, 0, none⟩) ns cr) ∧ w'.cell? ⟨gs, k, none⟩ = some (spP e) ∧ w'.cell? ⟨gr, k, none⟩ = some (spQ e')) (go_keep) (fail)
  go_wp2_with fail
  have hv := PLg.below H.out ((below_drewN W nq).drew)
  have hc := HC.out.below ((below_drewN W nq).drew)
  obtain ⟨V, hV⟩ : ∃ x, (W.drewN nq).drew = x := ⟨_, rfl⟩
  rw [hV] at hv hc
  rw [hV]
  have HV := hid hv
  have HX := hid hc
  have b3 := hc.cell 3 _ rfl
  have b4 := hc.cell 4 _ rfl
  have hpos := hid hv.lled.pos
  have hek := hid (lens_at HT.out HE.out)
  have hek' := hid (show Mx T (kdQ e') by rw [HKK.out]; exact hek.out)
  clear hv hc hV a0 a1 a2 a3 a4 c0 c1 c2 c3 x1 x2 H HC
  go_region_held3 (fun w' => w'.cell? ⟨w.heap.size, 3, none⟩ = some (.slice pa pn pc) ∧ w'.cell? ⟨w.heap.size, 4, none⟩ = some (.slice qa qn qc)) (go_keep) (first | (go_at_call 18; (refine (lent14 _ qn g2 _ (HR2.out _ H1.out.gm.bel) (by omega)).mono ?_; rintro r2 w2 ⟨fu2, rfl, ho2, hb2⟩; have B2 := hid hb2; obtain ⟨gq, cq, rfl, hq1, hq2, hq3⟩ := lent_sl ho2; have O2 := hid (show By.Own w2 w1.heap.size _ _ _ from ho2); have z3 := (X1.out.below B2.out).cell 3 _ rfl; have z4 := (X1.out.below B2.out).cell 4 _ rfl; clear ho2 hb2)) | (go_at_call 18; go_must (refine (lent14 _ pn g _ (HR1.out _ (PLg.below HV.out (Below.refl _ _).drew).gm.bel) (by omega)).mono ?_; rintro r1 w1 ⟨fu, rfl, ho, hb⟩; have B1 := hid (show Below V.heap.size V w1 from ⟨hb.os, hb.tape, hb.output, hb.size, hb.block⟩); obtain ⟨gf, cf, rfl, hf1, hf2, hf3⟩ := lent_sl ho; have O1 := hid (show By.Own w1 V.heap.size _ _ _ from ho); have H1 := hid (PLg.below HV.out B1.out); have X1 := hid (HX.out.below B1.out); have y3 := X1.out.cell 3 _ rfl; have y4 := X1.out.cell 4 _ rfl; clear ho hb)))
  have B12 := hid (below_next B1.out B2.out)
  obtain ⟨av, hav⟩ : ∃ av : Nat → Prop, av = fun j => j = gf ∨ j = gq := ⟨_, rfl⟩
  have sz1 := B1.out.size
  have ha2 : Hid (∀ j, av j → V.heap.size ≤ j) := fun j hj => by
    rw [hav] at hj
    rcases hj with e | e
    · rw [e]; exact hf1
    · rw [e]; exact Nat.le_trans sz1 hq1
  have HA := hid (PLg.below (PLg.enter HV.out (av' := av) ha2.out) B12.out)
  have hFar := hid (far_enter HV.out.told ha2.out)
  have af : Hid (av gf) := by show av gf; rw [hav]; exact .inl rfl
  have aq : Hid (av gq) := by show av gq; rw [hav]; exact .inr rfl
  have gne : Hid (gq ≠ gf) := fun e => by omega
  have l1 : (pn : Int) ≤ cf := by omega
  have l2 : (qn : Int) ≤ cq := by omega
  have X2 := hid (X1.out.below B2.out)
  have OF := hid (own_below O1.out B2.out)
  have avlt : Hid (∀ x : World, Ku w2 x → ∀ j, av j → j < x.heap.size) := fun x ku j hj => by
    rw [hav] at hj
    rcases hj with e | e
    · rw [e]; exact By.own_lt (ku.own _ _ _ _ OF.out) _ rfl
    · rw [e]; exact By.own_lt (ku.own _ _ _ _ O2.out) _ rfl
  have hBV := hid HV.out.gm.hB
  have sz12 := hid (show V.heap.size ≤ w2.heap.size from B12.out.size)
  clear hav sz1 y3 y4 z3 z4 b3 b4 H1 X1 O1 B1 B2 B12
  have d0 := X2.out.cell 0 _ rfl
  have d2 := X2.out.cell 2 _ rfl
  have d3 := X2.out.cell 3 _ rfl
  have e0 := HA.out.four.here.cell 0 _ rfl
  have e1 := HA.out.four.here.cell 1 _ rfl
  have G9 : Hid (PG w0 B xb lb mb (T + pn + qn) (tn + 1) (tt + pn + qn + 7) av w2) := by
    exact ⟨_, _, _, _, _, _, _, _, _, _, HA.out, HEV.out, by omega, by omega, by omega, lens_mono HT.out (by omega), by omega, hFar.out⟩
  have KU9 : Hid (Ku w2 w2) := Ku.refl _
  clear HA
  have X9 := hid (KU9.out.stp _ _ X2.out)
  have f3 := X9.out.cell 3 _ rfl
  have O9 := hid (KU9.out.own _ _ _ _ OF.out)
  have Q9 := hid (KU9.out.own _ _ _ _ O2.out)
  clear X2 OF O2 KU9
  go_wp2_with fail
  refine (kept17 _ _ pn g w2 O9.out.reads (HR1.out _ G9.out.bel.1) (by omega)).mono ?_
  rintro r10 w10 ⟨rfl, hb10⟩
  have G10 := hid (G9.out.below hb10)
  have X10 := hid (X9.out.below hb10)
  have O10 := hid (own_below O9.out hb10)
  have Q10 := hid (own_below Q9.out hb10)
  have f4 := X10.out.cell 4 _ rfl
  clear f3 hb10 G9 X9 O9 Q9
  go_wp2_with fail
  refine (kept17 _ _ qn g2 w10 Q10.out.reads (HR2.out _ G10.out.bel.1) (by omega)).mono ?_
  rintro r11 w11 ⟨rfl, hb11⟩
  have G11 := hid (G10.out.below hb11)
  have O11 := hid (own_below O10.out hb11)
  have Q11 := hid (own_below Q10.out hb11)
  clear f4 hb11 G10 X10 O10 Q10
  go_wp2_with fail
  refine (over18 gf cf (pn + 6) _ _ w11 O11.out (by omega)).mono ?_
  rintro r12 w12 ⟨rfl, -, hg12⟩
  have Q12 := hid (Sg.own_kept Q11.out (Kp.of_grown hg12) (fun p hp e => gne.out (by simp [Value.ownBlock] at hp e; omega)))
  have K12 := hid (Kp.of_grown hg12)
  clear hg12
  go_wp2_with fail
  refine (over18 gq cq (qn + 6) _ _ w12 Q12.out (by omega)).mono ?_
  rintro r13 w13 ⟨rfl, -, hg13⟩
  have K13 := hid ((K12.out.mono (T := fun j => j = gf ∨ j = gq) (fun j _ e => .inl (Option.some.inj e).symm)).trans (Kp.of_grown hg13) (fun j _ e => .inr (Option.some.inj e).symm))
  clear hg13
  go_wp2
  go_ret
  refine ⟨by simp, G11.out.over K13.out (fun j hj _ => ?_) (fun j hj => Nat.le_trans hBV.out (ha2.out j hj))⟩
  rcases hj with e | e
  · rw [e]
    obtain ⟨c, hc⟩ := Sg.own8_type O11.out (show (Value.slice (some ⟨gf, 0, none⟩) (pn + 6) cf).ownBlock = some gf from rfl)
    exact ⟨af.out, c.toList, by show w11.heap[_]? = _; rw [hc]⟩
  · rw [e]
    obtain ⟨c, hc⟩ := Sg.own8_type Q11.out (show (Value.slice (some ⟨gq, 0, none⟩) (qn + 6) cq).ownBlock = some gq from rfl)
    exact ⟨aq.out, c.toList, by show w11.heap[_]? = _; rw [hc]⟩
end Go.Proofs.YtpgkalgnlkfmaaaGreatDoor.Dg
namespace Go.Proofs.YtpgkalgnlkfmaaaGreatDoor.Dg
open Go.ChangeShapes Go.WideShapes Go.ChangeAt Go.RowKit
open Go.Proofs.YtpgkalgnlkfmaaaGreatDoor.By
theorem step_any (B xb lb mb T tn q : Nat) (d al tt : Int) (pa qa : Option Addr) (pn pc qn qc : Nat) (w0 w : World) (hq : q < 256) (h : PG w0 B xb lb mb T tn tt (fun _ => False) w) (ht : tt ≤ 50000000) (htn : tn ≤ 999990) (hTn : T + pn + qn ≤ 4000000) (g g2 : Nat → Int) (hp : ∀ w', Below B w0 w' → By.RB w' (.slice pa pn pc) pn g) (hp2 : ∀ w', Below B w0 w' → By.RB w' (.slice qa qn qc) qn g2) :
    Calls Tryz.prog 7 #[.pointer (some ⟨xb, 0, none⟩), .agg #[.int .i64 d, .int .u8 q, .int .u8 al, .slice pa pn pc, .slice qa qn qc]] w fun r w' => r = .returned (.bool true) ∧ PG w0 B xb lb mb (T + pn + qn) (tn + 1) (tt + pn + qn + 7) (fun _ => False) w' := by
  by_cases h1 : d = 1
  · subst h1; exact step_new B xb lb mb T tn q al tt pa qa pn pc qn qc w0 w hq h ht htn hTn g g2 hp hp2
  by_cases h2 : d = 2
  · subst h2; exact step_write B xb lb mb T tn q al tt pa qa pn pc qn qc w0 w hq h ht htn hTn g g2 hp hp2
  by_cases h3 : d = 3
  · subst h3; exact step_sum B xb lb mb T tn q al tt pa qa pn pc qn qc w0 w hq h ht htn hTn g g2 hp hp2
  by_cases h4 : d = 4
  · subst h4; exact step_reset B xb lb mb T tn q al tt pa qa pn pc qn qc w0 w hq h ht htn hTn g g2 hp hp2
  by_cases h5 : d = 5
  · subst h5; exact step_clone B xb lb mb T tn q al tt pa qa pn pc qn qc w0 w hq h ht htn hTn g g2 hp hp2
  by_cases h6 : d = 6
  · subst h6; exact step_wipe B xb lb mb T tn q al tt pa qa pn pc qn qc w0 w hq h ht htn hTn g g2 hp hp2
  by_cases h7 : d = 7
  · subst h7; exact step_form B xb lb mb T tn q al tt pa qa pn pc qn qc w0 w hq h ht htn hTn g g2 hp hp2
  by_cases h8 : d = 8
  · subst h8; exact step_tag B xb lb mb T tn q al tt pa qa pn pc qn qc w0 w hq h ht htn hTn g g2 hp hp2
  · exact step_else B xb lb mb T tn q d al tt pa qa pn pc qn qc w0 w ⟨h1, h2, h3, h4, h5, h6, h7, h8⟩ hq h ht htn hTn g g2 hp hp2
end Go.Proofs.YtpgkalgnlkfmaaaGreatDoor.Dg
