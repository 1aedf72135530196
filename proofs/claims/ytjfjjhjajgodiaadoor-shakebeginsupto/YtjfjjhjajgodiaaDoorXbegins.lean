/- The statement ShakeBegins, walked. -/
import Derived.Test.YtjfjjhjajgodiaaDoorXbw
import Derived.Deep.DeepCutAuto
namespace Go.Proofs.YtjfjjhjajgodiaaDoor.Kc
open Go.ChangeShapes Go.WideShapes Go.ChangeAt Go.RowKit
open Go.Proofs.YtjfjjhjajgodiaaDoor.By Go.Proofs.YtjfjjhjajgodiaaDoor.Wd
theorem evn_len (c : Nat) (hc : c ≤ 1000000) : (evk [] c).length * 24 ≤ 140737488355328 := by
  have h1 := evk_len [] c
  have h3 : ([] : List Rn).length = 0 := rfl
  omega
theorem zi_le {st : Int} {r : Nat} (hst : Str st r) {z : Z} (h : z.p < r) (hc : z.c ≤ 15000) (g : Nat → Int) (k : Nat) (hk : k ≤ 1048576) : (Z.ins r z g k).c ≤ 30000 := by
  rw [(ins_count h g k).1]
  rcases hst with ⟨_, rfl⟩ | ⟨_, rfl⟩ <;> omega
theorem row_below {w w' : World} {base n : Nat} {v : Value} {xs : List Value} (h : w.ownsRow base 22 1 v n xs) (hb : Below w.heap.size w w') : w'.ownsRow base 22 1 v n xs := (Kb8.below hb).row h
set_option maxRecDepth 4000 in
set_option maxHeartbeats 4000000 in
theorem begins_bad (st : Int) (pa qa xa ua : Option Addr) (a pc c qc m xc nu uc : Nat) (f h g u : Nat → Int) (n more : Int) (w : World) (hp : By.RB w (.slice pa a pc) a f) (hq : By.RB w (.slice qa c qc) c h) (hx : By.RB w (.slice xa m xc) m g) (hu : By.RB w (.slice ua nu uc) nu u) (hk : KT w) (hac : a + c + m + nu ≤ 1048576) (s1 : ¬ st = 128) (s2 : ¬ st = 256) :
    Calls Tryd.prog 4 #[.int .i64 st, .slice pa a pc, .slice qa c qc, .slice xa m xc, .slice ua nu uc, .int .i64 n, .int .i64 more] w fun e w' => e = .returned (.bool true) ∧ Below w.heap.size w w' := by
  have HP := hid hp
  have HQ := hid hq
  have HX := hid hx
  have HU := hid hu
  have G0 := hid (GS.start w hk)
  clear hp hq hx hu hk
  go_enter Tryd.func4, Tryd.ntmps4
  go_wp2_with fail
  refine (new9 w).mono ?_
  rintro e w1 ⟨rfl, hl, hb⟩
  have G1 := hid (G0.out.addLed hb (o := true) hl)
  clear hl hb G0
  go_wp2_with fail
  refine (refNew10 w1).mono ?_
  rintro e w2 ⟨rfl, hl, hb⟩
  have G2 := hid (show GS w w.heap.size [] [⟨true, w.heap.size, .slice none 0 0, evk [] 0⟩, ⟨false, w1.heap.size, .slice none 0 0, evk [] 0⟩] w2 from G1.out.addLed hb (o := false) hl)
  clear hl hb G1
  obtain ⟨lb, hlb⟩ : ∃ x, w.heap.size = x := ⟨_, rfl⟩
  obtain ⟨mb, hmb⟩ : ∃ x, w1.heap.size = x := ⟨_, rfl⟩
  obtain ⟨B, hB⟩ : ∃ x, lb = x := ⟨_, rfl⟩
  have HB : Hid (w.heap.size = B) := hlb.trans hB
  have G2 := hid (show GS w B [] [⟨true, lb, .slice none 0 0, evk [] 0⟩, ⟨false, mb, .slice none 0 0, evk [] 0⟩] w2 from by have := G2.out; rw [hlb, hmb] at this; rw [← hB]; exact this)
  rw [hlb, hmb]
  clear hlb hmb hB
  have L2 := hid (LS.nil (w := w2) (B := B) G2.out.hB)
  go_wp2_with fail
  refine (cut1 a f _ w2 (HP.out.below (by rw [HB.out]; exact G2.out.bel)) (by omega)).mono ?_
  rintro e w3 ⟨gp, cp, rfl, ho, hb⟩
  have L3 := hid (L2.out.snoc hb ho)
  have G3 := hid (G2.out.below hb)
  clear ho hb L2 G2
  go_wp2_with fail
  refine (cut1 c h _ w3 (HQ.out.below (by rw [HB.out]; exact G3.out.bel)) (by omega)).mono ?_
  rintro e w4 ⟨gq, cq, rfl, ho, hb⟩
  have L4 := hid (L3.out.snoc hb ho)
  have G4 := hid (G3.out.below hb)
  clear ho hb L3 G3
  go_wp2_with fail
  refine (begin_bad st _ _ _ w4 s1 s2).mono ?_
  rintro e w4 ⟨rfl, rfl⟩
  go_wp2_with fail
  refine (rbegin_bad st _ _ _ w4 s1 s2).mono ?_
  rintro e w4 ⟨rfl, rfl⟩
  go_wp2_with fail
  refine (kept17 _ _ a f _ (L4.out.at (i := 0) rfl).reads (HP.out.below (by rw [HB.out]; exact G4.out.bel)) (by omega)).mono ?_
  rintro e w5 ⟨rfl, hb⟩
  have L5 := hid (L4.out.below hb)
  have G5 := hid (G4.out.below hb)
  clear hb L4 G4
  go_wp2_with fail
  refine (kept17 _ _ c h _ (L5.out.at (i := 1) rfl).reads (HQ.out.below (by rw [HB.out]; exact G5.out.bel)) (by omega)).mono ?_
  rintro e w6 ⟨rfl, hb⟩
  have L6 := hid (L5.out.below hb)
  have G6 := hid (G5.out.below hb)
  clear hb L5 G5
  go_wp2_with fail
  refine (runs22 lb _ _ _ (GS.midL (leds1 := []) G6.out).1 (evn_len 0 (by omega))).mono ?_
  rintro e w7 ⟨u7, rfl, hu, hb⟩
  have U7 := hid hu
  have L7 := hid (L6.out.below hb)
  have G7 := hid (G6.out.below hb)
  clear hu hb L6 G6
  go_wp2_with fail
  refine (refRuns20 mb _ _ _ (GS.midL (leds1 := [⟨true, lb, .slice none 0 0, evk [] 0⟩]) G7.out).1 (evn_len 0 (by omega))).mono ?_
  rintro e w8 ⟨u8, rfl, hu, hb⟩
  have U8 := hid hu
  have V7 := hid (U7.out.below hb)
  have L8 := hid (L7.out.below hb)
  have G8 := hid (G7.out.below hb)
  clear hu hb U7 L7 G7
  go_wp2_with fail
  refine (same14 _ _ _ _ _ V7.out.reads U8.out.reads (by have := (evn_len 0 (by omega)); omega) (by have := (evn_len 0 (by omega)); omega)).mono ?_
  rw [decide_eq_true rfl]
  rintro e w9 ⟨rfl, d9, hw9⟩
  have hb : Below w8.heap.size w8 w9 := by rw [hw9]; exact below_drewN _ _
  have L9 := hid (L8.out.below hb)
  have G9 := hid (G8.out.below hb)
  clear hw9 hb U8 V7 L8 G8
  go_wp2
  go_ret
  refine ⟨rfl, ?_⟩
  rw [HB.out]
  exact G9.out.bel
set_option maxRecDepth 4000 in
set_option maxHeartbeats 4000000 in
theorem begins_ok (st : Int) (pa qa xa ua : Option Addr) (a pc c qc m xc nu uc : Nat) (f h g u : Nat → Int) (n more : Int) (w : World) (hp : By.RB w (.slice pa a pc) a f) (hq : By.RB w (.slice qa c qc) c h) (hx : By.RB w (.slice xa m xc) m g) (hu : By.RB w (.slice ua nu uc) nu u) (hk : KT w) (hac : a + c + m + nu ≤ 1048576) (r : Nat) (hst : Str st r) :
    Calls Tryd.prog 4 #[.int .i64 st, .slice pa a pc, .slice qa c qc, .slice xa m xc, .slice ua nu uc, .int .i64 n, .int .i64 more] w fun e w' => e = .returned (.bool true) ∧ Below w.heap.size w w' := by
  have HST := hid hst
  clear hst
  have HP := hid hp
  have HQ := hid hq
  have HX := hid hx
  have HU := hid hu
  have G0 := hid (GS.start w hk)
  clear hp hq hx hu hk
  go_enter Tryd.func4, Tryd.ntmps4
  go_wp2_with fail
  refine (new9 w).mono ?_
  rintro e w1 ⟨rfl, hl, hb⟩
  have G1 := hid (G0.out.addLed hb (o := true) hl)
  clear hl hb G0
  go_wp2_with fail
  refine (refNew10 w1).mono ?_
  rintro e w2 ⟨rfl, hl, hb⟩
  have G2 := hid (show GS w w.heap.size [] [⟨true, w.heap.size, .slice none 0 0, evk [] 0⟩, ⟨false, w1.heap.size, .slice none 0 0, evk [] 0⟩] w2 from G1.out.addLed hb (o := false) hl)
  clear hl hb G1
  obtain ⟨lb, hlb⟩ : ∃ x, w.heap.size = x := ⟨_, rfl⟩
  obtain ⟨mb, hmb⟩ : ∃ x, w1.heap.size = x := ⟨_, rfl⟩
  obtain ⟨B, hB⟩ : ∃ x, lb = x := ⟨_, rfl⟩
  have HB : Hid (w.heap.size = B) := hlb.trans hB
  have G2 := hid (show GS w B [] [⟨true, lb, .slice none 0 0, evk [] 0⟩, ⟨false, mb, .slice none 0 0, evk [] 0⟩] w2 from by have := G2.out; rw [hlb, hmb] at this; rw [← hB]; exact this)
  rw [hlb, hmb]
  clear hlb hmb hB
  have L2 := hid (LS.nil (w := w2) (B := B) G2.out.hB)
  go_wp2_with fail
  refine (cut1 a f _ w2 (HP.out.below (by rw [HB.out]; exact G2.out.bel)) (by omega)).mono ?_
  rintro e w3 ⟨gp, cp, rfl, ho, hb⟩
  have L3 := hid (L2.out.snoc hb ho)
  have G3 := hid (G2.out.below hb)
  clear ho hb L2 G2
  go_wp2_with fail
  refine (cut1 c h _ w3 (HQ.out.below (by rw [HB.out]; exact G3.out.bel)) (by omega)).mono ?_
  rintro e w4 ⟨gq, cq, rfl, ho, hb⟩
  have L4 := hid (L3.out.snoc hb ho)
  have G4 := hid (G3.out.below hb)
  clear ho hb L3 G3
  obtain ⟨z, hz⟩ : ∃ z, bz r a f c h = z := ⟨_, rfl⟩
  have HZC : Hid (z.c ≤ 15000) := by rw [← hz]; exact bz_le HST.out a c f h (by omega)
  have HZO : Hid (z.Ok r false) := by rw [← hz]; exact bz_ok HST.out a c f h
  have HZ := hid hz
  clear hz
  go_wp2_with fail
  refine (begin_ok st r a c f h _ _ (some lb) (evk [] 0) (SE ⟨true, lb, .slice none 0 0, evk [] 0⟩) w4 HST.out G4.out.kt (GS.no0 (leds1 := []) G4.out) (GS.no1 (leds1 := []) G4.out) (GS.lgP (leds1 := []) G4.out) (evn_pos 0) (evn_big 0 (by omega)) (fun w' hk' => rb_lent ((GS.koL (leds1 := []) G4.out hk').1.own (L4.out.at (i := 0) rfl)) HP.out.1) (fun w' hk' => rb_lent ((GS.koL (leds1 := []) G4.out hk').1.own (L4.out.at (i := 1) rfl)) HQ.out.1) (by omega)).mono ?_
  rintro e w5 ⟨sb, rfl, hsb, hs, hlg, hkp⟩
  rw [HZ.out, ← evk_add, Nat.zero_add] at hlg
  rw [HZ.out] at hs
  obtain ⟨lv5, hG, hko⟩ := GS.turnP (leds1 := []) G4.out hlg hkp
  have L5 := hid (L4.out.ko hko hkp.size)
  have G5 := hid (hG.add (k := some (r, sfx a c, z, false)) hs (Nat.le_trans G4.out.hB hsb) (fun p hp => by cases hp))
  clear hsb hs hlg hkp hG hko L4 G4
  go_wp2_with fail
  refine (rbegin_ok st r a c f h _ _ (some mb) (evk [] 0) (SE ⟨false, mb, .slice none 0 0, evk [] 0⟩) w5 HST.out (GS.rgQ (leds1 := [⟨true, lb, lv5, evk [] z.c⟩]) G5.out) (evn_pos 0) (evn_big 0 (by omega)) (fun w' hk' => HP.out.below (by rw [HB.out]; exact (GS.koL (leds1 := [⟨true, lb, lv5, evk [] z.c⟩]) G5.out hk').2)) (fun w' hk' => HQ.out.below (by rw [HB.out]; exact (GS.koL (leds1 := [⟨true, lb, lv5, evk [] z.c⟩]) G5.out hk').2)) (by omega)).mono ?_
  rintro e w6 ⟨rb, rfl, hrb, hs, hlg, hkp⟩
  rw [HZ.out, ← evk_add, Nat.zero_add] at hlg
  rw [HZ.out] at hs
  obtain ⟨mv6, hG, hko⟩ := GS.turnQ (leds1 := [⟨true, lb, lv5, evk [] z.c⟩]) G5.out hlg hkp
  have L6 := hid (L5.out.ko hko hkp.size)
  have G6 := hid (show BW w B sb lb rb mb r (sfx a c) z z false false lv5 mv6 w6 from ⟨hG, hs, Nat.le_trans G5.out.hB hrb⟩)
  clear hrb hs hlg hkp hG hko L5 G5
  go_wp2_with fail
  refine (kept17 _ _ a f _ (L6.out.at (i := 0) rfl).reads (HP.out.below (by rw [HB.out]; exact G6.out.gs.bel)) (by omega)).mono ?_
  rintro e w7 ⟨rfl, hb⟩
  have L7 := hid (L6.out.below hb)
  have G7 := hid (G6.out.below hb)
  clear hb L6 G6
  go_wp2_with fail
  refine (kept17 _ _ c h _ (L7.out.at (i := 1) rfl).reads (HQ.out.below (by rw [HB.out]; exact G7.out.gs.bel)) (by omega)).mono ?_
  rintro e w8 ⟨rfl, hb⟩
  have L8 := hid (L7.out.below hb)
  have G8 := hid (G7.out.below hb)
  clear hb L7 G7
  go_wp2_with fail
  refine (runs22 lb _ _ _ (GS.midL (leds1 := []) G8.out.gs).1 (evn_len z.c (by have := HZC.out; omega))).mono ?_
  rintro e w9 ⟨u9, rfl, hu, hb⟩
  have U9 := hid hu
  have L9 := hid (L8.out.below hb)
  have G9 := hid (G8.out.below hb)
  clear hu hb L8 G8
  go_wp2_with fail
  refine (refRuns20 mb _ _ _ (GS.midL (leds1 := [⟨true, lb, lv5, evk [] z.c⟩]) G9.out.gs).1 (evn_len z.c (by have := HZC.out; omega))).mono ?_
  rintro e w10 ⟨u10, rfl, hu, hb⟩
  have U10 := hid hu
  have V9 := hid (U9.out.below hb)
  have L10 := hid (L9.out.below hb)
  have G10 := hid (G9.out.below hb)
  clear hu hb U9 L9 G9
  go_wp2_with fail
  refine (same14 _ _ _ _ _ V9.out.reads U10.out.reads (by have := (evn_len z.c (by have := HZC.out; omega)); omega) (by have := (evn_len z.c (by have := HZC.out; omega)); omega)).mono ?_
  rw [decide_eq_true rfl]
  rintro e w11 ⟨rfl, d11, hw11⟩
  have hb : Below w10.heap.size w10 w11 := by rw [hw11]; exact below_drewN _ _
  have L11 := hid (L10.out.below hb)
  have G11 := hid (G10.out.below hb)
  clear hw11 hb U10 V9 L10 G10
  go_wp2_with fail
  refine (over18 gp cp (a + 6) B _ _ (L11.out.at (i := 0) rfl) (by omega)).mono ?_
  rintro e w12 ⟨rfl, ho, hg⟩
  have L12 := hid (LS.over (l1 := []) L11.out hg ho)
  have G12 := hid (BW.over8 G11.out (L11.out.at (i := 0) rfl) hg)
  clear ho hg L11 G11
  go_wp2_with fail
  refine (over18 gq cq (c + 6) B _ _ (L12.out.at (i := 1) rfl) (by omega)).mono ?_
  rintro e w13 ⟨rfl, ho, hg⟩
  have L13 := hid (LS.over (l1 := [⟨.slice (some ⟨gp, 0, none⟩) (a + 6) cp, a + 6, over⟩]) L12.out hg ho)
  have G13 := hid (BW.over8 G12.out (L12.out.at (i := 1) rfl) hg)
  clear ho hg L12 G12
  clear L13
  go_wp2_with fail
  refine (cut27 xa ua m xc nu uc g u _ (HX.out.below (by rw [HB.out]; exact G13.out.gs.bel)) (HU.out.below (by rw [HB.out]; exact G13.out.gs.bel)) (by omega) (by omega)).mono ?_
  rintro e w14 ⟨pv, vs, rfl, hrow, hcut, hb, hvl, hv0, -⟩
  have G14 := hid (G13.out.below hb)
  have R14 := hid (row_mono hrow G13.out.gs.hB)
  have C14 := hid (Cuts.mono hcut G13.out.gs.hB)
  have VL := hid hvl
  obtain ⟨A, cp', rfl⟩ := row_slice hrow
  clear hrow hcut hb hvl hv0 G13
  obtain ⟨sf, hsf⟩ : ∃ x, sfx a c = x := ⟨_, rfl⟩
  rw [hsf] at G14
  clear hsf
  go_wp2_with fail
  go_loopw [26] (fun x wr => ∃ (i k : Nat) (lv mv : Value), i ≤ vs.length ∧ x = .int .i64 i ∧ k ≤ m ∧ Cuts wr B g (vs.drop i) k m ∧ wr.ownsRow B 22 1 (.slice A vs.length cp') vs.length vs ∧ BW w B sb lb rb mb r sf (Z.ins r z g k) (Z.ins r z g k) false false lv mv wr) (fun x _ => vs.length - (intOf x).toNat)
  case atStart => exact ⟨0, 0, _, _, by omega, rfl, by omega, C14.out, R14.out, G14.out⟩
  case round =>
    clear G14 R14 C14
    obtain ⟨i, k, lv, mv, hi, rfl, hkm, hcut, hrow, hG⟩ := hrel
    have hvs : vs.length ≤ 1048577 := by have := VL.out; omega
    have C := hid hcut
    have R := hid hrow
    have G := hid hG
    clear hcut hrow hG
    have HZK : Hid ((Z.ins r z g k).c ≤ 30000) := zi_le HST.out (HZO.out.o rfl) HZC.out g k (by omega)
    by_cases h1 : i < vs.length
    · obtain ⟨x, hx⟩ : ∃ x, vs[i]? = some x := ⟨_, List.getElem?_eq_getElem h1⟩
      obtain ⟨ga, gc, e, hcell⟩ := rowL_cell R.out hx
      simp only [Value.slice.injEq, true_and] at e
      obtain ⟨rfl, rfl⟩ := e
      rw [Nat.zero_add] at hcell
      have hd : vs.drop i = x :: vs.drop (i + 1) := by rw [List.drop_eq_getElem_cons h1]; congr 1; rw [List.getElem?_eq_getElem h1] at hx; exact Option.some.inj hx
      rw [hd] at C
      obtain ⟨q, hq, hcut⟩ := C.out
      have hle := hcut.le
      have Q := hid hq
      have CC := hid hcut
      have HXX := hid hx
      have Gd := hid (G.out.below (below_drewN wr 1))
      clear hx hd hq hcut C
      go_wp2_with fail
      go_region_held3 (fun W' => W'.cell? ⟨ga, i, none⟩ = some x) (go_keep) (first
        | (go_at_call 29; go_must (refine (Gd.out.write1 q _ (fun j => g (k + j)) (fun w' hk => (hk.own (own_below Q.out (below_drewN wr 1))).reads) (by omega) (by have := HZK.out; omega)).mono ?_; rintro e w15 ⟨rfl, lv15, hG, hkz⟩; have G15 := hid hG; have Q15 := hid (hkz.own (own_below Q.out (below_drewN wr 1))); have R15 := hid (hkz.row (row_below R.out (below_drewN wr 1))); have CC15 := hid ((CC.out.below (below_drewN wr 1)).kb8 hkz); obtain ⟨ga', gc', e', c15⟩ := rowL_cell R15.out HXX.out; simp only [Value.slice.injEq, Option.some.injEq, Addr.mk.injEq, and_true, true_and] at e'; rw [← e'.1, Nat.zero_add] at c15; clear hG hkz e'))
        | (go_at_call 30; go_must (refine (G15.out.write2 q _ (fun j => g (k + j)) (fun w' hk => (hk.own Q15.out).reads) (by omega) (by have := HZK.out; omega)).mono ?_; rintro e w16 ⟨rfl, mv16, hG, hkz⟩; have G16 := hid hG; have R16 := hid (hkz.row R15.out); have CC16 := hid (CC15.out.kb8 hkz); obtain ⟨ga', gc', e', c16⟩ := rowL_cell R16.out HXX.out; simp only [Value.slice.injEq, Option.some.injEq, Addr.mk.injEq, and_true, true_and] at e'; rw [← e'.1, Nat.zero_add] at c16; clear hG hkz e')))
      go_wp2_with fail
      exact ⟨⟨i + 1, k + q, lv15, mv16, by omega, by go_num, hle, CC16.out, R16.out, by rw [ins_add]; exact G16.out⟩, by simp [intOf]; omega⟩
    · have ei : i = vs.length := by omega
      subst ei
      have em : k = m := by have := C.out; rw [List.drop_length] at this; exact this
      subst em
      clear C R h1
      obtain ⟨z2, hz2⟩ : ∃ y, Z.ins r z g k = y := ⟨_, rfl⟩
      rw [hz2] at G HZK
      clear hz2
      have G17 := hid (show BW w B sb lb rb mb r sf z2 z2 false false lv mv wr from G.out)
      have L17 := hid (LS.nil (w := wr) (B := B) G17.out.gs.hB)
      clear G
      go_wp2_with fail
      refine (G17.out.read1 n (by have := HZK.out; omega)).mono ?_
      rintro e w18 ⟨v18, rfl, ho, lv18, hG, hkz⟩
      obtain ⟨a18, c18, rfl⟩ := own_slice ho
      have L18 := hid (L17.out.put (L17.out.kb8 hkz hG.gs.hB) ho)
      have G18 := hid hG
      clear ho hG hkz L17 G17
      go_wp2_with fail
      refine (G18.out.read2 n (by have := HZK.out; omega)).mono ?_
      rintro e w19 ⟨v19, rfl, ho, mv19, hG, hkz⟩
      obtain ⟨a19, c19, rfl⟩ := own_slice ho
      have L19 := hid (L18.out.put (L18.out.kb8 hkz hG.gs.hB) ho)
      have G19 := hid hG
      clear ho hG hkz L18 G18
      obtain ⟨z3, hz3⟩ : ∃ y, rO r sf z2 false n = y := ⟨_, rfl⟩
      obtain ⟨h3, hh3⟩ : ∃ y, rH false n = y := ⟨_, rfl⟩
      have HZ3 : Hid (z3.c ≤ 100000) := by have h1 := rO_le r sf z2 false n; rw [hz3] at h1; have := HZK.out; show z3.c ≤ _; omega
      rw [hz3, hh3] at G19
      clear hz3 hh3
      go_wp2_with fail
      refine (G19.out.read1 more (by have := HZ3.out; omega)).mono ?_
      rintro e w20 ⟨v20, rfl, ho, lv20, hG, hkz⟩
      obtain ⟨a20, c20, rfl⟩ := own_slice ho
      have L20 := hid (L19.out.put (L19.out.kb8 hkz hG.gs.hB) ho)
      have G20 := hid hG
      clear ho hG hkz L19 G19
      go_wp2_with fail
      refine (G20.out.read2 more (by have := HZ3.out; omega)).mono ?_
      rintro e w21 ⟨v21, rfl, ho, mv21, hG, hkz⟩
      obtain ⟨a21, c21, rfl⟩ := own_slice ho
      have L21 := hid (L20.out.put (L20.out.kb8 hkz hG.gs.hB) ho)
      have G21 := hid hG
      clear ho hG hkz L20 G20
      obtain ⟨z4, hz4⟩ : ∃ y, rO r sf z3 h3 more = y := ⟨_, rfl⟩
      obtain ⟨h4, hh4⟩ : ∃ y, rH h3 more = y := ⟨_, rfl⟩
      have HZ4 : Hid (z4.c ≤ 200000) := by have h1 := rO_le r sf z3 h3 more; rw [hz4] at h1; have := HZ3.out; show z4.c ≤ _; omega
      rw [hz4, hh4] at G21
      clear hz4 hh4
      go_wp2_with fail
      refine (same_true _ _ (tk n) _ _ _ (L21.out.at (i := 0) rfl).reads (L21.out.at (i := 1) rfl).reads (Nat.le_trans (tk_le n) (by omega)) (fun _ _ => rfl)).mono ?_
      rintro e w22 ⟨rfl, d22, hw22⟩
      have hb : Below w21.heap.size w21 w22 := by rw [hw22]; exact below_drewN _ _
      have L22 := hid (L21.out.below hb)
      have G22 := hid (G21.out.below hb)
      clear hw22 hb L21 G21
      go_wp2_with fail
      refine (same_true _ _ (tk more) _ _ _ (L22.out.at (i := 2) rfl).reads (L22.out.at (i := 3) rfl).reads (Nat.le_trans (tk_le more) (by omega)) (fun _ _ => rfl)).mono ?_
      rintro e w23 ⟨rfl, d23, hw23⟩
      have hb : Below w22.heap.size w22 w23 := by rw [hw23]; exact below_drewN _ _
      have L23 := hid (L22.out.below hb)
      have G23 := hid (G22.out.below hb)
      clear hw23 hb L22 G22
      have OK4 := hid G23.out.sp.ok
      go_wp2_with fail
      refine (form_sp sb r sf z4 h4 _ G23.out.sp).mono ?_
      rintro e w24 ⟨rfl, hF, hb⟩
      have F24 := hid (own_blk hF (fmf_b OK4.out.b h4) (Nat.le_refl _) (by decide))
      have L24 := hid (L23.out.snoc hb F24.out)
      have G24 := hid (G23.out.below hb)
      clear hF hb F24 L23 G23
      go_wp2_with fail
      refine (rform_sp rb r sf z4 h4 _ G24.out.rs).mono ?_
      rintro e w25 ⟨v25, rfl, ho, hb⟩
      have L25 := hid (L24.out.snoc hb ho)
      have G25 := hid (G24.out.below hb)
      clear ho hb L24 G24
      go_wp2_with fail
      refine (same_true _ _ 203 _ _ _ (L25.out.at (i := 4) rfl).reads (L25.out.at (i := 5) rfl).reads (by omega) (fun _ _ => rfl)).mono ?_
      rintro e w26 ⟨rfl, d26, hw26⟩
      have hb : Below w25.heap.size w25 w26 := by rw [hw26]; exact below_drewN _ _
      have L26 := hid (L25.out.below hb)
      have G26 := hid (G25.out.below hb)
      clear hw26 hb L25 G25
      go_wp2_with fail
      refine (runs22 lb _ _ _ (GS.midL (leds1 := []) G26.out.gs).1 (evn_len z4.c (by have := HZ4.out; omega))).mono ?_
      rintro e w27 ⟨u27, rfl, hu, hb⟩
      have U27 := hid hu
      have L27 := hid (L26.out.below hb)
      have G27 := hid (G26.out.below hb)
      clear hu hb L26 G26
      go_wp2_with fail
      refine (refRuns20 mb _ _ _ (GS.midL (leds1 := [⟨true, lb, lv20, evk [] z4.c⟩]) G27.out.gs).1 (evn_len z4.c (by have := HZ4.out; omega))).mono ?_
      rintro e w28 ⟨u28, rfl, hu, hb⟩
      have U28 := hid hu
      have V27 := hid (U27.out.below hb)
      have L28 := hid (L27.out.below hb)
      have G28 := hid (G27.out.below hb)
      clear hu hb U27 L27 G27
      go_wp2_with fail
      refine (same14 _ _ _ _ _ V27.out.reads U28.out.reads (by have := (evn_len z4.c (by have := HZ4.out; omega)); omega) (by have := (evn_len z4.c (by have := HZ4.out; omega)); omega)).mono ?_
      rw [decide_eq_true rfl]
      rintro e w29 ⟨rfl, d29, hw29⟩
      have hb : Below w28.heap.size w28 w29 := by rw [hw29]; exact below_drewN _ _
      have L29 := hid (L28.out.below hb)
      have G29 := hid (G28.out.below hb)
      clear hw29 hb U28 V27 L28 G28
      go_wp2
      go_ret
      refine ⟨rfl, ?_⟩
      rw [HB.out]
      exact G29.out.gs.bel
theorem begins_walk (st : Int) (pa qa xa ua : Option Addr) (a pc c qc m xc nu uc : Nat) (f h g u : Nat → Int) (n more : Int) (w : World) (hp : By.RB w (.slice pa a pc) a f) (hq : By.RB w (.slice qa c qc) c h) (hx : By.RB w (.slice xa m xc) m g) (hu : By.RB w (.slice ua nu uc) nu u) (hk : KT w) (hac : a + c + m + nu ≤ 1048576) :
    Calls Tryd.prog 4 #[.int .i64 st, .slice pa a pc, .slice qa c qc, .slice xa m xc, .slice ua nu uc, .int .i64 n, .int .i64 more] w fun e w' => e = .returned (.bool true) ∧ Below w.heap.size w w' := by
  by_cases h1 : st = 128
  · exact begins_ok st pa qa xa ua a pc c qc m xc nu uc f h g u n more w hp hq hx hu hk hac 168 (.inl ⟨h1, rfl⟩)
  · by_cases h2 : st = 256
    · exact begins_ok st pa qa xa ua a pc c qc m xc nu uc f h g u n more w hp hq hx hu hk hac 136 (.inr ⟨h2, rfl⟩)
    · exact begins_bad st pa qa xa ua a pc c qc m xc nu uc f h g u n more w hp hq hx hu hk hac h1 h2
end Go.Proofs.YtjfjjhjajgodiaaDoor.Kc
