/- The statement ShakeReads, walked. -/
import Derived.Test.YtjfjjhjajgodiaaDoorXsh
import Derived.Test.YtjfjjhjajgodiaaDoorRreads
namespace Go.Proofs.YtjfjjhjajgodiaaDoor.Kc
open Go.ChangeShapes Go.WideShapes Go.ChangeAt Go.RowKit
open Go.Proofs.YtjfjjhjajgodiaaDoor.By Go.Proofs.YtjfjjhjajgodiaaDoor.Wd
set_option maxRecDepth 4000 in
set_option maxHeartbeats 4000000 in
theorem reads_walk (pa qa xa : Option Addr) (a pc c qc m xc : Nat) (f h g : Nat → Int) (n : Int) (w : World) (hp : By.RB w (.slice pa a pc) a f) (hq : By.RB w (.slice qa c qc) c h) (hx : By.RB w (.slice xa m xc) m g) (hk : KT w) (hac : a + c + m ≤ 1048576) :
    Calls Tryd.prog 3 #[.slice pa a pc, .slice qa c qc, .slice xa m xc, .int .i64 n] w fun e w' => e = .returned (.bool true) ∧ Below w.heap.size w w' := by
  have HP := hid hp
  have HQ := hid hq
  have HX := hid hx
  have G0 := hid (GS.start w hk)
  obtain ⟨t1, e1⟩ : ∃ t, tC 168 a f c h m g n = t := ⟨_, rfl⟩
  obtain ⟨t2, e2⟩ : ∃ t, tC 136 a f c h m g n = t := ⟨_, rfl⟩
  obtain ⟨t3, e3⟩ : ∃ t, tC 168 0 no0 0 no0 m g n = t := ⟨_, rfl⟩
  obtain ⟨t4, e4⟩ : ∃ t, tC 136 0 no0 0 no0 m g n = t := ⟨_, rfl⟩
  have s1 : Str 128 168 := by unfold Str; decide
  have s2 : Str 256 136 := by unfold Str; decide
  have l1 : t1 ≤ 100000 := by rw [← e1]; exact tC_le s1 a c f h m g n (by omega) (by omega)
  have l2 : t2 ≤ 100000 := by rw [← e2]; exact tC_le s2 a c f h m g n (by omega) (by omega)
  have l3 : t3 ≤ 100000 := by rw [← e3]; exact tC_le s1 0 0 no0 no0 m g n (by omega) (by omega)
  have l4 : t4 ≤ 100000 := by rw [← e4]; exact tC_le s2 0 0 no0 no0 m g n (by omega) (by omega)
  have E1 := hid e1
  have E2 := hid e2
  have E3 := hid e3
  have E4 := hid e4
  clear hp hq hx hk s1 s2 e1 e2 e3 e4
  go_enter Tryd.func3, Tryd.ntmps3
  go_wp2_with fail
  refine (new9 w).mono ?_
  rintro e w1 ⟨rfl, hl, hb⟩
  have G1 := hid (G0.out.addLed hb (o := true) hl)
  clear hl hb G0
  go_wp2_with fail
  refine (refNew10 w1).mono ?_
  rintro e w2 ⟨rfl, hl, hb⟩
  have G2 := hid (show GS w w.heap.size [] [⟨true, w.heap.size, .slice none 0 0, evk [] 0⟩, ⟨false, w1.heap.size, .slice none 0 0, evk [] 0⟩] w2 from G1.out.addLed hb (o := false) hl)
  clear hl hb G1
  obtain ⟨lb, hlb⟩ : ∃ x, w.heap.size = x := ⟨_, rfl⟩
  obtain ⟨mb, hmb⟩ : ∃ x, w1.heap.size = x := ⟨_, rfl⟩
  obtain ⟨B, hB⟩ : ∃ x, lb = x := ⟨_, rfl⟩
  have HB : Hid (w.heap.size = B) := hlb.trans hB
  have G2 := hid (show GS w B [] [⟨true, lb, .slice none 0 0, evk [] 0⟩, ⟨false, mb, .slice none 0 0, evk [] 0⟩] w2 from by have := G2.out; rw [hlb, hmb] at this; rw [← hB]; exact this)
  rw [hlb, hmb]
  clear hlb hmb hB
  have L2 := hid (LS.nil (w := w2) (B := B) G2.out.hB)
  go_wp2_with fail
  refine (cut1 a f _ w2 (HP.out.below (by rw [HB.out]; exact G2.out.bel)) (by omega)).mono ?_
  rintro e w3 ⟨gp, cp, rfl, ho, hb⟩
  have L3 := hid (L2.out.snoc hb ho)
  have G3 := hid (G2.out.below hb)
  clear ho hb L2 G2
  go_wp2_with fail
  refine (cut1 c h _ w3 (HQ.out.below (by rw [HB.out]; exact G3.out.bel)) (by omega)).mono ?_
  rintro e w4 ⟨gq, cq, rfl, ho, hb⟩
  have L4 := hid (L3.out.snoc hb ho)
  have G4 := hid (G3.out.below hb)
  clear ho hb L3 G3
  go_wp2_with fail
  refine (cut1 m g _ w4 (HX.out.below (by rw [HB.out]; exact G4.out.bel)) (by omega)).mono ?_
  rintro e w5 ⟨gx, cx, rfl, ho, hb⟩
  have L5 := hid (L4.out.snoc hb ho)
  have G5 := hid (G4.out.below hb)
  clear ho hb L4 G4
  go_wp2_with fail
  refine (c128_any a c m (0) f h g n _ _ _ (some lb) (SE ⟨true, lb, .slice none 0 0, evk [] (0)⟩) w5 G5.out.kt (GS.no0 (leds1 := []) G5.out) (GS.no1 (leds1 := []) G5.out) (GS.lgP (leds1 := []) G5.out) (by omega) (fun w' hk' => rb_lent ((GS.koL (leds1 := []) G5.out hk').1.own (L5.out.at (i := 0) rfl)) HP.out.1) (fun w' hk' => rb_lent ((GS.koL (leds1 := []) G5.out hk').1.own (L5.out.at (i := 1) rfl)) HQ.out.1) (fun w' hk' => rb_lent ((GS.koL (leds1 := []) G5.out hk').1.own (L5.out.at (i := 2) rfl)) HX.out.1) (by omega) (by omega)).mono ?_
  rintro e w6 ⟨v6, rfl, ho, hlg, hkp⟩
  obtain ⟨a6, c6, rfl⟩ := own_slice ho
  obtain ⟨lv6, hG, hko⟩ := GS.turnP (leds1 := []) G5.out hlg hkp
  have L6 := hid (L5.out.snocO hko hkp.size ho)
  rw [E1.out] at hG
  have G6 := hid hG
  clear ho hlg hkp hG hko L5 G5
  go_wp2_with fail
  refine (c256_any a c m (0 + t1) f h g n _ _ _ (some lb) (SE ⟨true, lb, lv6, evk [] (0 + t1)⟩) w6 G6.out.kt (GS.no0 (leds1 := []) G6.out) (GS.no1 (leds1 := []) G6.out) (GS.lgP (leds1 := []) G6.out) (by omega) (fun w' hk' => rb_lent ((GS.koL (leds1 := []) G6.out hk').1.own (L6.out.at (i := 0) rfl)) HP.out.1) (fun w' hk' => rb_lent ((GS.koL (leds1 := []) G6.out hk').1.own (L6.out.at (i := 1) rfl)) HQ.out.1) (fun w' hk' => rb_lent ((GS.koL (leds1 := []) G6.out hk').1.own (L6.out.at (i := 2) rfl)) HX.out.1) (by omega) (by omega)).mono ?_
  rintro e w7 ⟨v7, rfl, ho, hlg, hkp⟩
  obtain ⟨a7, c7, rfl⟩ := own_slice ho
  obtain ⟨lv7, hG, hko⟩ := GS.turnP (leds1 := []) G6.out hlg hkp
  have L7 := hid (L6.out.snocO hko hkp.size ho)
  rw [E2.out] at hG
  have G7 := hid hG
  clear ho hlg hkp hG hko L6 G6
  go_wp2_with fail
  refine (shake128_any m (0 + t1 + t2) g n _ (some lb) (SE ⟨true, lb, lv7, evk [] (0 + t1 + t2)⟩) w7 G7.out.kt (GS.no0 (leds1 := []) G7.out) (GS.no1 (leds1 := []) G7.out) (GS.lgP (leds1 := []) G7.out) (by omega) (fun w' hk' => rb_lent ((GS.koL (leds1 := []) G7.out hk').1.own (L7.out.at (i := 2) rfl)) HX.out.1) (by omega)).mono ?_
  rintro e w8 ⟨v8, rfl, ho, hlg, hkp⟩
  obtain ⟨a8, c8, rfl⟩ := own_slice ho
  obtain ⟨lv8, hG, hko⟩ := GS.turnP (leds1 := []) G7.out hlg hkp
  have L8 := hid (L7.out.snocO hko hkp.size ho)
  rw [E3.out] at hG
  have G8 := hid hG
  clear ho hlg hkp hG hko L7 G7
  go_wp2_with fail
  refine (shake256_any m (0 + t1 + t2 + t3) g n _ (some lb) (SE ⟨true, lb, lv8, evk [] (0 + t1 + t2 + t3)⟩) w8 G8.out.kt (GS.no0 (leds1 := []) G8.out) (GS.no1 (leds1 := []) G8.out) (GS.lgP (leds1 := []) G8.out) (by omega) (fun w' hk' => rb_lent ((GS.koL (leds1 := []) G8.out hk').1.own (L8.out.at (i := 2) rfl)) HX.out.1) (by omega)).mono ?_
  rintro e w9 ⟨v9, rfl, ho, hlg, hkp⟩
  obtain ⟨a9, c9, rfl⟩ := own_slice ho
  obtain ⟨lv9, hG, hko⟩ := GS.turnP (leds1 := []) G8.out hlg hkp
  have L9 := hid (L8.out.snocO hko hkp.size ho)
  rw [E4.out] at hG
  have G9 := hid hG
  clear ho hlg hkp hG hko L8 G8
  go_wp2_with fail
  refine (c128_any a c m 0 f h g n _ _ _ none (fun _ => False) w9 G9.out.kt (fun e => e) (fun e => e) trivial (by omega) (fun w' hk' => rb_lent (own_below (L9.out.at (i := 0) rfl) (below_no hk')) HP.out.1) (fun w' hk' => rb_lent (own_below (L9.out.at (i := 1) rfl) (below_no hk')) HQ.out.1) (fun w' hk' => rb_lent (own_below (L9.out.at (i := 2) rfl) (below_no hk')) HX.out.1) (by omega) (by omega)).mono ?_
  rintro e w10 ⟨v10, rfl, ho, -, hkp⟩
  obtain ⟨a10, c10, rfl⟩ := own_slice ho
  have L10 := hid (L9.out.snoc (below_no hkp) ho)
  have G10 := hid (G9.out.below (below_no hkp))
  clear ho hkp L9 G9
  go_wp2_with fail
  refine (rc128_any a c m (0) f h g n _ _ _ (some mb) (SE ⟨false, mb, .slice none 0 0, evk [] (0)⟩) w10 (GS.rgQ (leds1 := [⟨true, lb, lv9, evk [] (0 + t1 + t2 + t3 + t4)⟩]) G10.out) (by omega) (fun w' hk' => HP.out.below (by rw [HB.out]; exact (GS.koL (leds1 := [⟨true, lb, lv9, evk [] (0 + t1 + t2 + t3 + t4)⟩]) G10.out hk').2)) (fun w' hk' => HQ.out.below (by rw [HB.out]; exact (GS.koL (leds1 := [⟨true, lb, lv9, evk [] (0 + t1 + t2 + t3 + t4)⟩]) G10.out hk').2)) (fun w' hk' => HX.out.below (by rw [HB.out]; exact (GS.koL (leds1 := [⟨true, lb, lv9, evk [] (0 + t1 + t2 + t3 + t4)⟩]) G10.out hk').2)) (by omega) (by omega)).mono ?_
  rintro e w11 ⟨v11, rfl, ho, hlg, hkp⟩
  obtain ⟨a11, c11, rfl⟩ := own_slice ho
  obtain ⟨mv11, hG, hko⟩ := GS.turnQ (leds1 := [⟨true, lb, lv9, evk [] (0 + t1 + t2 + t3 + t4)⟩]) G10.out hlg hkp
  have L11 := hid (L10.out.snocO hko hkp.size ho)
  rw [E1.out] at hG
  have G11 := hid hG
  clear ho hlg hkp hG hko L10 G10
  go_wp2_with fail
  refine (rc256_any a c m (0 + t1) f h g n _ _ _ (some mb) (SE ⟨false, mb, mv11, evk [] (0 + t1)⟩) w11 (GS.rgQ (leds1 := [⟨true, lb, lv9, evk [] (0 + t1 + t2 + t3 + t4)⟩]) G11.out) (by omega) (fun w' hk' => HP.out.below (by rw [HB.out]; exact (GS.koL (leds1 := [⟨true, lb, lv9, evk [] (0 + t1 + t2 + t3 + t4)⟩]) G11.out hk').2)) (fun w' hk' => HQ.out.below (by rw [HB.out]; exact (GS.koL (leds1 := [⟨true, lb, lv9, evk [] (0 + t1 + t2 + t3 + t4)⟩]) G11.out hk').2)) (fun w' hk' => HX.out.below (by rw [HB.out]; exact (GS.koL (leds1 := [⟨true, lb, lv9, evk [] (0 + t1 + t2 + t3 + t4)⟩]) G11.out hk').2)) (by omega) (by omega)).mono ?_
  rintro e w12 ⟨v12, rfl, ho, hlg, hkp⟩
  obtain ⟨a12, c12, rfl⟩ := own_slice ho
  obtain ⟨mv12, hG, hko⟩ := GS.turnQ (leds1 := [⟨true, lb, lv9, evk [] (0 + t1 + t2 + t3 + t4)⟩]) G11.out hlg hkp
  have L12 := hid (L11.out.snocO hko hkp.size ho)
  rw [E2.out] at hG
  have G12 := hid hG
  clear ho hlg hkp hG hko L11 G11
  go_wp2_with fail
  refine (rs128_any m (0 + t1 + t2) g n _ (some mb) (SE ⟨false, mb, mv12, evk [] (0 + t1 + t2)⟩) w12 (GS.rgQ (leds1 := [⟨true, lb, lv9, evk [] (0 + t1 + t2 + t3 + t4)⟩]) G12.out) (by omega) (fun w' hk' => HX.out.below (by rw [HB.out]; exact (GS.koL (leds1 := [⟨true, lb, lv9, evk [] (0 + t1 + t2 + t3 + t4)⟩]) G12.out hk').2)) (by omega)).mono ?_
  rintro e w13 ⟨v13, rfl, ho, hlg, hkp⟩
  obtain ⟨a13, c13, rfl⟩ := own_slice ho
  obtain ⟨mv13, hG, hko⟩ := GS.turnQ (leds1 := [⟨true, lb, lv9, evk [] (0 + t1 + t2 + t3 + t4)⟩]) G12.out hlg hkp
  have L13 := hid (L12.out.snocO hko hkp.size ho)
  rw [E3.out] at hG
  have G13 := hid hG
  clear ho hlg hkp hG hko L12 G12
  go_wp2_with fail
  refine (rs256_any m (0 + t1 + t2 + t3) g n _ (some mb) (SE ⟨false, mb, mv13, evk [] (0 + t1 + t2 + t3)⟩) w13 (GS.rgQ (leds1 := [⟨true, lb, lv9, evk [] (0 + t1 + t2 + t3 + t4)⟩]) G13.out) (by omega) (fun w' hk' => HX.out.below (by rw [HB.out]; exact (GS.koL (leds1 := [⟨true, lb, lv9, evk [] (0 + t1 + t2 + t3 + t4)⟩]) G13.out hk').2)) (by omega)).mono ?_
  rintro e w14 ⟨v14, rfl, ho, hlg, hkp⟩
  obtain ⟨a14, c14, rfl⟩ := own_slice ho
  obtain ⟨mv14, hG, hko⟩ := GS.turnQ (leds1 := [⟨true, lb, lv9, evk [] (0 + t1 + t2 + t3 + t4)⟩]) G13.out hlg hkp
  have L14 := hid (L13.out.snocO hko hkp.size ho)
  rw [E4.out] at hG
  have G14 := hid hG
  clear ho hlg hkp hG hko L13 G13
  go_wp2_with fail
  refine (kept17 _ _ a f _ (L14.out.at (i := 0) rfl).reads (HP.out.below (by rw [HB.out]; exact G14.out.bel)) (by omega)).mono ?_
  rintro e w15 ⟨rfl, hb⟩
  have L15 := hid (L14.out.below hb)
  have G15 := hid (G14.out.below hb)
  clear hb L14 G14
  go_wp2_with fail
  refine (kept17 _ _ c h _ (L15.out.at (i := 1) rfl).reads (HQ.out.below (by rw [HB.out]; exact G15.out.bel)) (by omega)).mono ?_
  rintro e w16 ⟨rfl, hb⟩
  have L16 := hid (L15.out.below hb)
  have G16 := hid (G15.out.below hb)
  clear hb L15 G15
  go_wp2_with fail
  refine (kept17 _ _ m g _ (L16.out.at (i := 2) rfl).reads (HX.out.below (by rw [HB.out]; exact G16.out.bel)) (by omega)).mono ?_
  rintro e w17 ⟨rfl, hb⟩
  have L17 := hid (L16.out.below hb)
  have G17 := hid (G16.out.below hb)
  clear hb L16 G16
  go_wp2_with fail
  refine (over18 gp cp (a + 6) B _ _ (L17.out.at (i := 0) rfl) (by omega)).mono ?_
  rintro e w18 ⟨rfl, ho, hg⟩
  have L18 := hid (LS.over (l1 := []) L17.out hg ho)
  have G18 := hid (GS.over8 G17.out (L17.out.at (i := 0) rfl) hg)
  clear ho hg L17 G17
  go_wp2_with fail
  refine (over18 gq cq (c + 6) B _ _ (L18.out.at (i := 1) rfl) (by omega)).mono ?_
  rintro e w19 ⟨rfl, ho, hg⟩
  have L19 := hid (LS.over (l1 := [⟨.slice (some ⟨gp, 0, none⟩) (a + 6) cp, a + 6, over⟩]) L18.out hg ho)
  have G19 := hid (GS.over8 G18.out (L18.out.at (i := 1) rfl) hg)
  clear ho hg L18 G18
  go_wp2_with fail
  refine (over18 gx cx (m + 6) B _ _ (L19.out.at (i := 2) rfl) (by omega)).mono ?_
  rintro e w20 ⟨rfl, ho, hg⟩
  have L20 := hid (LS.over (l1 := [⟨.slice (some ⟨gp, 0, none⟩) (a + 6) cp, a + 6, over⟩, ⟨.slice (some ⟨gq, 0, none⟩) (c + 6) cq, c + 6, over⟩]) L19.out hg ho)
  have G20 := hid (GS.over8 G19.out (L19.out.at (i := 2) rfl) hg)
  clear ho hg L19 G19
  go_wp2_with fail
  refine (same_true _ _ (tk n) _ _ _ (L20.out.at (i := 3) rfl).reads (L20.out.at (i := 8) rfl).reads (Nat.le_trans (tk_le n) (by omega)) (fun _ _ => rfl)).mono ?_
  rintro e w21 ⟨rfl, d21, hw21⟩
  have hb : Below w20.heap.size w20 w21 := by rw [hw21]; exact below_drewN _ _
  have L21 := hid (L20.out.below hb)
  have G21 := hid (G20.out.below hb)
  clear hw21 hb L20 G20
  go_wp2_with fail
  refine (same_true _ _ (tk n) _ _ _ (L21.out.at (i := 4) rfl).reads (L21.out.at (i := 9) rfl).reads (Nat.le_trans (tk_le n) (by omega)) (fun _ _ => rfl)).mono ?_
  rintro e w22 ⟨rfl, d22, hw22⟩
  have hb : Below w21.heap.size w21 w22 := by rw [hw22]; exact below_drewN _ _
  have L22 := hid (L21.out.below hb)
  have G22 := hid (G21.out.below hb)
  clear hw22 hb L21 G21
  go_wp2_with fail
  refine (same_true _ _ (tk n) _ _ _ (L22.out.at (i := 5) rfl).reads (L22.out.at (i := 10) rfl).reads (Nat.le_trans (tk_le n) (by omega)) (fun _ _ => rfl)).mono ?_
  rintro e w23 ⟨rfl, d23, hw23⟩
  have hb : Below w22.heap.size w22 w23 := by rw [hw23]; exact below_drewN _ _
  have L23 := hid (L22.out.below hb)
  have G23 := hid (G22.out.below hb)
  clear hw23 hb L22 G22
  go_wp2_with fail
  refine (same_true _ _ (tk n) _ _ _ (L23.out.at (i := 6) rfl).reads (L23.out.at (i := 11) rfl).reads (Nat.le_trans (tk_le n) (by omega)) (fun _ _ => rfl)).mono ?_
  rintro e w24 ⟨rfl, d24, hw24⟩
  have hb : Below w23.heap.size w23 w24 := by rw [hw24]; exact below_drewN _ _
  have L24 := hid (L23.out.below hb)
  have G24 := hid (G23.out.below hb)
  clear hw24 hb L23 G23
  go_wp2_with fail
  refine (same_true _ _ (tk n) _ _ _ (L24.out.at (i := 7) rfl).reads (L24.out.at (i := 8) rfl).reads (Nat.le_trans (tk_le n) (by omega)) (fun _ _ => rfl)).mono ?_
  rintro e w25 ⟨rfl, d25, hw25⟩
  have hb : Below w24.heap.size w24 w25 := by rw [hw25]; exact below_drewN _ _
  have L25 := hid (L24.out.below hb)
  have G25 := hid (G24.out.below hb)
  clear hw25 hb L24 G24
  have HLn : Hid ((evk [] (0 + t1 + t2 + t3 + t4)).length * 24 ≤ 140737488355328) := by
    have h1 := evk_len [] (0 + t1 + t2 + t3 + t4)
    have h3 : ([] : List Rn).length = 0 := rfl
    show (evk [] (0 + t1 + t2 + t3 + t4)).length * 24 ≤ 140737488355328
    omega
  go_wp2_with fail
  refine (runs22 lb _ _ _ (GS.midL (leds1 := []) G25.out).1 HLn.out).mono ?_
  rintro e wr1 ⟨u1, rfl, hu, hb⟩
  have U1 := hid hu
  have L26 := hid (L25.out.below hb)
  have G26 := hid (G25.out.below hb)
  clear hu hb
  go_wp2_with fail
  refine (refRuns20 mb _ _ _ (GS.midL (leds1 := [⟨true, lb, lv9, evk [] (0 + t1 + t2 + t3 + t4)⟩]) G26.out).1 HLn.out).mono ?_
  rintro e wr2 ⟨u2, rfl, hu, hb⟩
  have U2 := hid hu
  have U1' := hid (U1.out.below hb)
  have L27 := hid (L26.out.below hb)
  have G27 := hid (G26.out.below hb)
  clear hu hb U1
  go_wp2_with fail
  refine (same14 _ _ _ _ _ U1'.out.reads U2.out.reads (by have := HLn.out; omega) (by have := HLn.out; omega)).mono ?_
  rw [decide_eq_true rfl]
  rintro e wr3 ⟨rfl, d9, hw9⟩
  have hb : Below wr2.heap.size wr2 wr3 := by rw [hw9]; exact below_drewN _ _
  have L28 := hid (L27.out.below hb)
  have G28 := hid (G27.out.below hb)
  clear hw9 hb U1' U2
  have L0 := hid (show LS wr3 B [⟨.slice (some ⟨gp, 0, none⟩) (a + 6) cp, a + 6, over⟩, ⟨.slice (some ⟨gq, 0, none⟩) (c + 6) cq, c + 6, over⟩, ⟨.slice (some ⟨gx, 0, none⟩) (m + 6) cx, m + 6, over⟩, ⟨.slice a6 (tk n) c6, tk n, tF 168 a f c h m g n⟩, ⟨.slice a7 (tk n) c7, tk n, tF 136 a f c h m g n⟩, ⟨.slice a8 (tk n) c8, tk n, tF 168 0 no0 0 no0 m g n⟩, ⟨.slice a9 (tk n) c9, tk n, tF 136 0 no0 0 no0 m g n⟩, ⟨.slice a10 (tk n) c10, tk n, tF 168 a f c h m g n⟩] from L28.out.take 8)
  have htk := hid (tk_le n)
  go_wp2_with fail
  refine (L0.out.apart _ rfl 8 rfl (by omega) (by omega) ?_).mono ?_
  · intro x hx
    have h1 := htk.out
    simp only [List.mem_cons, List.not_mem_nil, or_false] at hx
    rcases hx with rfl | rfl | rfl | rfl | rfl | rfl | rfl | rfl
    · show a + 6 ≤ _; omega
    · show c + 6 ≤ _; omega
    · show m + 6 ≤ _; omega
    all_goals (show tk n ≤ _; omega)
  rintro e wE ⟨rfl, hb⟩
  have bE := hid ((G28.out.bel.trans ((below_alloc wr3 _).mono G28.out.hB)).trans hb)
  clear hb
  go_wp2
  go_ret
  refine ⟨rfl, ?_⟩
  rw [HB.out]
  exact bE.out
end Go.Proofs.YtjfjjhjajgodiaaDoor.Kc
