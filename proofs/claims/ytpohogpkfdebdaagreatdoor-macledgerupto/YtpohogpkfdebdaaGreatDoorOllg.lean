/- MacLedger: the walk. -/
import Derived.Test.YtpohogpkfdebdaaGreatDoorOlnn
import Derived.Test.YtpohogpkfdebdaaGreatDoorOpcs
import Derived.Test.YtpohogpkfdebdaaGreatDoorOh
import Derived.Test.YtpohogpkfdebdaaGreatDoorOalk
namespace Go.Proofs.YtpohogpkfdebdaaGreatDoor.Oc
open Go.ChangeShapes Go.WideShapes Go.ChangeAt Go.RowKit
open Go.Proofs.YtpohogpkfdebdaaGreatDoor.By
open Go.Proofs.YtpohogpkfdebdaaGreatDoor.Sh (Blk size_alloc)
open Go.Proofs.YtpohogpkfdebdaaGreatDoor.Dg (BB LG lpv Lt Tl IsMk MB)
set_option maxRecDepth 20000 in
set_option maxHeartbeats 16000000 in
theorem ledger_walk (q : CE) (pa : Option Addr) (pn pc : Nat) (g : Nat → Int) (x : SE) (w : World) (hk : KA w) (hq : q.Ok w) (rp : By.RB w (.slice pa pn pc) pn g) (lp : pn ≤ 140737488355328) (hx : x.Ok w) (hnc : x.pn ≤ 1048576) :
    Calls Tryz.prog 6 #[.agg #[.int .u8 (q.al : Int), .slice q.ka q.kn q.kc, .slice q.ca q.cn q.cc, .int .i64 q.out], .slice pa pn pc, .agg #[.slice x.pa x.pn x.pc, .int .i64 x.at', .int .u8 x.bit]] w fun e w' => e = .returned (.bool true) ∧ Below w.heap.size w w' := by
  have b0 := below_next (below_alloc w (.cells #[.int .u8 (q.al : Int), .slice q.ka q.kn q.kc, .slice q.ca q.cn q.cc, .int .i64 q.out] 25)) (below_alloc _ (.cells #[.slice x.pa x.pn x.pc, .int .i64 x.at', .int .u8 x.bit] 59))
  have F0 : Blk ((w.alloc (.cells #[.int .u8 (q.al : Int), .slice q.ka q.kn q.kc, .slice q.ca q.cn q.cc, .int .i64 q.out] 25)).alloc (.cells #[.slice x.pa x.pn x.pc, .int .i64 x.at', .int .u8 x.bit] 59)) w.heap.size (cel q) 25 := (Blk.new w (cel q) 25).alloc _
  have X0 : Blk ((w.alloc (.cells #[.int .u8 (q.al : Int), .slice q.ka q.kn q.kc, .slice q.ca q.cn q.cc, .int .i64 q.out] 25)).alloc (.cells #[.slice x.pa x.pn x.pc, .int .i64 x.at', .int .u8 x.bit] 59)) (w.heap.size + 1) [.slice x.pa x.pn x.pc, .int .i64 x.at', .int .u8 x.bit] 59 := Blk.newAt (w.alloc _) _ _ _ _ (size_alloc _ _).symm rfl
  obtain ⟨W0, hW0⟩ : ∃ z, (w.alloc (.cells #[.int .u8 (q.al : Int), .slice q.ka q.kn q.kc, .slice q.ca q.cn q.cc, .int .i64 q.out] 25)).alloc (.cells #[.slice x.pa x.pn x.pc, .int .i64 x.at', .int .u8 x.bit] 59) = z := ⟨_, rfl⟩
  rw [hW0] at b0 F0 X0
  have HW0 := hid hW0
  have B0 := hid b0
  have F := hid F0
  have X := hid X0
  have HKA := hid (hk.below b0)
  have HQ := hid (hq.below b0)
  have HP := hid (rp.below b0)
  have HX := hid (hx.below b0)
  clear hk hq rp hx b0 F0 X0 hW0
  go_enter Tryz.func6, Tryz.ntmps6
  go_wp2_with fail
  rw [HW0.out]
  refine (lives1 _ HKA.out).mono ?_
  rintro e w1 ⟨rfl, hb1⟩
  have B1 := hid (below_next B0.out hb1)
  have F1 := hid (F.out.below hb1)
  have X1 := hid (X.out.below hb1)
  have BG := hid (begun1 q w1 (HQ.out.below hb1))
  have HK1 := hid (HKA.out.below hb1)
  have HP1 := hid (HP.out.below hb1)
  have HX1 := hid (HX.out.below hb1)
  have c0 := F1.out.cell 0 _ rfl
  have c1 := F1.out.cell 1 _ rfl
  have c2 := F1.out.cell 2 _ rfl
  have c3 := F1.out.cell 3 _ rfl
  clear hb1 B0 F X HKA HQ HP HX HW0
  go_wp2_with fail
  refine BG.out.mono ?_
  rintro e w2 ⟨c, rfl, hc, hcode, hkn, hcn, hb2⟩
  have HC := hid (show ∀ w', Below w2.heap.size w2 w' → c.Ok w' from fun w' hb => hc.below hb)
  have HP2 := hid (show ∀ w', Below w2.heap.size w2 w' → By.RB w' (.slice pa pn pc) pn g from fun w' hb => (HP1.out.below hb2).below hb)
  have HX2 := hid (show ∀ w', Below w2.heap.size w2 w' → x.Ok w' ∧ Blk w' (w.heap.size + 1) [.slice x.pa x.pn x.pc, .int .i64 x.at', .int .u8 x.bit] 59 from fun w' hb => ⟨(HX1.out.below hb2).below hb, (X1.out.below hb2).below hb⟩)
  have B2 := hid (below_next B1.out hb2)
  obtain ⟨t1, G1, k1, bu1⟩ := gx_var (GX.start w2 (HK1.out.below hb2)) 5 (cel c) 25
  have N1 := hid (show ∀ m, m ≠ 5 → t1 m = Th.no from fun m hm => bu1 m hm hm)
  have hcc := G1.k k1
  rw [cel_arr] at G1 hcc ⊢
  have c0 := hcc.cell 0 _ rfl
  have c1 := hcc.cell 1 _ rfl
  have c2 := hcc.cell 2 _ rfl
  have c3 := hcc.cell 3 _ rfl
  have bz := size_alloc w2 (.cells #[.int .u8 (c.al : Int), .slice c.ka c.kn c.kc, .slice c.ca c.cn c.cc, .int .i64 c.out] 25)
  have S1 := hid (small0 (w2.heap.size + 1) 2 (fun i => if i = 0 then c else kof pa pn pc g) ((w2.alloc (.cells #[.int .u8 (c.al : Int), .slice c.ka c.kn c.kc, .slice c.ca c.cn c.cc, .int .i64 c.out] 25)).alloc (.cells #[.int .u8 (c.al : Int), .slice c.ka c.kn c.kc, .slice c.ca c.cn c.cc, .int .i64 c.out, .int .u8 0, .slice pa pn pc, .slice none 0 0, .int .i64 0] 25)) (cas2 c (kof pa pn pc g) (Blk.newAt (w2.alloc (.cells #[.int .u8 (c.al : Int), .slice c.ka c.kn c.kc, .slice c.ca c.cn c.cc, .int .i64 c.out] 25)) #[.int .u8 (c.al : Int), .slice c.ka c.kn c.kc, .slice c.ca c.cn c.cc, .int .i64 c.out, .int .u8 0, .slice pa pn pc, .slice none 0 0, .int .i64 0] (cel c ++ cel (kof pa pn pc g)) 25 _ bz.symm rfl)) (fun i hi => by
    have : i = 0 ∨ i = 1 := by omega
    rcases this with rfl | rfl
    · exact ⟨hc.lk, hc.lc⟩
    · exact ⟨lp, Nat.zero_le _⟩) (by decide))
  have G2 := hid (G1.below (below_alloc _ (.cells #[.int .u8 (c.al : Int), .slice c.ka c.kn c.kc, .slice c.ca c.cn c.cc, .int .i64 c.out, .int .u8 0, .slice pa pn pc, .slice none 0 0, .int .i64 0] 25)))
  have K1 := hid k1
  have HCODE := hid hcode
  clear hc hb2 hcode hcc G1 k1 BG HK1 HP1 HX1 bz bu1 B1 F1 X1
  go_wp2_with fail
  refine S1.out.mono ?_
  rintro e w3 ⟨⟨y, rfl, hy⟩, d, rfl⟩
  have G3 := G2.out.below (below_drewN _ d)
  obtain ⟨W3, hW3⟩ : ∃ z, ((w2.alloc (.cells #[.int .u8 (c.al : Int), .slice c.ka c.kn c.kc, .slice c.ca c.cn c.cc, .int .i64 c.out] 25)).alloc (.cells #[.int .u8 (c.al : Int), .slice c.ka c.kn c.kc, .slice c.ca c.cn c.cc, .int .i64 c.out, .int .u8 0, .slice pa pn pc, .slice none 0 0, .int .i64 0] 25)).drewN d = z := ⟨_, rfl⟩
  rw [hW3] at G3 ⊢
  clear S1 G2 hW3 c0 c1 c2 c3
  cases y with
  | false =>
    go_wp2
    go_ret
    exact ⟨rfl, B2.out.trans (G3.bel.mono B2.out.size)⟩
  | true =>
    have hk3 : c.kn ≤ 3000 := (hy rfl 0 (by decide)).1
    have hp3 : pn ≤ 3000 := (hy rfl 1 (by decide)).1
    clear hy
    obtain ⟨-, -, -, hc64, ho1, ho2⟩ := code_ok HCODE.out
    obtain ⟨qo, hqo⟩ : ∃ n : Nat, c.out = n := ⟨c.out.toNat, by omega⟩
    have hcd := HCODE.out
    rw [hqo] at hcd
    have G3' := hid G3
    clear G3
    go_wp2_with fail
    refine (gx_led G3'.out 9).mono ?_
    rintro e w4 ⟨lb, t4, rfl, g4, l4, b4⟩
    have G4 := hid g4
    have L4 := hid l4
    have B4 := hid b4
    clear g4 l4 b4 G3'
    go_wp2_with fail
    refine (gx_led G4.out 10).mono ?_
    rintro e w5 ⟨kb, t5, rfl, g5, k5, b5⟩
    have G5 := hid g5
    have L5 := hid (L4.out.keep (b5 9 (by decide) (by decide)))
    have K5 := hid k5
    have V5 := hid (show t5 5 = tK w2.heap.size (cel c) 25 from (b5 5 (by decide) (by decide)).trans ((B4.out 5 (by decide) (by decide)).trans K1.out))
    have N5 := hid (show ∀ m, m ≠ 5 → m ≠ 9 → m ≠ 10 → t5 m = Th.no from fun m h1 h2 h3 => (b5 m h3 h3).trans ((B4.out m h2 h2).trans (N1.out m h1)))
    have hcc := g5.k V5.out
    have c0 := hcc.cell 0 _ rfl
    have c1 := hcc.cell 1 _ rfl
    have c2 := hcc.cell 2 _ rfl
    have c3 := hcc.cell 3 _ rfl
    rw [hqo] at c3
    clear g5 k5 b5 G4 L4 B4 K1 N1 hcc
    go_wp2_with fail
    refine (gx_begin (i := 0) (k := 9) (lo := some lb) (L := []) G5.out L5.out (by decide) c.al c.kn c.cn qo 0 _ _ c.f c.h Fit.nil (by decide) (G5.out.rdA (fun w' hb => (HC.out w' hb).rk) (fun j hj => G5.out.lo 9 j hj)) (G5.out.rdA (fun w' hb => (HC.out w' hb).rc) (fun j hj => G5.out.lo 9 j hj)) hcd (by omega)).mono ?_
    rintro e w6 ⟨sa, rfl, -, ha2, ha3, t6, g6, s6, l6, b6⟩
    have G6 := hid g6
    have SA := hid s6
    have L6 := hid l6
    have K6 := hid (K5.out.keep (b6 10 (by decide) (by decide)))
    have V6 := hid ((b6 5 (by decide) (by decide)).trans V5.out)
    have N6 := hid (show ∀ m, m ≠ 0 → m ≠ 5 → m ≠ 9 → m ≠ 10 → t6 m = Th.no from fun m h0 h1 h2 h3 => (b6 m h0 h2).trans (N5.out m h1 h2 h3))
    have A2 := hid ha2
    have A3 := hid ha3
    have hcc := g6.k V6.out
    have c0 := hcc.cell 0 _ rfl
    have c1 := hcc.cell 1 _ rfl
    have c2 := hcc.cell 2 _ rfl
    have c3 := hcc.cell 3 _ rfl
    rw [hqo] at c3
    clear g6 s6 l6 b6 ha2 ha3 hcc G5 L5 K5 V5 N5 c0 c1 c2 c3
    have CS : Hid (∀ W t, GX w2 w2.heap.size t W → t 5 = tK w2.heap.size (cel c) 25 → W.cell? ⟨w2.heap.size, 0, none⟩ = some (.int .u8 (c.al : Int)) ∧ W.cell? ⟨w2.heap.size, 1, none⟩ = some (.slice c.ka c.kn c.kc) ∧ W.cell? ⟨w2.heap.size, 2, none⟩ = some (.slice c.ca c.cn c.cc) ∧ W.cell? ⟨w2.heap.size, 3, none⟩ = some (.int .i64 (qo : Int)) ∧ W.cell? ⟨w.heap.size + 1, 2, none⟩ = some (.int .u8 x.bit)) := fun W t hg h5 => by
      have hcc := hg.k h5
      have e3 := hcc.cell 3 _ rfl
      rw [hqo] at e3
      exact ⟨hcc.cell 0 _ rfl, hcc.cell 1 _ rfl, hcc.cell 2 _ rfl, e3, (HX2.out W hg.bel).2.cell 2 _ rfl⟩
    have GD := hid (G6.out.below (below_drewN w6 1))
    have hS0 := CS.out w6 t6 G6.out V6.out
    have hS1 := CS.out w6.drew t6 GD.out V6.out
    go_wp2_with fail
    go_region_held3 (fun W => W.cell? ⟨w2.heap.size, 0, none⟩ = some (.int .u8 (c.al : Int)) ∧ W.cell? ⟨w2.heap.size, 1, none⟩ = some (.slice c.ka c.kn c.kc) ∧ W.cell? ⟨w2.heap.size, 2, none⟩ = some (.slice c.ca c.cn c.cc) ∧ W.cell? ⟨w2.heap.size, 3, none⟩ = some (.int .i64 (qo : Int)) ∧ W.cell? ⟨w.heap.size + 1, 2, none⟩ = some (.int .u8 x.bit)) (with_reducible assumption) (first
      | (go_at_call 36; first
          | (have tagA := GA; go_must (refine (other1 _ c.cn c.h x.bit wA ((HC.out wA GA.out.bel).rc) (by omega)).mono ?_; rintro e wB ⟨u2, g2, rfl, ho, hb⟩; obtain ⟨tB', hgB, hB12, hBB⟩ := gx_own GA.out 12 ho hb; have GB := hid hgB; have T12 := hid hB12; have BB' := hid (show ∀ m, m ≠ 11 → m ≠ 12 → tB' m = t6 m from fun m h1 h2 => (hBB m h2 h2).trans (BA.out m h1 h1)); have T11' := hid ((hBB 11 (by decide) (by decide)).trans T11.out); have hS3 := CS.out wB tB' hgB ((hBB 5 (by decide) (by decide)).trans ((BA.out 5 (by decide) (by decide)).trans V6.out)); clear tagA ho hb hgB hB12 hBB))
          | (go_must (refine (other1 _ c.kn c.f x.bit w6.drew ((HC.out _ GD.out.bel).rk) (by omega)).mono ?_; rintro e wA ⟨u1, g1, rfl, ho, hb⟩; obtain ⟨tA, hgA, hA11, hBA⟩ := gx_own GD.out 11 ho hb; have GA := hid hgA; have T11 := hid hA11; have BA := hid hBA; have hS2 := CS.out wA tA hgA ((hBA 5 (by decide) (by decide)).trans V6.out); clear ho hb hgA hA11 hBA)))
      | (go_at_call 22; go_must (refine (gx_begin (i := 1) (k := 10) (lo := some kb) (L := []) GB.out (K6.out.keep (BB'.out 10 (by decide) (by decide))) (by decide) c.al c.kn c.cn qo 0 _ _ g1 g2 Fit.nil (by decide) (GB.out.rdO T11'.out (fun j hj e => GB.out.ap 10 11 (by decide) j hj e)) (GB.out.rdO T12.out (fun j hj e => GB.out.ap 10 12 (by decide) j hj e)) hcd (by omega)).mono ?_; rintro e w7 ⟨sb, rfl, -, hb2, hb3, t7, g7, s7, k7, b7⟩; have G7 := hid g7; have SB := hid s7; have K7 := hid (show Ledg t7 10 (some kb) (eB c.al c.kn c.f c.cn c.h []) from by (rw [eB_like c.al c.kn c.f g1 c.cn c.h g2]; exact k7)); have SA7 := hid ((b7 0 (by decide) (by decide)).trans ((BB'.out 0 (by decide) (by decide)).trans SA.out)); have V7 := hid ((b7 5 (by decide) (by decide)).trans ((BB'.out 5 (by decide) (by decide)).trans V6.out)); have L7 := hid (L6.out.keep ((b7 9 (by decide) (by decide)).trans (BB'.out 9 (by decide) (by decide)))); have E2 := hid hb2; have E3 := hid (show PX.Alike (px0 c.al c.kn c.f c.cn c.h qo) sb.p from by (rw [hb3]; exact px0_like _ _ _ _ _ _ _ _)); have hS4 := CS.out w7 t7 g7 V7.out; clear g7 s7 k7 b7 hb2 hb3)))
    clear hS0 hS1 hS2 hS3 hS4 GD GA GB T11 T11' T12 BA BB' G6 SA L6 K6 V6 N6
    have HG := hid (HP2.out w2 (Below.refl _ _)).1
    have F0' := hid (show Fit 40000 (eB c.al c.kn c.f c.cn c.h []) from (eB_fit c.al c.kn c.cn c.f c.h Fit.nil (by decide) hk3 (by omega)).mono (by omega))
    have PF := hid (show (px0 c.al c.kn c.f c.cn c.h qo).Fine from by have := G7.out.all 0; rw [SA7.out] at this; have := IsX.fine (IsS.mx this); rwa [A3.out] at this)
    have PM := hid (show (px0 c.al c.kn c.f c.cn c.h qo).ml = 0 from px0_ml1 _ _ _ _ _ _)
    obtain ⟨P, hP⟩ : ∃ z, px0 c.al c.kn c.f c.cn c.h qo = z := ⟨_, rfl⟩
    obtain ⟨L0, hL⟩ : ∃ z, eB c.al c.kn c.f c.cn c.h [] = z := ⟨_, rfl⟩
    rw [hP] at PF PM A3 E3
    rw [hL] at F0' L7 K7
    clear hP hL
    have c0 := (HX2.out w7 G7.out.bel).2.cell 0 _ rfl
    go_wp2_with fail
    refine (gx_cut G7.out 6 pa x.pa pn pc x.pn x.pc g x.g (HP2.out w7 G7.out.bel) (HX2.out w7 G7.out.bel).1.rp (by omega) hnc).mono ?_
    rintro e w9 ⟨v, vs, rfl, hvl, hv0, t9, g9, p9, b9⟩
    obtain ⟨gr, cap, rfl, -⟩ := g9.rowcell p9 hv0
    have hpn : offs vs vs.length = pn := by have := g9.all 6; rw [p9] at this; have := (cuts_at this.2).1; omega
    have G9 := hid g9
    have P9 := hid p9
    have SB9 := hid ((b9 1 (by decide) (by decide)).trans SB.out)
    have SA9 := hid ((b9 0 (by decide) (by decide)).trans SA7.out)
    have L9 := hid (L7.out.keep (b9 9 (by decide) (by decide)))
    have K9 := hid (K7.out.keep (b9 10 (by decide) (by decide)))
    have HPN := hid hpn
    have SA9' := hid (show t9 0 = tS { sa with p := st P vs g 0 } from by
      have e : st P vs g 0 = sa.p := by rw [A3.out]; exact if_pos rfl
      rw [SA9.out, e])
    have SB9' := hid (show t9 1 = tS { sb with p := sb.p } from SB9.out)
    obtain ⟨len, hlen⟩ : ∃ len, vs.length = len := ⟨_, rfl⟩
    have HLEN := hid hlen
    have hv0' : 0 < len := by omega
    have hlen2 : len ≤ 1048577 := by omega
    rw [hlen] at P9 ⊢
    have E30 := hid (show PX.Alike (st P vs g 0) sb.p from by have e : st P vs g 0 = P := if_pos rfl; rw [e]; exact E3.out)
    clear g9 p9 b9 hpn G7 SB SA7 L7 K7 SA9 SB9 hlen hvl hv0 c0 E3 V7
    go_wp2_with fail
    go_loopw [16] (fun iv wr => ∃ (i : Nat) (t : Nat → Th) (Pb : PX), i ≤ len ∧ iv = .int .i64 i ∧ GX w2 w2.heap.size t wr ∧ t 0 = tS { sa with p := st P vs g i } ∧ t 1 = tS { sb with p := Pb } ∧ PX.Alike (st P vs g i) Pb ∧ Ledg t 9 (some lb) (lg P vs L0 i) ∧ Ledg t 10 (some kb) (lg P vs L0 i) ∧ t 6 = tP (.slice (some ⟨gr, 0, none⟩) len cap) vs g w7.heap.size pn) (fun iv _ => len - (intOf iv).toNat)
    case atStart => exact ⟨0, t9, sb.p, Nat.zero_le _, rfl, G9.out, SA9'.out, SB9'.out, E30.out, by have e : lg P vs L0 0 = L0 := if_pos rfl; rw [e]; exact L9.out, by have e : lg P vs L0 0 = L0 := if_pos rfl; rw [e]; exact K9.out, P9.out⟩
    case round =>
      obtain ⟨i, t, Pb, hi, rfl, hG, h0, h1, hal, h9, h10, h6⟩ := hrel
      clear SA9' SB9' L9 K9 P9 G9 E30
      by_cases hlt : i < len
      · have hiv : i < vs.length := by rw [HLEN.out]; exact hlt
        have hlt' : (i : Int) < (len : Int) := by omega
        have GA := hid hG
        have H0 := hid h0
        have H1 := hid h1
        have H9 := hid h9
        have H10 := hid h10
        have H6 := hid h6
        have HAL := hid hal
        clear hG h0 h1 h9 h10 h6 hal
        obtain ⟨pv, hpv⟩ : ∃ pv, vs[i] = pv := ⟨_, rfl⟩
        have HPV := hid hpv
        have CW : Hid (∀ W t', GX w2 w2.heap.size t' W → t' 6 = tP (.slice (some ⟨gr, 0, none⟩) len cap) vs g w7.heap.size pn → W.cell? ⟨gr, i, none⟩ = some pv ∧ W.cell? ⟨w.heap.size + 1, 2, none⟩ = some (.int .u8 x.bit)) := fun W t' hg h6 => by
          obtain ⟨gr', cap', er, hcell⟩ := hg.rowcell h6 (by rw [HLEN.out]; exact hv0')
          simp only [Value.slice.injEq, Option.some.injEq, Addr.mk.injEq] at er
          obtain ⟨⟨rfl, -, -⟩, -, rfl⟩ := er
          exact ⟨by rw [hcell i hiv, HPV.out], (HX2.out W hg.bel).2.cell 2 _ rfl⟩
        clear hpv
        have GD := hid (GA.out.below (below_drewN wr 1))
        have hS0 := CW.out wr t GA.out H6.out
        have hS1 := CW.out wr.drew t GD.out H6.out
        have FP := hid (show (st P vs g i).Fine from by have := GA.out.all 0; rw [H0.out] at this; exact IsX.fine (IsS.mx this))
        have FB := hid (show Pb.Fine from by have := GA.out.all 1; rw [H1.out] at this; exact IsX.fine (IsS.mx this))
        have hst := hid (st_step P vs g i hiv)
        have hlg := hid (lg_step P PF.out vs g F0'.out i hiv (by rw [HPN.out]; omega))
        have FT := hid (show Fit (40000 + pn + 2) (lg P vs L0 i) from by have := lg_fit PF.out vs F0'.out i (by rw [HPN.out]; omega); rwa [HPN.out] at this)
        have ML := hid (show (st P vs g i).ml + Kc.slLen vs[i] ≤ 5000000 from by
          have e1 := st_ml (P := P) vs g i
          have e2 := offs_succ vs i hiv
          have e3 := offs_le vs (i + 1)
          rw [HPN.out] at e1 e3
          rw [PM.out] at e1
          omega)
        have NL := hid (show Kc.slLen vs[i] ≤ 1048576 from by
          have e2 := offs_succ vs i hiv
          have e3 := offs_le vs (i + 1)
          rw [HPN.out] at e3
          omega)
        have W1 := hid (gx_write (i := 0) (k := 9) (lo := some lb) GD.out H0.out H9.out (by decide) (Kc.slLen vs[i]) (40000 + pn + 2) vs[i] (fun j => g (offs vs i + j)) FT.out (by omega) (GD.out.piece H6.out (GD.out.apW H0.out (by decide) (by decide)) i hiv) ML.out)
        obtain ⟨nl, hnl⟩ : ∃ z, Kc.slLen vs[i] = z := ⟨_, rfl⟩
        have HNL := hid hnl
        rw [hnl] at W1 NL
        rw [HPV.out] at W1
        clear hnl
        go_wp2_with fail
        go_region_held3 (fun W => W.cell? ⟨gr, i, none⟩ = some pv ∧ W.cell? ⟨w.heap.size + 1, 2, none⟩ = some (.int .u8 x.bit)) (with_reducible assumption) (first
          | (go_at_call 27; first
              | (have tagC := GC; go_must (refine (gx_write (i := 1) (k := 10) (lo := some kb) GC.out C1.out C10.out (by decide) nl (40000 + pn + 2) u1 gg FT.out (by omega) (GC.out.rdO C11.out (fun j hj e => hj.elim (fun h => GC.out.ap 10 11 (by decide) j h e) (fun h => GC.out.ap 1 11 (by decide) j (by (rw [C1.out]; exact .inr (.inl h))) e))) (by (show Pb.ml + nl ≤ 5000000; rw [← like_ml HAL.out, ← HNL.out]; exact ML.out))).mono ?_; rintro e wd ⟨rfl, td, gd, sd, ld, bd⟩; have GE := hid gd; have D1 := hid sd; have D10 := hid (show Ledg td 10 (some kb) (lg P vs L0 (i + 1)) from by (have e1 : Pb.eW nl (lg P vs L0 i) = lg P vs L0 (i + 1) := (by (rw [← hlg.out, HNL.out]; exact (PX.Alike.eW HAL.out _ _).symm)); rw [← e1]; exact ld)); have D0 := hid ((bd 0 (by decide) (by decide)).trans C0.out); have D9 := hid (C9.out.keep (bd 9 (by decide) (by decide))); have D6 := hid ((bd 6 (by decide) (by decide)).trans C6.out); have hS4 := CW.out wd td gd D6.out; clear tagC gd sd ld bd))
              | (go_must (refine W1.out.mono ?_; rintro e wb ⟨rfl, tb, gb, sb0, lb9, bb⟩; have GB := hid gb; have B0 := hid (show tb 0 = tS { sa with p := st P vs g (i + 1) } from by (rw [← hst.out, HNL.out]; exact sb0)); have B9 := hid (show Ledg tb 9 (some lb) (lg P vs L0 (i + 1)) from by (rw [← hlg.out, HNL.out]; exact lb9)); have B1 := hid ((bb 1 (by decide) (by decide)).trans H1.out); have B10 := hid (H10.out.keep (bb 10 (by decide) (by decide))); have B6 := hid ((bb 6 (by decide) (by decide)).trans H6.out); have hS2 := CW.out wb tb gb B6.out; clear gb sb0 lb9 bb)))
          | (go_at_call 36; go_must (refine (other1 pv nl (fun j => g (offs vs i + j)) x.bit wb (by (have h := GB.out.piece B6.out (S := fun _ => False) (fun _ e => e.elim) i hiv wb (Kp.refl _ _); rw [HNL.out, HPV.out] at h; exact h)) NL.out).mono ?_; rintro e wc ⟨u1, gg, rfl, ho, hb⟩; obtain ⟨tc, hgc, hc11, hBc⟩ := gx_own GB.out 11 ho hb; have GC := hid hgc; have C11 := hid hc11; have C0 := hid ((hBc 0 (by decide) (by decide)).trans B0.out); have C1 := hid ((hBc 1 (by decide) (by decide)).trans B1.out); have C9 := hid (B9.out.keep (hBc 9 (by decide) (by decide))); have C10 := hid (B10.out.keep (hBc 10 (by decide) (by decide))); have C6 := hid ((hBc 6 (by decide) (by decide)).trans B6.out); have hS3 := CW.out wc tc hgc C6.out; clear ho hb hgc hc11 hBc)))
        have NAL := hid (show PX.Alike (st P vs g (i + 1)) (Pb.add nl gg) from by rw [← hst.out, HNL.out]; exact PX.Alike.add HAL.out FP.out FB.out nl _ gg)
        clear hS0 hS1 hS2 hS3 hS4 GA GB GC GD W1 B0 B1 B6 B9 B10 C0 C1 C6 C9 C10 C11 CW
        go_wp2_with fail
        refine ⟨⟨i + 1, td, Pb.add nl gg, by omega, by go_num, GE.out, D0.out, D1.out, NAL.out, D9.out, D10.out, D6.out⟩, by simp [intOf]; omega⟩
      · have ei : i = len := by omega
        subst ei
        have FQ := hid (show Fit 43002 (lg P vs L0 i) from by have := lg_fit PF.out vs F0'.out i (by rw [HPN.out]; omega); rw [HPN.out] at this; exact this.mono (by omega))
        have QM := hid (show (st P vs g i).ml ≤ 4900000 from by have e1 := st_ml (P := P) vs g i; rw [HPN.out, PM.out] at e1; omega)
        have QF := hid (show (st P vs g i).Fine from by have := hG.all 0; rw [h0] at this; exact IsX.fine (IsS.mx this))
        have BF := hid (show Pb.Fine from by have := hG.all 1; rw [h1] at this; exact IsX.fine (IsS.mx this))
        have BM := hid (show Pb.ml ≤ 4900000 from by rw [← like_ml hal]; exact QM.out)
        obtain ⟨Q, hQ⟩ : ∃ z, st P vs g i = z := ⟨_, rfl⟩
        obtain ⟨LQ, hLQ⟩ : ∃ z, lg P vs L0 i = z := ⟨_, rfl⟩
        rw [hQ] at QM QF hal h0
        rw [hLQ] at FQ h9 h10
        have F1 := hid (PX.eS_fit QF.out FQ.out (by decide))
        have EL1 := hid (PX.Alike.eS hal QF.out BF.out LQ)
        obtain ⟨L1, hL1⟩ : ∃ z, Q.eS LQ = z := ⟨_, rfl⟩
        rw [hL1] at F1 EL1
        have F2 := hid ((PX.eS_fit QF.out F1.out (by decide)).put ⟨6, (qo : Int), 1⟩ rfl (by decide))
        have EL2 := hid (PX.Alike.eS hal QF.out BF.out L1)
        obtain ⟨L2, hL2⟩ : ∃ z, putL (Q.eS L1) ⟨6, (qo : Int), 1⟩ = z := ⟨_, rfl⟩
        rw [hL2] at F2
        have F3 := hid (F2.out.put ⟨8, (Q.fl : Int), 1⟩ rfl (by decide))
        have EFL := hid (PX.Alike.fl hal)
        obtain ⟨L3, hL3⟩ : ∃ z, putL L2 ⟨8, (Q.fl : Int), 1⟩ = z := ⟨_, rfl⟩
        rw [hL3] at F3
        have HL1 := hid hL1
        have HL2 := hid hL2
        have HL3 := hid hL3
        have GA := hid hG
        have H0 := hid h0
        have H1 := hid h1
        have H9 := hid h9
        have H10 := hid h10
        clear hG h0 h1 h9 h10 h6 hal hQ hLQ hL1 hL2 hL3 hlt hi hlen2 hv0' PF PM F0'
        go_wp2_with fail
        refine (gx_sum (i := 0) (k := 9) (m := 3) (lo := some lb) GA.out H0.out H9.out (by decide) 43002 FQ.out (by decide) QM.out).mono ?_
        rintro e wa ⟨v3, rfl, ta, ga, s3, l9, ba⟩
        have GB := hid ga
        have I3 := hid (show ta 3 = tB v3 qo Q.tf from by rw [s3]; show tB v3 sa.out Q.tf = _; rw [A2.out])
        have I9 := hid (show Ledg ta 9 (some lb) L1 from by rw [← HL1.out]; exact l9)
        have I0 := hid ((ba 0 (by decide) (by decide)).trans H0.out)
        have I1 := hid ((ba 1 (by decide) (by decide)).trans H1.out)
        have I10 := hid (H10.out.keep (ba 10 (by decide) (by decide)))
        clear ga s3 l9 ba GA H0 H1 H9 H10
        go_wp2_with fail
        refine (gx_sum (i := 1) (k := 10) (m := 4) (lo := some kb) GB.out I1.out I10.out (by decide) 43002 FQ.out (by decide) BM.out).mono ?_
        rintro e wb ⟨v4, rfl, tb, gb, -, l10, bb⟩
        have GC := hid gb
        have J10 := hid (show Ledg tb 10 (some kb) L1 from by rw [EL1.out]; exact l10)
        have J3 := hid ((bb 3 (by decide) (by decide)).trans I3.out)
        have J9 := hid (I9.out.keep (bb 9 (by decide) (by decide)))
        have J0 := hid ((bb 0 (by decide) (by decide)).trans I0.out)
        have J1 := hid ((bb 1 (by decide) (by decide)).trans I1.out)
        clear gb l10 bb GB I3 I9 I0 I1 I10
        have V1 := hid (gx_verify (i := 0) (k := 9) (lo := some lb) GC.out J0.out J9.out 123003 v3 Q.tf F1.out (by decide) QM.out (by
          show ∀ w', _ → By.RB w' _ sa.out _
          rw [A2.out]
          exact GC.out.rdO J3.out (fun j hj e => GC.out.ap 3 9 (by decide) j e hj)))
        go_wp2_with fail
        refine V1.out.mono ?_
        rintro e wc ⟨rfl, tc, gc, l9, bc⟩
        have GE := hid gc
        have K9 := hid (show Ledg tc 9 (some lb) L2 from by
          have e : putL (Q.eS L1) ⟨6, (sa.out : Int), 1⟩ = L2 := by rw [A2.out]; exact HL2.out
          rw [← e]; exact l9)
        have K10 := hid (J10.out.keep (bc 10 (by decide) (by decide)))
        have K3 := hid ((bc 3 (by decide) (by decide)).trans J3.out)
        have K0 := hid ((bc 0 (by decide) (by decide)).trans J0.out)
        have K1 := hid ((bc 1 (by decide) (by decide)).trans J1.out)
        clear gc l9 bc GC J3 J9 J0 J1 J10 V1
        have V2 := hid (gx_verify (i := 1) (k := 10) (lo := some kb) GE.out K1.out K10.out 123003 v3 Q.tf F1.out (by decide) BM.out (by
          show ∀ w', _ → By.RB w' _ sb.out _
          rw [E2.out]
          exact GE.out.rdO K3.out (fun j hj e => GE.out.ap 3 10 (by decide) j e hj)))
        go_wp2_with fail
        refine V2.out.mono ?_
        rintro e wd ⟨rfl, td, gd, l10, bd⟩
        have GF := hid gd
        have M10 := hid (show Ledg td 10 (some kb) L2 from by
          have e : putL (Pb.eS L1) ⟨6, (sb.out : Int), 1⟩ = L2 := by rw [E2.out, ← EL2.out]; exact HL2.out
          rw [← e]; exact l10)
        have M9 := hid (K9.out.keep (bd 9 (by decide) (by decide)))
        have M0 := hid ((bd 0 (by decide) (by decide)).trans K0.out)
        have M1 := hid ((bd 1 (by decide) (by decide)).trans K1.out)
        clear gd l10 bd GE K3 K9 K0 K1 K10 V2
        go_wp2_with fail
        refine (gx_wipe (i := 0) (k := 9) (lo := some lb) GF.out M0.out M9.out (by decide) 203005 F2.out (by decide)).mono ?_
        rintro e we ⟨rfl, te, ge, -, l9, be⟩
        have GG := hid ge
        have N9 := hid (show Ledg te 9 (some lb) L3 from by rw [← HL3.out]; exact l9)
        have N10 := hid (M10.out.keep (be 10 (by decide) (by decide)))
        have N1 := hid ((be 1 (by decide) (by decide)).trans M1.out)
        clear ge l9 be GF M0 M1 M9 M10
        go_wp2_with fail
        refine (gx_wipe (i := 1) (k := 10) (lo := some kb) GG.out N1.out N10.out (by decide) 203005 F2.out (by decide)).mono ?_
        rintro e wf ⟨rfl, tf, gf, -, l10, bf⟩
        have GH := hid gf
        have O10 := hid (show Ledg tf 10 (some kb) L3 from by rw [← HL3.out, EFL.out]; exact l10)
        have O9 := hid (N9.out.keep (bf 9 (by decide) (by decide)))
        clear gf l10 bf GG N1 N9 N10
        obtain ⟨rv1, hl1⟩ := O9.out.led GH.out
        have hlen9 := F3.out.len
        have R1 := hid (runs22 lb rv1 _ _ hl1 (by omega))
        clear hl1 hlen9
        go_wp2_with fail
        refine R1.out.mono ?_
        rintro e wg ⟨u1, rfl, hu1, hb1⟩
        have GI := hid (GH.out.below hb1)
        have U1 := hid hu1
        obtain ⟨rv2, hl2⟩ := O10.out.led GI.out
        have hlen10 := F3.out.len
        have R2 := hid (runs22 kb rv2 _ _ hl2 (by omega))
        clear hu1 hb1 R1 GH hl2 hlen10
        go_wp2_with fail
        refine R2.out.mono ?_
        rintro e wh ⟨u2, rfl, hu2, hb2⟩
        have GJ := hid (GI.out.below hb2)
        have hlen11 := F3.out.len
        have sr := same14 u1 u2 L3 L3 wh (U1.out.below hb2).reads hu2.reads (by omega) (by omega)
        rw [decide_eq_true (show L3 = L3 from rfl)] at sr
        have SR := hid sr
        clear sr
        clear hu2 hb2 R2 GI U1 hlen11
        go_wp2_with fail
        refine SR.out.mono ?_
        rintro e wi ⟨rfl, d2, hd2⟩
        have hbl := hid (show Below w.heap.size w wi from by rw [hd2]; exact B2.out.trans ((GJ.out.below (below_drewN wh d2)).bel.mono B2.out.size))
        clear hd2 SR
        go_wp2
        go_ret
        exact ⟨rfl, hbl.out⟩
end Go.Proofs.YtpohogpkfdebdaaGreatDoor.Oc
