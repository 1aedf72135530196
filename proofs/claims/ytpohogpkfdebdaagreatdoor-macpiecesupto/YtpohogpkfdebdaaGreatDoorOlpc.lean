/- MacPieces: the walk. -/
import Derived.Test.YtpohogpkfdebdaaGreatDoorOlnn
import Derived.Test.YtpohogpkfdebdaaGreatDoorOpcs
import Derived.Test.YtpohogpkfdebdaaGreatDoorOh
import Derived.Test.YtpohogpkfdebdaaGreatDoorOxor
namespace Go.Proofs.YtpohogpkfdebdaaGreatDoor.Oc
open Go.ChangeShapes Go.WideShapes Go.ChangeAt Go.RowKit
open Go.Proofs.YtpohogpkfdebdaaGreatDoor.By
open Go.Proofs.YtpohogpkfdebdaaGreatDoor.Sh (Blk size_alloc)
open Go.Proofs.YtpohogpkfdebdaaGreatDoor.Dg (BB LG lpv Lt Tl IsMk MB)
theorem own_at {w : World} {base g n cap : Nat} {f : Nat → Int} (h : By.Own w base (.slice (some ⟨g, 0, none⟩) n cap) n f) (i : Nat) (hi : i < n) : w.cell? ⟨g, i, none⟩ = some (.int .u8 (f i)) := by
  obtain ⟨_, a, c, e, _, _, h0 | ⟨b, o, rfl, hc⟩⟩ := h.reads
  · omega
  · simp only [Value.slice.injEq, Option.some.injEq, Addr.mk.injEq, true_and] at e
    obtain ⟨⟨rfl, rfl, -⟩, rfl⟩ := e
    have := hc i hi
    rwa [Nat.zero_add] at this
theorem px0_ml (a n : Nat) (g : Nat → Int) (c : Nat) (h : Nat → Int) (q : Nat) : (px0 a n g c h q).ml = 0 := by
  unfold px0
  split
  · rfl
  split
  · rfl
  split
  · rfl
  split
  · rfl
  split
  · rfl
  split <;> rfl
set_option maxRecDepth 20000 in
set_option maxHeartbeats 16000000 in
theorem pieces_walk (q : CE) (pa : Option Addr) (pn pc : Nat) (g : Nat → Int) (x : SE) (w : World) (hk : KA w) (hq : q.Ok w) (rp : By.RB w (.slice pa pn pc) pn g) (lp : pn ≤ 140737488355328) (hx : x.Ok w) (hnc : x.pn ≤ 1048576) :
    Calls Tryz.prog 5 #[.agg #[.int .u8 (q.al : Int), .slice q.ka q.kn q.kc, .slice q.ca q.cn q.cc, .int .i64 q.out], .slice pa pn pc, .agg #[.slice x.pa x.pn x.pc, .int .i64 x.at', .int .u8 x.bit]] w fun e w' => e = .returned (.bool true) ∧ Below w.heap.size w w' := by
  have b0 := below_next (below_alloc w (.cells #[.int .u8 (q.al : Int), .slice q.ka q.kn q.kc, .slice q.ca q.cn q.cc, .int .i64 q.out] 25)) (below_alloc _ (.cells #[.slice x.pa x.pn x.pc, .int .i64 x.at', .int .u8 x.bit] 59))
  have F0 : Blk ((w.alloc (.cells #[.int .u8 (q.al : Int), .slice q.ka q.kn q.kc, .slice q.ca q.cn q.cc, .int .i64 q.out] 25)).alloc (.cells #[.slice x.pa x.pn x.pc, .int .i64 x.at', .int .u8 x.bit] 59)) w.heap.size (cel q) 25 := (Blk.new w (cel q) 25).alloc _
  have X0 : Blk ((w.alloc (.cells #[.int .u8 (q.al : Int), .slice q.ka q.kn q.kc, .slice q.ca q.cn q.cc, .int .i64 q.out] 25)).alloc (.cells #[.slice x.pa x.pn x.pc, .int .i64 x.at', .int .u8 x.bit] 59)) (w.heap.size + 1) [.slice x.pa x.pn x.pc, .int .i64 x.at', .int .u8 x.bit] 59 := Blk.newAt (w.alloc _) _ _ _ _ (size_alloc _ _).symm rfl
  obtain ⟨W0, hW0⟩ : ∃ z, (w.alloc (.cells #[.int .u8 (q.al : Int), .slice q.ka q.kn q.kc, .slice q.ca q.cn q.cc, .int .i64 q.out] 25)).alloc (.cells #[.slice x.pa x.pn x.pc, .int .i64 x.at', .int .u8 x.bit] 59) = z := ⟨_, rfl⟩
  rw [hW0] at b0 F0 X0
  have HW0 := hid hW0
  have B0 := hid b0
  have F := hid F0
  have X := hid X0
  have HKA := hid (hk.below b0)
  have HQ := hid (hq.below b0)
  have HP := hid (rp.below b0)
  have HX := hid (hx.below b0)
  clear hk hq rp hx b0 F0 X0 hW0
  go_enter Tryz.func5, Tryz.ntmps5
  go_wp2_with fail
  rw [HW0.out]
  refine (lives1 _ HKA.out).mono ?_
  rintro e w1 ⟨rfl, hb1⟩
  have B1 := hid (below_next B0.out hb1)
  have F1 := hid (F.out.below hb1)
  have X1 := hid (X.out.below hb1)
  have BG := hid (begun1 q w1 (HQ.out.below hb1))
  have HK1 := hid (HKA.out.below hb1)
  have HP1 := hid (HP.out.below hb1)
  have HX1 := hid (HX.out.below hb1)
  have c0 := F1.out.cell 0 _ rfl
  have c1 := F1.out.cell 1 _ rfl
  have c2 := F1.out.cell 2 _ rfl
  have c3 := F1.out.cell 3 _ rfl
  clear hb1 B0 F X HKA HQ HP HX HW0
  go_wp2_with fail
  refine BG.out.mono ?_
  rintro e w2 ⟨c, rfl, hc, hcode, hkn, hcn, hb2⟩
  have HC := hid (show ∀ w', Below w2.heap.size w2 w' → c.Ok w' from fun w' hb => hc.below hb)
  have HP2 := hid (show ∀ w', Below w2.heap.size w2 w' → By.RB w' (.slice pa pn pc) pn g from fun w' hb => (HP1.out.below hb2).below hb)
  have HX2 := hid (show ∀ w', Below w2.heap.size w2 w' → x.Ok w' ∧ Blk w' (w.heap.size + 1) [.slice x.pa x.pn x.pc, .int .i64 x.at', .int .u8 x.bit] 59 from fun w' hb => ⟨(HX1.out.below hb2).below hb, (X1.out.below hb2).below hb⟩)
  have B2 := hid (below_next B1.out hb2)
  obtain ⟨t1, G1, k1, bu1⟩ := gx_var (GX.start w2 (HK1.out.below hb2)) 5 (cel c) 25
  have N1 := hid (show ∀ m, m ≠ 5 → t1 m = Th.no from fun m hm => bu1 m hm hm)
  have hcc := G1.k k1
  rw [cel_arr] at G1 hcc ⊢
  have c0 := hcc.cell 0 _ rfl
  have c1 := hcc.cell 1 _ rfl
  have c2 := hcc.cell 2 _ rfl
  have c3 := hcc.cell 3 _ rfl
  have bz := size_alloc w2 (.cells #[.int .u8 (c.al : Int), .slice c.ka c.kn c.kc, .slice c.ca c.cn c.cc, .int .i64 c.out] 25)
  have S1 := hid (small0 (w2.heap.size + 1) 2 (fun i => if i = 0 then c else kof pa pn pc g) ((w2.alloc (.cells #[.int .u8 (c.al : Int), .slice c.ka c.kn c.kc, .slice c.ca c.cn c.cc, .int .i64 c.out] 25)).alloc (.cells #[.int .u8 (c.al : Int), .slice c.ka c.kn c.kc, .slice c.ca c.cn c.cc, .int .i64 c.out, .int .u8 0, .slice pa pn pc, .slice none 0 0, .int .i64 0] 25)) (cas2 c (kof pa pn pc g) (Blk.newAt (w2.alloc (.cells #[.int .u8 (c.al : Int), .slice c.ka c.kn c.kc, .slice c.ca c.cn c.cc, .int .i64 c.out] 25)) #[.int .u8 (c.al : Int), .slice c.ka c.kn c.kc, .slice c.ca c.cn c.cc, .int .i64 c.out, .int .u8 0, .slice pa pn pc, .slice none 0 0, .int .i64 0] (cel c ++ cel (kof pa pn pc g)) 25 _ bz.symm rfl)) (fun i hi => by
    have : i = 0 ∨ i = 1 := by omega
    rcases this with rfl | rfl
    · exact ⟨hc.lk, hc.lc⟩
    · exact ⟨lp, Nat.zero_le _⟩) (by decide))
  have G2 := hid (G1.below (below_alloc _ (.cells #[.int .u8 (c.al : Int), .slice c.ka c.kn c.kc, .slice c.ca c.cn c.cc, .int .i64 c.out, .int .u8 0, .slice pa pn pc, .slice none 0 0, .int .i64 0] 25)))
  have K1 := hid k1
  have HCODE := hid hcode
  clear hc hb2 hcode hcc G1 k1 BG HK1 HP1 HX1 bz bu1 B1 F1 X1
  go_wp2_with fail
  refine S1.out.mono ?_
  rintro e w3 ⟨⟨y, rfl, hy⟩, d, rfl⟩
  have G3 := G2.out.below (below_drewN _ d)
  obtain ⟨W3, hW3⟩ : ∃ z, ((w2.alloc (.cells #[.int .u8 (c.al : Int), .slice c.ka c.kn c.kc, .slice c.ca c.cn c.cc, .int .i64 c.out] 25)).alloc (.cells #[.int .u8 (c.al : Int), .slice c.ka c.kn c.kc, .slice c.ca c.cn c.cc, .int .i64 c.out, .int .u8 0, .slice pa pn pc, .slice none 0 0, .int .i64 0] 25)).drewN d = z := ⟨_, rfl⟩
  rw [hW3] at G3 ⊢
  clear S1 G2 hW3 c0 c1 c2 c3
  cases y with
  | false =>
    go_wp2
    go_ret
    exact ⟨rfl, B2.out.trans (G3.bel.mono B2.out.size)⟩
  | true =>
    have hk3 : c.kn ≤ 3000 := (hy rfl 0 (by decide)).1
    have hp3 : pn ≤ 3000 := (hy rfl 1 (by decide)).1
    clear hy
    obtain ⟨-, -, -, hc64, ho1, ho2⟩ := code_ok HCODE.out
    obtain ⟨qo, hqo⟩ : ∃ n : Nat, c.out = n := ⟨c.out.toNat, by omega⟩
    have hcd := HCODE.out
    rw [hqo] at hcd
    have G3' := hid G3
    clear G3
    go_wp2_with fail
    refine (gx_led G3'.out 9).mono ?_
    rintro e w4 ⟨lb, t4, rfl, g4, l4, b4⟩
    have G4 := hid g4
    have L4 := hid l4
    have B4 := hid b4
    clear g4 l4 b4 G3'
    go_wp2_with fail
    refine (gx_led G4.out 10).mono ?_
    rintro e w5 ⟨kb, t5, rfl, g5, k5, b5⟩
    have G5 := hid g5
    have L5 := hid (L4.out.keep (b5 9 (by decide) (by decide)))
    have K5 := hid k5
    have V5 := hid (show t5 5 = tK w2.heap.size (cel c) 25 from (b5 5 (by decide) (by decide)).trans ((B4.out 5 (by decide) (by decide)).trans K1.out))
    have N5 := hid (show ∀ m, m ≠ 5 → m ≠ 9 → m ≠ 10 → t5 m = Th.no from fun m h1 h2 h3 => (b5 m h3 h3).trans ((B4.out m h2 h2).trans (N1.out m h1)))
    have hcc := g5.k V5.out
    have c0 := hcc.cell 0 _ rfl
    have c1 := hcc.cell 1 _ rfl
    have c2 := hcc.cell 2 _ rfl
    have c3 := hcc.cell 3 _ rfl
    rw [hqo] at c3
    clear g5 k5 b5 G4 L4 B4 K1 N1 hcc
    go_wp2_with fail
    refine (gx_begin (i := 0) (k := 9) (lo := some lb) (L := []) G5.out L5.out (by decide) c.al c.kn c.cn qo 0 _ _ c.f c.h Fit.nil (by decide) (G5.out.rdA (fun w' hb => (HC.out w' hb).rk) (fun j hj => G5.out.lo 9 j hj)) (G5.out.rdA (fun w' hb => (HC.out w' hb).rc) (fun j hj => G5.out.lo 9 j hj)) hcd (by omega)).mono ?_
    rintro e w6 ⟨sa, rfl, -, ha2, ha3, t6, g6, s6, l6, b6⟩
    have G6 := hid g6
    have SA := hid s6
    have L6 := hid l6
    have K6 := hid (K5.out.keep (b6 10 (by decide) (by decide)))
    have V6 := hid ((b6 5 (by decide) (by decide)).trans V5.out)
    have N6 := hid (show ∀ m, m ≠ 0 → m ≠ 5 → m ≠ 9 → m ≠ 10 → t6 m = Th.no from fun m h0 h1 h2 h3 => (b6 m h0 h2).trans (N5.out m h1 h2 h3))
    have A2 := hid ha2
    have A3 := hid ha3
    have hcc := g6.k V6.out
    have c0 := hcc.cell 0 _ rfl
    have c1 := hcc.cell 1 _ rfl
    have c2 := hcc.cell 2 _ rfl
    have c3 := hcc.cell 3 _ rfl
    rw [hqo] at c3
    clear g6 s6 l6 b6 ha2 ha3 hcc G5 L5 K5 V5 N5
    go_wp2_with fail
    refine (gx_begin (i := 1) (k := 10) (lo := some kb) (L := []) G6.out K6.out (by decide) c.al c.kn c.cn qo 0 _ _ c.f c.h Fit.nil (by decide) (G6.out.rdA (fun w' hb => (HC.out w' hb).rk) (fun j hj => G6.out.lo 10 j hj)) (G6.out.rdA (fun w' hb => (HC.out w' hb).rc) (fun j hj => G6.out.lo 10 j hj)) hcd (by omega)).mono ?_
    rintro e w7 ⟨sb, rfl, -, hb2, hb3, t7, g7, s7, k7, b7⟩
    have G7 := hid g7
    have SB := hid s7
    have K7 := hid k7
    have SA7 := hid ((b7 0 (by decide) (by decide)).trans SA.out)
    have V7 := hid ((b7 5 (by decide) (by decide)).trans V6.out)
    have L7 := hid (L6.out.keep (b7 9 (by decide) (by decide)))
    have N7 := hid (show ∀ m, m ≠ 0 → m ≠ 1 → m ≠ 5 → m ≠ 9 → m ≠ 10 → t7 m = Th.no from fun m h0 h1 h5 h9 h10 => (b7 m h1 h10).trans (N6.out m h0 h5 h9 h10))
    have E2 := hid hb2
    have E3 := hid hb3
    clear g7 s7 k7 b7 hb2 hb3 G6 SA L6 K6 V6 N6
    have HG := hid (HP2.out w2 (Below.refl _ _)).1
    have F0' := hid (show Fit 40000 (eB c.al c.kn c.f c.cn c.h []) from (eB_fit c.al c.kn c.cn c.f c.h Fit.nil (by decide) hk3 (by omega)).mono (by omega))
    have PF := hid (show (px0 c.al c.kn c.f c.cn c.h qo).Fine from by have := G7.out.all 0; rw [SA7.out] at this; have := IsX.fine (IsS.mx this); rwa [A3.out] at this)
    have PM := hid (show (px0 c.al c.kn c.f c.cn c.h qo).ml = 0 from px0_ml _ _ _ _ _ _)
    generalize hP : px0 c.al c.kn c.f c.cn c.h qo = P at *
    generalize hL : eB c.al c.kn c.f c.cn c.h [] = L0 at *
    go_wp2_with fail
    refine (gx_write (i := 1) (k := 10) (lo := some kb) G7.out SB.out K7.out (by decide) pn 40000 _ g F0'.out (by decide) (G7.out.rdA (fun w' hb => HP2.out w' hb) (fun j hj => hj.elim (fun e => G7.out.lo 10 j e) (fun e => G7.out.lo 1 j (by rw [SB.out]; exact .inr (.inl e))))) (by rw [E3.out, PM.out]; omega)).mono ?_
    rintro e w8 ⟨rfl, t8, g8, s8, k8, b8⟩
    rw [E3.out] at s8 k8
    have G8 := hid g8
    have SB8 := hid s8
    have K8 := hid k8
    have SA8 := hid ((b8 0 (by decide) (by decide)).trans SA7.out)
    have V8 := hid ((b8 5 (by decide) (by decide)).trans V7.out)
    have L8 := hid (L7.out.keep (b8 9 (by decide) (by decide)))
    have N8 := hid (show ∀ m, m ≠ 0 → m ≠ 1 → m ≠ 5 → m ≠ 9 → m ≠ 10 → t8 m = Th.no from fun m h0 h1 h5 h9 h10 => (b8 m h1 h10).trans (N7.out m h0 h1 h5 h9 h10))
    have hxx := (HX2.out w8 g8.bel).2
    have c0 := hxx.cell 0 _ rfl
    clear g8 s8 k8 b8 hxx G7 SB K7 SA7 L7 N7
    go_wp2_with fail
    refine (gx_cut G8.out 6 pa x.pa pn pc x.pn x.pc g x.g (HP2.out w8 G8.out.bel) (HX2.out w8 G8.out.bel).1.rp (by omega) hnc).mono ?_
    rintro e w9 ⟨v, vs, rfl, hvl, hv0, t9, g9, p9, b9⟩
    obtain ⟨gr, cap, rfl, -⟩ := g9.rowcell p9 hv0
    have hpn : offs vs vs.length = pn := by have := g9.all 6; rw [p9] at this; have := (cuts_at this.2).1; omega
    have G9 := hid g9
    have P9 := hid p9
    have SB9 := hid ((b9 1 (by decide) (by decide)).trans SB8.out)
    have SA9 := hid ((b9 0 (by decide) (by decide)).trans SA8.out)
    have L9 := hid (L8.out.keep (b9 9 (by decide) (by decide)))
    have K9 := hid (K8.out.keep (b9 10 (by decide) (by decide)))
    have N9 := hid (show t9 8 = Th.no from (b9 8 (by decide) (by decide)).trans (N8.out 8 (by decide) (by decide) (by decide) (by decide) (by decide)))
    have HPN := hid hpn
    have V9 := hid ((b9 5 (by decide) (by decide)).trans V8.out)
    have SA9' := hid (show t9 0 = tS { sa with p := st P vs g 0 } from by
      have e : st P vs g 0 = sa.p := by rw [A3.out]; exact if_pos rfl
      rw [SA9.out, e])
    obtain ⟨len, hlen⟩ : ∃ len, vs.length = len := ⟨_, rfl⟩
    have HLEN := hid hlen
    have hv0' : 0 < len := by omega
    have hlen2 : len ≤ 1048577 := by omega
    rw [hlen] at P9 ⊢
    clear g9 p9 b9 hpn G8 SB8 SA8 L8 K8 N8 c0 c1 c2 c3 SA9 hlen hvl hv0
    go_wp2_with fail
    go_loopw [16] (fun iv wr => ∃ (i : Nat) (t : Nat → Th), i ≤ len ∧ iv = .int .i64 i ∧ GX w2 w2.heap.size t wr ∧ t 0 = tS { sa with p := st P vs g i } ∧ t 1 = tS { sb with p := P.add pn g } ∧ Ledg t 9 (some lb) (lg P vs L0 i) ∧ Ledg t 10 (some kb) (P.eW pn L0) ∧ t 6 = tP (.slice (some ⟨gr, 0, none⟩) len cap) vs g w8.heap.size pn ∧ t 8 = Th.no ∧ t 5 = tK w2.heap.size (cel c) 25) (fun iv _ => len - (intOf iv).toNat)
    case atStart => exact ⟨0, t9, Nat.zero_le _, rfl, G9.out, SA9'.out, SB9.out, by have e : lg P vs L0 0 = L0 := if_pos rfl; rw [e]; exact L9.out, K9.out, P9.out, N9.out, V9.out⟩
    case round =>
      obtain ⟨i, t, hi, rfl, hG, h0, h1, h9, h10, h6, h8, h5⟩ := hrel
      clear V9 SA9' SB9 L9 K9 P9 N9 G9
      by_cases hlt : i < len
      · have hiv : i < vs.length := by rw [HLEN.out]; exact hlt
        have hlt' : (i : Int) < (len : Int) := by omega
        have GA := hid hG
        have H0 := hid h0
        have H1 := hid h1
        have H9 := hid h9
        have H10 := hid h10
        have H6 := hid h6
        have H8 := hid h8
        have H5 := hid h5
        clear hG h0 h1 h9 h10 h6 h8 h5
        go_wp2_with fail
        refine (gx_clone (i := 0) (m := 2) GA.out H0.out).mono ?_
        rintro e wa ⟨dd', rfl, -, hd2, hd3, ta, ga, sd, ba⟩
        have hrow := (ga.rowcell ((ba 6 (by decide) (by decide)).trans H6.out) (by rw [HLEN.out]; exact hv0'))
        obtain ⟨gr', cap', er, hcell⟩ := hrow
        simp only [Value.slice.injEq, Option.some.injEq, Addr.mk.injEq] at er
        obtain ⟨⟨rfl, -, -⟩, -, rfl⟩ := er
        have ci := hcell i hiv
        have GB := hid ga
        have D2 := hid hd2
        have D3 := hid hd3
        have SD := hid sd
        have BA := hid ba
        obtain ⟨pv, hpv⟩ : ∃ pv, vs[i] = pv := ⟨_, rfl⟩
        rw [hpv] at ci
        have HPV := hid hpv
        clear ga hd2 hd3 sd ba hcell hpv
        go_wp2_with fail
        have ea0 := (BA.out 0 (by decide) (by decide)).trans H0.out
        have W1 := hid (gx_write (i := 0) (k := 9) (lo := some lb) GB.out ea0 (H9.out.keep (BA.out 9 (by decide) (by decide))) (by decide) (Kc.slLen vs[i]) (40000 + pn + 2) vs[i] (fun j => g (offs vs i + j)) (by have := lg_fit PF.out vs F0'.out i (by rw [HPN.out]; omega); rwa [HPN.out] at this) (by omega) (GB.out.piece ((BA.out 6 (by decide) (by decide)).trans H6.out) (GB.out.apW ea0 (by decide) (by decide)) i hiv) (by
          show (st P vs g i).ml + _ ≤ _
          have e1 := st_ml (P := P) vs g i
          have e2 := offs_succ vs i hiv
          have e3 := offs_le vs (i + 1)
          rw [HPN.out] at e1 e3
          rw [PM.out] at e1
          omega))
        rw [HPV.out] at W1
        refine W1.out.mono ?_
        rintro e wb ⟨rfl, tb, gb, sb0, lb9, bb⟩
        have hst := st_step P vs g i hiv
        have hlg := lg_step P PF.out vs g F0'.out i hiv (by rw [HPN.out]; omega)
        rw [← HPV.out] at sb0 lb9
        have sb1 : tb 0 = tS { sa with p := st P vs g (i + 1) } := by rw [← hst]; exact sb0
        have lb1 : Ledg tb 9 (some lb) (lg P vs L0 (i + 1)) := by rw [← hlg]; exact lb9
        have GC := hid gb
        have C0 := hid sb1
        have C9 := hid lb1
        have CD := hid ((bb 2 (by decide) (by decide)).trans SD.out)
        have CB := hid (show ∀ m, m ≠ 0 → m ≠ 2 → m ≠ 9 → tb m = t m from fun m h0 h2 h9 => (bb m h0 h9).trans (BA.out m h2 h2))
        clear gb sb0 lb9 bb hst hlg sb1 lb1 W1 ea0 ci GB SD BA
        go_wp2_with fail
        have c8 : Ledg tb 8 none [] := (CB.out 8 (by decide) (by decide) (by decide)).trans H8.out
        refine (gx_write (i := 2) (k := 8) (lo := none) GC.out CD.out c8 (by decide) pn 0 (.slice pa pn pc) g Fit.nil (by decide) (GC.out.rdA (fun w' hb => HP2.out w' hb) (fun j hj => hj.elim (fun e => GC.out.lo 8 j e) (fun e => GC.out.lo 2 j (by rw [CD.out]; exact .inr (.inl e))))) (by
          have e1 := st_ml (P := P) vs g i
          rw [HPN.out, PM.out] at e1
          rw [D3.out]
          show (st P vs g i).ml + _ ≤ _
          omega)).mono ?_
        rintro e wc ⟨rfl, tc, gc, sc, lc, bc⟩
        have GD := hid gc
        have SC := hid sc
        have BC := hid bc
        have C8 := hid (show tc 8 = Th.no from lc)
        clear gc sc lc bc c8
        go_wp2_with fail
        refine (gx_wipe (i := 2) (k := 8) (lo := none) (L := []) GD.out SC.out C8.out (by decide) 0 Fit.nil (by decide)).mono ?_
        rintro e we ⟨rfl, te, ge, -, le, be⟩
        have GE := hid ge
        have TE := hid (show ∀ m, m ≠ 2 → m ≠ 8 → te m = tb m from fun m h2 h8 => (be m h2 h8).trans (BC.out m h2 h8))
        have C8' := hid (show te 8 = Th.no from le)
        clear ge le be GD SC BC C8
        go_wp2_with fail
        refine ⟨⟨i + 1, te, by omega, by go_num, GE.out, (TE.out 0 (by decide) (by decide)).trans C0.out, (TE.out 1 (by decide) (by decide)).trans ((CB.out 1 (by decide) (by decide) (by decide)).trans H1.out), C9.out.keep (TE.out 9 (by decide) (by decide)), H10.out.keep ((TE.out 10 (by decide) (by decide)).trans (CB.out 10 (by decide) (by decide) (by decide))), (TE.out 6 (by decide) (by decide)).trans ((CB.out 6 (by decide) (by decide) (by decide)).trans H6.out), C8'.out, (TE.out 5 (by decide) (by decide)).trans ((CB.out 5 (by decide) (by decide) (by decide)).trans H5.out)⟩, by simp [intOf]; omega⟩
      · have ei : i = len := by omega
        subst ei
        have eQ : st P vs g i = P.add pn g := by unfold st; rw [if_neg (by omega), ← HPN.out, HLEN.out]
        have eL : lg P vs L0 i = P.eW pn L0 := by unfold lg; rw [if_neg (by omega), ← HPN.out, HLEN.out]
        rw [eQ] at h0
        rw [eL] at h9
        have QF : (P.add pn g).Fine := PF.out.add pn HG.out
        have FQ := hid (show Fit 43002 (P.eW pn L0) from (PX.eW_fit PF.out F0'.out pn (by omega)).mono (by omega))
        have QM := hid (show (P.add pn g).ml ≤ 4900000 from by have := PX.ml_add P pn g; rw [PM.out] at this; omega)
        have QFH := hid QF
        have hl64 : qo ≤ 64 := by have := most_64 c.al; omega
        generalize P.add pn g = Q at *
        generalize P.eW pn L0 = LQ at *
        have GA := hid hG
        have H0 := hid h0
        have H1 := hid h1
        have H9 := hid h9
        have H10 := hid h10
        have H5 := hid h5
        clear hG h0 h1 h9 h10 h6 h8 h5 eQ eL QF hlt hi hlen2 hv0' PF PM F0'
        go_wp2_with fail
        refine (gx_sum (i := 0) (k := 9) (m := 3) (lo := some lb) GA.out H0.out H9.out (by decide) 43002 FQ.out (by decide) QM.out).mono ?_
        rintro e wa ⟨vs3, rfl, ta, ga, s3, l9, ba⟩
        have GB := hid ga
        have T3 := hid s3
        have I9 := hid l9
        have I1 := hid ((ba 1 (by decide) (by decide)).trans H1.out)
        have I0 := hid ((ba 0 (by decide) (by decide)).trans H0.out)
        have I10 := hid (H10.out.keep (ba 10 (by decide) (by decide)))
        have I5 := hid ((ba 5 (by decide) (by decide)).trans H5.out)
        clear ga s3 l9 ba GA H0 H1 H9 H10 H5
        go_wp2_with fail
        refine (gx_sum (i := 1) (k := 10) (m := 4) (lo := some kb) GB.out I1.out I10.out (by decide) 43002 FQ.out (by decide) QM.out).mono ?_
        rintro e wb ⟨vs4, rfl, tb, gb, s4, l10, bb⟩
        have GC := hid gb
        have T4 := hid s4
        have J3 := hid ((bb 3 (by decide) (by decide)).trans T3.out)
        have J9 := hid (I9.out.keep (bb 9 (by decide) (by decide)))
        have J10 := hid l10
        have J0 := hid ((bb 0 (by decide) (by decide)).trans I0.out)
        have J1 := hid ((bb 1 (by decide) (by decide)).trans I1.out)
        have hcc := gb.k ((bb 5 (by decide) (by decide)).trans I5.out)
        have c3 := hcc.cell 3 _ rfl
        rw [hqo] at c3
        have o3 : By.Own wb 0 vs3 qo Q.tf := by have := gb.all 3; rw [J3.out] at this; have this : By.Own wb 0 vs3 sa.out Q.tf := this; rwa [A2.out] at this
        have o4 : By.Own wb 0 vs4 qo Q.tf := by have := gb.all 4; rw [s4] at this; have this : By.Own wb 0 vs4 sb.out Q.tf := this; rwa [E2.out] at this
        have O3 := hid o3
        have O4 := hid o4
        obtain ⟨a3, p3, rfl⟩ := By.RB.isSlice o3.reads
        obtain ⟨a4, p4, rfl⟩ := By.RB.isSlice o4.reads
        clear gb s4 l10 bb hcc o3 o4 GB T3 I9 I0 I1 I10 I5
        go_wp2_with fail
        refine (same_true _ _ qo _ _ _ O3.out.reads O4.out.reads (by omega) (fun _ _ => rfl)).mono ?_
        rintro e wc ⟨rfl, d1, rfl⟩
        have gc := GC.out.below (below_drewN wb d1)
        obtain ⟨wc, hwc⟩ : ∃ z, wb.drewN d1 = z := ⟨_, rfl⟩
        rw [hwc] at gc ⊢
        have GD := hid gc
        clear gc hwc GC O3 O4 c3
        go_wp2_with fail
        refine (gx_form (i := 0) (m := 11) GD.out J0.out).mono ?_
        rintro e wd ⟨v11, rfl, td, gd, s11, bd⟩
        have GE := hid gd
        have S11 := hid (show td 11 = tB v11 Q.fl Q.ff from s11)
        have BD := hid bd
        clear gd s11 bd GD
        go_wp2_with fail
        refine (gx_form (i := 1) (m := 12) GE.out ((BD.out 1 (by decide) (by decide)).trans J1.out)).mono ?_
        rintro e we ⟨v12, rfl, te, ge, s12, be⟩
        have GF := hid ge
        have BE := hid (show ∀ m, m ≠ 11 → m ≠ 12 → te m = tb m from fun m h1 h2 => (be m h2 h2).trans (BD.out m h1 h1))
        have o11 : By.Own we 0 v11 Q.fl Q.ff := by have := ge.all 11; rw [(be 11 (by decide) (by decide)).trans S11.out] at this; exact this
        have o12 : By.Own we 0 v12 Q.fl Q.ff := by have := ge.all 12; rw [s12] at this; exact this
        have SM := hid (same_true v11 v12 Q.fl Q.ff Q.ff we o11.reads o12.reads (by have := (fl_fine QFH.out).2; omega) (fun _ _ => rfl))
        clear ge s12 be o11 o12 GE S11 BD
        go_wp2_with fail
        refine SM.out.mono ?_
        rintro e wf ⟨rfl, d2, rfl⟩
        have gf := GF.out.below (below_drewN we d2)
        obtain ⟨wf, hwf⟩ : ∃ z, we.drewN d2 = z := ⟨_, rfl⟩
        rw [hwf] at gf ⊢
        have GG := hid gf
        have FS := hid (PX.eS_fit QFH.out FQ.out (by decide))
        have K9 := hid (J9.out.keep (BE.out 9 (by decide) (by decide)))
        have K10 := hid (J10.out.keep (BE.out 10 (by decide) (by decide)))
        obtain ⟨rv1, hl1⟩ := K9.out.led gf
        have hlen9 := FS.out.len
        have R1 := hid (runs22 lb rv1 _ _ hl1 (by show (Q.eS LQ).length * 24 ≤ _; omega))
        clear gf hwf SM GF hl1 hlen9
        go_wp2_with fail
        refine R1.out.mono ?_
        rintro e wg ⟨u1, rfl, hu1, hb1⟩
        have GH := hid (GG.out.below hb1)
        have U1 := hid hu1
        obtain ⟨rv2, hl2⟩ := K10.out.led GH.out
        have hlen10 := FS.out.len
        have R2 := hid (runs22 kb rv2 _ _ hl2 (by show (Q.eS LQ).length * 24 ≤ _; omega))
        clear hu1 hb1 R1 GG hl2 hlen10
        go_wp2_with fail
        refine R2.out.mono ?_
        rintro e wh ⟨u2, rfl, hu2, hb2⟩
        have GI := hid (GH.out.below hb2)
        have hlen11 := FS.out.len
        have sr := same14 u1 u2 (Q.eS LQ) (Q.eS LQ) wh (U1.out.below hb2).reads hu2.reads (by omega) (by omega)
        rw [decide_eq_true (show (Q.eS LQ) = (Q.eS LQ) from rfl)] at sr
        have SR := hid sr
        clear sr
        clear hu2 hb2 R2 GH U1 hlen11
        go_wp2_with fail
        refine SR.out.mono ?_
        rintro e wi ⟨rfl, d3, rfl⟩
        have gi := GI.out.below (below_drewN wh d3)
        obtain ⟨wi, hwi⟩ : ∃ z, wh.drewN d3 = z := ⟨_, rfl⟩
        rw [hwi] at gi ⊢
        have GJ := hid gi
        have M3 := hid ((BE.out 3 (by decide) (by decide)).trans J3.out)
        have M1 := hid ((BE.out 1 (by decide) (by decide)).trans J1.out)
        clear gi hwi SR GI
        go_wp2_with fail
        have VV := hid (gx_verify (i := 1) (k := 10) (lo := some kb) GJ.out M1.out K10.out 123003 (.slice a3 qo p3) Q.tf FS.out (by decide) QM.out (by
          show ∀ w', _ → By.RB w' _ sb.out _
          rw [E2.out]
          have h3 := M3.out
          have h3 : te 3 = tB (.slice a3 qo p3) qo Q.tf := by rw [h3]; show tB _ sa.out Q.tf = _; rw [A2.out]
          exact GJ.out.rdO h3 (fun j hj e => GJ.out.ap 3 10 (by decide) j e hj)))
        rw [show By.eqB ({ sb with p := Q } : SX).p.tf Q.tf ({ sb with p := Q } : SX).out = true from eqB_refl _ _] at VV
        refine VV.out.mono ?_
        rintro e wj ⟨rfl, tj, gj, lj, bj⟩
        have GK := hid gj
        have O1 := hid ((bj 1 (by decide) (by decide)).trans M1.out)
        have O3' := hid (show tj 3 = tB (.slice a3 qo p3) qo Q.tf from by rw [(bj 3 (by decide) (by decide)).trans M3.out]; show tB _ sa.out Q.tf = _; rw [A2.out])
        have O9 := hid (K9.out.keep (bj 9 (by decide) (by decide)))
        clear gj lj bj GJ VV M3 M1 K9 K10 BE
        have o3 := GK.out.all 3
        rw [O3'.out] at o3
        have CP := hid (copy16 (.slice a3 qo p3) qo Q.tf wj (show By.Own wj 0 _ qo Q.tf from o3).reads (by omega))
        clear o3
        go_wp2_with fail
        refine CP.out.mono ?_
        rintro e wk ⟨od, rfl, hod, hbk⟩
        have gk := GK.out.one 13 (tB od qo Q.tf) (Kp.of_below (fun _ => False) hbk) (fun _ e => e.elim) (Sh.own_mono hod (Nat.zero_le _)) (fun j hj => .inr (own_row hod j hj))
        obtain ⟨tk, htk⟩ : ∃ z, up tj 13 (tB od qo Q.tf) = z := ⟨_, rfl⟩
        have P13 : tk 13 = tB od qo Q.tf := by rw [← htk]; exact up_at _ _ _
        have PB : ∀ m, m ≠ 13 → tk m = tj m := fun m hm => by rw [← htk]; exact up_ne _ _ hm
        rw [htk] at gk
        obtain ⟨go', co, rfl, -⟩ := own_cells hod (by omega)
        have GL := hid gk
        have hxx := (HX2.out wk gk.bel).2
        have hxo := (HX2.out wk gk.bel).1
        have x1 := hxx.cell 1 _ rfl
        have x2 := hxx.cell 2 _ rfl
        have PN := hid (fun W => pick_n x.at' qo (by omega) (by omega) W)
        have OD := hid (Sh.own_mono hod (Nat.zero_le _))
        have XB := hid hxo.bi
        have Q13 := hid P13
        have QB := hid PB
        have CA := hid (show ∀ r, r < qo → wk.cell? ⟨go', r, none⟩ = some (.int .u8 (Q.tf r)) ∧ wk.frozen? ⟨go', r, none⟩ = false from fun r hr => ⟨own_at OD.out r hr, by
          obtain ⟨cs8, hb8⟩ := own_kind (j := go') OD.out rfl
          exact hb8.frozen r⟩)
        clear hod hbk gk htk P13 PB hxx hxo CP GK
        go_wp2_with fail
        go_region_law (go_simp; go_at_call 35; refine (PN.out _).mono ?_; rintro e w' ⟨⟨r, rfl, hr⟩, rfl⟩; have cr := (CA.out r hr).1; have fr := (CA.out r hr).2; have hr' : (r : Int) < (qo : Int) := by omega)
        all_goals
          go_simp
          go_wp2_with fail
          obtain ⟨xv, hxv⟩ : ∃ z, bits BinOp.xor IntKind.u8 (Q.tf r) x.bit = z := ⟨_, rfl⟩
          have xb : 0 ≤ xv ∧ xv < 256 := by rw [← hxv]; exact Dg.bx_b _ _
          have xs := xor_self (OD.out.1 r) XB.out
          rw [hxv] at xs ⊢
          have hne : By.eqB Q.tf (fun i => if i = r then xv else Q.tf i) qo = (x.bit == 0) := by
            rw [← xs]
            by_cases e : xv = Q.tf r
            · rw [show (fun i => if i = r then xv else Q.tf i) = Q.tf from funext fun i => by
                by_cases h : i = r
                · rw [if_pos h, h, e]
                · rw [if_neg h], e, beq_self_eq_true]
              exact eqB_refl _ _
            · rw [beq_eq_false_iff_ne.2 e]
              exact eqB_false.2 (fun h => e (by have := h r hr; simpa using this.symm))
          have NE := hid hne
          have o7 := (own_store OD.out r xv xb).1
          have hB : ∀ j, (tk 13).F j ↔ j = go' := fun j => by rw [Q13.out]; show some go' = some j ↔ _; constructor; exact fun e => (Option.some.inj e).symm; exact fun e => by rw [e]
          have g7 := GL.out.one 13 (tB (.slice (some ⟨go', 0, none⟩) qo co) qo (fun i => if i = r then xv else Q.tf i)) (Kp.setCell go' r (.int .u8 xv)) (fun j e _ => (hB j).2 e) o7 (fun j hj => .inl ((hB j).2 ((Option.some.inj hj).symm)))
          obtain ⟨tm, htm⟩ : ∃ z, up tk 13 (tB (.slice (some ⟨go', 0, none⟩) qo co) qo (fun i => if i = r then xv else Q.tf i)) = z := ⟨_, rfl⟩
          have m13 : tm 13 = tB (.slice (some ⟨go', 0, none⟩) qo co) qo (fun i => if i = r then xv else Q.tf i) := by rw [← htm]; exact up_at _ _ _
          have mB : ∀ m, m ≠ 13 → tm m = tj m := fun m hm => by rw [← htm]; exact (up_ne _ _ hm).trans (QB.out m hm)
          rw [htm] at g7
          have g8 := g7.below (below_drewN _ 1)
          have VV := hid (gx_verify (i := 1) (k := 9) (lo := some lb) g8 ((mB 1 (by decide)).trans O1.out) (O9.out.keep (mB 9 (by decide))) 123003 (.slice (some ⟨go', 0, none⟩) qo co) (fun i => if i = r then xv else Q.tf i) FS.out (by decide) QM.out (by
            show ∀ w', _ → By.RB w' _ sb.out _
            rw [E2.out]
            exact g8.rdO m13 (fun j hj e => g8.ap 13 9 (by decide) j e hj)))
          rw [show By.eqB ({ sb with p := Q } : SX).p.tf (fun i => if i = r then xv else Q.tf i) ({ sb with p := Q } : SX).out = (x.bit == 0) from by show By.eqB Q.tf _ sb.out = _; rw [E2.out]; exact NE.out] at VV
          clear hne o7 hB g7 htm g8
          refine VV.out.mono ?_
          rintro e wm ⟨rfl, tn, gn, -, bn⟩
          have GN := hid gn
          have N1 := hid ((bn 1 (by decide) (by decide)).trans ((mB 1 (by decide)).trans O1.out))
          clear gn bn VV m13 mB xs xb hxv NE
          have q1 : (1 : Int) ≤ (qo : Int) := by omega
          go_wp2_with fail
          obtain ⟨A, c', hA⟩ : ∃ A c', Sh.sub (some ⟨go', 0, none⟩) co 1 (qo : Int) = .slice A (qo - 1) c' := ⟨_, _, by unfold Sh.sub; rw [Int.toNat_natCast]; rfl⟩
          rw [hA]
          have hs := GN.out.all 1
          rw [N1.out] at hs
          have VL := hid (vf_len { sb with p := Q } (qo - 1) c' A (pt lb) wm hs (by show qo - 1 ≠ sb.out; rw [E2.out]; omega))
          clear hs hA q1
          refine VL.out.mono ?_
          rintro e wn ⟨rfl, rfl⟩
          have x1 := (HX2.out _ GN.out.bel).2.cell 1 _ rfl
          have x2 := (HX2.out _ GN.out.bel).2.cell 2 _ rfl
          have x0 := (HX2.out _ GN.out.bel).2.cell 0 _ rfl
          clear VL
          have hbl := B2.out.trans (GN.out.bel.mono B2.out.size)
          obtain ⟨bv, hbv⟩ : ∃ z, (x.bit == 0) = z := ⟨_, rfl⟩
          have hb0 : x.bit = 0 ∧ bv = true ∨ ¬ x.bit = 0 ∧ bv = false := by
            by_cases e : x.bit = 0
            · exact .inl ⟨e, by rw [← hbv, e]; rfl⟩
            · exact .inr ⟨e, by rw [← hbv]; exact beq_eq_false_iff_ne.2 e⟩
          rw [hbv]
          clear hbv GN N1 OD XB CA PN GL Q13 QB O1 O9 FS QM HX2 B2
          rcases hb0 with ⟨hb0, rfl⟩ | ⟨hb0, rfl⟩
          all_goals
            go_wp2_with fail
            go_ret
            first
            | exact ⟨rfl, hbl⟩
            | exact ⟨by show Ending.returned (Value.bool !(x.bit == 0)) = _; rw [beq_eq_false_iff_ne.2 hb0]; rfl, hbl⟩
end Go.Proofs.YtpohogpkfdebdaaGreatDoor.Oc
