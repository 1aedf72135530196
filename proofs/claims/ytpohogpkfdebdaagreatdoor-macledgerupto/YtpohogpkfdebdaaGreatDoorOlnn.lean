/- MacNone. -/
import Derived.Test.YtpohogpkfdebdaaGreatDoorObgu
import Derived.Test.YtpohogpkfdebdaaGreatDoorZr
namespace Go.Proofs.YtpohogpkfdebdaaGreatDoor.Oc
open Go.ChangeShapes Go.WideShapes Go.ChangeAt Go.RowKit
open Go.Proofs.YtpohogpkfdebdaaGreatDoor.By
open Go.Proofs.YtpohogpkfdebdaaGreatDoor.Sh (Blk size_alloc)
open Go.Proofs.YtpohogpkfdebdaaGreatDoor.Dg (BB LG lpv Lt Tl IsMk MB)
theorem Ledg.led {t : Nat → Th} {k lb : Nat} {L : List Rn} {w0 W : World} {B : Nat} (h : Ledg t k (some lb) L) (hG : GX w0 B t W) : ∃ rv, Led W lb rv L := by
  obtain ⟨rv, e⟩ := h
  have := hG.all k
  rw [e] at this
  exact ⟨rv, this⟩
theorem NoS.below {w w' : World} {v : Value} (h : NoS w v) (hb : Below w.heap.size w w') : NoS w' v := by
  rcases h with e | ⟨s, e, h⟩
  · exact .inl e
  · exact .inr ⟨s, e, h.below hb⟩
set_option maxRecDepth 20000 in
set_option maxHeartbeats 2000000 in
theorem empty1 (m : Value) (pa : Option Addr) (pn pc : Nat) (w : World) (h : NoS w m) :
    Calls Tryz.prog 37 #[m, .slice pa pn pc] w fun e w' => e = .returned (.bool true) ∧ Below w.heap.size w w' := by
  have H := hid h
  clear h
  go_enter Tryz.func37, Tryz.ntmps37
  go_wp2_with fail
  refine (new9 w).mono ?_
  rintro e w1 ⟨rfl, hl, hb⟩
  have HL := hid hl
  have HB := hid hb
  have HN := hid (H.out.below hb)
  clear hl hb H
  go_wp2_with (first
    | (go_at_call 31; refine (HN.out.sum _).mono ?_; rintro e w' ⟨rfl, rfl⟩)
    | (go_at_call 27; refine (HN.out.write _ _).mono ?_; rintro e w' ⟨rfl, rfl⟩)
    | (go_at_call 33; refine (HN.out.verify _ _).mono ?_; rintro e w' ⟨rfl, rfl⟩)
    | (go_at_call 30; refine (HN.out.wipe _).mono ?_; rintro e w' ⟨rfl, rfl⟩)
    | (go_at_call 29; refine HN.out.clone.mono ?_; rintro e w' ⟨rfl, rfl⟩)
    | (go_at_call 32; refine HN.out.form.mono ?_; rintro e w' ⟨rfl, rfl⟩)
    | (go_at_call 24; refine HN.out.alg.mono ?_; rintro e w' ⟨rfl, rfl⟩)
    | (go_at_call 25; refine HN.out.out.mono ?_; rintro e w' ⟨rfl, rfl⟩)
    | (go_at_call 15; refine (len20 _ _ _ _ HL.out).mono ?_; rintro e w' ⟨rfl, rfl⟩))
  go_ret
  exact ⟨rfl, HB.out⟩
theorem fl_pos (p : PX) : 0 < p.fl ∧ p.fl ≤ 100000 ∨ ∃ k ws m f, p = .c k ws m f := by
  cases p with
  | h a K m f => cases a; exact .inl (by show 0 < 312 ∧ 312 ≤ 100000; decide); exact .inl (by show 0 < 600 ∧ 600 ≤ 100000; decide)
  | c k ws m f => exact .inr ⟨k, ws, m, f, rfl⟩
  | u st r z q x => exact .inl (by show 0 < 203 ∧ 203 ≤ 100000; decide)
theorem fl_fine {p : PX} (h : p.Fine) : 0 < p.fl ∧ p.fl ≤ 100000 := by
  rcases fl_pos p with e | ⟨k, ws, m, f, rfl⟩
  · exact e
  · have hk := h.1
    show 0 < Vm.fml k ∧ Vm.fml k ≤ 100000
    unfold Vm.fml
    omega
def kof (a : Option Addr) (n c : Nat) (g : Nat → Int) : CE := ⟨0, 0, a, n, c, none, 0, 0, g, fun _ => 0⟩
theorem cas2 (q r : CE) {w : World} {b : Nat} (h : Blk w b (cel q ++ cel r) 25) : Cas w b 2 (fun i => if i = 0 then q else r) := fun i hi => by
  have : i = 0 ∨ i = 1 := by omega
  rcases this with rfl | rfl
  · exact ⟨h.cell 0 _ rfl, h.cell 1 _ rfl, h.cell 2 _ rfl, h.cell 3 _ rfl⟩
  · exact ⟨h.cell 4 _ rfl, h.cell 5 _ rfl, h.cell 6 _ rfl, h.cell 7 _ rfl⟩
theorem ok8 (F : Nat) (h : F ≤ 100000) : (⟨8, (F : Int), 1⟩ : Rn).Ok := by
  constructor <;> simp <;> omega
theorem t8 {w0 W : World} {B : Nat} {t : Nat → Th} (_ : GX w0 B t W) (h : t 8 = Th.no) : Ledg t 8 none [] := h
set_option maxRecDepth 20000 in
set_option maxHeartbeats 8000000 in
theorem none_walk (q : CE) (pa : Option Addr) (pn pc : Nat) (g : Nat → Int) (w : World) (hk : KA w) (hq : q.Ok w) (lp : pn ≤ 140737488355328) :
    Calls Tryz.prog 7 #[.agg #[.int .u8 (q.al : Int), .slice q.ka q.kn q.kc, .slice q.ca q.cn q.cc, .int .i64 q.out], .slice pa pn pc] w fun e w' => e = .returned (.bool true) ∧ Below w.heap.size w w' := by
  have b0 := below_alloc w (.cells #[.int .u8 (q.al : Int), .slice q.ka q.kn q.kc, .slice q.ca q.cn q.cc, .int .i64 q.out] 25)
  have BG := hid (begun1 q _ (hq.below b0))
  have HK := hid (hk.below b0)
  have B0 := hid b0
  have c0 := (Blk.new w (cel q) 25).cell 0 _ rfl
  have c1 := (Blk.new w (cel q) 25).cell 1 _ rfl
  have c2 := (Blk.new w (cel q) 25).cell 2 _ rfl
  have c3 := (Blk.new w (cel q) 25).cell 3 _ rfl
  rw [cel_arr] at c0 c1 c2 c3
  clear hk hq b0
  go_enter Tryz.func7, Tryz.ntmps7
  go_wp2_with fail
  refine BG.out.mono ?_
  rintro e w1 ⟨c, rfl, hc, hcode, hkn, hcn, hb1⟩
  have HC := hid (show ∀ w', Below w1.heap.size w1 w' → c.Ok w' from fun w' hb => hc.below hb)
  have B1 := hid (below_next B0.out hb1)
  obtain ⟨t1, G1, k1, bu1⟩ := gx_var (GX.start w1 (HK.out.below hb1)) 5 (cel c) 25
  have N8 := hid (bu1 8 (by decide) (by decide))
  clear bu1
  have hcc := G1.k k1
  rw [cel_arr] at G1 hcc ⊢
  have c0 := hcc.cell 0 _ rfl
  have c1 := hcc.cell 1 _ rfl
  have c2 := hcc.cell 2 _ rfl
  have c3 := hcc.cell 3 _ rfl
  have LK := hid hc.lk
  have LC := hid hc.lc
  have GG := hid G1
  have K1 := hid k1
  have HCODE := hid hcode
  have bz := size_alloc w1 (.cells #[.int .u8 (c.al : Int), .slice c.ka c.kn c.kc, .slice c.ca c.cn c.cc, .int .i64 c.out] 25)
  have S1 := hid (small0 (w1.heap.size + 1) 2 (fun i => if i = 0 then c else kof pa pn pc g) ((w1.alloc (.cells #[.int .u8 (c.al : Int), .slice c.ka c.kn c.kc, .slice c.ca c.cn c.cc, .int .i64 c.out] 25)).alloc (.cells #[.int .u8 (c.al : Int), .slice c.ka c.kn c.kc, .slice c.ca c.cn c.cc, .int .i64 c.out, .int .u8 0, .slice pa pn pc, .slice none 0 0, .int .i64 0] 25)) (cas2 c (kof pa pn pc g) (Blk.newAt (w1.alloc (.cells #[.int .u8 (c.al : Int), .slice c.ka c.kn c.kc, .slice c.ca c.cn c.cc, .int .i64 c.out] 25)) #[.int .u8 (c.al : Int), .slice c.ka c.kn c.kc, .slice c.ca c.cn c.cc, .int .i64 c.out, .int .u8 0, .slice pa pn pc, .slice none 0 0, .int .i64 0] (cel c ++ cel (kof pa pn pc g)) 25 _ bz.symm rfl)) (fun i hi => by
    have : i = 0 ∨ i = 1 := by omega
    rcases this with rfl | rfl
    · exact ⟨LK.out, LC.out⟩
    · exact ⟨lp, Nat.zero_le _⟩) (by decide))
  have G2 := hid (G1.below (below_alloc _ (.cells #[.int .u8 (c.al : Int), .slice c.ka c.kn c.kc, .slice c.ca c.cn c.cc, .int .i64 c.out, .int .u8 0, .slice pa pn pc, .slice none 0 0, .int .i64 0] 25)))
  clear hc hb1 hcode hcc G1 k1 BG B0 HK GG bz
  go_wp2_with fail
  refine S1.out.mono ?_
  rintro e w2 ⟨⟨y, rfl, hy⟩, d, rfl⟩
  have G3 := G2.out.below (below_drewN _ d)
  obtain ⟨W3, hW3⟩ : ∃ x, ((w1.alloc (.cells #[.int .u8 (c.al : Int), .slice c.ka c.kn c.kc, .slice c.ca c.cn c.cc, .int .i64 c.out] 25)).alloc (.cells #[.int .u8 (c.al : Int), .slice c.ka c.kn c.kc, .slice c.ca c.cn c.cc, .int .i64 c.out, .int .u8 0, .slice pa pn pc, .slice none 0 0, .int .i64 0] 25)).drewN d = x := ⟨_, rfl⟩
  rw [hW3] at G3 ⊢
  clear S1 G2 hW3 c0 c1 c2 c3
  cases y with
  | false =>
    go_wp2
    go_ret
    exact ⟨rfl, B1.out.trans (G3.bel.mono B1.out.size)⟩
  | true =>
    have hk3 : c.kn ≤ 3000 := (hy rfl 0 (by decide)).1
    clear hy
    obtain ⟨-, -, -, -, ho1, ho2⟩ := code_ok HCODE.out
    obtain ⟨qo, hqo⟩ : ∃ n : Nat, c.out = n := ⟨c.out.toNat, by omega⟩
    have hcd := HCODE.out
    rw [hqo] at hcd
    have hcc := G3.k K1.out
    have c0 := hcc.cell 0 _ rfl
    have c1 := hcc.cell 1 _ rfl
    have c2 := hcc.cell 2 _ rfl
    have c3 := hcc.cell 3 _ rfl
    rw [hqo] at c3
    have G3' := hid G3
    clear G3 hcc
    go_wp2_with fail
    refine (gx_begin (i := 0) (k := 8) (lo := none) (L := []) G3'.out (t8 G3'.out N8.out) (by decide) c.al c.kn c.cn qo 0 _ _ c.f c.h Fit.nil (by decide) (G3'.out.rdA (fun w' hb => (HC.out w' hb).rk) (fun j hj => G3'.out.lo 8 j hj)) (G3'.out.rdA (fun w' hb => (HC.out w' hb).rc) (fun j hj => G3'.out.lo 8 j hj)) hcd (by omega)).mono ?_
    rintro e w4 ⟨x, rfl, -, -, -, t4, g4, s4, -, b4⟩
    have G4 := hid g4
    have S4 := hid s4
    clear g4 s4 b4 c0 c1 c2 c3 G3'
    go_wp2_with fail
    refine (gx_led G4.out 9).mono ?_
    rintro e w5 ⟨lb, t5, rfl, g5, l5, b5⟩
    have G5 := hid g5
    have L5 := hid l5
    have S5 := hid ((b5 0 (by decide) (by decide)).trans S4.out)
    clear g5 l5 b5 G4 S4
    go_wp2_with fail
    refine (gx_form (m := 2) G5.out S5.out).mono ?_
    rintro e w6 ⟨v, rfl, t6, g6, v6, b6⟩
    have hfl := fl_fine (show x.p.Fine from by have := G5.out.all 0; rw [S5.out] at this; exact IsX.fine (IsS.mx this))
    have hv := g6.all 2
    rw [v6] at hv
    obtain ⟨va, vc, rfl⟩ := By.RB.isSlice (show By.RB w6 v x.p.fl x.p.ff from By.Own.reads hv)
    have G6 := hid g6
    have S6 := hid ((b6 0 (by decide) (by decide)).trans S5.out)
    have L6 := hid (L5.out.keep (b6 9 (by decide) (by decide)))
    clear g6 v6 b6 hv G5 L5 S5
    obtain ⟨F, hF⟩ : ∃ F, x.p.fl = F := ⟨_, rfl⟩
    rw [hF] at hfl ⊢
    have hF0 : ¬ (F : Int) = 0 := by omega
    have hF1 : ((F : Int) == 0) = false := beq_eq_false_iff_ne.2 hF0
    go_wp2_with fail
    refine (gx_wipe (i := 0) (k := 9) (lo := some lb) G6.out S6.out L6.out (by decide) 0 Fit.nil (by decide)).mono ?_
    rintro e w7 ⟨rfl, t7, g7, s7, l7, b7⟩
    rw [hF] at l7
    obtain ⟨rv, hled⟩ := l7.led g7
    have RU := hid (runs22 lb rv _ _ hled (by show (putL [] (⟨8, (F : Int), 1⟩ : Rn)).length * 24 ≤ _; simp [putL]))
    have G7 := hid g7
    have S7 := hid s7
    clear g7 s7 l7 b7 hled G6 S6 L6
    go_wp2_with fail
    refine RU.out.mono ?_
    rintro e w8 ⟨u8, rfl, hu8, hb8⟩
    have U8 := hid hu8
    have G8 := hid (G7.out.below hb8)
    clear hu8 hb8 G7 RU
    go_wp2_with fail
    have ol := own_lit w8 [⟨8, (F : Int), 1⟩] #[.int .u8 8, .int .i64 (F : Int), .int .i64 1] (fun r hr => by rw [List.mem_singleton.1 hr]; exact ok8 F (by omega)) rfl (by show 1 ≤ maxLen; decide)
    refine (same14 _ _ (putL [] ⟨8, (F : Int), 1⟩) [⟨8, (F : Int), 1⟩] _ ((U8.out.alloc _).reads) ol.reads (by simp [putL]) (by show 1 < 1000000000000000000; decide)).mono ?_
    rw [decide_eq_true (show putL [] ⟨8, (F : Int), 1⟩ = [⟨8, (F : Int), 1⟩] from rfl)]
    rintro e w9 ⟨rfl, d9, rfl⟩
    have G9 := G8.out.below (below_next (below_alloc w8 (.cells #[.int .u8 8, .int .i64 (F : Int), .int .i64 1] 78)) (below_drewN _ d9))
    obtain ⟨W9, hW9⟩ : ∃ x, (w8.alloc (.cells #[.int .u8 8, .int .i64 (F : Int), .int .i64 1] 78)).drewN d9 = x := ⟨_, rfl⟩
    rw [hW9] at G9 ⊢
    have GA := hid G9
    clear ol U8 G8 hW9 G9
    go_wp2_with fail
    refine (lives1 _ GA.out.ka).mono ?_
    rintro e wa ⟨rfl, hba⟩
    have GB := hid (GA.out.below hba)
    clear hba GA
    go_wp2_with fail
    refine (empty1 _ pa pn pc wa (.inl rfl)).mono ?_
    rintro e wb ⟨rfl, hbb⟩
    have GC := hid (GB.out.below hbb)
    clear hbb GB
    go_wp2_with fail
    have Z9 := Blk.new wb nos 84
    refine (empty1 _ pa pn pc _ (.inr ⟨_, rfl, Z9⟩)).mono ?_
    rintro e wc ⟨rfl, hbc⟩
    have GD := hid (GC.out.below (below_next (below_alloc wb (.cells nos.toArray 84)) hbc))
    clear hbc Z9 GC
    have hN := GD.out.all 0
    rw [S7.out] at hN
    have EN := hid (empty1 (pt x.s) pa pn pc wc (.inr ⟨_, rfl, hN⟩))
    clear hN
    go_wp2_with fail
    refine EN.out.mono ?_
    rintro e we ⟨rfl, hbe⟩
    have GE := hid (GD.out.below hbe)
    clear hbe EN GD
    go_wp2
    go_ret
    exact ⟨rfl, B1.out.trans (GE.out.bel.mono B1.out.size)⟩
end Go.Proofs.YtpohogpkfdebdaaGreatDoor.Oc
