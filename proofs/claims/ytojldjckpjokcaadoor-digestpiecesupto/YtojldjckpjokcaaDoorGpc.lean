/- The law DigestPieces. -/
import Derived.Test.YtojldjckpjokcaaDoorGps
import Derived.Test.YtojldjckpjokcaaDoorGmt2
import Derived.Deep.RegionHeld3
namespace Go.Proofs.YtojldjckpjokcaaDoor.Dg
open Go.ChangeShapes Go.WideShapes Go.ChangeAt Go.RowKit
open Go.Proofs.YtojldjckpjokcaaDoor.By
open Go.Proofs.YtojldjckpjokcaaDoor.Sh (Blk size_alloc)
set_option maxRecDepth 8000 in
set_option maxHeartbeats 4000000 in
theorem pieces256 (A C : Option Addr) (n cap nc cc : Nat) (f g : Nat → Int) (w : World) (hr : By.RB w (.slice A n cap) n f) (hg : By.RB w (.slice C nc cc) nc g) (hk : KT w) (hnc : nc ≤ 1048576) :
    Calls Tryd.prog 3 #[.bool false, .slice A n cap, .slice C nc cc] w fun e w' => e = .returned (.bool true) ∧ Below w.heap.size w w' := by
  have HR := hid hr
  have HG := hid hg
  have HK := hid hk
  have H1 := hid hk.lt
  clear hr hg hk
  go_enter Tryd.func3, Tryd.ntmps3
  go_wp2_with fail
  refine (lives1 _ HK.out).mono ?_
  rintro e w1 ⟨rfl, hb⟩
  have b1 := hid hb
  clear hb
  by_cases hn : 8192 < n
  · go_wp2
    go_ret
    exact ⟨rfl, b1.out⟩
  · go_wp2_with fail
    refine (of256 _).mono ?_
    rintro e w2 ⟨rfl, hb⟩
    have b2 := hid (below_next (below_next b1.out hb) (below_alloc w2 (.cells #[.int .u8 1, .int .i64 32, .int .i64 64, .int .u8 1, .int .i64 64, .func (.func 18) #[] #[], .func (.func 19) #[] #[]] 31)))
    have h2 := hid (Sh.Blk.new w2 [.int .u8 1, .int .i64 32, .int .i64 64, .int .u8 1, .int .i64 64, .func (.func 18) #[] #[], .func (.func 19) #[] #[]] 31)
    clear hb b1
    go_wp2_with fail
    refine (new256 _).mono ?_
    rintro e w3 ⟨b, hbb, rfl, hs, hb⟩
    have s3 := hid hs
    have b3 := hid (below_next b2.out hb)
    have h3 := hid (h2.out.below hb)
    have hbb' := hid (Nat.le_trans b2.out.size hbb)
    clear hs hb hbb h2 b2
    go_wp2_with fail
    refine (new9 _).mono ?_
    rintro e w4 ⟨rfl, hl, hb⟩
    have l4 := hid hl
    have s4 := hid (s3.out.below hb)
    have b4 := hid (below_next b3.out hb)
    have h4 := hid (h3.out.below hb)
    have z4 := hid b3.out.size
    clear hl hb s3 b3 h3
    go_wp2_with fail
    refine (Sg.cut27 A C n cap nc cc f g _ (HR.out.below b4.out) (HG.out.below b4.out) (by omega) hnc).mono ?_
    rintro e w5 ⟨pv, vs, rfl, hrow, hcut, hb, hvl, -, -⟩
    have P5 := hid (show PS w false b w3.heap.size w2.heap.size 0 n f [.int .u8 1, .int .i64 32, .int .i64 64, .int .u8 1, .int .i64 64, .func (.func 18) #[] #[], .func (.func 19) #[] #[]] (.slice none 0 0) pv vs vs w5 from ⟨(by
      have := s4.out.below hb
      exact (show Sh.St w5 b 0 f from (show Sh.St w5 b 0 (fun _ => 0) from this).congr HR.out.1 (fun i hi => by omega))), l4.out.below hb, h4.out.below hb, Sg.row_mono hrow b4.out.size, hcut.mono b4.out.size, below_next b4.out hb, hbb'.out, z4.out, fun g hg => by simp [Value.ownBlock] at hg⟩)
    have VL := hid hvl
    clear hrow hcut hb hvl s4 l4 h4 b4
    obtain ⟨pa, pc, rfl⟩ := Sg.row_slice P5.out.row
    go_wp2_with fail
    go_loopw [14] (fun x wr => ∃ (i m : Nat) (rv : Value), i ≤ vs.length ∧ x = .int .i64 i ∧ PS w false b w3.heap.size w2.heap.size m n f [.int .u8 1, .int .i64 32, .int .i64 64, .int .u8 1, .int .i64 64, .func (.func 18) #[] #[], .func (.func 19) #[] #[]] rv (.slice pa vs.length pc) vs (vs.drop i) wr) (fun x _ => vs.length - (intOf x).toNat)
    case atStart => exact ⟨0, 0, _, by omega, rfl, P5.out⟩
    case round =>
      clear P5
      obtain ⟨i, m, rv, hi, rfl, hP⟩ := hrel
      have P := hid hP
      clear hP
      by_cases h1 : i < vs.length
      · obtain ⟨x, hx⟩ : ∃ x, vs[i]? = some x := ⟨_, List.getElem?_eq_getElem h1⟩
        obtain ⟨ga, gc, e, hcell⟩ := Sg.rowL_cell P.out.row hx
        simp only [Value.slice.injEq, true_and] at e
        obtain ⟨rfl, rfl⟩ := e
        rw [Nat.zero_add] at hcell
        have hd : vs.drop i = x :: vs.drop (i + 1) := by rw [List.drop_eq_getElem_cons h1]; congr 1; rw [List.getElem?_eq_getElem h1] at hx; exact Option.some.inj hx
        have P1 := hid ((hd ▸ P.out).below (below_drewN _ 1))
        have VL' := VL.out
        have HX := hid hx
        clear P hd hx
        go_upto_region 19 with fail
        go_region_held3 (fun W => W.cell? ⟨ga, i, none⟩ = some x) (go_keep) (first | (go_at_call 104; go_must (refine (P1.out.write HK.out (by omega)).mono ?_; rintro e x1 ⟨rfl, q, rv', hmq, hP⟩; have P2 := hid hP; have y1 := rowL_cell' hP.row HX.out; clear hP)))
        clear y1 hcell
        go_wp2
        exact ⟨⟨i + 1, m + q, rv', by omega, by go_num, P2.out⟩, by simp [intOf]; omega⟩
      · have hd : vs.drop i = [] := List.drop_eq_nil_of_le (by omega)
        have P1 := hid (hd ▸ P.out)
        obtain rfl : m = n := P1.out.cuts
        clear P hd
        have hT := hid (show tot (evs false [] (m / bk false)) = ((m / 64 : Nat) : Int) from evs_tot false _ (by show m / 64 ≤ 1000000; omega))
        have q2 := P1.out.h.cell 2 (.int .i64 64) rfl
        go_upto_region 21 with fail
        go_region_held3 (fun W => W.cell? ⟨w2.heap.size, 2, none⟩ = some (.int .i64 64)) (go_keep) (first | (go_at_call 10; go_must (refine (len20 _ _ _ _ (P1.out.below (below_drewN _ 1)).l).mono ?_; rw [hT.out]; rintro e x1 ⟨rfl, hx1⟩; subst x1)))
        clear q2
        have P2 := hid (P1.out.below (below_drewN wr 1))
        clear P1
        obtain ⟨X, hX⟩ : ∃ x, wr.drewN 1 = x := ⟨_, rfl⟩
        rw [hX] at P2
        rw [hX]
        clear hX
        have hw1 : IntKind.i64.wrap ((m : Int) / 64) = (m : Int) / 64 := by rw [IntKind.wrap_i64]; omega
        go_wp2_with fail
        refine (copy256 b m f _ P2.out.st).mono ?_
        rintro e w6 ⟨c, hcc, rfl, hc, hb⟩
        have c6 := hid hc
        have P6 := hid (P2.out.below hb)
        have ncb := hid (show c ≠ w3.heap.size ∧ (∀ g, rv.ownBlock = some g → c ≠ g) from ⟨by have : w3.heap.size < X.heap.size := Sh.Blk.lt P2.out.l.here; omega, fun g hg => by
          obtain ⟨cs, hcs⟩ := Sg.own_type P2.out.l.own hg
          have := (Array.getElem?_eq_some_iff.1 hcs).1
          omega⟩)
        clear hc hb hcc P2 hw1
        go_wp2_with fail
        have SB := hid (fun j (e : j = w3.heap.size ∨ rv.ownBlock = some j) => show w.heap.size ≤ j from by
          rcases e with e | e
          · rw [e]; exact P6.out.hl
          · exact P6.out.hg j e)
        refine (dsum false b m f (some w3.heap.size) (evs false [] (m / bk false)) (fun j => j = w3.heap.size ∨ rv.ownBlock = some j) _ P6.out.st (HK.out.below P6.out.bel) (fun e => by have := SB.out 0 e; have := H1.out; omega) (fun e => by have := SB.out 1 e; have := H1.out; omega) ⟨.inl rfl, rv, P6.out.l, fun g hg _ => .inr hg⟩ (evs_pos false _) (by omega) (by rw [hT.out]; omega)).mono ?_
        rintro e w7 ⟨u, rfl, hu, ⟨-, rv', hl, -⟩, hk7⟩
        have b7 := hid (P6.out.bel.trans (hk7.below P6.out.bel.size (fun k hk e => by have := SB.out k e; omega)))
        have u7 := hid (show By.Own w7 w6.heap.size u 32 (Sh.dig m f) from hu)
        have l7 := hid (show Led w7 w3.heap.size rv' [⟨1, 64, (((m + 72) / 64 : Nat) : Int)⟩] from by
          rw [evs_add] at hl
          have e1 : m / bk false + last false m = (m + 72) / 64 - 1 + 1 := by
            show m / 64 + Sh.last m = _
            rw [Sh.blocks_last]; unfold Sh.blocks Sh.zs; omega
          rw [e1, show evs false [] ((m + 72) / 64 - 1 + 1) = [⟨1, 64, (((m + 72) / 64 - 1 + 1 : Nat) : Int)⟩] from Sh.evs_one _ (by omega), show (m + 72) / 64 - 1 + 1 = (m + 72) / 64 from by omega] at hl
          exact hl)
        have c7 := hid (c6.out.kept hk7 (by rintro (e | e); exact ncb.out.1 e; exact ncb.out.2 c e rfl))
        have h7 := hid (P6.out.h.kept hk7 (by
          rintro (e | e)
          · exact Sh.Blk.ne P6.out.h P6.out.l.here (by decide) e
          · obtain ⟨cs, hcs⟩ := Sg.own_type P6.out.l.own e
            exact Sh.Blk.ne P6.out.h (show Blk w6 w2.heap.size cs.toList 50 from by show w6.heap[_]? = _; rw [hcs]) (by decide) rfl))
        clear hu hl hk7 SB P6 c6 hT ncb
        obtain ⟨gu, cu, rfl, -⟩ := own_cells u7.out (by decide)
        have q1 := h7.out.cell 1 (.int .i64 32) rfl
        have q6 := h7.out.cell 6 (.func (.func 19) #[] #[]) rfl
        go_wp2_with fail
        refine (dsumF false m _ f none [] (fun _ => False) _ (HK.out.below b7.out) id id trivial Sg.pos_nil' (fun w' h' => HR.out.below (below_next b7.out (Sg.below_kp h'))) (by omega) (by decide)).mono ?_
        rintro e w8 ⟨u', rfl, hu, -, hk8⟩
        have hb := Sg.below_kp hk8
        have u8 := hid (own_below u7.out hb)
        have v8 := hid (show By.Own w8 w7.heap.size u' 32 (Sh.dig m f) from hu).reads
        have l8 := hid (l7.out.below hb)
        have c8 := hid (c7.out.below hb)
        have h8 := hid (h7.out.below hb)
        have b8 := hid (below_next b7.out hb)
        clear hu hk8 hb u7 l7 c7 h7 b7 q1 q6
        go_wp2_with fail
        refine (same_true _ _ 32 _ _ _ u8.out.reads v8.out (by decide) (fun _ _ => rfl)).mono ?_
        rintro e w9 ⟨rfl, d9, rfl⟩
        obtain ⟨Y, hY⟩ : ∃ x, w8.drewN d9 = x := ⟨_, rfl⟩
        have hb : Below w8.heap.size w8 Y := by rw [← hY]; exact below_drewN w8 d9
        rw [hY]
        have u9 := hid (own_below u8.out hb)
        have l9 := hid (l8.out.below hb)
        have c9 := hid (c8.out.below hb)
        have h9 := hid (h8.out.below hb)
        have b9 := hid (below_next b8.out hb)
        clear hY hb u8 v8 l8 c8 h8 b8
        have q2 := h9.out.cell 2 (.int .i64 64) rfl
        go_wp2_with fail
        refine (dsum false c m f none [] (fun _ => False) _ c9.out (HK.out.below b9.out) id id trivial Sg.pos_nil' (by omega) (by decide)).mono ?_
        rintro e w10 ⟨u', rfl, hu, -, hk10⟩
        have hb := Sg.below_kp hk10
        have v10 := hid (show By.Own w10 Y.heap.size u' 32 (Sh.dig m f) from hu)
        have u10 := hid (own_below u9.out hb)
        have l10 := hid (l9.out.below hb)
        have h10 := hid (h9.out.below hb)
        have b10 := hid (below_next b9.out hb)
        clear hu hk10 hb u9 l9 c9 h9 b9 q2
        go_upto_region 29 with fail
        obtain ⟨N, hN⟩ : ∃ N, ((m : Int) + 9 + 64 - 1) / 64 = N := ⟨_, rfl⟩
        have hN1 : (((m + 72) / 64 : Nat) : Int) = N := by omega
        have hN2 := hid (show 1 ≤ N ∧ N ≤ 9000 from by omega)
        rw [hN1] at l10
        rw [hN]
        clear hN hN1
        have HL := hid (fun W (hb : Below w10.heap.size w10 W) => runs22 _ _ _ W (l10.out.below hb) (by show 1 * 24 ≤ 140737488355328; decide))
        have HO := hid (fun W => lit_run W 1 64 N (by decide) (by decide) hN2.out)
        have q3 := h10.out.cell 3 (.int .u8 1) rfl
        have q4 := h10.out.cell 4 (.int .i64 64) rfl
        go_region_held3 (fun W => W.cell? ⟨w2.heap.size, 3, none⟩ = some (.int .u8 1) ∧ W.cell? ⟨w2.heap.size, 4, none⟩ = some (.int .i64 64)) (go_keep) (first | (go_at_call 11; go_must (refine (same_true _ _ 32 _ _ _ ((v10.out.reads).drewN 1) ((u10.out.reads).drewN 1) (by decide) (fun _ _ => rfl)).mono ?_; rintro e w11 ⟨rfl, d11, hw11⟩; subst w11)) | (go_at_call 13; first | (have hbr := below_drewN w10 (1 + d11); with_reducible refine (HL.out _ hbr).mono ?_; rintro e w12 ⟨r12, rfl, hu, hb⟩; have O12 := hid hu; have B12 := hid (below_next hbr hb); have y3 := (h10.out.below (below_next hbr hb)).cell 3 (.int .u8 1) rfl; have y4 := (h10.out.below (below_next hbr hb)).cell 4 (.int .i64 64) rfl; clear hu hb hbr) | (have hbr := below_next (below_drewN w10 (1 + d11)) (below_alloc (w10.drewN (1 + d11)) (.cells #[.int .u8 1, .int .i64 64, .int .i64 N] 50)); refine (HL.out _ hbr).mono ?_; rintro e w12 ⟨r12, rfl, hu, hb⟩; have O12 := hid hu; have OL := hid ((HO.out (w10.drewN (1 + d11))).below hb); have B12 := hid (below_next hbr hb); have y3 := (h10.out.below (below_next hbr hb)).cell 3 (.int .u8 1) rfl; have y4 := (h10.out.below (below_next hbr hb)).cell 4 (.int .i64 64) rfl; clear hu hb hbr)) | (go_at_call 12; first | (have ol := OL.out.reads; refine (same14 _ _ [⟨1, 64, N⟩] [⟨1, 64, N⟩] _ O12.out.reads ol (by show 1 < 1000000000000000000; decide) (by show 1 < 1000000000000000000; decide)).mono ?_; rw [decide_eq_true (show ([⟨1, 64, N⟩] : List Rn) = [⟨1, 64, N⟩] from rfl)]; rintro e w13 ⟨rfl, d13, hw13⟩; have B13 := hid (below_drew' (below_next b10.out B12.out) d13); subst w13) | (refine (same14 _ _ [⟨1, 64, N⟩] [⟨1, 64, N⟩] _ ((O12.out.alloc _).reads) (HO.out w12).reads (by show 1 < 1000000000000000000; decide) (by show 1 < 1000000000000000000; decide)).mono ?_; rw [decide_eq_true (show ([⟨1, 64, N⟩] : List Rn) = [⟨1, 64, N⟩] from rfl)]; rintro e w13 ⟨rfl, d13, hw13⟩; have B13 := hid (below_drew' (below_next (below_next b10.out B12.out) (below_alloc w12 (.cells #[.int .u8 1, .int .i64 64, .int .i64 N] 50))) d13); subst w13)))
        all_goals (go_wp2; go_ret; exact ⟨rfl, B13.out⟩)
set_option maxRecDepth 8000 in
set_option maxHeartbeats 4000000 in
theorem pieces512 (A C : Option Addr) (n cap nc cc : Nat) (f g : Nat → Int) (w : World) (hr : By.RB w (.slice A n cap) n f) (hg : By.RB w (.slice C nc cc) nc g) (hk : KT w) (hnc : nc ≤ 1048576) :
    Calls Tryd.prog 3 #[.bool true, .slice A n cap, .slice C nc cc] w fun e w' => e = .returned (.bool true) ∧ Below w.heap.size w w' := by
  have HR := hid hr
  have HG := hid hg
  have HK := hid hk
  have H1 := hid hk.lt
  clear hr hg hk
  go_enter Tryd.func3, Tryd.ntmps3
  go_wp2_with fail
  refine (lives1 _ HK.out).mono ?_
  rintro e w1 ⟨rfl, hb⟩
  have b1 := hid hb
  clear hb
  by_cases hn : 8192 < n
  · go_wp2
    go_ret
    exact ⟨rfl, b1.out⟩
  · go_wp2_with fail
    refine (of512 _).mono ?_
    rintro e w2 ⟨rfl, hb⟩
    have b2 := hid (below_next (below_next b1.out hb) (below_alloc w2 (.cells #[.int .u8 2, .int .i64 64, .int .i64 128, .int .u8 2, .int .i64 128, .func (.func 20) #[] #[], .func (.func 21) #[] #[]] 31)))
    have h2 := hid (Sh.Blk.new w2 [.int .u8 2, .int .i64 64, .int .i64 128, .int .u8 2, .int .i64 128, .func (.func 20) #[] #[], .func (.func 21) #[] #[]] 31)
    clear hb b1
    go_wp2_with fail
    refine (new512 _).mono ?_
    rintro e w3 ⟨b, hbb, rfl, hs, hb⟩
    have s3 := hid hs
    have b3 := hid (below_next b2.out hb)
    have h3 := hid (h2.out.below hb)
    have hbb' := hid (Nat.le_trans b2.out.size hbb)
    clear hs hb hbb h2 b2
    go_wp2_with fail
    refine (new9 _).mono ?_
    rintro e w4 ⟨rfl, hl, hb⟩
    have l4 := hid hl
    have s4 := hid (s3.out.below hb)
    have b4 := hid (below_next b3.out hb)
    have h4 := hid (h3.out.below hb)
    have z4 := hid b3.out.size
    clear hl hb s3 b3 h3
    go_wp2_with fail
    refine (Sg.cut27 A C n cap nc cc f g _ (HR.out.below b4.out) (HG.out.below b4.out) (by omega) hnc).mono ?_
    rintro e w5 ⟨pv, vs, rfl, hrow, hcut, hb, hvl, -, -⟩
    have P5 := hid (show PS w true b w3.heap.size w2.heap.size 0 n f [.int .u8 2, .int .i64 64, .int .i64 128, .int .u8 2, .int .i64 128, .func (.func 20) #[] #[], .func (.func 21) #[] #[]] (.slice none 0 0) pv vs vs w5 from ⟨(by
      have := s4.out.below hb
      exact (show Sg.St w5 b 0 f from (show Sg.St w5 b 0 (fun _ => 0) from this).congr HR.out.1 (fun i hi => by omega))), l4.out.below hb, h4.out.below hb, Sg.row_mono hrow b4.out.size, hcut.mono b4.out.size, below_next b4.out hb, hbb'.out, z4.out, fun g hg => by simp [Value.ownBlock] at hg⟩)
    have VL := hid hvl
    clear hrow hcut hb hvl s4 l4 h4 b4
    obtain ⟨pa, pc, rfl⟩ := Sg.row_slice P5.out.row
    go_wp2_with fail
    go_loopw [14] (fun x wr => ∃ (i m : Nat) (rv : Value), i ≤ vs.length ∧ x = .int .i64 i ∧ PS w true b w3.heap.size w2.heap.size m n f [.int .u8 2, .int .i64 64, .int .i64 128, .int .u8 2, .int .i64 128, .func (.func 20) #[] #[], .func (.func 21) #[] #[]] rv (.slice pa vs.length pc) vs (vs.drop i) wr) (fun x _ => vs.length - (intOf x).toNat)
    case atStart => exact ⟨0, 0, _, by omega, rfl, P5.out⟩
    case round =>
      clear P5
      obtain ⟨i, m, rv, hi, rfl, hP⟩ := hrel
      have P := hid hP
      clear hP
      by_cases h1 : i < vs.length
      · obtain ⟨x, hx⟩ : ∃ x, vs[i]? = some x := ⟨_, List.getElem?_eq_getElem h1⟩
        obtain ⟨ga, gc, e, hcell⟩ := Sg.rowL_cell P.out.row hx
        simp only [Value.slice.injEq, true_and] at e
        obtain ⟨rfl, rfl⟩ := e
        rw [Nat.zero_add] at hcell
        have hd : vs.drop i = x :: vs.drop (i + 1) := by rw [List.drop_eq_getElem_cons h1]; congr 1; rw [List.getElem?_eq_getElem h1] at hx; exact Option.some.inj hx
        have P1 := hid ((hd ▸ P.out).below (below_drewN _ 1))
        have VL' := VL.out
        have HX := hid hx
        clear P hd hx
        go_upto_region 19 with fail
        go_region_held3 (fun W => W.cell? ⟨ga, i, none⟩ = some x) (go_keep) (first | (go_at_call 110; go_must (refine (P1.out.write HK.out (by omega)).mono ?_; rintro e x1 ⟨rfl, q, rv', hmq, hP⟩; have P2 := hid hP; have y1 := rowL_cell' hP.row HX.out; clear hP)))
        clear y1 hcell
        go_wp2
        exact ⟨⟨i + 1, m + q, rv', by omega, by go_num, P2.out⟩, by simp [intOf]; omega⟩
      · have hd : vs.drop i = [] := List.drop_eq_nil_of_le (by omega)
        have P1 := hid (hd ▸ P.out)
        obtain rfl : m = n := P1.out.cuts
        clear P hd
        have hT := hid (show tot (evs true [] (m / bk true)) = ((m / 128 : Nat) : Int) from evs_tot true _ (by show m / 128 ≤ 1000000; omega))
        have q2 := P1.out.h.cell 2 (.int .i64 128) rfl
        go_upto_region 21 with fail
        go_region_held3 (fun W => W.cell? ⟨w2.heap.size, 2, none⟩ = some (.int .i64 128)) (go_keep) (first | (go_at_call 10; go_must (refine (len20 _ _ _ _ (P1.out.below (below_drewN _ 1)).l).mono ?_; rw [hT.out]; rintro e x1 ⟨rfl, hx1⟩; subst x1)))
        clear q2
        have P2 := hid (P1.out.below (below_drewN wr 1))
        clear P1
        obtain ⟨X, hX⟩ : ∃ x, wr.drewN 1 = x := ⟨_, rfl⟩
        rw [hX] at P2
        rw [hX]
        clear hX
        have hw1 : IntKind.i64.wrap ((m : Int) / 128) = (m : Int) / 128 := by rw [IntKind.wrap_i64]; omega
        go_wp2_with fail
        refine (copy512 b m f _ P2.out.st).mono ?_
        rintro e w6 ⟨c, hcc, rfl, hc, hb⟩
        have c6 := hid hc
        have P6 := hid (P2.out.below hb)
        have ncb := hid (show c ≠ w3.heap.size ∧ (∀ g, rv.ownBlock = some g → c ≠ g) from ⟨by have : w3.heap.size < X.heap.size := Sh.Blk.lt P2.out.l.here; omega, fun g hg => by
          obtain ⟨cs, hcs⟩ := Sg.own_type P2.out.l.own hg
          have := (Array.getElem?_eq_some_iff.1 hcs).1
          omega⟩)
        clear hc hb hcc P2 hw1
        go_wp2_with fail
        have SB := hid (fun j (e : j = w3.heap.size ∨ rv.ownBlock = some j) => show w.heap.size ≤ j from by
          rcases e with e | e
          · rw [e]; exact P6.out.hl
          · exact P6.out.hg j e)
        refine (dsum true b m f (some w3.heap.size) (evs true [] (m / bk true)) (fun j => j = w3.heap.size ∨ rv.ownBlock = some j) _ P6.out.st (HK.out.below P6.out.bel) (fun e => by have := SB.out 0 e; have := H1.out; omega) (fun e => by have := SB.out 1 e; have := H1.out; omega) ⟨.inl rfl, rv, P6.out.l, fun g hg _ => .inr hg⟩ (evs_pos true _) (by omega) (by rw [hT.out]; omega)).mono ?_
        rintro e w7 ⟨u, rfl, hu, ⟨-, rv', hl, -⟩, hk7⟩
        have b7 := hid (P6.out.bel.trans (hk7.below P6.out.bel.size (fun k hk e => by have := SB.out k e; omega)))
        have u7 := hid (show By.Own w7 w6.heap.size u 64 (Sg.dig m f) from hu)
        have l7 := hid (show Led w7 w3.heap.size rv' [⟨2, 128, (((m + 144) / 128 : Nat) : Int)⟩] from by
          rw [evs_add] at hl
          have e1 : m / bk true + last true m = (m + 144) / 128 - 1 + 1 := by
            show m / 128 + Sg.last m = _
            rw [Sg.blocks_last]; unfold Sg.blocks Sg.zs; omega
          rw [e1, show evs true [] ((m + 144) / 128 - 1 + 1) = [⟨2, 128, (((m + 144) / 128 - 1 + 1 : Nat) : Int)⟩] from Sg.evs_one _ (by omega), show (m + 144) / 128 - 1 + 1 = (m + 144) / 128 from by omega] at hl
          exact hl)
        have c7 := hid (c6.out.kept hk7 (by rintro (e | e); exact ncb.out.1 e; exact ncb.out.2 c e rfl))
        have h7 := hid (P6.out.h.kept hk7 (by
          rintro (e | e)
          · exact Sh.Blk.ne P6.out.h P6.out.l.here (by decide) e
          · obtain ⟨cs, hcs⟩ := Sg.own_type P6.out.l.own e
            exact Sh.Blk.ne P6.out.h (show Blk w6 w2.heap.size cs.toList 50 from by show w6.heap[_]? = _; rw [hcs]) (by decide) rfl))
        clear hu hl hk7 SB P6 c6 hT ncb
        obtain ⟨gu, cu, rfl, -⟩ := own_cells u7.out (by decide)
        have q1 := h7.out.cell 1 (.int .i64 64) rfl
        have q6 := h7.out.cell 6 (.func (.func 21) #[] #[]) rfl
        go_wp2_with fail
        refine (dsumF true m _ f none [] (fun _ => False) _ (HK.out.below b7.out) id id trivial Sg.pos_nil' (fun w' h' => HR.out.below (below_next b7.out (Sg.below_kp h'))) (by omega) (by decide)).mono ?_
        rintro e w8 ⟨u', rfl, hu, -, hk8⟩
        have hb := Sg.below_kp hk8
        have u8 := hid (own_below u7.out hb)
        have v8 := hid (show By.Own w8 w7.heap.size u' 64 (Sg.dig m f) from hu).reads
        have l8 := hid (l7.out.below hb)
        have c8 := hid (c7.out.below hb)
        have h8 := hid (h7.out.below hb)
        have b8 := hid (below_next b7.out hb)
        clear hu hk8 hb u7 l7 c7 h7 b7 q1 q6
        go_wp2_with fail
        refine (same_true _ _ 64 _ _ _ u8.out.reads v8.out (by decide) (fun _ _ => rfl)).mono ?_
        rintro e w9 ⟨rfl, d9, rfl⟩
        obtain ⟨Y, hY⟩ : ∃ x, w8.drewN d9 = x := ⟨_, rfl⟩
        have hb : Below w8.heap.size w8 Y := by rw [← hY]; exact below_drewN w8 d9
        rw [hY]
        have u9 := hid (own_below u8.out hb)
        have l9 := hid (l8.out.below hb)
        have c9 := hid (c8.out.below hb)
        have h9 := hid (h8.out.below hb)
        have b9 := hid (below_next b8.out hb)
        clear hY hb u8 v8 l8 c8 h8 b8
        have q2 := h9.out.cell 2 (.int .i64 128) rfl
        go_wp2_with fail
        refine (dsum true c m f none [] (fun _ => False) _ c9.out (HK.out.below b9.out) id id trivial Sg.pos_nil' (by omega) (by decide)).mono ?_
        rintro e w10 ⟨u', rfl, hu, -, hk10⟩
        have hb := Sg.below_kp hk10
        have v10 := hid (show By.Own w10 Y.heap.size u' 64 (Sg.dig m f) from hu)
        have u10 := hid (own_below u9.out hb)
        have l10 := hid (l9.out.below hb)
        have h10 := hid (h9.out.below hb)
        have b10 := hid (below_next b9.out hb)
        clear hu hk10 hb u9 l9 c9 h9 b9 q2
        go_upto_region 29 with fail
        obtain ⟨N, hN⟩ : ∃ N, ((m : Int) + 17 + 128 - 1) / 128 = N := ⟨_, rfl⟩
        have hN1 : (((m + 144) / 128 : Nat) : Int) = N := by omega
        have hN2 := hid (show 1 ≤ N ∧ N ≤ 9000 from by omega)
        rw [hN1] at l10
        rw [hN]
        clear hN hN1
        have HL := hid (fun W (hb : Below w10.heap.size w10 W) => runs22 _ _ _ W (l10.out.below hb) (by show 1 * 24 ≤ 140737488355328; decide))
        have HO := hid (fun W => lit_run W 2 128 N (by decide) (by decide) hN2.out)
        have q3 := h10.out.cell 3 (.int .u8 2) rfl
        have q4 := h10.out.cell 4 (.int .i64 128) rfl
        go_region_held3 (fun W => W.cell? ⟨w2.heap.size, 3, none⟩ = some (.int .u8 2) ∧ W.cell? ⟨w2.heap.size, 4, none⟩ = some (.int .i64 128)) (go_keep) (first | (go_at_call 11; go_must (refine (same_true _ _ 64 _ _ _ ((v10.out.reads).drewN 1) ((u10.out.reads).drewN 1) (by decide) (fun _ _ => rfl)).mono ?_; rintro e w11 ⟨rfl, d11, hw11⟩; subst w11)) | (go_at_call 13; first | (have hbr := below_drewN w10 (1 + d11); with_reducible refine (HL.out _ hbr).mono ?_; rintro e w12 ⟨r12, rfl, hu, hb⟩; have O12 := hid hu; have B12 := hid (below_next hbr hb); have y3 := (h10.out.below (below_next hbr hb)).cell 3 (.int .u8 2) rfl; have y4 := (h10.out.below (below_next hbr hb)).cell 4 (.int .i64 128) rfl; clear hu hb hbr) | (have hbr := below_next (below_drewN w10 (1 + d11)) (below_alloc (w10.drewN (1 + d11)) (.cells #[.int .u8 2, .int .i64 128, .int .i64 N] 50)); refine (HL.out _ hbr).mono ?_; rintro e w12 ⟨r12, rfl, hu, hb⟩; have O12 := hid hu; have OL := hid ((HO.out (w10.drewN (1 + d11))).below hb); have B12 := hid (below_next hbr hb); have y3 := (h10.out.below (below_next hbr hb)).cell 3 (.int .u8 2) rfl; have y4 := (h10.out.below (below_next hbr hb)).cell 4 (.int .i64 128) rfl; clear hu hb hbr)) | (go_at_call 12; first | (have ol := OL.out.reads; refine (same14 _ _ [⟨2, 128, N⟩] [⟨2, 128, N⟩] _ O12.out.reads ol (by show 1 < 1000000000000000000; decide) (by show 1 < 1000000000000000000; decide)).mono ?_; rw [decide_eq_true (show ([⟨2, 128, N⟩] : List Rn) = [⟨2, 128, N⟩] from rfl)]; rintro e w13 ⟨rfl, d13, hw13⟩; have B13 := hid (below_drew' (below_next b10.out B12.out) d13); subst w13) | (refine (same14 _ _ [⟨2, 128, N⟩] [⟨2, 128, N⟩] _ ((O12.out.alloc _).reads) (HO.out w12).reads (by show 1 < 1000000000000000000; decide) (by show 1 < 1000000000000000000; decide)).mono ?_; rw [decide_eq_true (show ([⟨2, 128, N⟩] : List Rn) = [⟨2, 128, N⟩] from rfl)]; rintro e w13 ⟨rfl, d13, hw13⟩; have B13 := hid (below_drew' (below_next (below_next b10.out B12.out) (below_alloc w12 (.cells #[.int .u8 2, .int .i64 128, .int .i64 N] 50))) d13); subst w13)))
        all_goals (go_wp2; go_ret; exact ⟨rfl, B13.out⟩)
end Go.Proofs.YtojldjckpjokcaaDoor.Dg
