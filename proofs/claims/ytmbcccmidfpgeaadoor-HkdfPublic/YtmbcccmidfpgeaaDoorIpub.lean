/- The law HkdfPublic. -/
import Derived.Test.YtmbcccmidfpgeaaDoorIpk
namespace Go.Proofs.YtmbcccmidfpgeaaDoor.Dg
open Go.ChangeShapes Go.WideShapes Go.ChangeAt Go.RowKit
open Go.Proofs.YtmbcccmidfpgeaaDoor.By
open Go.Proofs.YtmbcccmidfpgeaaDoor.Sh (Blk size_alloc)
set_option maxRecDepth 8000 in
set_option maxHeartbeats 8000000 in
theorem public_on (a : Bool) (ka sa ia : Option Addr) (nk kc ns sc ni ic : Nat) (g f inf : Nat → Int) (x n z : Int) (hx : 0 ≤ x ∧ x < 256) (w : World) (hr : By.RB w (.slice ka nk kc) nk g) (hr2 : By.RB w (.slice sa ns sc) ns f) (hr3 : By.RB w (.slice ia ni ic) ni inf) (hk : KT w) (hn : nk ≤ 140737488351232) (hns : ns ≤ 140737488351232) (hni : ni ≤ 140737488351232) :
    Calls Tryd.prog 5 #[.bool a, .slice ka nk kc, .slice sa ns sc, .slice ia ni ic, .int .u8 x, .int .i64 n, .int .i64 z] w fun e w' => e = .returned (.bool true) ∧ Below w.heap.size w w' := by
  have HR := hid hr
  have HR2 := hid hr2
  have HR3 := hid hr3
  have HK := hid hk
  have HX := hid hx
  have A1 := hid (show ∀ w', Below w.heap.size w w' → By.RB w' (.slice ka nk kc) nk g from fun w' hb => hr.below hb)
  have A2 := hid (show ∀ w', Below w.heap.size w w' → By.RB w' (.slice sa ns sc) ns f from fun w' hb => hr2.below hb)
  have A3 := hid (show ∀ w', Below w.heap.size w w' → By.RB w' (.slice ia ni ic) ni inf from fun w' hb => hr3.below hb)
  clear hr hr2 hr3 hx
  obtain ⟨s, hs⟩ : ∃ s, sz a = s := ⟨_, rfl⟩
  have hs1 : 32 ≤ s := by rw [← hs]; cases a <;> decide
  have hs2 : s ≤ 64 := by rw [← hs]; exact sz_le a
  have hbk : 2 * s = bk a := by rw [← hs]; cases a <;> rfl
  have HA := hid (fun w => alg1 a w)
  rw [hs] at HA
  have P6 := hid (fun w => pickN n (6 * s) (by omega) (by omega) w)
  rw [show ((6 * s : Nat) : Int) = 6 * (s : Int) from by omega] at P6
  have P2 := hid (fun w => pickN z (2 * s + 1) (by omega) (by omega) w)
  rw [show ((2 * s + 1 : Nat) : Int) = 2 * (s : Int) + 1 from by omega] at P2
  have hB1 := tq_nil
  go_enter Tryd.func5, Tryd.ntmps5
  go_wp2_with fail
  refine (HA.out _).mono ?_
  rintro e w0 ⟨rfl, hw⟩
  subst w0
  go_wp2_with fail
  refine (P6.out _).mono ?_
  rintro e w0 ⟨⟨p, hp, rfl⟩, hw⟩
  subst w0
  go_wp2_with fail
  refine (new9 _).mono ?_
  rintro e w1 ⟨rfl, hl, hb⟩
  have G1 := hid ((GM.start w hk).addLed hb (o := true) hl)
  rw [List.nil_append] at G1
  have z1 := hb.size
  clear hk hl hb
  go_wp2_with fail
  refine (new9 _).mono ?_
  rintro e w2 ⟨rfl, hl, hb⟩
  have G2 := hid (G1.out.addLed hb (o := true) hl)
  rw [List.singleton_append] at G2
  clear hl hb G1
  go_wp2_with fail
  refine (GM.key (l1 := []) G2.out a nk ns ni p _ _ _ g f inf (GM.rdA (l1 := []) G2.out A1.out) (GM.rdA (l1 := []) G2.out A2.out) (GM.rdA (l1 := []) G2.out A3.out) (by omega) (by omega) (by omega) (by omega)).mono ?_
  rintro e w3 ⟨u3, rv3, rfl, hu, hg, hko⟩
  rw [xc_ok a p (by rw [hs]; omega)]
  obtain ⟨ua3, uc3, rfl⟩ := own_sl hu
  have G3 := hid hg
  clear hu hg hko G2
  go_wp2_with fail
  refine (fill1 nk x HX.out _ (by omega)).mono ?_
  rintro e w4 ⟨f4, rfl, h, b⟩
  have O4 := hid h
  have G4 := hid (G3.out.below b)
  clear h b G3
  go_wp2_with fail
  refine (fill1 ns x HX.out _ (by omega)).mono ?_
  rintro e w5 ⟨f5, rfl, h, b⟩
  have O5 := hid h
  have N4 := hid (own_below O4.out b)
  have G5 := hid (G4.out.below b)
  clear h b G4 O4
  go_wp2_with fail
  refine (fill1 ni x HX.out _ (by omega)).mono ?_
  rintro e w6 ⟨f6, rfl, h, b⟩
  have O6 := hid h
  have N5 := hid (own_below O5.out b)
  have M4 := hid (own_below N4.out b)
  have G6 := hid (G5.out.below b)
  clear h b G5 O5 N4
  go_wp2_with fail
  refine (GM.key (l1 := [_]) (l2 := []) G6.out a nk ns ni p f4 f5 f6 (fun _ => x) (fun _ => x) (fun _ => x) (GM.rdO (l1 := [_]) (l2 := []) G6.out M4.out) (GM.rdO (l1 := [_]) (l2 := []) G6.out N5.out) (GM.rdO (l1 := [_]) (l2 := []) G6.out O6.out) (by omega) (by omega) (by omega) (by omega)).mono ?_
  rintro e w7 ⟨u7, rv7, rfl, hu, hg, hko⟩
  rw [xc_ok a p (by rw [hs]; omega)]
  obtain ⟨ua7, uc7, rfl⟩ := own_sl hu
  obtain ⟨LL, hLL⟩ : ∃ x, yl a [] ns nk ni (p : Int) = x := ⟨_, rfl⟩
  have TL := hid (show LL.length < 5000000000 by rw [← hLL]; have h1 := yl_fine a Sg.pos_nil' ns nk ni (p : Int) (by omega) (by omega) (by omega) (by omega); have h2 := tq_len (yl a [] ns nk ni (p : Int)); omega)
  have TT := hid (show 0 < tot LL by rw [← hLL]; exact yl_some a ns nk ni p (by omega) (by omega) (by omega) (by rw [hs]; omega))
  have hg' : GM w w.heap.size [] [⟨true, w.heap.size, rv3, LL⟩, ⟨true, w1.heap.size, rv7, LL⟩] w7 := by rw [← hLL]; exact hg
  have G7 := hid hg'
  clear hu hg hg' hko hLL G6 M4 N5 O6
  go_wp2_with fail
  refine (extract0 a 0 nk _ _ nof g _ G7.out.kt (rb_nil0 _) (A1.out _ G7.out.bel) (by omega) (by omega)).mono ?_
  rintro e w8 ⟨x8, rfl, hu, hb⟩
  have X8 := hid hu
  have G8 := hid (G7.out.below hb)
  clear hu hb G7
  go_wp2_with fail
  refine (P2.out _).mono ?_
  rintro e w9 ⟨⟨q, hq, rfl⟩, hw⟩
  subst w9
  have hmk := make_nn q (by omega) w8
  go_wp2_with fail
  have b9 := below_alloc w8 (.cells (bl q fun _ => 0).toArray 5)
  have O9 := hid (Sh.own_made w8 q q w8.heap.size (fun _ => 0) (fun _ => by decide) (Nat.le_refl _) (by simp [maxLen]; omega) (Nat.le_refl _))
  have X9 := hid (own_below X8.out b9)
  have G9 := hid (G8.out.below b9)
  obtain ⟨W9, hW9⟩ : ∃ x, w8.alloc (.cells (bl q fun _ => 0).toArray 5) = x := ⟨_, rfl⟩
  rw [hW9] at O9 X9 G9 ⊢
  clear b9 hW9 hmk X8 G8
  refine (extract0 a q nk _ _ (fun _ => 0) g _ G9.out.kt O9.out.reads (A1.out _ G9.out.bel) (by omega) (by omega)).mono ?_
  rintro e w10 ⟨x10, rfl, hu, hb⟩
  rw [kb_nought a q (by omega)] at hu
  have Y10 := hid hu
  have X10 := hid (own_below X9.out hb)
  have G10 := hid (G9.out.below hb)
  clear hu hb G9 X9 O9
  go_wp2_with fail
  refine (awake1 _ G10.out.kt).mono ?_
  rintro e w11 ⟨rfl, hb⟩
  have Y11 := hid (own_below Y10.out hb)
  have X11 := hid (own_below X10.out hb)
  have G11 := hid (G10.out.below hb)
  clear hb G10 X10 Y10
  go_wp2_with fail
  refine (same_true _ _ (sz a) _ _ _ X11.out.reads Y11.out.reads (by omega) (fun _ _ => rfl)).mono ?_
  rintro e w12 ⟨rfl, d12, hw⟩
  have G12 := hid (G11.out.below (show Below w11.heap.size w11 w12 by rw [hw]; exact below_drewN w11 d12))
  clear hw G11 X11 Y11
  go_wp2_with fail
  refine (runs22 _ _ _ _ (GM.midL (l1 := []) G12.out).1 (by have := TL.out; omega)).mono ?_
  rintro e w13 ⟨r13, rfl, ho, hb⟩
  have R13 := hid ho
  have G13 := hid (G12.out.below hb)
  clear ho hb G12
  go_wp2_with fail
  refine (runs22 _ _ _ _ (GM.midL (l1 := [_]) (l2 := []) G13.out).1 (by have := TL.out; omega)).mono ?_
  rintro e w14 ⟨r14, rfl, ho, hb⟩
  have S14 := hid ho
  have R14 := hid (R13.out.below hb)
  have G14 := hid (G13.out.below hb)
  clear ho hb G13 R13
  go_wp2_with fail
  refine (same14 _ _ LL LL _ R14.out.reads S14.out.reads (by have := TL.out; omega) (by have := TL.out; omega)).mono ?_
  rw [decide_eq_true (show LL = LL from rfl)]
  rintro e w15 ⟨rfl, d15, hw⟩
  have G15 := hid (G14.out.below (show Below w14.heap.size w14 w15 by rw [hw]; exact below_drewN w14 d15))
  clear hw G14 R14 S14
  go_wp2_with fail
  refine (len20 _ _ _ _ (GM.midL (l1 := []) G15.out).1).mono ?_
  rintro e w16 ⟨rfl, hw⟩
  subst w16
  have ht := TT.out
  go_wp2
  go_ret
  exact ⟨rfl, G15.out.bel⟩
end Go.Proofs.YtmbcccmidfpgeaaDoor.Dg
