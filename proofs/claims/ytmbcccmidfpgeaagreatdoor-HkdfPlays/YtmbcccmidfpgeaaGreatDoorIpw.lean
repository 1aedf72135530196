/- The law HkdfPlays. -/
import Derived.Test.YtmbcccmidfpgeaaGreatDoorIpl
namespace Go.Proofs.YtmbcccmidfpgeaaGreatDoor.Dg
open Go.ChangeShapes Go.WideShapes Go.ChangeAt Go.RowKit
open Go.Proofs.YtmbcccmidfpgeaaGreatDoor.By
open Go.Proofs.YtmbcccmidfpgeaaGreatDoor.Sh (Blk size_alloc)
open Go.Proofs.YtmbcccmidfpgeaaGreatDoor.Kc (LS LI)
set_option maxRecDepth 8000 in
set_option maxHeartbeats 16000000 in
theorem plays_no (al : Int) (h1 : ¬ al = 1) (h2 : ¬ al = 2) (ka sa ia : Option Addr) (nk kc ns sc ni ic : Nat) (g f inf : Nat → Int) (n : Int) (w : World) (hr : By.RB w (.slice ka nk kc) nk g) (hr2 : By.RB w (.slice sa ns sc) ns f) (hr3 : By.RB w (.slice ia ni ic) ni inf) (hk : KT w) (hn : nk ≤ 140737488351232) (hns : ns ≤ 140737488351232) (hni : ni ≤ 140737488351232) :
    Calls Tryz.prog 3 #[.int .u8 al, .slice ka nk kc, .slice sa ns sc, .slice ia ni ic, .int .i64 n] w fun e w' => e = .returned (.bool true) ∧ Below w.heap.size w w' := by
  have BG := hid hr.1
  have BF := hid hr2.1
  have BI := hid hr3.1
  have A1 := hid (show ∀ w', Below w.heap.size w w' → By.RB w' (.slice ka nk kc) nk g from fun w' hb => hr.below hb)
  have A2 := hid (show ∀ w', Below w.heap.size w w' → By.RB w' (.slice sa ns sc) ns f from fun w' hb => hr2.below hb)
  have A3 := hid (show ∀ w', Below w.heap.size w w' → By.RB w' (.slice ia ni ic) ni inf from fun w' hb => hr3.below hb)
  clear hr hr2 hr3
  go_enter Tryz.func3, Tryz.ntmps3
  go_wp2_with fail
  refine (new9 _).mono ?_
  rintro e w1 ⟨rfl, hl, hb⟩
  have G1 := hid ((GM.start w hk).addLed hb (o := true) hl)
  rw [List.nil_append] at G1
  clear hk hl hb
  go_wp2_with fail
  refine (refNew10 _).mono ?_
  rintro e w2 ⟨rfl, hl, hb⟩
  have G2 := hid (G1.out.addLed hb (o := false) hl)
  rw [List.singleton_append] at G2
  have L2 := hid (LS.nil (w := w2) (B := w.heap.size) G2.out.hB)
  clear hl hb G1
  go_wp2_with fail
  refine (lent14 _ nk g _ (A1.out _ G2.out.bel) (by omega)).mono ?_
  rintro e w3 ⟨xv, rfl, ho, hb⟩
  obtain ⟨gx, cx, rfl, -⟩ := own_cells ho (by omega)
  have L3 := hid (L2.out.snoc hb ho)
  have G3 := hid (G2.out.below hb)
  have ccx := rb_cap ho.reads
  clear ho hb L2 G2
  go_wp2_with fail
  refine (lent14 _ ns f _ (A2.out _ G3.out.bel) (by omega)).mono ?_
  rintro e w4 ⟨yv, rfl, ho, hb⟩
  obtain ⟨gy, cy, rfl, -⟩ := own_cells ho (by omega)
  have L4 := hid (L3.out.snoc hb ho)
  have G4 := hid (G3.out.below hb)
  have ccy := rb_cap ho.reads
  clear ho hb L3 G3
  go_wp2_with fail
  refine (lent14 _ ni inf _ (A3.out _ G4.out.bel) (by omega)).mono ?_
  rintro e w5 ⟨zv, rfl, ho, hb⟩
  obtain ⟨gz, cz, rfl, -⟩ := own_cells ho (by omega)
  have L5 := hid (L4.out.snoc hb ho)
  have G5 := hid (G4.out.below hb)
  have ccz := rb_cap ho.reads
  clear ho hb L4 G4
  have sx := fun W => sub_hA (some ⟨gx, 0, none⟩) (nk + 6) cx nk W (by omega) ccx
  have sy := fun W => sub_hA (some ⟨gy, 0, none⟩) (ns + 6) cy ns W (by omega) ccy
  have sz' := fun W => sub_hA (some ⟨gz, 0, none⟩) (ni + 6) cz ni W (by omega) ccz
  go_wp2_with fail
  go_region_held3 (fun _ => True) (trivial) (fail)
  clear sx sy sz'
  have L6 := hid (L5.out.below (below_drewN w5 1))
  have G6 := hid (G5.out.below (below_drewN w5 1))
  obtain ⟨w6, hw6⟩ : ∃ x, w5.drew = x := ⟨_, rfl⟩
  have L6 := hid (show LS w6 w.heap.size _ from by rw [← hw6]; exact L6.out)
  have G6 := hid (show GM w w.heap.size _ _ w6 from by rw [← hw6]; exact G6.out)
  rw [hw6]
  clear hw6 L5 G5
  go_wp2_with fail
  refine (extractN al h1 h2 _ _ _ _).mono ?_
  rintro e w7 ⟨rfl, hb⟩
  have L7 := hid (L6.out.below hb)
  have G7 := hid (G6.out.below hb)
  clear hb L6 G6
  go_wp2_with fail
  refine (expandN al h1 h2 _ _ _ _ _).mono ?_
  rintro e ww ⟨rfl, hw⟩
  subst ww
  go_wp2_with fail
  refine (keyN al h1 h2 _ _ _ _ _ _).mono ?_
  rintro e ww ⟨rfl, hw⟩
  subst ww
  go_wp2_with fail
  refine (keyN al h1 h2 _ _ _ _ _ _).mono ?_
  rintro e ww ⟨rfl, hw⟩
  subst ww
  go_wp2_with fail
  refine (dextractN al h1 h2 _ _ _ _).mono ?_
  rintro e ww ⟨rfl, hw⟩
  subst ww
  go_wp2_with fail
  refine (dexpandN al h1 h2 _ _ _ _ _).mono ?_
  rintro e ww ⟨rfl, hw⟩
  subst ww
  go_wp2_with fail
  refine (dkeyN al h1 h2 _ _ _ _ _ _).mono ?_
  rintro e ww ⟨rfl, hw⟩
  subst ww
  have N0 := own_nil w7 w7.heap.size nof nof_b
  have L7 := hid ((((L7.out.snoc (Below.refl _ _) N0).snoc (Below.refl _ _) N0).snoc (Below.refl _ _) N0).snoc (Below.refl _ _) N0)
  clear N0
  obtain ⟨LL, hLL⟩ : ∃ x : List Rn, [] = x := ⟨_, rfl⟩
  have TL := hid (show LL.length < 2000000000 by rw [← hLL]; decide)
  rw [hLL] at G7
  clear hLL
  go_wp2_with fail
  refine (kept17 _ _ nk g _ (L7.out.at (i := 0) rfl).reads (A1.out _ G7.out.bel) (by omega)).mono ?_
  rintro e w8 ⟨rfl, hb⟩
  have L8 := hid (L7.out.below hb)
  have G8 := hid (G7.out.below hb)
  clear hb L7 G7
  go_wp2_with fail
  refine (kept17 _ _ ns f _ (L8.out.at (i := 1) rfl).reads (A2.out _ G8.out.bel) (by omega)).mono ?_
  rintro e w9 ⟨rfl, hb⟩
  have L9 := hid (L8.out.below hb)
  have G9 := hid (G8.out.below hb)
  clear hb L8 G8
  go_wp2_with fail
  refine (kept17 _ _ ni inf _ (L9.out.at (i := 2) rfl).reads (A3.out _ G9.out.bel) (by omega)).mono ?_
  rintro e w10 ⟨rfl, hb⟩
  have L10 := hid (L9.out.below hb)
  have G10 := hid (G9.out.below hb)
  clear hb L9 G9
  go_wp2_with fail
  refine (over18 gx cx (nk + 6) w.heap.size _ _ (L10.out.at (i := 0) rfl) (by omega)).mono ?_
  rintro e w11 ⟨rfl, ho, hg⟩
  have L11 := hid (LS.over (l1 := []) L10.out hg ho)
  have G11 := hid (GM.over8 G10.out (L10.out.at (i := 0) rfl) hg)
  clear ho hg L10 G10
  go_wp2_with fail
  refine (over18 gy cy (ns + 6) w.heap.size _ _ (L11.out.at (i := 1) rfl) (by omega)).mono ?_
  rintro e w12 ⟨rfl, ho, hg⟩
  have L12 := hid (LS.over (l1 := [⟨.slice (some ⟨gx, 0, none⟩) (nk + 6) cx, nk + 6, over⟩]) L11.out hg ho)
  have G12 := hid (GM.over8 G11.out (L11.out.at (i := 1) rfl) hg)
  clear ho hg L11 G11
  go_wp2_with fail
  refine (over18 gz cz (ni + 6) w.heap.size _ _ (L12.out.at (i := 2) rfl) (by omega)).mono ?_
  rintro e w13 ⟨rfl, ho, hg⟩
  have L13 := hid (LS.over (l1 := [⟨.slice (some ⟨gx, 0, none⟩) (nk + 6) cx, nk + 6, over⟩, ⟨.slice (some ⟨gy, 0, none⟩) (ns + 6) cy, ns + 6, over⟩]) L12.out hg ho)
  have G13 := hid (GM.over8 G12.out (L12.out.at (i := 2) rfl) hg)
  clear ho hg L12 G12
  go_wp2_with fail
  refine (same_true _ _ 0 _ _ _ (L13.out.at (i := 3) rfl).reads (L13.out.at (i := 3) rfl).reads (by omega) (fun _ _ => rfl)).mono ?_
  rintro e w14 ⟨rfl, dd, hw⟩
  have hb : Below w13.heap.size w13 w14 := by rw [hw]; exact below_drewN _ _
  have L14 := hid (L13.out.below hb)
  have G14 := hid (G13.out.below hb)
  clear hw hb L13 G13
  go_wp2_with fail
  refine (same_true _ _ 0 _ _ _ (L14.out.at (i := 3) rfl).reads (L14.out.at (i := 3) rfl).reads (by omega) (fun _ _ => rfl)).mono ?_
  rintro e w15 ⟨rfl, dd, hw⟩
  have hb : Below w14.heap.size w14 w15 := by rw [hw]; exact below_drewN _ _
  have L15 := hid (L14.out.below hb)
  have G15 := hid (G14.out.below hb)
  clear hw hb L14 G14
  go_wp2_with fail
  refine (same_true _ _ 0 _ _ _ (L15.out.at (i := 3) rfl).reads (L15.out.at (i := 3) rfl).reads (by omega) (fun _ _ => rfl)).mono ?_
  rintro e w16 ⟨rfl, dd, hw⟩
  have hb : Below w15.heap.size w15 w16 := by rw [hw]; exact below_drewN _ _
  have L16 := hid (L15.out.below hb)
  have G16 := hid (G15.out.below hb)
  clear hw hb L15 G15
  go_wp2_with fail
  refine (same_true _ _ 0 _ _ _ (L16.out.at (i := 3) rfl).reads (L16.out.at (i := 3) rfl).reads (by omega) (fun _ _ => rfl)).mono ?_
  rintro e w17 ⟨rfl, dd, hw⟩
  have hb : Below w16.heap.size w16 w17 := by rw [hw]; exact below_drewN _ _
  have L17 := hid (L16.out.below hb)
  have G17 := hid (G16.out.below hb)
  clear hw hb L16 G16
  go_wp2_with fail
  refine (runs22 _ _ _ _ (GM.midL (l1 := []) G17.out).1 (by have := TL.out; omega)).mono ?_
  rintro e w18 ⟨r1, rfl, hu, hb⟩
  have U1 := hid hu
  have L18 := hid (L17.out.below hb)
  have G18 := hid (G17.out.below hb)
  clear hu hb L17 G17
  go_wp2_with fail
  refine (refRuns20 _ _ _ _ (GM.midR (l1 := [_]) (l2 := []) G18.out) (by have := TL.out; omega)).mono ?_
  rintro e w19 ⟨r2, rfl, hu, hb⟩
  have U2 := hid hu
  have V1 := hid (U1.out.below hb)
  have L19 := hid (L18.out.below hb)
  have G19 := hid (G18.out.below hb)
  clear hu hb L18 G18 U1
  go_wp2_with fail
  refine (same14 _ _ LL LL _ V1.out.reads U2.out.reads (by have := TL.out; omega) (by have := TL.out; omega)).mono ?_
  rw [decide_eq_true (show LL = LL from rfl)]
  rintro e w20 ⟨rfl, dd, hw⟩
  have hb : Below w19.heap.size w19 w20 := by rw [hw]; exact below_drewN _ _
  have L20 := hid (L19.out.below hb)
  have G20 := hid (G19.out.below hb)
  clear hw hb V1 U2 L19 G19
  have L0 := hid (show LS w20 w.heap.size [⟨.slice (some ⟨gx, 0, none⟩) (nk + 6) cx, nk + 6, over⟩, ⟨.slice (some ⟨gy, 0, none⟩) (ns + 6) cy, ns + 6, over⟩, ⟨.slice (some ⟨gz, 0, none⟩) (ni + 6) cz, ni + 6, over⟩, ⟨.slice none 0 0, 0, nof⟩, ⟨.slice none 0 0, 0, nof⟩, ⟨.slice none 0 0, 0, nof⟩, ⟨.slice none 0 0, 0, nof⟩] from L20.out.take 7)
  go_wp2_with fail
  refine (L0.out.apart _ rfl 7 rfl (by omega) (by omega) ?_).mono ?_
  · intro x hx
    simp only [List.mem_cons, List.not_mem_nil, or_false] at hx
    rcases hx with rfl | rfl | rfl | rfl | rfl | rfl | rfl
    · show nk + 6 ≤ _; omega
    · show ns + 6 ≤ _; omega
    · show ni + 6 ≤ _; omega
    · show 0 ≤ _; omega
    all_goals (show 0 ≤ _; omega)
  rintro e wE ⟨rfl, hb⟩
  have bE := hid ((G20.out.bel.trans ((below_alloc w20 _).mono G20.out.hB)).trans hb)
  clear hb
  go_wp2
  go_ret
  exact ⟨rfl, bE.out⟩
set_option maxRecDepth 8000 in
set_option maxHeartbeats 16000000 in
theorem plays_ok (a : Bool) (ka sa ia : Option Addr) (nk kc ns sc ni ic : Nat) (g f inf : Nat → Int) (n : Int) (w : World) (hr : By.RB w (.slice ka nk kc) nk g) (hr2 : By.RB w (.slice sa ns sc) ns f) (hr3 : By.RB w (.slice ia ni ic) ni inf) (hk : KT w) (hn : nk ≤ 140737488351232) (hns : ns ≤ 140737488351232) (hni : ni ≤ 140737488351232) :
    Calls Tryz.prog 3 #[.int .u8 (an a), .slice ka nk kc, .slice sa ns sc, .slice ia ni ic, .int .i64 n] w fun e w' => e = .returned (.bool true) ∧ Below w.heap.size w w' := by
  have BG := hid hr.1
  have BF := hid hr2.1
  have BI := hid hr3.1
  have A1 := hid (show ∀ w', Below w.heap.size w w' → By.RB w' (.slice ka nk kc) nk g from fun w' hb => hr.below hb)
  have A2 := hid (show ∀ w', Below w.heap.size w w' → By.RB w' (.slice sa ns sc) ns f from fun w' hb => hr2.below hb)
  have A3 := hid (show ∀ w', Below w.heap.size w w' → By.RB w' (.slice ia ni ic) ni inf from fun w' hb => hr3.below hb)
  clear hr hr2 hr3
  obtain ⟨c, hc⟩ : ∃ c, xc a n = c := ⟨_, rfl⟩
  obtain ⟨Nn, hNn⟩ : ∃ x, xN a n = x := ⟨_, rfl⟩
  have CC := hid hc
  have CN := hid hNn
  have hNl : Nn ≤ 16320 := by
    rw [← hNn]
    have h3 : 255 * sz a ≤ 255 * 64 := Nat.mul_le_mul_left _ (sz_le a)
    unfold xN; split <;> omega
  clear hc hNn
  have hsz := sz_le a
  have T0 := hid tq_nil
  have P1 := hid (tevP a Sg.pos_nil' ns nk)
  have F1 := hid (show tq (tev a [] ns nk) ≤ 4194400 by have h := tev_fine a Sg.pos_nil' ns nk (by omega) (by omega) (by have := T0.out; omega); have := T0.out; omega)
  have P2 := hid (xlP a P1.out nk ni n)
  have F2 := hid (show tq (xl a (tev a [] ns nk) nk ni n) ≤ 542194400 by have h := xl_fine a P1.out nk ni n (by omega) (by omega) (by have := F1.out; omega); have := F1.out; omega)
  have F3 := hid (show tq (yl a (xl a (tev a [] ns nk) nk ni n) ns nk ni n) ≤ 1090000000 by have h := yl_fine a P2.out ns nk ni n (by omega) (by omega) (by omega) (by have := F2.out; omega); have := F2.out; omega)
  have R3 := hid (tq_len (yl a (xl a (tev a [] ns nk) nk ni n) ns nk ni n))
  go_enter Tryz.func3, Tryz.ntmps3
  go_wp2_with fail
  refine (new9 _).mono ?_
  rintro e w1 ⟨rfl, hl, hb⟩
  have G1 := hid ((GM.start w hk).addLed hb (o := true) hl)
  rw [List.nil_append] at G1
  clear hk hl hb
  go_wp2_with fail
  refine (refNew10 _).mono ?_
  rintro e w2 ⟨rfl, hl, hb⟩
  have G2 := hid (G1.out.addLed hb (o := false) hl)
  rw [List.singleton_append] at G2
  have L2 := hid (LS.nil (w := w2) (B := w.heap.size) G2.out.hB)
  clear hl hb G1
  go_wp2_with fail
  refine (lent14 _ nk g _ (A1.out _ G2.out.bel) (by omega)).mono ?_
  rintro e w3 ⟨xv, rfl, ho, hb⟩
  obtain ⟨gx, cx, rfl, -⟩ := own_cells ho (by omega)
  have L3 := hid (L2.out.snoc hb ho)
  have G3 := hid (G2.out.below hb)
  have ccx := rb_cap ho.reads
  clear ho hb L2 G2
  go_wp2_with fail
  refine (lent14 _ ns f _ (A2.out _ G3.out.bel) (by omega)).mono ?_
  rintro e w4 ⟨yv, rfl, ho, hb⟩
  obtain ⟨gy, cy, rfl, -⟩ := own_cells ho (by omega)
  have L4 := hid (L3.out.snoc hb ho)
  have G4 := hid (G3.out.below hb)
  have ccy := rb_cap ho.reads
  clear ho hb L3 G3
  go_wp2_with fail
  refine (lent14 _ ni inf _ (A3.out _ G4.out.bel) (by omega)).mono ?_
  rintro e w5 ⟨zv, rfl, ho, hb⟩
  obtain ⟨gz, cz, rfl, -⟩ := own_cells ho (by omega)
  have L5 := hid (L4.out.snoc hb ho)
  have G5 := hid (G4.out.below hb)
  have ccz := rb_cap ho.reads
  clear ho hb L4 G4
  have sx := fun W => sub_hA (some ⟨gx, 0, none⟩) (nk + 6) cx nk W (by omega) ccx
  have sy := fun W => sub_hA (some ⟨gy, 0, none⟩) (ns + 6) cy ns W (by omega) ccy
  have sz' := fun W => sub_hA (some ⟨gz, 0, none⟩) (ni + 6) cz ni W (by omega) ccz
  go_wp2_with fail
  go_region_held3 (fun _ => True) (trivial) (fail)
  clear sx sy sz'
  have L6 := hid (L5.out.below (below_drewN w5 1))
  have G6 := hid (G5.out.below (below_drewN w5 1))
  obtain ⟨w6, hw6⟩ : ∃ x, w5.drew = x := ⟨_, rfl⟩
  have L6 := hid (show LS w6 w.heap.size _ from by rw [← hw6]; exact L6.out)
  have G6 := hid (show GM w w.heap.size _ _ w6 from by rw [← hw6]; exact G6.out)
  rw [hw6]
  clear hw6 L5 G5
  go_wp2_with fail
  refine (GM.extract (l1 := []) G6.out a ns nk (.slice (some ⟨gy, 0, none⟩) ns cy) (.slice (some ⟨gx, 0, none⟩) nk cx) f g (fun w' hk' => rb_lent1 (GM.keepO (l1 := []) G6.out (L6.out.at (i := 1) rfl) hk') BF.out) (fun w' hk' => rb_lent1 (GM.keepO (l1 := []) G6.out (L6.out.at (i := 0) rfl) hk') BG.out) (by omega) (by omega) (by have := T0.out; omega)).mono ?_
  rintro e w7 ⟨u1, rv1, rfl, ho, hg, hko⟩
  obtain ⟨ua1, uc1, rfl⟩ := own_sl ho
  have L7 := hid (ls_ko L6.out hko hg.hB ho)
  have G7 := hid hg
  clear ho hg hko L6 G6
  go_wp2_with fail
  refine (GM.expand (l1 := []) G7.out a nk ni n (.slice (some ⟨gx, 0, none⟩) nk cx) (.slice (some ⟨gz, 0, none⟩) ni cz) g inf (fun w' hk' => rb_lent1 (GM.keepO (l1 := []) G7.out (L7.out.at (i := 0) rfl) hk') BG.out) (fun w' hk' => rb_lent1 (GM.keepO (l1 := []) G7.out (L7.out.at (i := 2) rfl) hk') BI.out) (by omega) (by omega) (by have := F1.out; omega)).mono ?_
  rintro e w8 ⟨u2, rv2, rfl, ho, hg, hko⟩
  rw [CC.out]
  rw [CN.out] at ho
  obtain ⟨ua2, uc2, rfl⟩ := own_sl ho
  have L8 := hid (ls_ko L7.out hko hg.hB ho)
  have G8 := hid hg
  clear ho hg hko L7 G7
  go_wp2_with fail
  refine (GM.key (l1 := []) G8.out a nk ns ni n (.slice (some ⟨gx, 0, none⟩) nk cx) (.slice (some ⟨gy, 0, none⟩) ns cy) (.slice (some ⟨gz, 0, none⟩) ni cz) g f inf (fun w' hk' => rb_lent1 (GM.keepO (l1 := []) G8.out (L8.out.at (i := 0) rfl) hk') BG.out) (fun w' hk' => rb_lent1 (GM.keepO (l1 := []) G8.out (L8.out.at (i := 1) rfl) hk') BF.out) (fun w' hk' => rb_lent1 (GM.keepO (l1 := []) G8.out (L8.out.at (i := 2) rfl) hk') BI.out) (by omega) (by omega) (by omega) (by have := F2.out; omega)).mono ?_
  rintro e w9 ⟨u3, rv3, rfl, ho, hg, hko⟩
  rw [CC.out]
  rw [CN.out] at ho
  obtain ⟨ua3, uc3, rfl⟩ := own_sl ho
  have L9 := hid (ls_ko L8.out hko hg.hB ho)
  have G9 := hid hg
  clear ho hg hko L8 G8
  go_wp2_with fail
  refine (key0 a nk ns ni n (.slice (some ⟨gx, 0, none⟩) nk cx) (.slice (some ⟨gy, 0, none⟩) ns cy) (.slice (some ⟨gz, 0, none⟩) ni cz) g f inf _ G9.out.kt (rb_lent1 (L9.out.at (i := 0) rfl) BG.out) (rb_lent1 (L9.out.at (i := 1) rfl) BF.out) (rb_lent1 (L9.out.at (i := 2) rfl) BI.out) (by omega) (by omega) (by omega)).mono ?_
  rintro e w10 ⟨u4, rfl, ho, hb⟩
  rw [CC.out]
  rw [CN.out] at ho
  obtain ⟨ua4, uc4, rfl⟩ := own_sl ho
  have L10 := hid (L9.out.snoc hb ho)
  have G10 := hid (G9.out.below hb)
  clear ho hb L9 G9
  go_wp2_with fail
  refine (dextract a _ ns nk _ _ _ f g _ _ (GM.midR (l1 := [_]) (l2 := []) G10.out) (GM.rdR (l1 := [_]) (l2 := []) G10.out A2.out) (GM.rdR (l1 := [_]) (l2 := []) G10.out A1.out) (by omega) (by omega) (by have := T0.out; omega)).mono ?_
  rintro e w11 ⟨u5, rfl, ho, hrw⟩
  obtain ⟨ua5, uc5, rfl⟩ := own_sl ho
  obtain ⟨rv5, hg, hko⟩ := GM.goR (l1 := [_]) (l2 := []) G10.out hrw
  have L11 := hid (ls_ko L10.out hko hg.hB ho)
  have G11 := hid hg
  clear ho hg hko hrw L10 G10
  go_wp2_with fail
  refine (dexpand_any a _ nk ni n _ _ _ g inf _ _ (GM.midR (l1 := [_]) (l2 := []) G11.out) (GM.rdR (l1 := [_]) (l2 := []) G11.out A1.out) (GM.rdR (l1 := [_]) (l2 := []) G11.out A3.out) (by omega) (by omega) (by have := F1.out; omega)).mono ?_
  rintro e w12 ⟨u6, rfl, ho, hrw⟩
  rw [CC.out]
  rw [CN.out] at ho
  obtain ⟨ua6, uc6, rfl⟩ := own_sl ho
  obtain ⟨rv6, hg, hko⟩ := GM.goR (l1 := [_]) (l2 := []) G11.out hrw
  have L12 := hid (ls_ko L11.out hko hg.hB ho)
  have G12 := hid hg
  clear ho hg hko hrw L11 G11
  go_wp2_with fail
  refine (dkey_any a _ nk ns ni n _ _ _ _ g f inf _ _ (GM.midR (l1 := [_]) (l2 := []) G12.out) (GM.rdR (l1 := [_]) (l2 := []) G12.out A1.out) (GM.rdR (l1 := [_]) (l2 := []) G12.out A2.out) (GM.rdR (l1 := [_]) (l2 := []) G12.out A3.out) (by omega) (by omega) (by omega) (by have := F2.out; omega)).mono ?_
  rintro e w13 ⟨u7, rfl, ho, hrw⟩
  rw [CC.out]
  rw [CN.out] at ho
  obtain ⟨ua7, uc7, rfl⟩ := own_sl ho
  obtain ⟨rv7, hg, hko⟩ := GM.goR (l1 := [_]) (l2 := []) G12.out hrw
  have L13 := hid (ls_ko L12.out hko hg.hB ho)
  have G13 := hid hg
  clear ho hg hko hrw L12 G12
  obtain ⟨LL, hLL⟩ : ∃ x, yl a (xl a (tev a [] ns nk) nk ni n) ns nk ni n = x := ⟨_, rfl⟩
  have TL := hid (show LL.length < 2000000000 by rw [← hLL]; have := F3.out; have := R3.out; omega)
  rw [hLL] at G13
  clear hLL
  go_wp2_with fail
  refine (kept17 _ _ nk g _ (L13.out.at (i := 0) rfl).reads (A1.out _ G13.out.bel) (by omega)).mono ?_
  rintro e w14 ⟨rfl, hb⟩
  have L14 := hid (L13.out.below hb)
  have G14 := hid (G13.out.below hb)
  clear hb L13 G13
  go_wp2_with fail
  refine (kept17 _ _ ns f _ (L14.out.at (i := 1) rfl).reads (A2.out _ G14.out.bel) (by omega)).mono ?_
  rintro e w15 ⟨rfl, hb⟩
  have L15 := hid (L14.out.below hb)
  have G15 := hid (G14.out.below hb)
  clear hb L14 G14
  go_wp2_with fail
  refine (kept17 _ _ ni inf _ (L15.out.at (i := 2) rfl).reads (A3.out _ G15.out.bel) (by omega)).mono ?_
  rintro e w16 ⟨rfl, hb⟩
  have L16 := hid (L15.out.below hb)
  have G16 := hid (G15.out.below hb)
  clear hb L15 G15
  go_wp2_with fail
  refine (over18 gx cx (nk + 6) w.heap.size _ _ (L16.out.at (i := 0) rfl) (by omega)).mono ?_
  rintro e w17 ⟨rfl, ho, hg⟩
  have L17 := hid (LS.over (l1 := []) L16.out hg ho)
  have G17 := hid (GM.over8 G16.out (L16.out.at (i := 0) rfl) hg)
  clear ho hg L16 G16
  go_wp2_with fail
  refine (over18 gy cy (ns + 6) w.heap.size _ _ (L17.out.at (i := 1) rfl) (by omega)).mono ?_
  rintro e w18 ⟨rfl, ho, hg⟩
  have L18 := hid (LS.over (l1 := [⟨.slice (some ⟨gx, 0, none⟩) (nk + 6) cx, nk + 6, over⟩]) L17.out hg ho)
  have G18 := hid (GM.over8 G17.out (L17.out.at (i := 1) rfl) hg)
  clear ho hg L17 G17
  go_wp2_with fail
  refine (over18 gz cz (ni + 6) w.heap.size _ _ (L18.out.at (i := 2) rfl) (by omega)).mono ?_
  rintro e w19 ⟨rfl, ho, hg⟩
  have L19 := hid (LS.over (l1 := [⟨.slice (some ⟨gx, 0, none⟩) (nk + 6) cx, nk + 6, over⟩, ⟨.slice (some ⟨gy, 0, none⟩) (ns + 6) cy, ns + 6, over⟩]) L18.out hg ho)
  have G19 := hid (GM.over8 G18.out (L18.out.at (i := 2) rfl) hg)
  clear ho hg L18 G18
  go_wp2_with fail
  refine (same_true _ _ (sz a) _ _ _ (L19.out.at (i := 3) rfl).reads (L19.out.at (i := 7) rfl).reads (by omega) (fun _ _ => rfl)).mono ?_
  rintro e w20 ⟨rfl, dd, hw⟩
  have hb : Below w19.heap.size w19 w20 := by rw [hw]; exact below_drewN _ _
  have L20 := hid (L19.out.below hb)
  have G20 := hid (G19.out.below hb)
  clear hw hb L19 G19
  go_wp2_with fail
  refine (same_true _ _ Nn _ _ _ (L20.out.at (i := 4) rfl).reads (L20.out.at (i := 8) rfl).reads (by omega) (fun _ _ => rfl)).mono ?_
  rintro e w21 ⟨rfl, dd, hw⟩
  have hb : Below w20.heap.size w20 w21 := by rw [hw]; exact below_drewN _ _
  have L21 := hid (L20.out.below hb)
  have G21 := hid (G20.out.below hb)
  clear hw hb L20 G20
  go_wp2_with fail
  refine (same_true _ _ Nn _ _ _ (L21.out.at (i := 5) rfl).reads (L21.out.at (i := 9) rfl).reads (by omega) (fun _ _ => rfl)).mono ?_
  rintro e w22 ⟨rfl, dd, hw⟩
  have hb : Below w21.heap.size w21 w22 := by rw [hw]; exact below_drewN _ _
  have L22 := hid (L21.out.below hb)
  have G22 := hid (G21.out.below hb)
  clear hw hb L21 G21
  go_wp2_with fail
  refine (same_true _ _ Nn _ _ _ (L22.out.at (i := 6) rfl).reads (L22.out.at (i := 9) rfl).reads (by omega) (fun _ _ => rfl)).mono ?_
  rintro e w23 ⟨rfl, dd, hw⟩
  have hb : Below w22.heap.size w22 w23 := by rw [hw]; exact below_drewN _ _
  have L23 := hid (L22.out.below hb)
  have G23 := hid (G22.out.below hb)
  clear hw hb L22 G22
  go_wp2_with fail
  refine (runs22 _ _ _ _ (GM.midL (l1 := []) G23.out).1 (by have := TL.out; omega)).mono ?_
  rintro e w24 ⟨r1, rfl, hu, hb⟩
  have U1 := hid hu
  have L24 := hid (L23.out.below hb)
  have G24 := hid (G23.out.below hb)
  clear hu hb L23 G23
  go_wp2_with fail
  refine (refRuns20 _ _ _ _ (GM.midR (l1 := [_]) (l2 := []) G24.out) (by have := TL.out; omega)).mono ?_
  rintro e w25 ⟨r2, rfl, hu, hb⟩
  have U2 := hid hu
  have V1 := hid (U1.out.below hb)
  have L25 := hid (L24.out.below hb)
  have G25 := hid (G24.out.below hb)
  clear hu hb L24 G24 U1
  go_wp2_with fail
  refine (same14 _ _ LL LL _ V1.out.reads U2.out.reads (by have := TL.out; omega) (by have := TL.out; omega)).mono ?_
  rw [decide_eq_true (show LL = LL from rfl)]
  rintro e w26 ⟨rfl, dd, hw⟩
  have hb : Below w25.heap.size w25 w26 := by rw [hw]; exact below_drewN _ _
  have L26 := hid (L25.out.below hb)
  have G26 := hid (G25.out.below hb)
  clear hw hb V1 U2 L25 G25
  have L0 := hid (show LS w26 w.heap.size [⟨.slice (some ⟨gx, 0, none⟩) (nk + 6) cx, nk + 6, over⟩, ⟨.slice (some ⟨gy, 0, none⟩) (ns + 6) cy, ns + 6, over⟩, ⟨.slice (some ⟨gz, 0, none⟩) (ni + 6) cz, ni + 6, over⟩, ⟨.slice ua1 (sz a) uc1, sz a, _⟩, ⟨.slice ua2 Nn uc2, Nn, _⟩, ⟨.slice ua3 Nn uc3, Nn, _⟩, ⟨.slice ua4 Nn uc4, Nn, _⟩] from L26.out.take 7)
  go_wp2_with fail
  refine (L0.out.apart _ rfl 7 rfl (by omega) (by omega) ?_).mono ?_
  · intro x hx
    simp only [List.mem_cons, List.not_mem_nil, or_false] at hx
    rcases hx with rfl | rfl | rfl | rfl | rfl | rfl | rfl
    · show nk + 6 ≤ _; omega
    · show ns + 6 ≤ _; omega
    · show ni + 6 ≤ _; omega
    · show sz a ≤ _; omega
    all_goals (show Nn ≤ _; omega)
  rintro e wE ⟨rfl, hb⟩
  have bE := hid ((G26.out.bel.trans ((below_alloc w26 _).mono G26.out.hB)).trans hb)
  clear hb
  go_wp2
  go_ret
  exact ⟨rfl, bE.out⟩
end Go.Proofs.YtmbcccmidfpgeaaGreatDoor.Dg
