/- The law Pbkdf2Keys. -/
import Derived.Test.YtjhhnajgfngbhaaGreatDoorNhv
import Derived.Test.YtjhhnajgfngbhaaGreatDoorNap
namespace Go.Proofs.YtjhhnajgfngbhaaGreatDoor.Dg
open Go.ChangeShapes Go.WideShapes Go.ChangeAt Go.RowKit
open Go.Proofs.YtjhhnajgfngbhaaGreatDoor.By
open Go.Proofs.YtjhhnajgfngbhaaGreatDoor.Sh (Blk size_alloc)
open Go.Proofs.YtjhhnajgfngbhaaGreatDoor.Kc (LS LI)
theorem bnn (n : Int) (h0 : 0 ≤ n) (h1 : n ≤ 16320) : 0 ≤ wrap64 (wrap64 (n.tdiv 32) + 1) := by
  have e : n.tdiv 32 = n / 32 := Int.tdiv_eq_ediv_of_nonneg h0
  rw [e]
  unfold wrap64
  omega
set_option maxRecDepth 8000 in
set_option maxHeartbeats 16000000 in
theorem keys_ok_in (a : Bool) (ka sa : Option Addr) (np pc ns sc : Nat) (g f : Nat → Int) (c n : Int) (w : World) (hr : By.RB w (.slice ka np pc) np g) (hr2 : By.RB w (.slice sa ns sc) ns f) (hk : KT w) (hn : np ≤ 140737488351232) (hns : ns ≤ 140737488351232) (hin : n ≤ 16320) :
    Calls Tryz.prog 3 #[.int .u8 (an a), .slice ka np pc, .slice sa ns sc, .int .i64 c, .int .i64 n] w fun e w' => e = .returned (.bool true) ∧ Below w.heap.size w w' := by
  have BG := hid hr.1
  have BF := hid hr2.1
  have A1 := hid (show ∀ w', Below w.heap.size w w' → By.RB w' (.slice ka np pc) np g from fun w' hb => hr.below hb)
  have A2 := hid (show ∀ w', Below w.heap.size w w' → By.RB w' (.slice sa ns sc) ns f from fun w' hb => hr2.below hb)
  have T0 := hid tq_nil
  have G0 := hid (GM.start w hk)
  have L0 := hid (LS.nil (w := w) (B := w.heap.size) (Nat.le_refl _))
  clear hr hr2 hk
  obtain ⟨cd, hcd⟩ : ∃ y, kc c n = y := ⟨_, rfl⟩
  obtain ⟨Nn, hNn⟩ : ∃ y, kN c n = y := ⟨_, rfl⟩
  have CC := hid hcd
  have CN := hid hNn
  have hNl : Nn ≤ 16320 := by
    rw [← hNn]
    unfold kN; split
    · rename_i h; unfold kok at h; omega
    · omega
  clear hcd hNn
  go_enter Tryz.func3, Tryz.ntmps3
  go_wp2_with fail
  refine (heavyA a np pc ns sc ka sa c _ _ (by omega) (by omega)).mono ?_
  rintro e w1 ⟨⟨h, rfl, hh⟩, hw⟩
  subst w1
  cases h
  case true =>
    go_wp2
    go_ret
    exact ⟨rfl, Below.refl _ _⟩
  case false =>
    have HB := hid (show kok c n → ns ≤ 1000000 from fun hk => by have := (hh rfl hk.1 (bnn n hk.2.1 hk.2.2)).2; omega)
    clear hh
    go_wp2_with fail
    refine (lentP np pc ka g _ (A1.out _ G0.out.bel) (by omega)).mono ?_
    rintro e w1 ⟨gx, cx, rfl, ho, hb⟩
    have L1 := hid (L0.out.snoc hb ho)
    have G1 := hid (G0.out.below hb)
    clear ho hb L0 G0
    go_wp2_with fail
    refine (lentP ns sc sa f _ (A2.out _ G1.out.bel) (by omega)).mono ?_
    rintro e w2 ⟨gy, cy, rfl, ho, hb⟩
    have L2 := hid (L1.out.snoc hb ho)
    have G2 := hid (G1.out.below hb)
    clear ho hb L1 G1
    go_wp2_with fail
    refine (new9 _).mono ?_
    rintro e w3 ⟨rfl, hl, hb⟩
    have G3 := hid (G2.out.addLed hb (o := true) hl)
    rw [List.nil_append] at G3
    have L3 := hid (L2.out.below hb)
    clear hl hb L2 G2
    go_wp2_with fail
    refine (refNew10 _).mono ?_
    rintro e w4 ⟨rfl, hl, hb⟩
    have G4 := hid (G3.out.addLed hb (o := false) hl)
    rw [List.singleton_append] at G4
    have L4 := hid (L3.out.below hb)
    clear hl hb L3 G3
    go_wp2_with fail
    refine (dkey_any a _ np ns c n _ _ _ g f _ _ (GM.midR (l1 := [_]) (l2 := []) G4.out) (GM.rdR (l1 := [_]) (l2 := []) G4.out A1.out) (GM.rdR (l1 := [_]) (l2 := []) G4.out A2.out) (by omega) HB.out (by have := T0.out; omega)).mono ?_
    rintro e w5 ⟨u1, rfl, ⟨oa, ol, oc, rfl, hol, ho⟩, hrw⟩
    rw [CC.out, CN.out]
    rw [CN.out] at hol
    obtain ⟨rv1, hg, hko⟩ := GM.goR (l1 := [_]) (l2 := []) G4.out hrw
    have L5 := hid (ls_ko L4.out hko hg.hB ho)
    have G5 := hid hg
    have HOL := hid hol
    clear ho hg hko hrw hol L4 G4
    go_wp2_with fail
    refine (GM.pkey (l1 := []) G5.out a np ns c n (.slice (some ⟨gx, 0, none⟩) np cx) (.slice (some ⟨gy, 0, none⟩) ns cy) g f (fun w' hk' => rb_lent1 (GM.keepO (l1 := []) G5.out (L5.out.at (i := 0) rfl) hk') BG.out) (fun w' hk' => rb_lent1 (GM.keepO (l1 := []) G5.out (L5.out.at (i := 1) rfl) hk') BF.out) (by omega) HB.out (by have := T0.out; omega)).mono ?_
    rintro e w6 ⟨u2, rv2, rfl, ho, hg, hko⟩
    rw [CC.out]
    rw [CN.out] at ho
    obtain ⟨ua2, uc2, rfl⟩ := own_sl ho
    have L6 := hid (ls_ko L5.out hko hg.hB ho)
    have G6 := hid hg
    clear ho hg hko L5 G5
    go_wp2_with fail
    refine (pkey0 a np ns c n (.slice (some ⟨gx, 0, none⟩) np cx) (.slice (some ⟨gy, 0, none⟩) ns cy) g f _ G6.out.kt (rb_lent1 (L6.out.at (i := 0) rfl) BG.out) (rb_lent1 (L6.out.at (i := 1) rfl) BF.out) (by omega) HB.out).mono ?_
    rintro e w7 ⟨u3, rfl, ho, hb⟩
    rw [CC.out]
    rw [CN.out] at ho
    obtain ⟨ua3, uc3, rfl⟩ := own_sl ho
    have L7 := hid (L6.out.snoc hb ho)
    have G7 := hid (G6.out.below hb)
    clear ho hb L6 G6
    obtain ⟨LL, hLL⟩ : ∃ y, kl a [] np ns c n = y := ⟨_, rfl⟩
    have TL := hid (show LL.length < 2000000000 by rw [← hLL]; have h1 := kl_fine a Sg.pos_nil' np ns c n (by omega) HB.out (by have := T0.out; omega); have h2 := tq_len (kl a [] np ns c n); have := T0.out; omega)
    rw [hLL] at G7
    clear hLL
    go_wp2_with fail
    refine (same_true _ _ Nn _ _ _ (L7.out.at (i := 3) rfl).reads ((L7.out.at (i := 2) rfl).reads.first Nn HOL.out) (by omega) (fun _ _ => rfl)).mono ?_
    rintro e w8 ⟨rfl, dd, hw⟩
    have hb : Below w7.heap.size w7 w8 := by rw [hw]; exact below_drewN _ _
    have L8 := hid (L7.out.below hb)
    have G8 := hid (G7.out.below hb)
    clear hw hb L7 G7
    go_wp2_with fail
    refine (same_true _ _ Nn _ _ _ (L8.out.at (i := 4) rfl).reads ((L8.out.at (i := 2) rfl).reads.first Nn HOL.out) (by omega) (fun _ _ => rfl)).mono ?_
    rintro e w9 ⟨rfl, dd, hw⟩
    have hb : Below w8.heap.size w8 w9 := by rw [hw]; exact below_drewN _ _
    have L9 := hid (L8.out.below hb)
    have G9 := hid (G8.out.below hb)
    clear hw hb L8 G8
    go_wp2_with fail
    refine (kept17 _ _ np g _ (L9.out.at (i := 0) rfl).reads (A1.out _ G9.out.bel) (by omega)).mono ?_
    rintro e w10 ⟨rfl, hb⟩
    have L10 := hid (L9.out.below hb)
    have G10 := hid (G9.out.below hb)
    clear hb L9 G9
    go_wp2_with fail
    refine (kept17 _ _ ns f _ (L10.out.at (i := 1) rfl).reads (A2.out _ G10.out.bel) (by omega)).mono ?_
    rintro e w11 ⟨rfl, hb⟩
    have L11 := hid (L10.out.below hb)
    have G11 := hid (G10.out.below hb)
    clear hb L10 G10
    go_wp2_with fail
    refine (over18 gx cx (np + 6) w.heap.size _ _ (L11.out.at (i := 0) rfl) (by omega)).mono ?_
    rintro e w12 ⟨rfl, ho, hg⟩
    have L12 := hid (LS.over (l1 := []) L11.out hg ho)
    have G12 := hid (GM.over8 G11.out (L11.out.at (i := 0) rfl) hg)
    clear ho hg L11 G11
    go_wp2_with fail
    refine (over18 gy cy (ns + 6) w.heap.size _ _ (L12.out.at (i := 1) rfl) (by omega)).mono ?_
    rintro e w13 ⟨rfl, ho, hg⟩
    have L13 := hid (LS.over (l1 := [⟨.slice (some ⟨gx, 0, none⟩) (np + 6) cx, np + 6, over⟩]) L12.out hg ho)
    have G13 := hid (GM.over8 G12.out (L12.out.at (i := 1) rfl) hg)
    clear ho hg L12 G12
    go_wp2_with fail
    refine (same_true _ _ Nn _ _ _ (L13.out.at (i := 3) rfl).reads ((L13.out.at (i := 2) rfl).reads.first Nn HOL.out) (by omega) (fun _ _ => rfl)).mono ?_
    rintro e w14 ⟨rfl, dd, hw⟩
    have hb : Below w13.heap.size w13 w14 := by rw [hw]; exact below_drewN _ _
    have L14 := hid (L13.out.below hb)
    have G14 := hid (G13.out.below hb)
    clear hw hb L13 G13
    have LA := hid (show LS w14 w.heap.size [⟨.slice ua2 Nn uc2, Nn, _⟩, ⟨.slice ua3 Nn uc3, Nn, _⟩] from L14.out.dropK 3)
    go_wp2_with fail
    refine (LA.out.apartZ _ rfl 2 rfl (by omega) (by omega) ?_).mono ?_
    · intro x hx
      simp only [List.mem_cons, List.not_mem_nil, or_false] at hx
      rcases hx with rfl | rfl
      all_goals (show Nn ≤ _; omega)
    rintro e w15 ⟨rfl, -, hkp⟩
    have G15 := hid (GM.apart (G14.out.below (below_alloc w14 _)) (LA.out.below (below_alloc w14 _)) hkp)
    clear hkp LA L14 G14
    go_wp2_with fail
    refine (runs22 _ _ _ _ (GM.midL (l1 := []) G15.out).1 (by have := TL.out; omega)).mono ?_
    rintro e w16 ⟨r1, rfl, hu, hb⟩
    have U1 := hid hu
    have G16 := hid (G15.out.below hb)
    clear hu hb G15
    go_wp2_with fail
    refine (refRuns20 _ _ _ _ (GM.midR (l1 := [_]) (l2 := []) G16.out) (by have := TL.out; omega)).mono ?_
    rintro e w17 ⟨r2, rfl, hu, hb⟩
    have U2 := hid hu
    have V1 := hid (U1.out.below hb)
    have G17 := hid (G16.out.below hb)
    clear hu hb G16 U1
    go_wp2_with fail
    refine (same14 _ _ LL LL _ V1.out.reads U2.out.reads (by have := TL.out; omega) (by have := TL.out; omega)).mono ?_
    rw [decide_eq_true (show LL = LL from rfl)]
    rintro e w18 ⟨rfl, dd, hw⟩
    have bE := hid (below_next G17.out.bel (show Below w17.heap.size w17 w18 by rw [hw]; exact below_drewN _ _))
    clear hw
    go_wp2
    go_ret
    exact ⟨rfl, bE.out⟩
set_option maxRecDepth 8000 in
set_option maxHeartbeats 16000000 in
theorem keys_ok_out (a : Bool) (ka sa : Option Addr) (np pc ns sc : Nat) (g f : Nat → Int) (c n : Int) (w : World) (hr : By.RB w (.slice ka np pc) np g) (hr2 : By.RB w (.slice sa ns sc) ns f) (hk : KT w) (hn : np ≤ 140737488351232) (hns : ns ≤ 140737488351232) (hin : ¬ n ≤ 16320) :
    Calls Tryz.prog 3 #[.int .u8 (an a), .slice ka np pc, .slice sa ns sc, .int .i64 c, .int .i64 n] w fun e w' => e = .returned (.bool true) ∧ Below w.heap.size w w' := by
  have BG := hid hr.1
  have BF := hid hr2.1
  have A1 := hid (show ∀ w', Below w.heap.size w w' → By.RB w' (.slice ka np pc) np g from fun w' hb => hr.below hb)
  have A2 := hid (show ∀ w', Below w.heap.size w w' → By.RB w' (.slice sa ns sc) ns f from fun w' hb => hr2.below hb)
  have T0 := hid tq_nil
  have G0 := hid (GM.start w hk)
  have L0 := hid (LS.nil (w := w) (B := w.heap.size) (Nat.le_refl _))
  clear hr hr2 hk
  obtain ⟨cd, hcd⟩ : ∃ y, kc c n = y := ⟨_, rfl⟩
  obtain ⟨Nn, hNn⟩ : ∃ y, kN c n = y := ⟨_, rfl⟩
  have CC := hid hcd
  have CN := hid hNn
  have hNl : Nn ≤ 16320 := by
    rw [← hNn]
    unfold kN; split
    · rename_i h; unfold kok at h; omega
    · omega
  clear hcd hNn
  have HB := hid (show kok c n → ns ≤ 1000000 from fun hk => absurd hk.2.2 hin)
  have hin' : 16320 < n := by omega
  clear hin
  go_enter Tryz.func3, Tryz.ntmps3
  go_wp2_with fail
  refine (lentP np pc ka g _ (A1.out _ G0.out.bel) (by omega)).mono ?_
  rintro e w1 ⟨gx, cx, rfl, ho, hb⟩
  have L1 := hid (L0.out.snoc hb ho)
  have G1 := hid (G0.out.below hb)
  clear ho hb L0 G0
  go_wp2_with fail
  refine (lentP ns sc sa f _ (A2.out _ G1.out.bel) (by omega)).mono ?_
  rintro e w2 ⟨gy, cy, rfl, ho, hb⟩
  have L2 := hid (L1.out.snoc hb ho)
  have G2 := hid (G1.out.below hb)
  clear ho hb L1 G1
  go_wp2_with fail
  refine (new9 _).mono ?_
  rintro e w3 ⟨rfl, hl, hb⟩
  have G3 := hid (G2.out.addLed hb (o := true) hl)
  rw [List.nil_append] at G3
  have L3 := hid (L2.out.below hb)
  clear hl hb L2 G2
  go_wp2_with fail
  refine (refNew10 _).mono ?_
  rintro e w4 ⟨rfl, hl, hb⟩
  have G4 := hid (G3.out.addLed hb (o := false) hl)
  rw [List.singleton_append] at G4
  have L4 := hid (L3.out.below hb)
  clear hl hb L3 G3
  go_wp2_with fail
  refine (dkey_any a _ np ns c n _ _ _ g f _ _ (GM.midR (l1 := [_]) (l2 := []) G4.out) (GM.rdR (l1 := [_]) (l2 := []) G4.out A1.out) (GM.rdR (l1 := [_]) (l2 := []) G4.out A2.out) (by omega) HB.out (by have := T0.out; omega)).mono ?_
  rintro e w5 ⟨u1, rfl, ⟨oa, ol, oc, rfl, hol, ho⟩, hrw⟩
  rw [CC.out, CN.out]
  rw [CN.out] at hol
  obtain ⟨rv1, hg, hko⟩ := GM.goR (l1 := [_]) (l2 := []) G4.out hrw
  have L5 := hid (ls_ko L4.out hko hg.hB ho)
  have G5 := hid hg
  have HOL := hid hol
  clear ho hg hko hrw hol L4 G4
  go_wp2_with fail
  refine (GM.pkey (l1 := []) G5.out a np ns c n (.slice (some ⟨gx, 0, none⟩) np cx) (.slice (some ⟨gy, 0, none⟩) ns cy) g f (fun w' hk' => rb_lent1 (GM.keepO (l1 := []) G5.out (L5.out.at (i := 0) rfl) hk') BG.out) (fun w' hk' => rb_lent1 (GM.keepO (l1 := []) G5.out (L5.out.at (i := 1) rfl) hk') BF.out) (by omega) HB.out (by have := T0.out; omega)).mono ?_
  rintro e w6 ⟨u2, rv2, rfl, ho, hg, hko⟩
  rw [CC.out]
  rw [CN.out] at ho
  obtain ⟨ua2, uc2, rfl⟩ := own_sl ho
  have L6 := hid (ls_ko L5.out hko hg.hB ho)
  have G6 := hid hg
  clear ho hg hko L5 G5
  go_wp2_with fail
  refine (pkey0 a np ns c n (.slice (some ⟨gx, 0, none⟩) np cx) (.slice (some ⟨gy, 0, none⟩) ns cy) g f _ G6.out.kt (rb_lent1 (L6.out.at (i := 0) rfl) BG.out) (rb_lent1 (L6.out.at (i := 1) rfl) BF.out) (by omega) HB.out).mono ?_
  rintro e w7 ⟨u3, rfl, ho, hb⟩
  rw [CC.out]
  rw [CN.out] at ho
  obtain ⟨ua3, uc3, rfl⟩ := own_sl ho
  have L7 := hid (L6.out.snoc hb ho)
  have G7 := hid (G6.out.below hb)
  clear ho hb L6 G6
  obtain ⟨LL, hLL⟩ : ∃ y, kl a [] np ns c n = y := ⟨_, rfl⟩
  have TL := hid (show LL.length < 2000000000 by rw [← hLL]; have h1 := kl_fine a Sg.pos_nil' np ns c n (by omega) HB.out (by have := T0.out; omega); have h2 := tq_len (kl a [] np ns c n); have := T0.out; omega)
  rw [hLL] at G7
  clear hLL
  go_wp2_with fail
  refine (same_true _ _ Nn _ _ _ (L7.out.at (i := 3) rfl).reads ((L7.out.at (i := 2) rfl).reads.first Nn HOL.out) (by omega) (fun _ _ => rfl)).mono ?_
  rintro e w8 ⟨rfl, dd, hw⟩
  have hb : Below w7.heap.size w7 w8 := by rw [hw]; exact below_drewN _ _
  have L8 := hid (L7.out.below hb)
  have G8 := hid (G7.out.below hb)
  clear hw hb L7 G7
  go_wp2_with fail
  refine (same_true _ _ Nn _ _ _ (L8.out.at (i := 4) rfl).reads ((L8.out.at (i := 2) rfl).reads.first Nn HOL.out) (by omega) (fun _ _ => rfl)).mono ?_
  rintro e w9 ⟨rfl, dd, hw⟩
  have hb : Below w8.heap.size w8 w9 := by rw [hw]; exact below_drewN _ _
  have L9 := hid (L8.out.below hb)
  have G9 := hid (G8.out.below hb)
  clear hw hb L8 G8
  go_wp2_with fail
  refine (kept17 _ _ np g _ (L9.out.at (i := 0) rfl).reads (A1.out _ G9.out.bel) (by omega)).mono ?_
  rintro e w10 ⟨rfl, hb⟩
  have L10 := hid (L9.out.below hb)
  have G10 := hid (G9.out.below hb)
  clear hb L9 G9
  go_wp2_with fail
  refine (kept17 _ _ ns f _ (L10.out.at (i := 1) rfl).reads (A2.out _ G10.out.bel) (by omega)).mono ?_
  rintro e w11 ⟨rfl, hb⟩
  have L11 := hid (L10.out.below hb)
  have G11 := hid (G10.out.below hb)
  clear hb L10 G10
  go_wp2_with fail
  refine (over18 gx cx (np + 6) w.heap.size _ _ (L11.out.at (i := 0) rfl) (by omega)).mono ?_
  rintro e w12 ⟨rfl, ho, hg⟩
  have L12 := hid (LS.over (l1 := []) L11.out hg ho)
  have G12 := hid (GM.over8 G11.out (L11.out.at (i := 0) rfl) hg)
  clear ho hg L11 G11
  go_wp2_with fail
  refine (over18 gy cy (ns + 6) w.heap.size _ _ (L12.out.at (i := 1) rfl) (by omega)).mono ?_
  rintro e w13 ⟨rfl, ho, hg⟩
  have L13 := hid (LS.over (l1 := [⟨.slice (some ⟨gx, 0, none⟩) (np + 6) cx, np + 6, over⟩]) L12.out hg ho)
  have G13 := hid (GM.over8 G12.out (L12.out.at (i := 1) rfl) hg)
  clear ho hg L12 G12
  go_wp2_with fail
  refine (same_true _ _ Nn _ _ _ (L13.out.at (i := 3) rfl).reads ((L13.out.at (i := 2) rfl).reads.first Nn HOL.out) (by omega) (fun _ _ => rfl)).mono ?_
  rintro e w14 ⟨rfl, dd, hw⟩
  have hb : Below w13.heap.size w13 w14 := by rw [hw]; exact below_drewN _ _
  have L14 := hid (L13.out.below hb)
  have G14 := hid (G13.out.below hb)
  clear hw hb L13 G13
  have LA := hid (show LS w14 w.heap.size [⟨.slice ua2 Nn uc2, Nn, _⟩, ⟨.slice ua3 Nn uc3, Nn, _⟩] from L14.out.dropK 3)
  go_wp2_with fail
  refine (LA.out.apartZ _ rfl 2 rfl (by omega) (by omega) ?_).mono ?_
  · intro x hx
    simp only [List.mem_cons, List.not_mem_nil, or_false] at hx
    rcases hx with rfl | rfl
    all_goals (show Nn ≤ _; omega)
  rintro e w15 ⟨rfl, -, hkp⟩
  have G15 := hid (GM.apart (G14.out.below (below_alloc w14 _)) (LA.out.below (below_alloc w14 _)) hkp)
  clear hkp LA L14 G14
  go_wp2_with fail
  refine (runs22 _ _ _ _ (GM.midL (l1 := []) G15.out).1 (by have := TL.out; omega)).mono ?_
  rintro e w16 ⟨r1, rfl, hu, hb⟩
  have U1 := hid hu
  have G16 := hid (G15.out.below hb)
  clear hu hb G15
  go_wp2_with fail
  refine (refRuns20 _ _ _ _ (GM.midR (l1 := [_]) (l2 := []) G16.out) (by have := TL.out; omega)).mono ?_
  rintro e w17 ⟨r2, rfl, hu, hb⟩
  have U2 := hid hu
  have V1 := hid (U1.out.below hb)
  have G17 := hid (G16.out.below hb)
  clear hu hb G16 U1
  go_wp2_with fail
  refine (same14 _ _ LL LL _ V1.out.reads U2.out.reads (by have := TL.out; omega) (by have := TL.out; omega)).mono ?_
  rw [decide_eq_true (show LL = LL from rfl)]
  rintro e w18 ⟨rfl, dd, hw⟩
  have bE := hid (below_next G17.out.bel (show Below w17.heap.size w17 w18 by rw [hw]; exact below_drewN _ _))
  clear hw
  go_wp2
  go_ret
  exact ⟨rfl, bE.out⟩
set_option maxRecDepth 8000 in
set_option maxHeartbeats 16000000 in
theorem keys_no_in (al : Int) (h1 : ¬ al = 1) (h2 : ¬ al = 2) (ka sa : Option Addr) (np pc ns sc : Nat) (g f : Nat → Int) (c n : Int) (w : World) (hr : By.RB w (.slice ka np pc) np g) (hr2 : By.RB w (.slice sa ns sc) ns f) (hk : KT w) (hn : np ≤ 140737488351232) (hns : ns ≤ 140737488351232) (hin : n ≤ 16320) :
    Calls Tryz.prog 3 #[.int .u8 al, .slice ka np pc, .slice sa ns sc, .int .i64 c, .int .i64 n] w fun e w' => e = .returned (.bool true) ∧ Below w.heap.size w w' := by
  have BG := hid hr.1
  have BF := hid hr2.1
  have A1 := hid (show ∀ w', Below w.heap.size w w' → By.RB w' (.slice ka np pc) np g from fun w' hb => hr.below hb)
  have A2 := hid (show ∀ w', Below w.heap.size w w' → By.RB w' (.slice sa ns sc) ns f from fun w' hb => hr2.below hb)
  have T0 := hid tq_nil
  have G0 := hid (GM.start w hk)
  have L0 := hid (LS.nil (w := w) (B := w.heap.size) (Nat.le_refl _))
  clear hr hr2 hk
  go_enter Tryz.func3, Tryz.ntmps3
  go_wp2_with fail
  refine (heavyN al h1 h2 _ _ _ _ _).mono ?_
  rintro e w1 ⟨rfl, hw⟩
  subst w1
  go_wp2_with fail
  refine (lentP np pc ka g _ (A1.out _ G0.out.bel) (by omega)).mono ?_
  rintro e w1 ⟨gx, cx, rfl, ho, hb⟩
  have L1 := hid (L0.out.snoc hb ho)
  have G1 := hid (G0.out.below hb)
  clear ho hb L0 G0
  go_wp2_with fail
  refine (lentP ns sc sa f _ (A2.out _ G1.out.bel) (by omega)).mono ?_
  rintro e w2 ⟨gy, cy, rfl, ho, hb⟩
  have L2 := hid (L1.out.snoc hb ho)
  have G2 := hid (G1.out.below hb)
  clear ho hb L1 G1
  go_wp2_with fail
  refine (new9 _).mono ?_
  rintro e w3 ⟨rfl, hl, hb⟩
  have G3 := hid (G2.out.addLed hb (o := true) hl)
  rw [List.nil_append] at G3
  have L3 := hid (L2.out.below hb)
  clear hl hb L2 G2
  go_wp2_with fail
  refine (refNew10 _).mono ?_
  rintro e w4 ⟨rfl, hl, hb⟩
  have G4 := hid (G3.out.addLed hb (o := false) hl)
  rw [List.singleton_append] at G4
  have L4 := hid (L3.out.below hb)
  clear hl hb L3 G3
  go_wp2_with fail
  refine (dkeyN al h1 h2 _ _ _ _ _ _).mono ?_
  rintro e ww ⟨rfl, hw⟩
  subst ww
  go_wp2_with fail
  refine (pkeyN al h1 h2 _ _ _ _ _ _).mono ?_
  rintro e ww ⟨rfl, hw⟩
  subst ww
  go_wp2_with fail
  refine (pkeyN al h1 h2 _ _ _ _ _ _).mono ?_
  rintro e ww ⟨rfl, hw⟩
  subst ww
  have N0 := own_nil w4 w4.heap.size nof nof_b
  have L4 := hid (((L4.out.snoc (Below.refl _ _) N0).snoc (Below.refl _ _) N0).snoc (Below.refl _ _) N0)
  clear N0
  obtain ⟨LL, hLL⟩ : ∃ x : List Rn, [] = x := ⟨_, rfl⟩
  have TL := hid (show LL.length < 2000000000 by rw [← hLL]; decide)
  rw [hLL] at G4
  clear hLL
  go_wp2_with fail
  refine (same_true _ _ 0 _ _ _ (L4.out.at (i := 3) rfl).reads (L4.out.at (i := 2) rfl).reads (by omega) (fun _ _ => rfl)).mono ?_
  rintro e w5 ⟨rfl, dd, hw⟩
  have hb : Below w4.heap.size w4 w5 := by rw [hw]; exact below_drewN _ _
  have L5 := hid (L4.out.below hb)
  have G5 := hid (G4.out.below hb)
  clear hw hb L4 G4
  go_wp2_with fail
  refine (same_true _ _ 0 _ _ _ (L5.out.at (i := 4) rfl).reads (L5.out.at (i := 2) rfl).reads (by omega) (fun _ _ => rfl)).mono ?_
  rintro e w6 ⟨rfl, dd, hw⟩
  have hb : Below w5.heap.size w5 w6 := by rw [hw]; exact below_drewN _ _
  have L6 := hid (L5.out.below hb)
  have G6 := hid (G5.out.below hb)
  clear hw hb L5 G5
  go_wp2_with fail
  refine (kept17 _ _ np g _ (L6.out.at (i := 0) rfl).reads (A1.out _ G6.out.bel) (by omega)).mono ?_
  rintro e w7 ⟨rfl, hb⟩
  have L7 := hid (L6.out.below hb)
  have G7 := hid (G6.out.below hb)
  clear hb L6 G6
  go_wp2_with fail
  refine (kept17 _ _ ns f _ (L7.out.at (i := 1) rfl).reads (A2.out _ G7.out.bel) (by omega)).mono ?_
  rintro e w8 ⟨rfl, hb⟩
  have L8 := hid (L7.out.below hb)
  have G8 := hid (G7.out.below hb)
  clear hb L7 G7
  go_wp2_with fail
  refine (over18 gx cx (np + 6) w.heap.size _ _ (L8.out.at (i := 0) rfl) (by omega)).mono ?_
  rintro e w9 ⟨rfl, ho, hg⟩
  have L9 := hid (LS.over (l1 := []) L8.out hg ho)
  have G9 := hid (GM.over8 G8.out (L8.out.at (i := 0) rfl) hg)
  clear ho hg L8 G8
  go_wp2_with fail
  refine (over18 gy cy (ns + 6) w.heap.size _ _ (L9.out.at (i := 1) rfl) (by omega)).mono ?_
  rintro e w10 ⟨rfl, ho, hg⟩
  have L10 := hid (LS.over (l1 := [⟨.slice (some ⟨gx, 0, none⟩) (np + 6) cx, np + 6, over⟩]) L9.out hg ho)
  have G10 := hid (GM.over8 G9.out (L9.out.at (i := 1) rfl) hg)
  clear ho hg L9 G9
  go_wp2_with fail
  refine (same_true _ _ 0 _ _ _ (L10.out.at (i := 3) rfl).reads (L10.out.at (i := 2) rfl).reads (by omega) (fun _ _ => rfl)).mono ?_
  rintro e w11 ⟨rfl, dd, hw⟩
  have hb : Below w10.heap.size w10 w11 := by rw [hw]; exact below_drewN _ _
  have L11 := hid (L10.out.below hb)
  have G11 := hid (G10.out.below hb)
  clear hw hb L10 G10
  have LA := hid (show LS w11 w.heap.size [⟨.slice none 0 0, 0, nof⟩, ⟨.slice none 0 0, 0, nof⟩] from L11.out.dropK 3)
  go_wp2_with fail
  refine (LA.out.apartZ _ rfl 2 rfl (by omega) (by omega) ?_).mono ?_
  · intro x hx
    simp only [List.mem_cons, List.not_mem_nil, or_false] at hx
    rcases hx with rfl | rfl
    all_goals (show 0 ≤ _; omega)
  rintro e w12 ⟨rfl, -, hkp⟩
  have G12 := hid (GM.apart (G11.out.below (below_alloc w11 _)) (LA.out.below (below_alloc w11 _)) hkp)
  clear hkp LA L11 G11
  go_wp2_with fail
  refine (runs22 _ _ _ _ (GM.midL (l1 := []) G12.out).1 (by have := TL.out; omega)).mono ?_
  rintro e w13 ⟨r1, rfl, hu, hb⟩
  have U1 := hid hu
  have G13 := hid (G12.out.below hb)
  clear hu hb G12
  go_wp2_with fail
  refine (refRuns20 _ _ _ _ (GM.midR (l1 := [_]) (l2 := []) G13.out) (by have := TL.out; omega)).mono ?_
  rintro e w14 ⟨r2, rfl, hu, hb⟩
  have U2 := hid hu
  have V1 := hid (U1.out.below hb)
  have G14 := hid (G13.out.below hb)
  clear hu hb G13 U1
  go_wp2_with fail
  refine (same14 _ _ LL LL _ V1.out.reads U2.out.reads (by have := TL.out; omega) (by have := TL.out; omega)).mono ?_
  rw [decide_eq_true (show LL = LL from rfl)]
  rintro e w15 ⟨rfl, dd, hw⟩
  have bE := hid (below_next G14.out.bel (show Below w14.heap.size w14 w15 by rw [hw]; exact below_drewN _ _))
  clear hw
  go_wp2
  go_ret
  exact ⟨rfl, bE.out⟩
set_option maxRecDepth 8000 in
set_option maxHeartbeats 16000000 in
theorem keys_no_out (al : Int) (h1 : ¬ al = 1) (h2 : ¬ al = 2) (ka sa : Option Addr) (np pc ns sc : Nat) (g f : Nat → Int) (c n : Int) (w : World) (hr : By.RB w (.slice ka np pc) np g) (hr2 : By.RB w (.slice sa ns sc) ns f) (hk : KT w) (hn : np ≤ 140737488351232) (hns : ns ≤ 140737488351232) (hin : ¬ n ≤ 16320) :
    Calls Tryz.prog 3 #[.int .u8 al, .slice ka np pc, .slice sa ns sc, .int .i64 c, .int .i64 n] w fun e w' => e = .returned (.bool true) ∧ Below w.heap.size w w' := by
  have BG := hid hr.1
  have BF := hid hr2.1
  have A1 := hid (show ∀ w', Below w.heap.size w w' → By.RB w' (.slice ka np pc) np g from fun w' hb => hr.below hb)
  have A2 := hid (show ∀ w', Below w.heap.size w w' → By.RB w' (.slice sa ns sc) ns f from fun w' hb => hr2.below hb)
  have T0 := hid tq_nil
  have G0 := hid (GM.start w hk)
  have L0 := hid (LS.nil (w := w) (B := w.heap.size) (Nat.le_refl _))
  clear hr hr2 hk
  have hin' : 16320 < n := by omega
  clear hin
  go_enter Tryz.func3, Tryz.ntmps3
  go_wp2_with fail
  refine (lentP np pc ka g _ (A1.out _ G0.out.bel) (by omega)).mono ?_
  rintro e w1 ⟨gx, cx, rfl, ho, hb⟩
  have L1 := hid (L0.out.snoc hb ho)
  have G1 := hid (G0.out.below hb)
  clear ho hb L0 G0
  go_wp2_with fail
  refine (lentP ns sc sa f _ (A2.out _ G1.out.bel) (by omega)).mono ?_
  rintro e w2 ⟨gy, cy, rfl, ho, hb⟩
  have L2 := hid (L1.out.snoc hb ho)
  have G2 := hid (G1.out.below hb)
  clear ho hb L1 G1
  go_wp2_with fail
  refine (new9 _).mono ?_
  rintro e w3 ⟨rfl, hl, hb⟩
  have G3 := hid (G2.out.addLed hb (o := true) hl)
  rw [List.nil_append] at G3
  have L3 := hid (L2.out.below hb)
  clear hl hb L2 G2
  go_wp2_with fail
  refine (refNew10 _).mono ?_
  rintro e w4 ⟨rfl, hl, hb⟩
  have G4 := hid (G3.out.addLed hb (o := false) hl)
  rw [List.singleton_append] at G4
  have L4 := hid (L3.out.below hb)
  clear hl hb L3 G3
  go_wp2_with fail
  refine (dkeyN al h1 h2 _ _ _ _ _ _).mono ?_
  rintro e ww ⟨rfl, hw⟩
  subst ww
  go_wp2_with fail
  refine (pkeyN al h1 h2 _ _ _ _ _ _).mono ?_
  rintro e ww ⟨rfl, hw⟩
  subst ww
  go_wp2_with fail
  refine (pkeyN al h1 h2 _ _ _ _ _ _).mono ?_
  rintro e ww ⟨rfl, hw⟩
  subst ww
  have N0 := own_nil w4 w4.heap.size nof nof_b
  have L4 := hid (((L4.out.snoc (Below.refl _ _) N0).snoc (Below.refl _ _) N0).snoc (Below.refl _ _) N0)
  clear N0
  obtain ⟨LL, hLL⟩ : ∃ x : List Rn, [] = x := ⟨_, rfl⟩
  have TL := hid (show LL.length < 2000000000 by rw [← hLL]; decide)
  rw [hLL] at G4
  clear hLL
  go_wp2_with fail
  refine (same_true _ _ 0 _ _ _ (L4.out.at (i := 3) rfl).reads (L4.out.at (i := 2) rfl).reads (by omega) (fun _ _ => rfl)).mono ?_
  rintro e w5 ⟨rfl, dd, hw⟩
  have hb : Below w4.heap.size w4 w5 := by rw [hw]; exact below_drewN _ _
  have L5 := hid (L4.out.below hb)
  have G5 := hid (G4.out.below hb)
  clear hw hb L4 G4
  go_wp2_with fail
  refine (same_true _ _ 0 _ _ _ (L5.out.at (i := 4) rfl).reads (L5.out.at (i := 2) rfl).reads (by omega) (fun _ _ => rfl)).mono ?_
  rintro e w6 ⟨rfl, dd, hw⟩
  have hb : Below w5.heap.size w5 w6 := by rw [hw]; exact below_drewN _ _
  have L6 := hid (L5.out.below hb)
  have G6 := hid (G5.out.below hb)
  clear hw hb L5 G5
  go_wp2_with fail
  refine (kept17 _ _ np g _ (L6.out.at (i := 0) rfl).reads (A1.out _ G6.out.bel) (by omega)).mono ?_
  rintro e w7 ⟨rfl, hb⟩
  have L7 := hid (L6.out.below hb)
  have G7 := hid (G6.out.below hb)
  clear hb L6 G6
  go_wp2_with fail
  refine (kept17 _ _ ns f _ (L7.out.at (i := 1) rfl).reads (A2.out _ G7.out.bel) (by omega)).mono ?_
  rintro e w8 ⟨rfl, hb⟩
  have L8 := hid (L7.out.below hb)
  have G8 := hid (G7.out.below hb)
  clear hb L7 G7
  go_wp2_with fail
  refine (over18 gx cx (np + 6) w.heap.size _ _ (L8.out.at (i := 0) rfl) (by omega)).mono ?_
  rintro e w9 ⟨rfl, ho, hg⟩
  have L9 := hid (LS.over (l1 := []) L8.out hg ho)
  have G9 := hid (GM.over8 G8.out (L8.out.at (i := 0) rfl) hg)
  clear ho hg L8 G8
  go_wp2_with fail
  refine (over18 gy cy (ns + 6) w.heap.size _ _ (L9.out.at (i := 1) rfl) (by omega)).mono ?_
  rintro e w10 ⟨rfl, ho, hg⟩
  have L10 := hid (LS.over (l1 := [⟨.slice (some ⟨gx, 0, none⟩) (np + 6) cx, np + 6, over⟩]) L9.out hg ho)
  have G10 := hid (GM.over8 G9.out (L9.out.at (i := 1) rfl) hg)
  clear ho hg L9 G9
  go_wp2_with fail
  refine (same_true _ _ 0 _ _ _ (L10.out.at (i := 3) rfl).reads (L10.out.at (i := 2) rfl).reads (by omega) (fun _ _ => rfl)).mono ?_
  rintro e w11 ⟨rfl, dd, hw⟩
  have hb : Below w10.heap.size w10 w11 := by rw [hw]; exact below_drewN _ _
  have L11 := hid (L10.out.below hb)
  have G11 := hid (G10.out.below hb)
  clear hw hb L10 G10
  have LA := hid (show LS w11 w.heap.size [⟨.slice none 0 0, 0, nof⟩, ⟨.slice none 0 0, 0, nof⟩] from L11.out.dropK 3)
  go_wp2_with fail
  refine (LA.out.apartZ _ rfl 2 rfl (by omega) (by omega) ?_).mono ?_
  · intro x hx
    simp only [List.mem_cons, List.not_mem_nil, or_false] at hx
    rcases hx with rfl | rfl
    all_goals (show 0 ≤ _; omega)
  rintro e w12 ⟨rfl, -, hkp⟩
  have G12 := hid (GM.apart (G11.out.below (below_alloc w11 _)) (LA.out.below (below_alloc w11 _)) hkp)
  clear hkp LA L11 G11
  go_wp2_with fail
  refine (runs22 _ _ _ _ (GM.midL (l1 := []) G12.out).1 (by have := TL.out; omega)).mono ?_
  rintro e w13 ⟨r1, rfl, hu, hb⟩
  have U1 := hid hu
  have G13 := hid (G12.out.below hb)
  clear hu hb G12
  go_wp2_with fail
  refine (refRuns20 _ _ _ _ (GM.midR (l1 := [_]) (l2 := []) G13.out) (by have := TL.out; omega)).mono ?_
  rintro e w14 ⟨r2, rfl, hu, hb⟩
  have U2 := hid hu
  have V1 := hid (U1.out.below hb)
  have G14 := hid (G13.out.below hb)
  clear hu hb G13 U1
  go_wp2_with fail
  refine (same14 _ _ LL LL _ V1.out.reads U2.out.reads (by have := TL.out; omega) (by have := TL.out; omega)).mono ?_
  rw [decide_eq_true (show LL = LL from rfl)]
  rintro e w15 ⟨rfl, dd, hw⟩
  have bE := hid (below_next G14.out.bel (show Below w14.heap.size w14 w15 by rw [hw]; exact below_drewN _ _))
  clear hw
  go_wp2
  go_ret
  exact ⟨rfl, bE.out⟩
end Go.Proofs.YtjhhnajgfngbhaaGreatDoor.Dg
