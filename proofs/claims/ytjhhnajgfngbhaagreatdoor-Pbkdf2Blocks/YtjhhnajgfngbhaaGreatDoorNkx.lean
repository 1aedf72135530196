/- The law Pbkdf2Blocks. -/
import Derived.Test.YtjhhnajgfngbhaaGreatDoorNhv
import Derived.Test.YtjhhnajgfngbhaaGreatDoorNap
namespace Go.Proofs.YtjhhnajgfngbhaaGreatDoor.Dg
open Go.ChangeShapes Go.WideShapes Go.ChangeAt Go.RowKit
open Go.Proofs.YtjhhnajgfngbhaaGreatDoor.By
open Go.Proofs.YtjhhnajgfngbhaaGreatDoor.Sh (Blk size_alloc)
open Go.Proofs.YtjhhnajgfngbhaaGreatDoor.Kc (LS LI)
set_option maxRecDepth 8000 in
set_option maxHeartbeats 16000000 in
theorem blks_ok_in (a : Bool) (ka sa : Option Addr) (np pc ns sc : Nat) (g f : Nat → Int) (c i : Int) (w : World) (hr : By.RB w (.slice ka np pc) np g) (hr2 : By.RB w (.slice sa ns sc) ns f) (hk : KT w) (hn : np ≤ 140737488351232) (hns : ns ≤ 140737488351232) (hi : -9223372036854775808 ≤ i ∧ i ≤ 9223372036854775807) (hin : 1 ≤ i ∧ i < 4294967296) :
    Calls Tryz.prog 4 #[.int .u8 (an a), .slice ka np pc, .slice sa ns sc, .int .i64 c, .int .i64 i] w fun e w' => e = .returned (.bool true) ∧ Below w.heap.size w w' := by
  have BG := hid hr.1
  have BF := hid hr2.1
  have A1 := hid (show ∀ w', Below w.heap.size w w' → By.RB w' (.slice ka np pc) np g from fun w' hb => hr.below hb)
  have A2 := hid (show ∀ w', Below w.heap.size w w' → By.RB w' (.slice sa ns sc) ns f from fun w' hb => hr2.below hb)
  have T0 := hid tq_nil
  have G0 := hid (GM.start w hk)
  have L0 := hid (LS.nil (w := w) (B := w.heap.size) (Nat.le_refl _))
  clear hr hr2 hk
  obtain ⟨cd, hcd⟩ : ∃ y, ic c i = y := ⟨_, rfl⟩
  obtain ⟨Nn, hNn⟩ : ∃ y, iN a c i = y := ⟨_, rfl⟩
  have CC := hid hcd
  have CN := hid hNn
  have hNl : Nn ≤ 16320 := by
    rw [← hNn]
    have := sz_le a
    unfold iN; split <;> omega
  clear hcd hNn
  have HI := hid hi
  clear hi
  have hi1 : 1 ≤ i := hin.1
  have hi2 : i < 4294967296 := hin.2
  go_enter Tryz.func4, Tryz.ntmps4
  go_wp2_with fail
  refine (heavyA a np pc ns sc ka sa c _ _ (by omega) (by omega)).mono ?_
  rintro e w1 ⟨⟨h, rfl, hh⟩, hw⟩
  subst w1
  cases h
  case true =>
    go_wp2
    go_ret
    exact ⟨rfl, Below.refl _ _⟩
  case false =>
    have HB := hid (show iok c i → ns ≤ 1000000 from fun hk => by have := (hh rfl hk.1 (by decide)).2; omega)
    clear hh
    go_wp2_with fail
    refine (lentP np pc ka g _ (A1.out _ G0.out.bel) (by omega)).mono ?_
    rintro e w1 ⟨gx, cx, rfl, ho, hb⟩
    have L1 := hid (L0.out.snoc hb ho)
    have G1 := hid (G0.out.below hb)
    clear ho hb L0 G0
    go_wp2_with fail
    refine (lentP ns sc sa f _ (A2.out _ G1.out.bel) (by omega)).mono ?_
    rintro e w2 ⟨gy, cy, rfl, ho, hb⟩
    have L2 := hid (L1.out.snoc hb ho)
    have G2 := hid (G1.out.below hb)
    clear ho hb L1 G1
    go_wp2_with fail
    refine (new9 _).mono ?_
    rintro e w3 ⟨rfl, hl, hb⟩
    have G3 := hid (G2.out.addLed hb (o := true) hl)
    rw [List.nil_append] at G3
    have L3 := hid (L2.out.below hb)
    clear hl hb L2 G2
    go_wp2_with fail
    refine (refNew10 _).mono ?_
    rintro e w4 ⟨rfl, hl, hb⟩
    have G4 := hid (G3.out.addLed hb (o := false) hl)
    rw [List.singleton_append] at G4
    have L4 := hid (L3.out.below hb)
    clear hl hb L3 G3
    go_wp2_with fail
    refine (dblk_any a _ np ns c i _ _ _ g f _ _ (GM.midR (l1 := [_]) (l2 := []) G4.out) (GM.rdR (l1 := [_]) (l2 := []) G4.out A1.out) (GM.rdR (l1 := [_]) (l2 := []) G4.out A2.out) (by omega) HB.out (by have := T0.out; omega)).mono ?_
    rintro e w5 ⟨u1, rfl, ⟨oa, ol, oc, rfl, hol, ho⟩, hrw⟩
    rw [CC.out, CN.out]
    rw [CN.out] at hol
    obtain ⟨rv1, hg, hko⟩ := GM.goR (l1 := [_]) (l2 := []) G4.out hrw
    have L5 := hid (ls_ko L4.out hko hg.hB ho)
    have G5 := hid hg
    have HOL := hid hol
    clear ho hg hko hrw hol L4 G4
    go_wp2_with fail
    refine (GM.pblk (l1 := []) G5.out a np ns c i HI.out (.slice (some ⟨gx, 0, none⟩) np cx) (.slice (some ⟨gy, 0, none⟩) ns cy) g f (fun w' hk' => rb_lent1 (GM.keepO (l1 := []) G5.out (L5.out.at (i := 0) rfl) hk') BG.out) (fun w' hk' => rb_lent1 (GM.keepO (l1 := []) G5.out (L5.out.at (i := 1) rfl) hk') BF.out) (by omega) HB.out (by have := T0.out; omega)).mono ?_
    rintro e w6 ⟨u2, rv2, rfl, ho, hg, hko⟩
    rw [CC.out]
    rw [CN.out] at ho
    obtain ⟨ua2, uc2, rfl⟩ := own_sl ho
    have L6 := hid (ls_ko L5.out hko hg.hB ho)
    have G6 := hid hg
    clear ho hg hko L5 G5
    go_wp2_with fail
    refine (pblk0 a np ns c i HI.out (.slice (some ⟨gx, 0, none⟩) np cx) (.slice (some ⟨gy, 0, none⟩) ns cy) g f _ G6.out.kt (rb_lent1 (L6.out.at (i := 0) rfl) BG.out) (rb_lent1 (L6.out.at (i := 1) rfl) BF.out) (by omega) HB.out).mono ?_
    rintro e w7 ⟨u3, rfl, ho, hb⟩
    rw [CC.out]
    rw [CN.out] at ho
    obtain ⟨ua3, uc3, rfl⟩ := own_sl ho
    have L7 := hid (L6.out.snoc hb ho)
    have G7 := hid (G6.out.below hb)
    clear ho hb L6 G6
    obtain ⟨LL, hLL⟩ : ∃ y, il a [] np ns c i = y := ⟨_, rfl⟩
    have TL := hid (show LL.length < 2000000000 by rw [← hLL]; have h1 := il_fine a Sg.pos_nil' np ns c i (by omega) HB.out (by have := T0.out; omega); have h2 := tq_len (il a [] np ns c i); have := T0.out; omega)
    rw [hLL] at G7
    clear hLL
    go_wp2_with fail
    refine (same_true _ _ Nn _ _ _ (L7.out.at (i := 3) rfl).reads ((L7.out.at (i := 2) rfl).reads.first Nn HOL.out) (by omega) (fun _ _ => rfl)).mono ?_
    rintro e w8 ⟨rfl, dd, hw⟩
    have hb : Below w7.heap.size w7 w8 := by rw [hw]; exact below_drewN _ _
    have L8 := hid (L7.out.below hb)
    have G8 := hid (G7.out.below hb)
    clear hw hb L7 G7
    go_wp2_with fail
    refine (same_true _ _ Nn _ _ _ (L8.out.at (i := 4) rfl).reads ((L8.out.at (i := 2) rfl).reads.first Nn HOL.out) (by omega) (fun _ _ => rfl)).mono ?_
    rintro e w9 ⟨rfl, dd, hw⟩
    have hb : Below w8.heap.size w8 w9 := by rw [hw]; exact below_drewN _ _
    have L9 := hid (L8.out.below hb)
    have G9 := hid (G8.out.below hb)
    clear hw hb L8 G8
    go_wp2_with fail
    refine (kept17 _ _ np g _ (L9.out.at (i := 0) rfl).reads (A1.out _ G9.out.bel) (by omega)).mono ?_
    rintro e w10 ⟨rfl, hb⟩
    have L10 := hid (L9.out.below hb)
    have G10 := hid (G9.out.below hb)
    clear hb L9 G9
    go_wp2_with fail
    refine (kept17 _ _ ns f _ (L10.out.at (i := 1) rfl).reads (A2.out _ G10.out.bel) (by omega)).mono ?_
    rintro e w11 ⟨rfl, hb⟩
    have L11 := hid (L10.out.below hb)
    have G11 := hid (G10.out.below hb)
    clear hb L10 G10
    have LA := hid (show LS w11 w.heap.size [⟨.slice ua2 Nn uc2, Nn, _⟩, ⟨.slice ua3 Nn uc3, Nn, _⟩] from L11.out.dropK 3)
    go_wp2_with fail
    refine (LA.out.apartZ _ rfl 2 rfl (by omega) (by omega) ?_).mono ?_
    · intro x hx
      simp only [List.mem_cons, List.not_mem_nil, or_false] at hx
      rcases hx with rfl | rfl
      all_goals (show Nn ≤ _; omega)
    rintro e w12 ⟨rfl, -, hkp⟩
    have G12 := hid (GM.apart (G11.out.below (below_alloc w11 _)) (LA.out.below (below_alloc w11 _)) hkp)
    clear hkp LA L11 G11
    go_wp2_with fail
    refine (runs22 _ _ _ _ (GM.midL (l1 := []) G12.out).1 (by have := TL.out; omega)).mono ?_
    rintro e w13 ⟨r1, rfl, hu, hb⟩
    have U1 := hid hu
    have G13 := hid (G12.out.below hb)
    clear hu hb G12
    go_wp2_with fail
    refine (refRuns20 _ _ _ _ (GM.midR (l1 := [_]) (l2 := []) G13.out) (by have := TL.out; omega)).mono ?_
    rintro e w14 ⟨r2, rfl, hu, hb⟩
    have U2 := hid hu
    have V1 := hid (U1.out.below hb)
    have G14 := hid (G13.out.below hb)
    clear hu hb G13 U1
    go_wp2_with fail
    refine (same14 _ _ LL LL _ V1.out.reads U2.out.reads (by have := TL.out; omega) (by have := TL.out; omega)).mono ?_
    rw [decide_eq_true (show LL = LL from rfl)]
    rintro e w15 ⟨rfl, dd, hw⟩
    have bE := hid (below_next G14.out.bel (show Below w14.heap.size w14 w15 by rw [hw]; exact below_drewN _ _))
    clear hw
    go_wp2
    go_ret
    exact ⟨rfl, bE.out⟩
set_option maxRecDepth 8000 in
set_option maxHeartbeats 16000000 in
theorem blks_ok_out (a : Bool) (ka sa : Option Addr) (np pc ns sc : Nat) (g f : Nat → Int) (c i : Int) (w : World) (hr : By.RB w (.slice ka np pc) np g) (hr2 : By.RB w (.slice sa ns sc) ns f) (hk : KT w) (hn : np ≤ 140737488351232) (hns : ns ≤ 140737488351232) (hi : -9223372036854775808 ≤ i ∧ i ≤ 9223372036854775807) (hin : ¬ (1 ≤ i ∧ i < 4294967296)) :
    Calls Tryz.prog 4 #[.int .u8 (an a), .slice ka np pc, .slice sa ns sc, .int .i64 c, .int .i64 i] w fun e w' => e = .returned (.bool true) ∧ Below w.heap.size w w' := by
  have BG := hid hr.1
  have BF := hid hr2.1
  have A1 := hid (show ∀ w', Below w.heap.size w w' → By.RB w' (.slice ka np pc) np g from fun w' hb => hr.below hb)
  have A2 := hid (show ∀ w', Below w.heap.size w w' → By.RB w' (.slice sa ns sc) ns f from fun w' hb => hr2.below hb)
  have T0 := hid tq_nil
  have G0 := hid (GM.start w hk)
  have L0 := hid (LS.nil (w := w) (B := w.heap.size) (Nat.le_refl _))
  clear hr hr2 hk
  obtain ⟨cd, hcd⟩ : ∃ y, ic c i = y := ⟨_, rfl⟩
  obtain ⟨Nn, hNn⟩ : ∃ y, iN a c i = y := ⟨_, rfl⟩
  have CC := hid hcd
  have CN := hid hNn
  have hNl : Nn ≤ 16320 := by
    rw [← hNn]
    have := sz_le a
    unfold iN; split <;> omega
  clear hcd hNn
  have HI := hid hi
  clear hi
  have HB := hid (show iok c i → ns ≤ 1000000 from fun hk => absurd ⟨hk.2.1, by have := hk.2.2; omega⟩ hin)
  by_cases hlo : 1 ≤ i
  · have hhi : ¬ i < 4294967296 := fun h => hin ⟨hlo, h⟩
    clear hin
    go_enter Tryz.func4, Tryz.ntmps4
    go_wp2_with fail
    refine (lentP np pc ka g _ (A1.out _ G0.out.bel) (by omega)).mono ?_
    rintro e w1 ⟨gx, cx, rfl, ho, hb⟩
    have L1 := hid (L0.out.snoc hb ho)
    have G1 := hid (G0.out.below hb)
    clear ho hb L0 G0
    go_wp2_with fail
    refine (lentP ns sc sa f _ (A2.out _ G1.out.bel) (by omega)).mono ?_
    rintro e w2 ⟨gy, cy, rfl, ho, hb⟩
    have L2 := hid (L1.out.snoc hb ho)
    have G2 := hid (G1.out.below hb)
    clear ho hb L1 G1
    go_wp2_with fail
    refine (new9 _).mono ?_
    rintro e w3 ⟨rfl, hl, hb⟩
    have G3 := hid (G2.out.addLed hb (o := true) hl)
    rw [List.nil_append] at G3
    have L3 := hid (L2.out.below hb)
    clear hl hb L2 G2
    go_wp2_with fail
    refine (refNew10 _).mono ?_
    rintro e w4 ⟨rfl, hl, hb⟩
    have G4 := hid (G3.out.addLed hb (o := false) hl)
    rw [List.singleton_append] at G4
    have L4 := hid (L3.out.below hb)
    clear hl hb L3 G3
    go_wp2_with fail
    refine (dblk_any a _ np ns c i _ _ _ g f _ _ (GM.midR (l1 := [_]) (l2 := []) G4.out) (GM.rdR (l1 := [_]) (l2 := []) G4.out A1.out) (GM.rdR (l1 := [_]) (l2 := []) G4.out A2.out) (by omega) HB.out (by have := T0.out; omega)).mono ?_
    rintro e w5 ⟨u1, rfl, ⟨oa, ol, oc, rfl, hol, ho⟩, hrw⟩
    rw [CC.out, CN.out]
    rw [CN.out] at hol
    obtain ⟨rv1, hg, hko⟩ := GM.goR (l1 := [_]) (l2 := []) G4.out hrw
    have L5 := hid (ls_ko L4.out hko hg.hB ho)
    have G5 := hid hg
    have HOL := hid hol
    clear ho hg hko hrw hol L4 G4
    go_wp2_with fail
    refine (GM.pblk (l1 := []) G5.out a np ns c i HI.out (.slice (some ⟨gx, 0, none⟩) np cx) (.slice (some ⟨gy, 0, none⟩) ns cy) g f (fun w' hk' => rb_lent1 (GM.keepO (l1 := []) G5.out (L5.out.at (i := 0) rfl) hk') BG.out) (fun w' hk' => rb_lent1 (GM.keepO (l1 := []) G5.out (L5.out.at (i := 1) rfl) hk') BF.out) (by omega) HB.out (by have := T0.out; omega)).mono ?_
    rintro e w6 ⟨u2, rv2, rfl, ho, hg, hko⟩
    rw [CC.out]
    rw [CN.out] at ho
    obtain ⟨ua2, uc2, rfl⟩ := own_sl ho
    have L6 := hid (ls_ko L5.out hko hg.hB ho)
    have G6 := hid hg
    clear ho hg hko L5 G5
    go_wp2_with fail
    refine (pblk0 a np ns c i HI.out (.slice (some ⟨gx, 0, none⟩) np cx) (.slice (some ⟨gy, 0, none⟩) ns cy) g f _ G6.out.kt (rb_lent1 (L6.out.at (i := 0) rfl) BG.out) (rb_lent1 (L6.out.at (i := 1) rfl) BF.out) (by omega) HB.out).mono ?_
    rintro e w7 ⟨u3, rfl, ho, hb⟩
    rw [CC.out]
    rw [CN.out] at ho
    obtain ⟨ua3, uc3, rfl⟩ := own_sl ho
    have L7 := hid (L6.out.snoc hb ho)
    have G7 := hid (G6.out.below hb)
    clear ho hb L6 G6
    obtain ⟨LL, hLL⟩ : ∃ y, il a [] np ns c i = y := ⟨_, rfl⟩
    have TL := hid (show LL.length < 2000000000 by rw [← hLL]; have h1 := il_fine a Sg.pos_nil' np ns c i (by omega) HB.out (by have := T0.out; omega); have h2 := tq_len (il a [] np ns c i); have := T0.out; omega)
    rw [hLL] at G7
    clear hLL
    go_wp2_with fail
    refine (same_true _ _ Nn _ _ _ (L7.out.at (i := 3) rfl).reads ((L7.out.at (i := 2) rfl).reads.first Nn HOL.out) (by omega) (fun _ _ => rfl)).mono ?_
    rintro e w8 ⟨rfl, dd, hw⟩
    have hb : Below w7.heap.size w7 w8 := by rw [hw]; exact below_drewN _ _
    have L8 := hid (L7.out.below hb)
    have G8 := hid (G7.out.below hb)
    clear hw hb L7 G7
    go_wp2_with fail
    refine (same_true _ _ Nn _ _ _ (L8.out.at (i := 4) rfl).reads ((L8.out.at (i := 2) rfl).reads.first Nn HOL.out) (by omega) (fun _ _ => rfl)).mono ?_
    rintro e w9 ⟨rfl, dd, hw⟩
    have hb : Below w8.heap.size w8 w9 := by rw [hw]; exact below_drewN _ _
    have L9 := hid (L8.out.below hb)
    have G9 := hid (G8.out.below hb)
    clear hw hb L8 G8
    go_wp2_with fail
    refine (kept17 _ _ np g _ (L9.out.at (i := 0) rfl).reads (A1.out _ G9.out.bel) (by omega)).mono ?_
    rintro e w10 ⟨rfl, hb⟩
    have L10 := hid (L9.out.below hb)
    have G10 := hid (G9.out.below hb)
    clear hb L9 G9
    go_wp2_with fail
    refine (kept17 _ _ ns f _ (L10.out.at (i := 1) rfl).reads (A2.out _ G10.out.bel) (by omega)).mono ?_
    rintro e w11 ⟨rfl, hb⟩
    have L11 := hid (L10.out.below hb)
    have G11 := hid (G10.out.below hb)
    clear hb L10 G10
    have LA := hid (show LS w11 w.heap.size [⟨.slice ua2 Nn uc2, Nn, _⟩, ⟨.slice ua3 Nn uc3, Nn, _⟩] from L11.out.dropK 3)
    go_wp2_with fail
    refine (LA.out.apartZ _ rfl 2 rfl (by omega) (by omega) ?_).mono ?_
    · intro x hx
      simp only [List.mem_cons, List.not_mem_nil, or_false] at hx
      rcases hx with rfl | rfl
      all_goals (show Nn ≤ _; omega)
    rintro e w12 ⟨rfl, -, hkp⟩
    have G12 := hid (GM.apart (G11.out.below (below_alloc w11 _)) (LA.out.below (below_alloc w11 _)) hkp)
    clear hkp LA L11 G11
    go_wp2_with fail
    refine (runs22 _ _ _ _ (GM.midL (l1 := []) G12.out).1 (by have := TL.out; omega)).mono ?_
    rintro e w13 ⟨r1, rfl, hu, hb⟩
    have U1 := hid hu
    have G13 := hid (G12.out.below hb)
    clear hu hb G12
    go_wp2_with fail
    refine (refRuns20 _ _ _ _ (GM.midR (l1 := [_]) (l2 := []) G13.out) (by have := TL.out; omega)).mono ?_
    rintro e w14 ⟨r2, rfl, hu, hb⟩
    have U2 := hid hu
    have V1 := hid (U1.out.below hb)
    have G14 := hid (G13.out.below hb)
    clear hu hb G13 U1
    go_wp2_with fail
    refine (same14 _ _ LL LL _ V1.out.reads U2.out.reads (by have := TL.out; omega) (by have := TL.out; omega)).mono ?_
    rw [decide_eq_true (show LL = LL from rfl)]
    rintro e w15 ⟨rfl, dd, hw⟩
    have bE := hid (below_next G14.out.bel (show Below w14.heap.size w14 w15 by rw [hw]; exact below_drewN _ _))
    clear hw
    go_wp2
    go_ret
    exact ⟨rfl, bE.out⟩
  · clear hin
    go_enter Tryz.func4, Tryz.ntmps4
    go_wp2_with fail
    refine (lentP np pc ka g _ (A1.out _ G0.out.bel) (by omega)).mono ?_
    rintro e w1 ⟨gx, cx, rfl, ho, hb⟩
    have L1 := hid (L0.out.snoc hb ho)
    have G1 := hid (G0.out.below hb)
    clear ho hb L0 G0
    go_wp2_with fail
    refine (lentP ns sc sa f _ (A2.out _ G1.out.bel) (by omega)).mono ?_
    rintro e w2 ⟨gy, cy, rfl, ho, hb⟩
    have L2 := hid (L1.out.snoc hb ho)
    have G2 := hid (G1.out.below hb)
    clear ho hb L1 G1
    go_wp2_with fail
    refine (new9 _).mono ?_
    rintro e w3 ⟨rfl, hl, hb⟩
    have G3 := hid (G2.out.addLed hb (o := true) hl)
    rw [List.nil_append] at G3
    have L3 := hid (L2.out.below hb)
    clear hl hb L2 G2
    go_wp2_with fail
    refine (refNew10 _).mono ?_
    rintro e w4 ⟨rfl, hl, hb⟩
    have G4 := hid (G3.out.addLed hb (o := false) hl)
    rw [List.singleton_append] at G4
    have L4 := hid (L3.out.below hb)
    clear hl hb L3 G3
    go_wp2_with fail
    refine (dblk_any a _ np ns c i _ _ _ g f _ _ (GM.midR (l1 := [_]) (l2 := []) G4.out) (GM.rdR (l1 := [_]) (l2 := []) G4.out A1.out) (GM.rdR (l1 := [_]) (l2 := []) G4.out A2.out) (by omega) HB.out (by have := T0.out; omega)).mono ?_
    rintro e w5 ⟨u1, rfl, ⟨oa, ol, oc, rfl, hol, ho⟩, hrw⟩
    rw [CC.out, CN.out]
    rw [CN.out] at hol
    obtain ⟨rv1, hg, hko⟩ := GM.goR (l1 := [_]) (l2 := []) G4.out hrw
    have L5 := hid (ls_ko L4.out hko hg.hB ho)
    have G5 := hid hg
    have HOL := hid hol
    clear ho hg hko hrw hol L4 G4
    go_wp2_with fail
    refine (GM.pblk (l1 := []) G5.out a np ns c i HI.out (.slice (some ⟨gx, 0, none⟩) np cx) (.slice (some ⟨gy, 0, none⟩) ns cy) g f (fun w' hk' => rb_lent1 (GM.keepO (l1 := []) G5.out (L5.out.at (i := 0) rfl) hk') BG.out) (fun w' hk' => rb_lent1 (GM.keepO (l1 := []) G5.out (L5.out.at (i := 1) rfl) hk') BF.out) (by omega) HB.out (by have := T0.out; omega)).mono ?_
    rintro e w6 ⟨u2, rv2, rfl, ho, hg, hko⟩
    rw [CC.out]
    rw [CN.out] at ho
    obtain ⟨ua2, uc2, rfl⟩ := own_sl ho
    have L6 := hid (ls_ko L5.out hko hg.hB ho)
    have G6 := hid hg
    clear ho hg hko L5 G5
    go_wp2_with fail
    refine (pblk0 a np ns c i HI.out (.slice (some ⟨gx, 0, none⟩) np cx) (.slice (some ⟨gy, 0, none⟩) ns cy) g f _ G6.out.kt (rb_lent1 (L6.out.at (i := 0) rfl) BG.out) (rb_lent1 (L6.out.at (i := 1) rfl) BF.out) (by omega) HB.out).mono ?_
    rintro e w7 ⟨u3, rfl, ho, hb⟩
    rw [CC.out]
    rw [CN.out] at ho
    obtain ⟨ua3, uc3, rfl⟩ := own_sl ho
    have L7 := hid (L6.out.snoc hb ho)
    have G7 := hid (G6.out.below hb)
    clear ho hb L6 G6
    obtain ⟨LL, hLL⟩ : ∃ y, il a [] np ns c i = y := ⟨_, rfl⟩
    have TL := hid (show LL.length < 2000000000 by rw [← hLL]; have h1 := il_fine a Sg.pos_nil' np ns c i (by omega) HB.out (by have := T0.out; omega); have h2 := tq_len (il a [] np ns c i); have := T0.out; omega)
    rw [hLL] at G7
    clear hLL
    go_wp2_with fail
    refine (same_true _ _ Nn _ _ _ (L7.out.at (i := 3) rfl).reads ((L7.out.at (i := 2) rfl).reads.first Nn HOL.out) (by omega) (fun _ _ => rfl)).mono ?_
    rintro e w8 ⟨rfl, dd, hw⟩
    have hb : Below w7.heap.size w7 w8 := by rw [hw]; exact below_drewN _ _
    have L8 := hid (L7.out.below hb)
    have G8 := hid (G7.out.below hb)
    clear hw hb L7 G7
    go_wp2_with fail
    refine (same_true _ _ Nn _ _ _ (L8.out.at (i := 4) rfl).reads ((L8.out.at (i := 2) rfl).reads.first Nn HOL.out) (by omega) (fun _ _ => rfl)).mono ?_
    rintro e w9 ⟨rfl, dd, hw⟩
    have hb : Below w8.heap.size w8 w9 := by rw [hw]; exact below_drewN _ _
    have L9 := hid (L8.out.below hb)
    have G9 := hid (G8.out.below hb)
    clear hw hb L8 G8
    go_wp2_with fail
    refine (kept17 _ _ np g _ (L9.out.at (i := 0) rfl).reads (A1.out _ G9.out.bel) (by omega)).mono ?_
    rintro e w10 ⟨rfl, hb⟩
    have L10 := hid (L9.out.below hb)
    have G10 := hid (G9.out.below hb)
    clear hb L9 G9
    go_wp2_with fail
    refine (kept17 _ _ ns f _ (L10.out.at (i := 1) rfl).reads (A2.out _ G10.out.bel) (by omega)).mono ?_
    rintro e w11 ⟨rfl, hb⟩
    have L11 := hid (L10.out.below hb)
    have G11 := hid (G10.out.below hb)
    clear hb L10 G10
    have LA := hid (show LS w11 w.heap.size [⟨.slice ua2 Nn uc2, Nn, _⟩, ⟨.slice ua3 Nn uc3, Nn, _⟩] from L11.out.dropK 3)
    go_wp2_with fail
    refine (LA.out.apartZ _ rfl 2 rfl (by omega) (by omega) ?_).mono ?_
    · intro x hx
      simp only [List.mem_cons, List.not_mem_nil, or_false] at hx
      rcases hx with rfl | rfl
      all_goals (show Nn ≤ _; omega)
    rintro e w12 ⟨rfl, -, hkp⟩
    have G12 := hid (GM.apart (G11.out.below (below_alloc w11 _)) (LA.out.below (below_alloc w11 _)) hkp)
    clear hkp LA L11 G11
    go_wp2_with fail
    refine (runs22 _ _ _ _ (GM.midL (l1 := []) G12.out).1 (by have := TL.out; omega)).mono ?_
    rintro e w13 ⟨r1, rfl, hu, hb⟩
    have U1 := hid hu
    have G13 := hid (G12.out.below hb)
    clear hu hb G12
    go_wp2_with fail
    refine (refRuns20 _ _ _ _ (GM.midR (l1 := [_]) (l2 := []) G13.out) (by have := TL.out; omega)).mono ?_
    rintro e w14 ⟨r2, rfl, hu, hb⟩
    have U2 := hid hu
    have V1 := hid (U1.out.below hb)
    have G14 := hid (G13.out.below hb)
    clear hu hb G13 U1
    go_wp2_with fail
    refine (same14 _ _ LL LL _ V1.out.reads U2.out.reads (by have := TL.out; omega) (by have := TL.out; omega)).mono ?_
    rw [decide_eq_true (show LL = LL from rfl)]
    rintro e w15 ⟨rfl, dd, hw⟩
    have bE := hid (below_next G14.out.bel (show Below w14.heap.size w14 w15 by rw [hw]; exact below_drewN _ _))
    clear hw
    go_wp2
    go_ret
    exact ⟨rfl, bE.out⟩
set_option maxRecDepth 8000 in
set_option maxHeartbeats 16000000 in
theorem blks_no_in (al : Int) (h1 : ¬ al = 1) (h2 : ¬ al = 2) (ka sa : Option Addr) (np pc ns sc : Nat) (g f : Nat → Int) (c i : Int) (w : World) (hr : By.RB w (.slice ka np pc) np g) (hr2 : By.RB w (.slice sa ns sc) ns f) (hk : KT w) (hn : np ≤ 140737488351232) (hns : ns ≤ 140737488351232) (hi : -9223372036854775808 ≤ i ∧ i ≤ 9223372036854775807) (hin : 1 ≤ i ∧ i < 4294967296) :
    Calls Tryz.prog 4 #[.int .u8 al, .slice ka np pc, .slice sa ns sc, .int .i64 c, .int .i64 i] w fun e w' => e = .returned (.bool true) ∧ Below w.heap.size w w' := by
  have BG := hid hr.1
  have BF := hid hr2.1
  have A1 := hid (show ∀ w', Below w.heap.size w w' → By.RB w' (.slice ka np pc) np g from fun w' hb => hr.below hb)
  have A2 := hid (show ∀ w', Below w.heap.size w w' → By.RB w' (.slice sa ns sc) ns f from fun w' hb => hr2.below hb)
  have T0 := hid tq_nil
  have G0 := hid (GM.start w hk)
  have L0 := hid (LS.nil (w := w) (B := w.heap.size) (Nat.le_refl _))
  clear hr hr2 hk
  have HI := hid hi
  clear hi
  have hi1 : 1 ≤ i := hin.1
  have hi2 : i < 4294967296 := hin.2
  go_enter Tryz.func4, Tryz.ntmps4
  go_wp2_with fail
  refine (heavyN al h1 h2 _ _ _ _ _).mono ?_
  rintro e w1 ⟨rfl, hw⟩
  subst w1
  go_wp2_with fail
  refine (lentP np pc ka g _ (A1.out _ G0.out.bel) (by omega)).mono ?_
  rintro e w1 ⟨gx, cx, rfl, ho, hb⟩
  have L1 := hid (L0.out.snoc hb ho)
  have G1 := hid (G0.out.below hb)
  clear ho hb L0 G0
  go_wp2_with fail
  refine (lentP ns sc sa f _ (A2.out _ G1.out.bel) (by omega)).mono ?_
  rintro e w2 ⟨gy, cy, rfl, ho, hb⟩
  have L2 := hid (L1.out.snoc hb ho)
  have G2 := hid (G1.out.below hb)
  clear ho hb L1 G1
  go_wp2_with fail
  refine (new9 _).mono ?_
  rintro e w3 ⟨rfl, hl, hb⟩
  have G3 := hid (G2.out.addLed hb (o := true) hl)
  rw [List.nil_append] at G3
  have L3 := hid (L2.out.below hb)
  clear hl hb L2 G2
  go_wp2_with fail
  refine (refNew10 _).mono ?_
  rintro e w4 ⟨rfl, hl, hb⟩
  have G4 := hid (G3.out.addLed hb (o := false) hl)
  rw [List.singleton_append] at G4
  have L4 := hid (L3.out.below hb)
  clear hl hb L3 G3
  go_wp2_with fail
  refine (dblkN al h1 h2 _ _ _ _ _ _).mono ?_
  rintro e ww ⟨rfl, hw⟩
  subst ww
  go_wp2_with fail
  refine (pblkN al h1 h2 _ _ _ _ _ _).mono ?_
  rintro e ww ⟨rfl, hw⟩
  subst ww
  go_wp2_with fail
  refine (pblkN al h1 h2 _ _ _ _ _ _).mono ?_
  rintro e ww ⟨rfl, hw⟩
  subst ww
  have N0 := own_nil w4 w4.heap.size nof nof_b
  have L4 := hid (((L4.out.snoc (Below.refl _ _) N0).snoc (Below.refl _ _) N0).snoc (Below.refl _ _) N0)
  clear N0
  obtain ⟨LL, hLL⟩ : ∃ x : List Rn, [] = x := ⟨_, rfl⟩
  have TL := hid (show LL.length < 2000000000 by rw [← hLL]; decide)
  rw [hLL] at G4
  clear hLL
  go_wp2_with fail
  refine (same_true _ _ 0 _ _ _ (L4.out.at (i := 3) rfl).reads (L4.out.at (i := 2) rfl).reads (by omega) (fun _ _ => rfl)).mono ?_
  rintro e w5 ⟨rfl, dd, hw⟩
  have hb : Below w4.heap.size w4 w5 := by rw [hw]; exact below_drewN _ _
  have L5 := hid (L4.out.below hb)
  have G5 := hid (G4.out.below hb)
  clear hw hb L4 G4
  go_wp2_with fail
  refine (same_true _ _ 0 _ _ _ (L5.out.at (i := 4) rfl).reads (L5.out.at (i := 2) rfl).reads (by omega) (fun _ _ => rfl)).mono ?_
  rintro e w6 ⟨rfl, dd, hw⟩
  have hb : Below w5.heap.size w5 w6 := by rw [hw]; exact below_drewN _ _
  have L6 := hid (L5.out.below hb)
  have G6 := hid (G5.out.below hb)
  clear hw hb L5 G5
  go_wp2_with fail
  refine (kept17 _ _ np g _ (L6.out.at (i := 0) rfl).reads (A1.out _ G6.out.bel) (by omega)).mono ?_
  rintro e w7 ⟨rfl, hb⟩
  have L7 := hid (L6.out.below hb)
  have G7 := hid (G6.out.below hb)
  clear hb L6 G6
  go_wp2_with fail
  refine (kept17 _ _ ns f _ (L7.out.at (i := 1) rfl).reads (A2.out _ G7.out.bel) (by omega)).mono ?_
  rintro e w8 ⟨rfl, hb⟩
  have L8 := hid (L7.out.below hb)
  have G8 := hid (G7.out.below hb)
  clear hb L7 G7
  have LA := hid (show LS w8 w.heap.size [⟨.slice none 0 0, 0, nof⟩, ⟨.slice none 0 0, 0, nof⟩] from L8.out.dropK 3)
  go_wp2_with fail
  refine (LA.out.apartZ _ rfl 2 rfl (by omega) (by omega) ?_).mono ?_
  · intro x hx
    simp only [List.mem_cons, List.not_mem_nil, or_false] at hx
    rcases hx with rfl | rfl
    all_goals (show 0 ≤ _; omega)
  rintro e w9 ⟨rfl, -, hkp⟩
  have G9 := hid (GM.apart (G8.out.below (below_alloc w8 _)) (LA.out.below (below_alloc w8 _)) hkp)
  clear hkp LA L8 G8
  go_wp2_with fail
  refine (runs22 _ _ _ _ (GM.midL (l1 := []) G9.out).1 (by have := TL.out; omega)).mono ?_
  rintro e w10 ⟨r1, rfl, hu, hb⟩
  have U1 := hid hu
  have G10 := hid (G9.out.below hb)
  clear hu hb G9
  go_wp2_with fail
  refine (refRuns20 _ _ _ _ (GM.midR (l1 := [_]) (l2 := []) G10.out) (by have := TL.out; omega)).mono ?_
  rintro e w11 ⟨r2, rfl, hu, hb⟩
  have U2 := hid hu
  have V1 := hid (U1.out.below hb)
  have G11 := hid (G10.out.below hb)
  clear hu hb G10 U1
  go_wp2_with fail
  refine (same14 _ _ LL LL _ V1.out.reads U2.out.reads (by have := TL.out; omega) (by have := TL.out; omega)).mono ?_
  rw [decide_eq_true (show LL = LL from rfl)]
  rintro e w12 ⟨rfl, dd, hw⟩
  have bE := hid (below_next G11.out.bel (show Below w11.heap.size w11 w12 by rw [hw]; exact below_drewN _ _))
  clear hw
  go_wp2
  go_ret
  exact ⟨rfl, bE.out⟩
set_option maxRecDepth 8000 in
set_option maxHeartbeats 16000000 in
theorem blks_no_out (al : Int) (h1 : ¬ al = 1) (h2 : ¬ al = 2) (ka sa : Option Addr) (np pc ns sc : Nat) (g f : Nat → Int) (c i : Int) (w : World) (hr : By.RB w (.slice ka np pc) np g) (hr2 : By.RB w (.slice sa ns sc) ns f) (hk : KT w) (hn : np ≤ 140737488351232) (hns : ns ≤ 140737488351232) (hi : -9223372036854775808 ≤ i ∧ i ≤ 9223372036854775807) (hin : ¬ (1 ≤ i ∧ i < 4294967296)) :
    Calls Tryz.prog 4 #[.int .u8 al, .slice ka np pc, .slice sa ns sc, .int .i64 c, .int .i64 i] w fun e w' => e = .returned (.bool true) ∧ Below w.heap.size w w' := by
  have BG := hid hr.1
  have BF := hid hr2.1
  have A1 := hid (show ∀ w', Below w.heap.size w w' → By.RB w' (.slice ka np pc) np g from fun w' hb => hr.below hb)
  have A2 := hid (show ∀ w', Below w.heap.size w w' → By.RB w' (.slice sa ns sc) ns f from fun w' hb => hr2.below hb)
  have T0 := hid tq_nil
  have G0 := hid (GM.start w hk)
  have L0 := hid (LS.nil (w := w) (B := w.heap.size) (Nat.le_refl _))
  clear hr hr2 hk
  have HI := hid hi
  clear hi
  by_cases hlo : 1 ≤ i
  · have hhi : ¬ i < 4294967296 := fun h => hin ⟨hlo, h⟩
    clear hin
    go_enter Tryz.func4, Tryz.ntmps4
    go_wp2_with fail
    refine (lentP np pc ka g _ (A1.out _ G0.out.bel) (by omega)).mono ?_
    rintro e w1 ⟨gx, cx, rfl, ho, hb⟩
    have L1 := hid (L0.out.snoc hb ho)
    have G1 := hid (G0.out.below hb)
    clear ho hb L0 G0
    go_wp2_with fail
    refine (lentP ns sc sa f _ (A2.out _ G1.out.bel) (by omega)).mono ?_
    rintro e w2 ⟨gy, cy, rfl, ho, hb⟩
    have L2 := hid (L1.out.snoc hb ho)
    have G2 := hid (G1.out.below hb)
    clear ho hb L1 G1
    go_wp2_with fail
    refine (new9 _).mono ?_
    rintro e w3 ⟨rfl, hl, hb⟩
    have G3 := hid (G2.out.addLed hb (o := true) hl)
    rw [List.nil_append] at G3
    have L3 := hid (L2.out.below hb)
    clear hl hb L2 G2
    go_wp2_with fail
    refine (refNew10 _).mono ?_
    rintro e w4 ⟨rfl, hl, hb⟩
    have G4 := hid (G3.out.addLed hb (o := false) hl)
    rw [List.singleton_append] at G4
    have L4 := hid (L3.out.below hb)
    clear hl hb L3 G3
    go_wp2_with fail
    refine (dblkN al h1 h2 _ _ _ _ _ _).mono ?_
    rintro e ww ⟨rfl, hw⟩
    subst ww
    go_wp2_with fail
    refine (pblkN al h1 h2 _ _ _ _ _ _).mono ?_
    rintro e ww ⟨rfl, hw⟩
    subst ww
    go_wp2_with fail
    refine (pblkN al h1 h2 _ _ _ _ _ _).mono ?_
    rintro e ww ⟨rfl, hw⟩
    subst ww
    have N0 := own_nil w4 w4.heap.size nof nof_b
    have L4 := hid (((L4.out.snoc (Below.refl _ _) N0).snoc (Below.refl _ _) N0).snoc (Below.refl _ _) N0)
    clear N0
    obtain ⟨LL, hLL⟩ : ∃ x : List Rn, [] = x := ⟨_, rfl⟩
    have TL := hid (show LL.length < 2000000000 by rw [← hLL]; decide)
    rw [hLL] at G4
    clear hLL
    go_wp2_with fail
    refine (same_true _ _ 0 _ _ _ (L4.out.at (i := 3) rfl).reads (L4.out.at (i := 2) rfl).reads (by omega) (fun _ _ => rfl)).mono ?_
    rintro e w5 ⟨rfl, dd, hw⟩
    have hb : Below w4.heap.size w4 w5 := by rw [hw]; exact below_drewN _ _
    have L5 := hid (L4.out.below hb)
    have G5 := hid (G4.out.below hb)
    clear hw hb L4 G4
    go_wp2_with fail
    refine (same_true _ _ 0 _ _ _ (L5.out.at (i := 4) rfl).reads (L5.out.at (i := 2) rfl).reads (by omega) (fun _ _ => rfl)).mono ?_
    rintro e w6 ⟨rfl, dd, hw⟩
    have hb : Below w5.heap.size w5 w6 := by rw [hw]; exact below_drewN _ _
    have L6 := hid (L5.out.below hb)
    have G6 := hid (G5.out.below hb)
    clear hw hb L5 G5
    go_wp2_with fail
    refine (kept17 _ _ np g _ (L6.out.at (i := 0) rfl).reads (A1.out _ G6.out.bel) (by omega)).mono ?_
    rintro e w7 ⟨rfl, hb⟩
    have L7 := hid (L6.out.below hb)
    have G7 := hid (G6.out.below hb)
    clear hb L6 G6
    go_wp2_with fail
    refine (kept17 _ _ ns f _ (L7.out.at (i := 1) rfl).reads (A2.out _ G7.out.bel) (by omega)).mono ?_
    rintro e w8 ⟨rfl, hb⟩
    have L8 := hid (L7.out.below hb)
    have G8 := hid (G7.out.below hb)
    clear hb L7 G7
    have LA := hid (show LS w8 w.heap.size [⟨.slice none 0 0, 0, nof⟩, ⟨.slice none 0 0, 0, nof⟩] from L8.out.dropK 3)
    go_wp2_with fail
    refine (LA.out.apartZ _ rfl 2 rfl (by omega) (by omega) ?_).mono ?_
    · intro x hx
      simp only [List.mem_cons, List.not_mem_nil, or_false] at hx
      rcases hx with rfl | rfl
      all_goals (show 0 ≤ _; omega)
    rintro e w9 ⟨rfl, -, hkp⟩
    have G9 := hid (GM.apart (G8.out.below (below_alloc w8 _)) (LA.out.below (below_alloc w8 _)) hkp)
    clear hkp LA L8 G8
    go_wp2_with fail
    refine (runs22 _ _ _ _ (GM.midL (l1 := []) G9.out).1 (by have := TL.out; omega)).mono ?_
    rintro e w10 ⟨r1, rfl, hu, hb⟩
    have U1 := hid hu
    have G10 := hid (G9.out.below hb)
    clear hu hb G9
    go_wp2_with fail
    refine (refRuns20 _ _ _ _ (GM.midR (l1 := [_]) (l2 := []) G10.out) (by have := TL.out; omega)).mono ?_
    rintro e w11 ⟨r2, rfl, hu, hb⟩
    have U2 := hid hu
    have V1 := hid (U1.out.below hb)
    have G11 := hid (G10.out.below hb)
    clear hu hb G10 U1
    go_wp2_with fail
    refine (same14 _ _ LL LL _ V1.out.reads U2.out.reads (by have := TL.out; omega) (by have := TL.out; omega)).mono ?_
    rw [decide_eq_true (show LL = LL from rfl)]
    rintro e w12 ⟨rfl, dd, hw⟩
    have bE := hid (below_next G11.out.bel (show Below w11.heap.size w11 w12 by rw [hw]; exact below_drewN _ _))
    clear hw
    go_wp2
    go_ret
    exact ⟨rfl, bE.out⟩
  · clear hin
    go_enter Tryz.func4, Tryz.ntmps4
    go_wp2_with fail
    refine (lentP np pc ka g _ (A1.out _ G0.out.bel) (by omega)).mono ?_
    rintro e w1 ⟨gx, cx, rfl, ho, hb⟩
    have L1 := hid (L0.out.snoc hb ho)
    have G1 := hid (G0.out.below hb)
    clear ho hb L0 G0
    go_wp2_with fail
    refine (lentP ns sc sa f _ (A2.out _ G1.out.bel) (by omega)).mono ?_
    rintro e w2 ⟨gy, cy, rfl, ho, hb⟩
    have L2 := hid (L1.out.snoc hb ho)
    have G2 := hid (G1.out.below hb)
    clear ho hb L1 G1
    go_wp2_with fail
    refine (new9 _).mono ?_
    rintro e w3 ⟨rfl, hl, hb⟩
    have G3 := hid (G2.out.addLed hb (o := true) hl)
    rw [List.nil_append] at G3
    have L3 := hid (L2.out.below hb)
    clear hl hb L2 G2
    go_wp2_with fail
    refine (refNew10 _).mono ?_
    rintro e w4 ⟨rfl, hl, hb⟩
    have G4 := hid (G3.out.addLed hb (o := false) hl)
    rw [List.singleton_append] at G4
    have L4 := hid (L3.out.below hb)
    clear hl hb L3 G3
    go_wp2_with fail
    refine (dblkN al h1 h2 _ _ _ _ _ _).mono ?_
    rintro e ww ⟨rfl, hw⟩
    subst ww
    go_wp2_with fail
    refine (pblkN al h1 h2 _ _ _ _ _ _).mono ?_
    rintro e ww ⟨rfl, hw⟩
    subst ww
    go_wp2_with fail
    refine (pblkN al h1 h2 _ _ _ _ _ _).mono ?_
    rintro e ww ⟨rfl, hw⟩
    subst ww
    have N0 := own_nil w4 w4.heap.size nof nof_b
    have L4 := hid (((L4.out.snoc (Below.refl _ _) N0).snoc (Below.refl _ _) N0).snoc (Below.refl _ _) N0)
    clear N0
    obtain ⟨LL, hLL⟩ : ∃ x : List Rn, [] = x := ⟨_, rfl⟩
    have TL := hid (show LL.length < 2000000000 by rw [← hLL]; decide)
    rw [hLL] at G4
    clear hLL
    go_wp2_with fail
    refine (same_true _ _ 0 _ _ _ (L4.out.at (i := 3) rfl).reads (L4.out.at (i := 2) rfl).reads (by omega) (fun _ _ => rfl)).mono ?_
    rintro e w5 ⟨rfl, dd, hw⟩
    have hb : Below w4.heap.size w4 w5 := by rw [hw]; exact below_drewN _ _
    have L5 := hid (L4.out.below hb)
    have G5 := hid (G4.out.below hb)
    clear hw hb L4 G4
    go_wp2_with fail
    refine (same_true _ _ 0 _ _ _ (L5.out.at (i := 4) rfl).reads (L5.out.at (i := 2) rfl).reads (by omega) (fun _ _ => rfl)).mono ?_
    rintro e w6 ⟨rfl, dd, hw⟩
    have hb : Below w5.heap.size w5 w6 := by rw [hw]; exact below_drewN _ _
    have L6 := hid (L5.out.below hb)
    have G6 := hid (G5.out.below hb)
    clear hw hb L5 G5
    go_wp2_with fail
    refine (kept17 _ _ np g _ (L6.out.at (i := 0) rfl).reads (A1.out _ G6.out.bel) (by omega)).mono ?_
    rintro e w7 ⟨rfl, hb⟩
    have L7 := hid (L6.out.below hb)
    have G7 := hid (G6.out.below hb)
    clear hb L6 G6
    go_wp2_with fail
    refine (kept17 _ _ ns f _ (L7.out.at (i := 1) rfl).reads (A2.out _ G7.out.bel) (by omega)).mono ?_
    rintro e w8 ⟨rfl, hb⟩
    have L8 := hid (L7.out.below hb)
    have G8 := hid (G7.out.below hb)
    clear hb L7 G7
    have LA := hid (show LS w8 w.heap.size [⟨.slice none 0 0, 0, nof⟩, ⟨.slice none 0 0, 0, nof⟩] from L8.out.dropK 3)
    go_wp2_with fail
    refine (LA.out.apartZ _ rfl 2 rfl (by omega) (by omega) ?_).mono ?_
    · intro x hx
      simp only [List.mem_cons, List.not_mem_nil, or_false] at hx
      rcases hx with rfl | rfl
      all_goals (show 0 ≤ _; omega)
    rintro e w9 ⟨rfl, -, hkp⟩
    have G9 := hid (GM.apart (G8.out.below (below_alloc w8 _)) (LA.out.below (below_alloc w8 _)) hkp)
    clear hkp LA L8 G8
    go_wp2_with fail
    refine (runs22 _ _ _ _ (GM.midL (l1 := []) G9.out).1 (by have := TL.out; omega)).mono ?_
    rintro e w10 ⟨r1, rfl, hu, hb⟩
    have U1 := hid hu
    have G10 := hid (G9.out.below hb)
    clear hu hb G9
    go_wp2_with fail
    refine (refRuns20 _ _ _ _ (GM.midR (l1 := [_]) (l2 := []) G10.out) (by have := TL.out; omega)).mono ?_
    rintro e w11 ⟨r2, rfl, hu, hb⟩
    have U2 := hid hu
    have V1 := hid (U1.out.below hb)
    have G11 := hid (G10.out.below hb)
    clear hu hb G10 U1
    go_wp2_with fail
    refine (same14 _ _ LL LL _ V1.out.reads U2.out.reads (by have := TL.out; omega) (by have := TL.out; omega)).mono ?_
    rw [decide_eq_true (show LL = LL from rfl)]
    rintro e w12 ⟨rfl, dd, hw⟩
    have bE := hid (below_next G11.out.bel (show Below w11.heap.size w11 w12 by rw [hw]; exact below_drewN _ _))
    clear hw
    go_wp2
    go_ret
    exact ⟨rfl, bE.out⟩
end Go.Proofs.YtjhhnajgfngbhaaGreatDoor.Dg
