/- The law Sha256Pieces. -/
import Derived.Test.YtimalofmomgjlaaDoorHpcs
namespace Go.Proofs.YtimalofmomgjlaaDoor.Sh
open Go.ChangeShapes Go.WideShapes Go.ChangeAt Go.RowKit
open Go.Proofs.YtimalofmomgjlaaDoor.By Go.Proofs.YtimalofmomgjlaaDoor.Wd

set_option maxRecDepth 4000 in
set_option maxHeartbeats 1600000 in
theorem pieces_walk (a c r : Option Addr) (n cap nc cc k ck : Nat) (f g h : Nat → Int) (w : World) (hr : By.RB w (.slice a n cap) n f) (hg : By.RB w (.slice c nc cc) nc g) (hm : By.RB w (.slice r k ck) k h) (hk : KT w) (hnc : nc ≤ 1048576) (q0 : n ≤ 140737488351232) (q2 : k ≤ 140737488351232) :
    Calls Tryd.prog 5 #[.slice a n cap, .slice c nc cc, .slice r k ck] w fun e w' => e = .returned (.bool true) ∧ Below w.heap.size w w' := by
  have HR := hid hr
  have HG := hid hg
  have HM := hid hm
  have HK := hid hk
  have H0 := hid hk.lt
  clear hr hg hm hk
  go_enter Tryd.func5, Tryd.ntmps5
  go_wp2_with fail
  refine (lives8 _ HK.out).mono ?_
  rintro e w1 ⟨rfl, hb⟩
  have b1 := hid hb
  clear hb
  by_cases hn : (16384 : Int) < n + k
  · go_wp2
    go_ret
    exact ⟨rfl, b1.out⟩
  · go_wp2_with fail
    refine (new12 _).mono ?_
    rintro e w2 ⟨rfl, hs, hb⟩
    have S2 := hid hs
    have b2 := hid (below_next b1.out hb)
    clear hs hb
    go_wp2_with fail
    refine (new12 _).mono ?_
    rintro e w3 ⟨rfl, hs, hb⟩
    have S3 := hid (S2.out.below hb)
    have T3 := hid hs
    have x2 := hid (S2.out.here.lt)
    have b3 := hid (below_next b2.out hb)
    clear hs hb S2
    go_wp2_with fail
    refine (new9 _).mono ?_
    rintro e w4 ⟨rfl, hl, hb⟩
    have S4 := hid (S3.out.below hb)
    have T4 := hid (T3.out.below hb)
    have L4 := hid hl
    have x7 := hid (show w3.heap.size < w4.heap.size from (Array.getElem?_eq_some_iff.1 hl.here).1)
    have b4 := hid (below_next b3.out hb)
    clear hl hb S3 T3
    go_wp2_with fail
    refine (new9 _).mono ?_
    rintro e w5 ⟨rfl, hl, hb⟩
    have S5 := hid (S4.out.below hb)
    have T5 := hid (T4.out.below hb)
    have L5 := hid (L4.out.below hb)
    have K5 := hid hl
    have b5 := hid (below_next b4.out hb)
    clear hl hb S4 T4 L4
    have x3 := hid b2.out.size
    have x4 := hid b3.out.size
    have x5 := hid b4.out.size
    have y2 := hid (show w2.heap.size ≠ w1.heap.size from by have := x2.out; omega)
    have y4 := hid (show w4.heap.size ≠ w3.heap.size from by have := x7.out; omega)
    go_wp2_with fail
    refine (whole_write (w0 := w) (B := w.heap.size) (f := f) (n := n) S5.out T5.out L5.out K5.out x3.out x5.out y2.out y4.out b5.out rfl (HK.out.below b5.out) H0.out HR.out (by omega)).mono ?_
    rintro e w6 ⟨rfl, hs, ht, hl, ⟨rk, hlk, hrk⟩, hb⟩
    have S6 := hid hs
    have T6 := hid ht
    have L6 := hid hl
    have K6 := hid hlk
    have R6 := hid hrk
    have b6 := hid hb
    clear hs ht hl hlk hrk hb S5 T5 L5 K5
    go_wp2_with fail
    refine (cut27 a c n cap nc cc f g _ (HR.out.below b6.out) (HG.out.below b6.out) (by omega) hnc).mono ?_
    rintro e w7 ⟨pv, vs, rfl, hrow, hcut, hb, hvl⟩
    have P7 := hid (show PS w w.heap.size w1.heap.size w2.heap.size w3.heap.size w4.heap.size n 0 f [] (evs256 [] (n / 64)) pv vs vs w7 from ⟨S6.out.below hb, T6.out.below hb, ⟨_, rk, L6.out.below hb, K6.out.below hb, fun q hq => by simp [Value.ownBlock] at hq, R6.out⟩, row_mono hrow b6.out.size, hcut.mono b6.out.size, below_next b6.out hb, HK.out.below (below_next b6.out hb), b1.out.size, x3.out, x4.out, x5.out, y2.out, y4.out, Nat.le_trans b6.out.size hb.size, H0.out⟩)
    clear hrow hcut hb S6 T6 L6 K6 R6
    obtain ⟨A, cp, rfl⟩ := row_slice P7.out.row
    have VL := hid hvl
    go_wp2_with fail
    go_loopw [12] (fun x wr => ∃ i m : Nat, i ≤ vs.length ∧ x = .int .i64 i ∧ PS w w.heap.size w1.heap.size w2.heap.size w3.heap.size w4.heap.size n m f (evs256 [] (m / 64)) (evs256 [] (n / 64)) (.slice A vs.length cp) vs (vs.drop i) wr) (fun x _ => vs.length - (intOf x).toNat)
    case atStart => exact ⟨0, 0, by omega, rfl, P7.out⟩
    case round =>
      clear P7
      obtain ⟨i, m, hi, rfl, hP⟩ := hrel
      have P := hid hP
      have hmn := hP.cuts.le
      clear hP
      by_cases h1 : i < vs.length
      · obtain ⟨x, hx⟩ : ∃ x, vs[i]? = some x := ⟨_, List.getElem?_eq_getElem h1⟩
        obtain ⟨ga, gc, e, hcell⟩ := rowL_cell P.out.row hx
        simp only [Value.slice.injEq, true_and] at e
        obtain ⟨rfl, rfl⟩ := e
        rw [Nat.zero_add] at hcell
        have hd : vs.drop i = x :: vs.drop (i + 1) := by rw [List.drop_eq_getElem_cons h1]; congr 1; rw [List.getElem?_eq_getElem h1] at hx; exact Option.some.inj hx
        have P1 := hid (hd ▸ P.out)
        have hT := evs256_tot pos_nil' (m / 64) (by show 0 + _ ≤ _; omega)
        go_wp2_with fail
        refine (P1.out.write (by omega) (by rw [hT]; show 0 + _ ≤ _; omega)).mono ?_
        rintro e x1 ⟨rfl, q, hq, hP⟩
        rw [evs256_add, show m / 64 + ((m + q) / 64 - m / 64) = (m + q) / 64 from by omega] at hP
        have P2 := hid hP
        clear hP P P1 hcell hT
        go_wp2_with fail
        refine (clone28 _ _ _ _ P2.out.st).mono ?_
        rintro e x2 ⟨rfl, hs, hb⟩
        have C3 := hid hs
        have P3 := hid (P2.out.below hb)
        have b3' := hid hb
        clear hs hb
        go_wp2_with fail
        refine (write26 x1.heap.size (m + q) k (.slice r k ck) f h none [] (fun j => j = x1.heap.size) _ C3.out P3.out.kt (by have := P2.out.hB; have := H0.out; omega) rfl (lg_nil _ _) pos_nil' (fun w' hk' => HM.out.below (P2.out.bel.trans ((kp_fresh b3'.out (Nat.le_refl _) hk').mono P2.out.hB))) (by omega) (by decide)).mono ?_
        rintro e x3' ⟨rfl, hs, -, hk'⟩
        have C4 := hid hs
        have b4' := hid (kp_fresh b3'.out (Nat.le_refl _) hk')
        clear hs hk'
        go_wp2_with fail
        refine (wipe29 x1.heap.size _ _ none [] (fun j => j = x1.heap.size) _ C4.out rfl (lg_nil _ _) (by decide)).mono ?_
        rintro e x4' ⟨rfl, -, -, hk'⟩
        have P5 := hid (P2.out.below (kp_fresh b4'.out (Nat.le_refl _) hk'))
        clear hk'
        go_wp2
        exact ⟨⟨i + 1, m + q, by omega, by go_num, P5.out⟩, by simp [intOf]; omega⟩
      · have hd : vs.drop i = [] := List.drop_eq_nil_of_le (by omega)
        have P1 := hid (hd ▸ P.out)
        obtain rfl : m = n := P1.out.cuts
        clear P
        have TE := hid (show tot (evs256 [] (m / 64)) = ((m / 64 : Nat) : Int) from by rw [evs256_tot pos_nil' (m / 64) (by show 0 + _ ≤ _; omega)]; exact Int.zero_add _)
        obtain ⟨rv, rl, hl, hlk, -, -⟩ := P1.out.led
        have L1 := hid hl
        have K1 := hid hlk
        clear hl hlk
        go_wp2_with fail
        refine (len20 _ _ _ _ L1.out).mono ?_
        rw [TE.out]
        rintro e z1 ⟨rfl, rfl⟩
        go_wp2_with fail
        refine (len20 _ _ _ _ K1.out).mono ?_
        rw [TE.out]
        rintro e z2 ⟨rfl, rfl⟩
        clear L1 K1
        go_wp2_with fail
        refine (form30 _ _ _ _ P1.out.st).mono ?_
        rintro e z3 ⟨u3, rfl, hu, hb⟩
        have U3 := hid hu
        have P3 := hid (P1.out.below hb)
        clear hu hb P1
        go_wp2_with fail
        refine (form30 _ _ _ _ P3.out.whole).mono ?_
        rintro e z4 ⟨u4, rfl, hu, hb⟩
        have U4 := hid hu
        have V3 := hid (own_below U3.out hb)
        have P4 := hid (P3.out.below hb)
        clear hu hb P3 U3
        go_wp2_with fail
        refine (same_true _ _ 104 _ _ _ V3.out.reads U4.out.reads (by omega) (fun _ _ => rfl)).mono ?_
        rintro e z5 ⟨rfl, d5, rfl⟩
        have P5 := hid (P4.out.below (below_drewN z4 d5))
        clear P4 V3 U4
        obtain ⟨Z, hZ⟩ : ∃ x, z4.drewN d5 = x := ⟨_, rfl⟩
        rw [hZ] at P5 ⊢
        clear hZ
        go_wp2_with fail
        refine (len31 _ _ _ _ P5.out.st).mono ?_
        rintro e z6 ⟨rfl, rfl⟩
        go_wp2_with fail
        refine (P5.out.sum (by omega) (by rw [TE.out]; omega)).mono ?_
        rintro e z7 ⟨u7, rfl, hu, hP, -⟩
        have U7 := hid hu
        have P7 := hid hP
        clear hu hP P5
        go_wp2_with fail
        refine (P7.out.swap.sum (by omega) (by rw [TE.out]; omega)).mono ?_
        rintro e z8 ⟨u8, rfl, hu, hP, hall⟩
        have U8 := hid hu
        have V7 := hid (hall _ _ _ _ U7.out)
        have P8 := hid hP.swap
        clear hu hP hall P7 U7
        go_wp2_with fail
        refine (sum23 m _ f none [] (fun _ => False) _ P8.out.kt (fun e => e) (lg_nil _ _) pos_nil' (fun w' h' => HR.out.below (P8.out.bel.trans ((below_kp h').mono P8.out.hB))) (by omega) (by decide)).mono ?_
        rintro e z9 ⟨u9, rfl, hu, -, hk9⟩
        have hb := below_kp hk9
        have U9 := hid hu
        have W7 := hid (own_below V7.out hb)
        have W8 := hid (own_below U8.out hb)
        have P9 := hid (P8.out.below hb)
        clear hu hk9 hb P8 V7 U8
        go_wp2_with fail
        refine (same_true _ _ 32 _ _ _ W7.out.reads W8.out.reads (by omega) (fun _ _ => rfl)).mono ?_
        rintro e z10 ⟨rfl, d10, rfl⟩
        obtain ⟨Y, hY⟩ : ∃ x, z9.drewN d10 = x := ⟨_, rfl⟩
        have hb : Below z9.heap.size z9 Y := by rw [← hY]; exact below_drewN z9 d10
        rw [hY]
        clear hY
        have X7 := hid (own_below W7.out hb)
        have X9 := hid (own_below U9.out hb)
        have P10 := hid (P9.out.below hb)
        clear hb W7 W8 U9 P9
        go_wp2_with fail
        refine (same_true _ _ 32 _ _ _ X7.out.reads X9.out.reads (by omega) (fun _ _ => rfl)).mono ?_
        rintro e z11 ⟨rfl, d11, rfl⟩
        obtain ⟨Q, hQ⟩ : ∃ x, Y.drewN d11 = x := ⟨_, rfl⟩
        have hb : Below Y.heap.size Y Q := by rw [← hQ]; exact below_drewN Y d11
        rw [hQ]
        clear hQ
        have Y9 := hid (own_below X9.out hb)
        have P11 := hid (P10.out.below hb)
        clear hb X7 X9 P10
        have hN := hid (show evs256 (evs256 [] (m / 64)) (last m) = [⟨1, 64, (blocks m : Int)⟩] from by
          rw [evs256_add, blocks_last]
          have h1 := blocks_pos m
          have h2 : blocks m ≤ 100000 := by unfold blocks zs; omega
          have := evs_one (blocks m - 1) (by omega)
          rwa [show blocks m - 1 + 1 = blocks m from by omega] at this)
        rw [hN.out] at P11
        obtain ⟨sv, sk, hl, hlk, -, -⟩ := P11.out.led
        have L11 := hid hl
        have K11 := hid hlk
        clear hl hlk
        go_wp2_with fail
        refine (runs22 _ _ _ _ L11.out (by show 1 * 24 ≤ 140737488355328; decide)).mono ?_
        rintro e z12 ⟨r12, rfl, hu, hb⟩
        have A12 := hid hu
        have K12 := hid (K11.out.below hb)
        have L12 := hid (L11.out.below hb)
        have P12 := hid (P11.out.below hb)
        have Y12 := hid (own_below Y9.out hb)
        clear hu hb K11 L11 P11 Y9
        go_wp2_with fail
        refine (runs22 _ _ _ _ K12.out (by show 1 * 24 ≤ 140737488355328; decide)).mono ?_
        rintro e z13 ⟨r13, rfl, hu, hb⟩
        have A13 := hid hu
        have B13 := hid (A12.out.below hb)
        have L13 := hid (L12.out.below hb)
        have P13 := hid (P12.out.below hb)
        have Y13 := hid (own_below Y12.out hb)
        clear hu hb K12 L12 P12 Y12 A12
        go_wp2_with fail
        refine (same14 _ _ [⟨1, 64, (blocks m : Int)⟩] [⟨1, 64, (blocks m : Int)⟩] _ B13.out.reads A13.out.reads (by show 1 < 1000000000000000000; decide) (by show 1 < 1000000000000000000; decide)).mono ?_
        rw [decide_eq_true (show ([⟨1, 64, (blocks m : Int)⟩] : List Rn) = [⟨1, 64, (blocks m : Int)⟩] from rfl)]
        rintro e z14 ⟨rfl, d14, rfl⟩
        obtain ⟨R, hR⟩ : ∃ x, z13.drewN d14 = x := ⟨_, rfl⟩
        have hb : Below z13.heap.size z13 R := by rw [← hR]; exact below_drewN z13 d14
        rw [hR]
        clear hR
        have L14 := hid (L13.out.below hb)
        have P14 := hid (P13.out.below hb)
        have Y14 := hid (own_below Y13.out hb)
        clear hb L13 P13 Y13 A13 B13
        go_wp2_with fail
        refine (len20 _ _ _ _ L14.out).mono ?_
        rw [show tot [⟨1, 64, (blocks m : Int)⟩] = (((m + 72) / 64 : Nat) : Int) from by
          show (blocks m : Int) + 0 = _
          have : blocks m = (m + 72) / 64 := by unfold blocks zs; omega
          rw [this]; exact Int.add_zero _]
        rintro e z15 ⟨rfl, rfl⟩
        clear L14
        go_wp2_with fail
        refine (sum32 _ m f none [] (fun _ => False) _ P14.out.st P14.out.kt (fun e => e) (lg_nil _ _) pos_nil' (by omega) (by decide)).mono ?_
        rintro e z16 ⟨u16, rfl, hu, -, hk16⟩
        have hb := below_kp hk16
        have U16 := hid hu
        have Y16 := hid (own_below Y14.out hb)
        have P16 := hid (P14.out.below hb)
        clear hu hk16 hb P14 Y14
        go_wp2_with fail
        refine (same_true _ _ 32 _ _ _ U16.out.reads Y16.out.reads (by omega) (fun _ _ => rfl)).mono ?_
        rintro e z17 ⟨rfl, d17, rfl⟩
        obtain ⟨V, hV⟩ : ∃ x, z16.drewN d17 = x := ⟨_, rfl⟩
        have hb : Below z16.heap.size z16 V := by rw [← hV]; exact below_drewN z16 d17
        rw [hV]
        clear hV
        have P17 := hid (P16.out.below hb)
        clear hb P16 U16 Y16
        have b17 := hid P17.out.bel
        have k17 := hid P17.out.kt
        have n0 := hid (show ¬ (0 = w1.heap.size) from by have := P17.out.hb; have := H0.out; omega)
        have nb := hid (fun (j : Nat) (hj : j < w.heap.size) (e : j = w1.heap.size) => (show False from by have := P17.out.hb; omega))
        go_wp2_with fail
        refine (reset33 _ m f _ P17.out.st).mono ?_
        rintro e z18 ⟨rfl, hs, hk'⟩
        have S18 := hid hs
        have b18 := hid (b17.out.trans (hk'.below b17.out.size (fun j hj e => nb.out j hj e)))
        clear hs hk' P17
        go_wp2_with fail
        refine (len31 _ _ _ _ S18.out).mono ?_
        rintro e z19 ⟨rfl, rfl⟩
        go_wp2_with fail
        refine (write26 _ 0 k (.slice r k ck) (fun _ => 0) h none [] (fun j => j = w1.heap.size) _ S18.out (HK.out.below b18.out) n0.out rfl (lg_nil _ _) pos_nil' (fun w' hk' => HM.out.below (b18.out.trans (hk'.below b18.out.size (fun j hj e => nb.out j hj e)))) (by omega) (by decide)).mono ?_
        rintro e z20 ⟨rfl, hs, -, hk'⟩
        have S20 := hid (show St z20 w1.heap.size k h from by
          have e := hs.congr HM.out.1 (fun i hi => by unfold cat; rw [if_neg (by omega)]; rfl)
          rwa [Nat.zero_add] at e)
        have b20 := hid (b18.out.trans (hk'.below b18.out.size (fun j hj e => nb.out j hj e)))
        clear hs hk' S18
        go_wp2_with fail
        refine (sum32 _ k h none [] (fun _ => False) _ S20.out (HK.out.below b20.out) (fun e => e) (lg_nil _ _) pos_nil' (by omega) (by decide)).mono ?_
        rintro e z21 ⟨u21, rfl, hu, -, hk'⟩
        have hb := below_kp hk'
        have U21 := hid hu
        have b21 := hid (b20.out.trans (hb.mono b20.out.size))
        clear hu hk' hb S20
        go_wp2_with fail
        refine (sum23 k _ h none [] (fun _ => False) _ (HK.out.below b21.out) (fun e => e) (lg_nil _ _) pos_nil' (fun w' h' => HM.out.below (b21.out.trans ((below_kp h').mono b21.out.size))) (by omega) (by decide)).mono ?_
        rintro e z22 ⟨u22, rfl, hu, -, hk'⟩
        have hb := below_kp hk'
        have U22 := hid hu
        have W21 := hid (own_below U21.out hb)
        have b22 := hid (b21.out.trans (hb.mono b21.out.size))
        clear hu hk' hb U21
        go_wp2_with fail
        refine (same_true _ _ 32 _ _ _ W21.out.reads U22.out.reads (by omega) (fun _ _ => rfl)).mono ?_
        rintro e z23 ⟨rfl, d23, rfl⟩
        go_wp2
        go_ret
        exact ⟨rfl, below_drew' b22.out d23⟩
end Go.Proofs.YtimalofmomgjlaaDoor.Sh
