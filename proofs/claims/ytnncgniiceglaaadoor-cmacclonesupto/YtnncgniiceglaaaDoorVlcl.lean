/- The statement CmacClones, walked. -/
import Derived.Test.YtnncgniiceglaaaDoorVlw1
import Derived.Test.YtnncgniiceglaaaDoorVcat
namespace Go.Proofs.YtnncgniiceglaaaDoor.Vm
open Go.ChangeShapes Go.WideShapes Go.ChangeAt Go.RowKit
open Go.Proofs.YtnncgniiceglaaaDoor.By Go.Proofs.YtnncgniiceglaaaDoor.Gf Go.Proofs.YtnncgniiceglaaaDoor.Ae
open Go.Proofs.YtnncgniiceglaaaDoor.Kc (own_kept own_mono own8_type cat cat_bound wpList_cat below_grow)
theorem cat_ct2 (n : Nat) (f g : Nat → Nat) : cat n (cb f) (cb g) = cb (ct2 n f g) := by
  funext i
  show (if i < n then ((f i : Nat) : Int) else ((g (i - n) : Nat) : Int)) = (((if i < n then f i else g (i - n)) : Nat) : Int)
  split <;> rfl
theorem fml_le2 (k : Nat) (h : k = 4 ∨ k = 6 ∨ k = 8) : fml k ≤ 140737488355999 := by unfold fml; omega
set_option maxRecDepth 4000 in
set_option maxHeartbeats 4000000 in
theorem clones_bad (a : Option Addr) (n cap : Nat) (pv qv rv : Value) (w : World) (hk : KM w) (h1 : n ≠ 16) (h2 : n ≠ 24) (h3 : n ≠ 32) : Calls Tryd.prog 6 #[.slice a n cap, pv, qv, rv] w fun e w' => e = .returned (.bool true) ∧ Below w.heap.size w w' := by
  have HK := hid hk
  clear hk
  go_enter Tryd.func6, Tryd.ntmps6
  go_wp2_with fail
  refine (awake1 w HK.out).mono ?_
  rintro e w2 ⟨rfl, hb2⟩
  have B2 := hid hb2
  clear hb2
  go_wp2_with (first | (go_at_call 19; refine (cnew_bad _ a n cap _ h1 h2 h3).mono ?_; rintro e w3 ⟨rfl, hb3⟩; have B3 := hid (below_next B2.out hb3); clear hb3))
  go_ret
  exact ⟨rfl, B3.out⟩
set_option maxRecDepth 4000 in
set_option maxHeartbeats 8000000 in
theorem clones_ok (k : Nat) (hkk : k = 4 ∨ k = 6 ∨ k = 8) (key : Nat → Nat) (hkey : ∀ i, key i < 256) (kb ko kc : Nat) (hc : 4 * k ≤ kc) (w : World) (hk : KM w) (hcell : ∀ i, i < 4 * k → w.cell? ⟨kb, ko + i, none⟩ = some (.int .u8 (key i : Nat)))
    (pa qa ra : Option Addr) (np nq nr cp cq cr : Nat) (f g h : Nat → Nat) (hp : By.RB w (.slice pa np cp) np (cb f)) (hq : By.RB w (.slice qa nq cq) nq (cb g)) (hr : By.RB w (.slice ra nr cr) nr (cb h)) (h1 : np + nq ≤ 140737488355328) (h2 : np + nr ≤ 140737488355328) :
    Calls Tryd.prog 6 #[.slice (some ⟨kb, ko, none⟩) (4 * k) kc, .slice pa np cp, .slice qa nq cq, .slice ra nr cr] w fun e w' => e = .returned (.bool true) ∧ Below w.heap.size w w' := by
  have HK := hid hk
  have hkb := block_lt_of_cell (hcell 0 (by omega))
  have HC := hid (show ∀ W, Below w.heap.size w W → ∀ i, i < 4 * k → W.cell? ⟨kb, ko + i, none⟩ = some (.int .u8 (key i : Nat)) from fun W hW i hi => (hW.cell (p := ⟨kb, ko + i, none⟩) hkb).trans (hcell i hi))
  have HKY := hid hkey
  have HP := hid (show ∀ W, Below w.heap.size w W → By.RB W (.slice pa np cp) np (cb f) from fun W hW => hp.below hW)
  have HQ := hid (show ∀ W, Below w.heap.size w W → By.RB W (.slice qa nq cq) nq (cb g) from fun W hW => hq.below hW)
  have HR := hid (show ∀ W, Below w.heap.size w W → By.RB W (.slice ra nr cr) nr (cb h) from fun W hW => hr.below hW)
  have N1 := hid h1
  have N2 := hid h2
  have N3 := hid (show np ≤ 140737488355328 ∧ nq ≤ 140737488355328 ∧ nr ≤ 140737488355328 ∧ np ≤ 140737488355999 from by omega)
  clear hk hcell hkey hp hq hr h1 h2
  go_enter Tryd.func6, Tryd.ntmps6
  go_wp2_with fail
  refine (awake1 w HK.out).mono ?_
  rintro e w2 ⟨rfl, hb2⟩
  have B2 := hid hb2
  clear hb2
  go_wp2_with fail
  refine (cnewN k hkk key HKY.out kb ko kc hc w2 (km_below HK.out B2.out) (HC.out w2 B2.out)).mono ?_
  rintro e w3 ⟨m, mc, rfl, hm3, hg3, hgc3, hb3⟩
  have M3 := hid hm3
  have B3 := hid (below_next B2.out hb3)
  have GM := hid (show w.heap.size ≤ m ∧ w.heap.size ≤ mc from ⟨Nat.le_trans B2.out.size hg3, Nat.le_trans B2.out.size hgc3⟩)
  clear hm3 hg3 hgc3 hb3 B2
  go_wp2_with fail
  refine (writeN w w3 B3.out HK.out m mc k 0 _ _ M3.out GM.out.1 np f N3.out.1 pa cp (fun V hV _ => HP.out V hV)).mono ?_
  rintro e w4 ⟨rfl, hm4, hb4, -⟩
  rw [Nat.zero_add, ct2_zero] at hm4
  have M4 := hid hm4
  have B4 := hid hb4
  clear hm4 hb4 M3 B3
  go_wp2_with fail
  refine (clone_mc m mc k np _ _ w4 M4.out).mono ?_
  rintro e w5 ⟨c, cc, rfl, hc5, hg5, hgc5, hb5⟩
  have C5 := hid hc5
  have M5 := hid (M4.out.below hb5)
  have B5 := hid (below_next B4.out hb5)
  have NE := hid (show m ≠ c ∧ mc ≠ cc from ⟨by have := M4.out.glt; omega, by have := M4.out.ci.glt; omega⟩)
  have GC := hid (show w.heap.size ≤ c ∧ w.heap.size ≤ cc from ⟨Nat.le_trans B4.out.size hg5, Nat.le_trans B4.out.size hgc5⟩)
  have TC := hid (show cc ≠ m ∧ mc ≠ c from ⟨hc5.ci.here.ne M5.out.here (by decide), M5.out.ci.here.ne hc5.here (by decide)⟩)
  clear hc5 hg5 hgc5 hb5 M4 B4
  go_wp2_with fail
  refine (form_mc c cc k np _ _ w5 C5.out).mono ?_
  rintro e w6 ⟨u6, rfl, ho6, hb6⟩
  have O6 := hid ho6
  have C6 := hid (C5.out.below hb6)
  have M6 := hid (M5.out.below hb6)
  have B6 := hid (below_next B5.out hb6)
  clear ho6 hb6 C5 M5 B5
  go_wp2_with fail
  refine (form_mc m mc k np _ _ w6 M6.out).mono ?_
  rintro e w7 ⟨u7, rfl, ho7, hb7⟩
  have SM := hid (same_true u6 u7 (fml k) _ _ w7 (own_below O6.out hb7).reads ho7.reads (fml_le2 k hkk) (fun _ _ => rfl))
  have C7 := hid (C6.out.below hb7)
  have M7 := hid (M6.out.below hb7)
  have B7 := hid (below_next B6.out hb7)
  clear ho7 hb7 C6 M6 B6 O6
  go_wp2_with (go_at_call 13; refine SM.out.mono ?_; rintro e w8 ⟨rfl, d, hw8⟩; have C8 := hid (show Mc w8 c cc k (rk k key) np f from by rw [hw8]; exact C7.out.below (below_drewN w7 d)); have M8 := hid (show Mc w8 m mc k (rk k key) np f from by rw [hw8]; exact M7.out.below (below_drewN w7 d)); have B8 := hid (show Below w.heap.size w w8 from by rw [hw8]; exact below_drew' B7.out d); clear hw8)
  clear C7 M7 B7 SM
  refine (writeN w w8 B8.out HK.out m mc k np _ _ M8.out GM.out.1 nq g N3.out.2.1 qa cq (fun V hV _ => HQ.out V hV)).mono ?_
  rintro e w9 ⟨rfl, hm9, hb9, hx9⟩
  have M9 := hid hm9
  have C9 := hid (C8.out.kx hx9 (fun e => NE.out.1 e.symm) TC.out.1)
  have B9 := hid hb9
  clear hm9 hb9 hx9 M8 C8 B8
  go_wp2_with fail
  refine (writeN w w9 B9.out HK.out c cc k np _ _ C9.out GC.out.1 nr h N3.out.2.2.1 ra cr (fun V hV _ => HR.out V hV)).mono ?_
  rintro e wA ⟨rfl, hcA, hbA, hxA⟩
  have CA := hid hcA
  have MA := hid (M9.out.kx hxA NE.out.1 TC.out.2)
  have BA := hid hbA
  clear hcA hbA hxA M9 C9 B9
  go_wp2_with fail
  refine (copy16 (.slice pa np cp) np (cb f) wA (HP.out wA BA.out) N3.out.1).mono ?_
  rintro e wB ⟨vA, rfl, ho, hb⟩
  have O1 := hid ho
  have K1 := hid hb
  have R1 := hid (HQ.out wB (below_next BA.out hb))
  clear ho hb
  go_wp2_with (at_builtin; go_must (refine wpList_cat rfl _ _ rfl wA.heap.size np nq _ _ (cb f) (cb g) rfl O1.out rfl R1.out N1.out K1.out.size ?_))
  intro v2A wC hown hgrow
  have O2 := hid hown
  have K2 := hid (below_grow K1.out K1.out.size O1.out hgrow)
  rw [cat_ct2] at O2
  obtain ⟨tA, eA, hvA⟩ := own8_slice O2.out
  subst hvA
  have B2 := hid (below_next BA.out K2.out)
  clear hown hgrow O1 R1 K1
  go_wp2_with fail
  refine (tagN k hkk key HKY.out kb ko kc hc wC (km_below HK.out B2.out) (HC.out wC B2.out) (np + nq) (ct2 np f g) N1.out tA eA O2.out.reads).mono ?_
  rintro e wD ⟨bP, rfl, hbt, -, hb3⟩
  have K3 := hid (below_next K2.out hb3)
  have TP := hid hbt
  have CD := hid (CA.out.below K3.out)
  have MD := hid (MA.out.below K3.out)
  have BD := hid (below_next BA.out K3.out)
  clear hbt hb3 K2 K3 O2 B2 CA MA BA
  go_wp2_with fail
  refine (copy16 (.slice pa np cp) np (cb f) wD (HP.out wD BD.out) N3.out.1).mono ?_
  rintro e wE ⟨vD, rfl, ho, hb⟩
  have O1 := hid ho
  have K1 := hid hb
  have R1 := hid (HR.out wE (below_next BD.out hb))
  clear ho hb
  go_wp2_with (at_builtin; go_must (refine wpList_cat rfl _ _ rfl wD.heap.size np nr _ _ (cb f) (cb h) rfl O1.out rfl R1.out N2.out K1.out.size ?_))
  intro v2D wF hown hgrow
  have O2 := hid hown
  have K2 := hid (below_grow K1.out K1.out.size O1.out hgrow)
  rw [cat_ct2] at O2
  obtain ⟨tD, eD, hvD⟩ := own8_slice O2.out
  subst hvD
  have B2 := hid (below_next BD.out K2.out)
  clear hown hgrow O1 R1 K1
  go_wp2_with fail
  refine (tagN k hkk key HKY.out kb ko kc hc wF (km_below HK.out B2.out) (HC.out wF B2.out) (np + nr) (ct2 np f h) N2.out tD eD O2.out.reads).mono ?_
  rintro e wG ⟨bQ, rfl, hbt, -, hb3⟩
  have K3 := hid (below_next K2.out hb3)
  have TQ := hid hbt
  have TP2 := hid (TP.out.below K3.out)
  have CG := hid (CD.out.below K3.out)
  have MG := hid (MD.out.below K3.out)
  have BG := hid (below_next BD.out K3.out)
  clear hbt hb3 K2 K3 O2 B2 CD MD BD TP
  go_wp2_with fail
  refine (sumN wG (km_below HK.out BG.out) m mc k (np + nq) _ _ MG.out).mono ?_
  rintro e wH ⟨bx, rfl, hx, -, hbH⟩
  have HB1 := hid (tgn_b (ws := rk k key) (m := ct2 np f g) MG.out.ci.lt MG.out.lt (k + 6) (np + nq))
  have SX := hid (same_true _ _ 16 _ _ wH (rb_tag hx HB1.out) (rb_tag (TP2.out.below hbH) HB1.out) (by decide) (fun _ _ => rfl))
  have TQ2 := hid (TQ.out.below hbH)
  have CH := hid (CG.out.below hbH)
  have MH := hid (MG.out.below hbH)
  have BH := hid (below_next BG.out hbH)
  clear hx hbH TP2 TQ CG MG BG
  go_wp2_with (go_at_call 13; refine SX.out.mono ?_; rintro e wI ⟨rfl, d, hwI⟩; have kI := below_drewN wH d; rw [← hwI] at kI; have TQ3 := hid (TQ2.out.below kI); have CI := hid (CH.out.below kI); have MI := hid (MH.out.below kI); have BI := hid (below_next BH.out kI); clear hwI kI)
  clear SX TQ2 CH MH BH
  refine (wipeM w wI BI.out m mc k (np + nq) _ _ MI.out GM.out.1 GM.out.2).mono ?_
  rintro e wJ ⟨rfl, -, hbJ, hxJ⟩
  have BJ := hid hbJ
  have CJ := hid (show Mc wJ c cc k (rk k key) (np + nr) (ct2 np f h) from ⟨hxJ _ _ _ (fun e => NE.out.1 e.symm) (fun e => TC.out.2 e.symm) CI.out.here (by decide) (by decide), ⟨hxJ _ _ _ TC.out.1 (fun e => NE.out.2 e.symm) CI.out.ci.here (by decide) (by decide), CI.out.ci.kk, CI.out.ci.lt⟩, CI.out.lt⟩)
  have TJ := hid (hxJ _ _ _ (TQ3.out.ne MI.out.here (by decide)) (TQ3.out.ne MI.out.ci.here (by decide)) TQ3.out (by decide) (by decide))
  clear hbJ hxJ TQ3 CI MI BI
  go_wp2_with fail
  refine (sumN wJ (km_below HK.out BJ.out) c cc k (np + nr) _ _ CJ.out).mono ?_
  rintro e wK ⟨by', rfl, hy, -, hbK⟩
  have HB2 := hid (tgn_b (ws := rk k key) (m := ct2 np f h) CJ.out.ci.lt CJ.out.lt (k + 6) (np + nr))
  have SY := hid (same_true _ _ 16 _ _ wK (rb_tag hy HB2.out) (rb_tag (TJ.out.below hbK) HB2.out) (by decide) (fun _ _ => rfl))
  have BK := hid (below_next BJ.out hbK)
  clear hy hbK TJ CJ BJ
  go_wp2_with (go_at_call 13; refine SY.out.mono ?_; rintro e wL ⟨rfl, d, rfl⟩)
  go_ret
  exact ⟨by simp, below_drew' BK.out d⟩
theorem clones_walk (a pa qa ra : Option Addr) (n np nq nr cap cp cq cr : Nat) (f fp fq fr : Nat → Int) (w : World) (hk : KM w) (h : By.RB w (.slice a n cap) n f) (hp : By.RB w (.slice pa np cp) np fp) (hq : By.RB w (.slice qa nq cq) nq fq) (hr : By.RB w (.slice ra nr cr) nr fr) (h1 : np + nq ≤ 140737488355328) (h2 : np + nr ≤ 140737488355328) : Calls Tryd.prog 6 #[.slice a n cap, .slice pa np cp, .slice qa nq cq, .slice ra nr cr] w fun e w' => e = .returned (.bool true) ∧ Below w.heap.size w w' := by
  rcases key_cases n with ⟨e1, e2, e3⟩ | ⟨k, hkk, rfl⟩
  · exact clones_bad a n cap _ _ _ w hk e1 e2 e3
  · obtain ⟨b, o, rfl, hc, hcell⟩ := rb_cells (rb_kf h) (by omega)
    exact clones_ok k hkk (kf f) (kf_lt h.1) b o cap hc w hk hcell pa qa ra np nq nr cp cq cr (kf fp) (kf fq) (kf fr) (rb_kf hp) (rb_kf hq) (rb_kf hr) h1 h2
end Go.Proofs.YtnncgniiceglaaaDoor.Vm
