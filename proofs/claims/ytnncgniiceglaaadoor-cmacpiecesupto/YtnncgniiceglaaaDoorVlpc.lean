/- The statement CmacPieces, walked. -/
import Derived.Test.YtnncgniiceglaaaDoorVpz
import Derived.Test.YtnncgniiceglaaaDoorVrns
import Derived.Test.YtnncgniiceglaaaDoorVlpb
namespace Go.Proofs.YtnncgniiceglaaaDoor.Vm
open Go.ChangeShapes Go.WideShapes Go.ChangeAt Go.RowKit
open Go.Proofs.YtnncgniiceglaaaDoor.By Go.Proofs.YtnncgniiceglaaaDoor.Gf Go.Proofs.YtnncgniiceglaaaDoor.Ae
open Go.Proofs.YtnncgniiceglaaaDoor.Kc (own_kept own_mono own8_type cat cat_bound wpList_cat below_grow)
set_option maxRecDepth 4000 in
set_option maxHeartbeats 8000000 in
theorem pieces_ok (k : Nat) (hkk : k = 4 ∨ k = 6 ∨ k = 8) (key : Nat → Nat) (hkey : ∀ i, key i < 256) (kb ko kc : Nat) (hc : 4 * k ≤ kc) (w : World) (hk : KM w) (hcell : ∀ i, i < 4 * k → w.cell? ⟨kb, ko + i, none⟩ = some (.int .u8 (key i : Nat)))
    (pa ca : Option Addr) (np nc cp cc : Nat) (f : Nat → Nat) (h : Nat → Int) (hp : By.RB w (.slice pa np cp) np (cb f)) (hq : By.RB w (.slice ca nc cc) nc h) (h1 : np ≤ 1048576) (h2 : nc ≤ 1048576) :
    Calls Tryd.prog 5 #[.slice (some ⟨kb, ko, none⟩) (4 * k) kc, .slice pa np cp, .slice ca nc cc] w fun e w' => e = .returned (.bool true) ∧ Below w.heap.size w w' := by
  have HK := hid hk
  have hkb := block_lt_of_cell (hcell 0 (by omega))
  have HC := hid (show ∀ W, Below w.heap.size w W → ∀ i, i < 4 * k → W.cell? ⟨kb, ko + i, none⟩ = some (.int .u8 (key i : Nat)) from fun W hW i hi => (hW.cell (p := ⟨kb, ko + i, none⟩) hkb).trans (hcell i hi))
  have HKY := hid hkey
  have HP := hid (show ∀ W, Below w.heap.size w W → By.RB W (.slice pa np cp) np (cb f) from fun W hW => hp.below hW)
  have HQ := hid (show ∀ W, Below w.heap.size w W → By.RB W (.slice ca nc cc) nc h from fun W hW => hq.below hW)
  have HF := hid (show ∀ i, f i < 256 from fun i => Int.ofNat_lt.1 (hp.1 i).2)
  clear hk hcell hkey hp hq
  go_enter Tryd.func5, Tryd.ntmps5
  go_wp2_with fail
  refine (awake1 w HK.out).mono ?_
  rintro e w2 ⟨rfl, hb2⟩
  have B2 := hid hb2
  clear hb2
  go_wp2_with fail
  refine (new9 w2).mono ?_
  rintro e w3 ⟨rfl, hl3, hb3⟩
  have L3 := hid hl3
  have B3 := hid (below_next B2.out hb3)
  have s2 := B2.out.size
  clear hl3 hb3 B2
  go_wp2_with fail
  refine (new9 w3).mono ?_
  rintro e w4 ⟨rfl, hl4, hb4⟩
  have L4 := hid (L3.out.below hb4)
  have M4 := hid hl4
  have B4 := hid (below_next B3.out hb4)
  have l12 := hid (show w2.heap.size < w3.heap.size from L3.out.lt)
  have s3 := B3.out.size
  clear hl4 hb4 B3 L3
  obtain ⟨l1, hl1⟩ : ∃ x, w2.heap.size = x := ⟨_, rfl⟩
  obtain ⟨l2, hl2⟩ : ∃ x, w3.heap.size = x := ⟨_, rfl⟩
  rw [hl1] at L4 l12 s2
  rw [hl2] at M4 l12 s3
  have TG := hid (tag_ok (fun x => x = l1) w4 w4 (some l1) [] k hkk key HKY.out kb ko kc hc ⟨rfl, _, L4.out, fun g hg => by simp [Value.ownBlock] at hg⟩ (Kp.refl _ _) pos_nil low_nil (km_below HK.out B4.out) (by have := HK.out.lt; omega) (fun W hW _ => HC.out W (B4.out.trans (hW.below B4.out.size (fun j hj e => by have e' : j = l1 := e; omega)))) np f HF.out (by omega) pa cp (fun V hV _ => HP.out V (B4.out.trans (hV.below B4.out.size (fun j hj e => by have e' : j = l1 := e; omega)))))
  go_wp2_with fail
  refine TG.out.mono ?_
  rintro e V ⟨bt, rfl, hbt, hbs, ⟨-, rv1, hL1, hown1⟩, hkp, hkt⟩
  have BV := hid (show Below w.heap.size w V from B4.out.trans (hkp.below B4.out.size (fun j hj e => by have e' : j = l1 := e; omega)))
  have M5 := hid (M4.out.kept hkp (fun e => by have e' : l2 = l1 := e; have := l12.out; omega) (fun q hq => by simp [Value.ownBlock] at hq))
  have L5 := hid hL1
  have T5 := hid hbt
  have OW1 := hid (show rv1.ownBlock ≠ some l2 from fun e => by
    have h1 := M5.out.here
    obtain ⟨cs, hc⟩ := own_type hL1.own e
    rw [hc] at h1
    simp at h1)
  clear hbt hbs hL1 hown1 hkp hkt TG L4 M4
  have NC := hid (cnew_ok (S2 V l2) V V (some l2) [] k hkk key HKY.out kb ko kc hc ⟨.inl rfl, _, M5.out, fun g hg => by simp [Value.ownBlock] at hg⟩ (Kp.refl _ _) low_nil.big pos_nil (km_below HK.out BV.out) (fun e => by have := HK.out.lt; have := BV.out.size; unfold S2 at e; omega) (fun W hW _ => HC.out W (BV.out.trans (hW.below BV.out.size (fun j hj e => by have := BV.out.size; unfold S2 at e; omega)))))
  go_wp2_with fail
  refine NC.out.mono ?_
  rintro e w6 ⟨g, gc, rfl, hm6, hg6, hgc6, hlg6, hkp6, hkt6⟩
  have HG := hid (show V.heap.size ≤ g ∧ V.heap.size ≤ gc from ⟨hg6, hgc6⟩)
  go_wp2_with fail
  refine (form_mc g gc k 0 _ _ w6 hm6).mono ?_
  rintro e w7 ⟨fv, rfl, ho7, hb7⟩
  obtain ⟨fa, fc, rfl⟩ := own8_slice ho7
  have BW7 := hid (show Below w.heap.size w w7 from below_next (BV.out.trans (hkp6.below BV.out.size (fun j hj e => by have := BV.out.size; unfold S2 at e; omega))) hb7)
  have X7 := hid (show Mc w7 g gc k (rk k key) 0 f from by
    have h := hm6.below hb7
    refine ⟨?_, h.ci, HF.out⟩
    have e1 := h.here
    rw [show mcl (.pointer (some ⟨gc, 0, none⟩)) (sk1 (rk k key) (k + 6)) (sk2 (rk k key) (k + 6)) (chn (rk k key) (k + 6) f (nbl 0)) (wtn f 0) (ctn 0) = mcl (.pointer (some ⟨gc, 0, none⟩)) (sk1 (rk k key) (k + 6)) (sk2 (rk k key) (k + 6)) (chn (rk k key) (k + 6) nought (nbl 0)) (wtn nought 0) (ctn 0) from
      mcl_e _ _ (E16.refl _) (E16.refl _) (E16.refl _) (fun i _ => wtn_e (fun i hi => absurd hi (Nat.not_lt_zero _)) i)]
    exact e1)
  have O7 := hid (own_mono ho7 (Nat.le_trans (Nat.le_refl _) hkp6.size))
  have KP7 := hid (hkp6.trans (Kp.of_below (S2 V l2) hb7) (fun _ _ e => e))
  have LG7 := hid (hlg6.below hb7)
  have T7 := hid ((Kq.below hb7).2 _ _ _ (by decide) (by decide) (by decide) ((Kq.kt hkt6).2 _ _ _ (by decide) (by decide) (by decide) T5.out))
  clear hm6 hg6 hgc6 hlg6 hkp6 hkt6 ho7 hb7 NC T5
  go_wp2_with fail
  refine (cut27 pa ca np cp nc cc (cb f) h w7 (HP.out w7 BW7.out) (HQ.out w7 BW7.out) h1 h2).mono ?_
  rintro e w8 ⟨pv, vs, rfl, hr8, hc8, hb8, hn8, -, -⟩
  obtain ⟨A8, cp8, rfl⟩ := row_slice hr8
  have sV := KP7.out.size
  have P8 := hid (show PZ V l2 g gc k (rk k key) (.slice fa (fml k) fc) (.slice A8 vs.length cp8) vs np f (evP k (1 + nbl 0)) 0 w8 from ⟨KP7.out.trans (Kp.of_below _ hb8) (fun _ _ e => e), LG7.out.below hb8, X7.out.below hb8, own_below O7.out hb8, row_mono hr8 sV, hc8.mono sV⟩)
  have T8 := hid (T7.out.below hb8)
  clear hr8 hc8 hb8 sV O7 KP7 LG7 X7 T7 BW7
  have LL2 := hid (show 0 < l2 from by have := l12.out; omega)
  have KMV := hid (km_below HK.out BV.out)
  go_wp2_with fail
  go_loopw [16, 17] (fun nv iv wr => ∃ n j : Nat, n ≤ np ∧ j ≤ vs.length ∧ nv = .int .i64 n ∧ iv = .int .i64 j ∧ PZ V l2 g gc k (rk k key) (.slice fa (fml k) fc) (.slice A8 vs.length cp8) vs np f (evP k (1 + nbl n)) n wr ∧ Cuts wr V.heap.size (cb f) (vs.take j) 0 n ∧ Blk wr bt (bl 16 (cb (tgn (rk k key) (k + 6) f np))) 49) (fun _ iv _ => vs.length - (intOf iv).toNat)
  case atStart => exact ⟨0, 0, Nat.zero_le _, Nat.zero_le _, rfl, rfl, P8.out, rfl, T8.out⟩
  case round =>
    clear P8 T8
    obtain ⟨n, j, hn, hj, rfl, rfl, hpz, hct, htg⟩ := hrel
    have P := hid hpz
    have TG := hid htg
    by_cases hlt : j < vs.length
    · obtain ⟨v, m, o, hv, hvo, hc1, hc2, ho⟩ := cuts_at hpz.cuts j hlt
      obtain rfl : o = n := cuts_fun hc1 hct
      obtain ⟨gq, cq, heq, hcq⟩ := rowL_cell hpz.row hv
      simp only [Value.slice.injEq] at heq
      obtain ⟨rfl, -, -⟩ := heq
      rw [Nat.zero_add] at hcq
      obtain ⟨va, vc, rfl⟩ := own8_slice hvo
      have hm : m ≤ 140737488355328 := by omega
      have hle : nbl o ≤ 1000 * 100 := by unfold nbl; omega
      have hle2 : nbl (o + m) ≤ 1000 * 100 := by unfold nbl; omega
      obtain ⟨q1, q2⟩ := evP_low k (1 + nbl o) (by omega)
      have WC := hid (P.out.write HG.out.1 KMV.out LL2.out q1 q2 _ m hm hvo)
      have EV := hid (show evb k (evP k (1 + nbl o)) (nbl (o + m) - nbl o) = evP k (1 + nbl (o + m)) from by rw [evP_next k _ _ (by have := nbl_mono o m; omega)]; congr 1; have := nbl_mono o m; omega)
      have C2 := hid hc2
      have HO := hid ho
      have HV := hid hv
      have RC := hid (show ∀ W, Kq wr W → W.cell? ⟨gq, j, none⟩ = some (.slice va m vc) from fun W hW => by
        obtain ⟨g', c', he, hcc⟩ := rowL_cell (hW.row P.out.row) hv
        simp only [Value.slice.injEq, Option.some.injEq, Addr.mk.injEq, and_true] at he
        obtain ⟨rfl, -⟩ := he
        rw [Nat.zero_add] at hcc; exact hcc)
      clear hpz hct htg hvo hc1 hc2 ho q1 q2 hle hle2 hv hm
      go_wp2_with fail
      refine WC.out.mono ?_
      rintro e w9 ⟨rfl, hp9, hq9⟩
      rw [EV.out] at hp9
      have P9 := hid hp9
      have T9 := hid (hq9.2 _ _ _ (by decide) (by decide) (by decide) TG.out)
      have C9 := hid (C2.out.imp (fun _ _ _ ho => hq9.own ho))
      have x9 := RC.out w9 hq9
      clear hp9 hq9 P TG C2 WC RC
      obtain ⟨N, hN⟩ : ∃ N, o + m = N := ⟨_, rfl⟩
      have hN2 : (o : Int) + (m : Int) = (N : Int) := by omega
      have hNp : N ≤ np := by have := HO.out; omega
      have hom : o + m ≤ 1048576 := by have := HO.out; omega
      rw [hN] at P9 C9
      have P9' := P9.out
      clear EV HO hN
      go_wp2_with fail
      clear hom hN2
      refine (form_mc g gc k N _ _ w9 P9.out.mc).mono ?_
      rintro e wA ⟨u, rfl, hoA, hbA⟩
      rcases hoA.shape with ⟨_, h0⟩ | ⟨gf, cf, rfl, _, _, hfc, _, hcells, _⟩
      · exact absurd h0 (Nat.succ_ne_zero _)
      have hlast := hcells (fml k - 1) (Nat.sub_lt (Nat.succ_pos _) Nat.one_pos)
      rw [show cb (fmf k (rk k key) N f) (fml k - 1) = ((ctn N : Nat) : Int) from congrArg Nat.cast (fmf_lastb k N _ _)] at hlast
      have PA := hid (P9.out.below hbA)
      have TA := hid (T9.out.below hbA)
      have CA := hid (C9.out.below hbA)
      clear hoA hbA P9 T9 C9 P9' hcells x9
      obtain ⟨M, hM⟩ : ∃ M, fml k - 1 = M := ⟨_, rfl⟩
      have hMf : fml k = M + 1 := by rw [← hM]; unfold fml; rfl
      rw [hM] at hlast
      have hM2 : ((fml k : Nat) : Int) - 1 = (M : Int) := by omega
      have hM3 : (M : Int) < ((fml k : Nat) : Int) := by omega
      have hM4 : M < fml k := by omega
      have hM5 : M ≤ 100000 := by have := kk_le hkk; unfold fml at hMf; omega
      clear hMf hM
      have hctl := ctn_le N
      by_cases h0 : 0 < N
      · have hw1 := wait_pos N h0
        obtain ⟨ct, hct⟩ : ∃ c, ctn N = c := ⟨_, rfl⟩
        rw [hct] at hw1 hlast hctl
        have hgt : decide ((0 : Int) < (N : Int)) = true := decide_eq_true (by omega)
        have hN20 : N ≤ 1048576 := by omega
        clear hct
        go_wp2_with fail
        exact ⟨⟨N, j + 1, hNp, hlt, rfl, by go_num, PA.out, CA.out, TA.out⟩, by simp [intOf]; omega⟩
      · obtain rfl : N = 0 := Nat.eq_zero_of_not_pos h0
        rw [show ((ctn 0 : Nat) : Int) = 0 from rfl] at hlast
        clear hctl
        go_wp2_with fail
        exact ⟨⟨0, j + 1, hNp, hlt, rfl, by go_num, PA.out, CA.out, TA.out⟩, by simp [intOf]; omega⟩
    · obtain rfl : j = vs.length := by omega
      rw [List.take_length] at hct
      obtain rfl : n = np := cuts_fun hct hpz.cuts
      have hN20 : nbl n ≤ 1000 * 100 := by unfold nbl; omega
      obtain ⟨q1, q2⟩ := evP_low k (1 + nbl n) (by omega)
      have SC := hid (P.out.sum KMV.out LL2.out ⟨by omega, by omega⟩)
      have EV := hid (evP_next k (1 + nbl n) 1 (by omega))
      clear hpz hct htg q1 q2 hn hj
      go_wp2_with fail
      refine SC.out.mono ?_
      rintro e wA ⟨tb, rfl, htb, hpA, hqA⟩
      rw [EV.out] at hpA
      have PA := hid hpA
      have TA := hid (hqA.2 _ _ _ (by decide) (by decide) (by decide) TG.out)
      have XA := hid htb
      clear hpA hqA htb P TG SC EV
      go_wp2_with fail
      refine (sumN wA (PA.out.km KMV.out LL2.out) g gc k n _ _ PA.out.mc).mono ?_
      rintro e wB ⟨ub, rfl, hub, -, hbB⟩
      have PB := hid (PA.out.below hbB)
      have TB := hid (TA.out.below hbB)
      have XB := hid (XA.out.below hbB)
      have UB := hid hub
      clear hub hbB PA TA XA
      have HT := hid (tgn_b (ws := rk k key) (m := f) PB.out.mc.ci.lt PB.out.mc.lt (k + 6) n)
      have S1 := hid (same_true _ _ 16 _ _ wB (rb_tag XB.out HT.out) (rb_tag TB.out HT.out) (by decide) (fun _ _ => rfl))
      have K8 := hid (kk_le hkk)
      have EQ := hid (show evP k (1 + nbl n + 1) = evP k (nbl n + 2) from by rw [show 1 + nbl n + 1 = nbl n + 2 from by omega])
      have LN := hid (show (evP k (nbl n + 2)).length ≤ 2 from by rw [evP_list k _ (by omega)]; exact Nat.le_refl 2)
      have NE := hid (show l1 ≠ l2 from by have := l12.out; omega)
      have hc4 : ((4 * k : Nat) : Int) = 4 * (k : Int) := by omega
      clear hN20 hlt
      go_wp2_with fail
      refine S1.out.mono ?_
      rintro e wC ⟨rfl, d1, hwC⟩
      have kC := below_drewN wB d1
      rw [← hwC] at kC
      have PC := hid (PB.out.below kC)
      have S2' := hid (same_true _ _ 16 _ _ wC (rb_tag (UB.out.below kC) HT.out) (rb_tag (TB.out.below kC) HT.out) (by decide) (fun _ _ => rfl))
      clear kC hwC PB TB XB UB S1
      go_wp2_with fail
      refine S2'.out.mono ?_
      rintro e wD ⟨rfl, d2, hwD⟩
      have kD := below_drewN wC d2
      rw [← hwD] at kD
      have PD := hid (PC.out.below kD)
      have LD := hid (PD.out.led L5.out NE.out OW1.out)
      rw [evT_P] at LD
      clear kD hwD PC S2'
      go_wp2_with fail
      refine (runs22 l1 rv1 _ wD LD.out (by have := LN.out; omega)).mono ?_
      rintro e wE ⟨r1, rfl, hr1, hbE⟩
      have PE := hid (PD.out.below hbE)
      have R1 := hid hr1
      clear hr1 hbE PD LD
      have LE := hid PE.out.lg
      go_wp2_with fail
      obtain ⟨-, rv2, hL2, -⟩ := LE.out
      rw [EQ.out] at hL2
      refine (runs22 l2 rv2 _ wE hL2 (by have := LN.out; omega)).mono ?_
      rintro e wF ⟨r2, rfl, hr2, hbF⟩
      have PF := hid (PE.out.below hbF)
      have R1' := hid (R1.out.below hbF)
      have R2 := hid hr2
      clear hr2 hbF PE R1 LE hL2
      go_wp2_with fail
      refine (same14 r1 r2 _ _ wF R1'.out.reads R2.out.reads (by have := LN.out; omega) (by have := LN.out; omega)).mono ?_
      rintro e wG ⟨rfl, d3, hwG⟩
      rw [decide_eq_true rfl]
      have kG := below_drewN wF d3
      rw [← hwG] at kG
      have PG := hid (PF.out.below kG)
      have LG' := hid (PG.out.led L5.out NE.out OW1.out)
      rw [evT_P] at LG'
      clear kG hwG PF R1' R2
      go_wp2_with fail
      refine (runs22 l1 rv1 _ wG LG'.out (by have := LN.out; omega)).mono ?_
      rintro e wH ⟨r3, rfl, hr3, hbH⟩
      have PH := hid (PG.out.below hbH)
      have R3 := hid hr3
      clear hr3 hbH PG LG'
      go_wp2_with fail
      refine (runs13 k n K8.out h1 wH).mono ?_
      rintro e wI ⟨r4, rfl, hr4, hbI⟩
      have PI := hid (PH.out.below hbI)
      have R3' := hid (R3.out.below hbI)
      have R4 := hid hr4
      clear hr4 hbI PH R3
      go_wp2_with fail
      refine (same14 r3 r4 _ _ wI R3'.out.reads R4.out.reads (by have := LN.out; omega) (by have := LN.out; omega)).mono ?_
      rintro e wJ ⟨rfl, d4, hwJ⟩
      rw [decide_eq_true rfl]
      have kJ := below_drewN wI d4
      rw [← hwJ] at kJ
      have PJ := hid (PI.out.below kJ)
      clear kJ hwJ PI R3' R4
      go_wp2_with fail
      refine (reset_mc g gc k n _ _ wJ PJ.out.mc).mono ?_
      rintro e wK ⟨rfl, hmK, hkK⟩
      have BK := hid (show Below w.heap.size w wK from (PJ.out.bel BV.out (by have := l12.out; omega)).trans (hkK.below (PJ.out.bel BV.out (by have := l12.out; omega)).size (fun j hj e => by have e' : j = g := e; have := HG.out.1; have := BV.out.size; omega)))
      have FK := hid (own_kept PJ.out.fo hkK (fun q hq e => by
        have e' : q = g := e
        subst e'
        obtain ⟨c1, hc1⟩ := own8_type PJ.out.fo hq
        have h1 := PJ.out.mc.here
        have h2 : Blk wJ q c1.toList 5 := by show wJ.heap[q]? = _; rw [hc1]
        exact absurd rfl (h2.ne h1 (by decide))))
      have MK := hid hmK
      clear hmK hkK PJ
      go_wp2_with fail
      refine (form_mc g gc k 0 _ _ wK MK.out).mono ?_
      rintro e wL ⟨u5, rfl, ho5, hb5⟩
      have SL := hid (same_true u5 _ (fml k) _ _ wL ho5.reads (own_below FK.out hb5).reads (by have := K8.out; unfold fml; omega) (fun _ _ => rfl))
      have BL := hid (below_next BK.out hb5)
      clear ho5 hb5 BK FK MK
      go_wp2_with fail
      refine SL.out.mono ?_
      rintro e wM ⟨rfl, d5, rfl⟩
      go_wp2_with fail
      go_ret
      exact ⟨by simp, below_drew' BL.out d5⟩
theorem pieces_walk (a pa ca : Option Addr) (n np nc cap cp cc : Nat) (f fp fq : Nat → Int) (w : World) (hk : KM w) (h : By.RB w (.slice a n cap) n f) (hp : By.RB w (.slice pa np cp) np fp) (hq : By.RB w (.slice ca nc cc) nc fq) (h1 : np ≤ 1048576) (h2 : nc ≤ 1048576) : Calls Tryd.prog 5 #[.slice a n cap, .slice pa np cp, .slice ca nc cc] w fun e w' => e = .returned (.bool true) ∧ Below w.heap.size w w' := by
  rcases key_cases n with ⟨e1, e2, e3⟩ | ⟨k, hkk, rfl⟩
  · exact pieces_bad a n cap _ _ w hk e1 e2 e3
  · obtain ⟨b, o, rfl, hc, hcell⟩ := rb_cells (rb_kf h) (by omega)
    exact pieces_ok k hkk (kf f) (kf_lt h.1) b o cap hc w hk hcell pa ca np nc cp cc (kf fp) fq (rb_kf hp) hq h1 h2
end Go.Proofs.YtnncgniiceglaaaDoor.Vm
