/- The law HkdfSteps. -/
import Derived.Test.YtmbcccmidfpgeaaDoorIpk
import Derived.Test.YtmbcccmidfpgeaaDoorZmt
namespace Go.Proofs.YtmbcccmidfpgeaaDoor.Dg
open Go.ChangeShapes Go.WideShapes Go.ChangeAt Go.RowKit
open Go.Proofs.YtmbcccmidfpgeaaDoor.By
open Go.Proofs.YtmbcccmidfpgeaaDoor.Sh (Blk size_alloc)
theorem tag0 (a : Bool) (n np : Nat) (v v2 : Value) (g f : Nat → Int) (w : World) (hk : KT w) (hr : By.RB w v n g) (hr2 : By.RB w v2 np f) (hn : n ≤ 140737488352328) (hnp : np ≤ 140737488352328) :
    Calls Tryd.prog 16 #[.pointer none, .int .u8 (an a), v, v2] w fun e w' => ∃ u, e = .returned (.tuple #[u, .int .i64 0]) ∧ By.Own w' w.heap.size u (sz a) (hm a (kb a n g) np f) ∧ Below w.heap.size w w' := by
  refine (tagM a n np v v2 g f none [] (fun _ => False) w hk id id trivial Sg.pos_nil' (fun w' hk' => hr.below (Sg.below_kp hk')) (fun w' hk' => hr2.below (Sg.below_kp hk')) hn hnp (by decide)).mono ?_
  rintro e w' ⟨u, rfl, g1, -, g3⟩
  exact ⟨u, rfl, g1, Sg.below_kp g3⟩
theorem sub_hA (aa : Option Addr) (n cap d : Nat) (w : World) (hn : d ≤ n) (hc : n ≤ cap) : (Instr.sliceAt 24 (.slice aa n cap) none (some (.int .i64 d)) none).run Tryd.prog w = .ok (.slice aa d cap) w := by
  have h1 : (d : Int) ≤ cap := by omega
  simp [Instr.sliceAt, Instr.slice, go_sem, h1]
theorem sub_cd (ag n cap c D : Nat) (h1 : c ≤ D) (h2 : D ≤ cap) (h3 : c < cap) (w : World) : (Instr.sliceAt 24 (.slice (some ⟨ag, 0, none⟩) n cap) (some (.int .i64 c)) (some (.int .i64 D)) none).run Tryd.prog w = .ok (.slice (some ⟨ag, c, none⟩) (D - c) (cap - c)) w := by
  rw [run_sliceAt_slice w 24 _ _ _ _ Sg.elem22, run_slice_lh w 24 _ n cap Sg.elem22 .i64 .i64 c D (by omega) (by omega) (by omega), Sg.size5]
  simp [Result.andThen, sliced, By.add_plain]
  omega
theorem rb_cd {w : World} {ag N cap c d : Nat} {f : Nat → Int} (hr : By.RB w (.slice (some ⟨ag, 0, none⟩) N cap) N f) (h : c + d ≤ N) (hd : 0 < d) : By.RB w (.slice (some ⟨ag, c, none⟩) d (cap - c)) d (fun j => f (c + j)) := by
  obtain ⟨hf, a', cap', he, h1, h2, hc⟩ := hr
  simp only [Value.slice.injEq] at he
  obtain ⟨rfl, _, rfl⟩ := he
  refine ⟨fun i => hf _, _, _, rfl, by omega, by omega, .inr ⟨ag, c, rfl, fun i hi => ?_⟩⟩
  rcases hc with ⟨e, _⟩ | ⟨b, off, hb, hcell⟩
  · omega
  · cases hb
    have := hcell (c + i) (by omega)
    rw [Nat.zero_add] at this
    exact this
set_option maxRecDepth 8000 in
set_option maxHeartbeats 8000000 in
theorem steps_on (a : Bool) (ka sa ia : Option Addr) (nk kc ns sc ni ic : Nat) (g f inf : Nat → Int) (n z : Int) (w : World) (hr : By.RB w (.slice ka nk kc) nk g) (hr2 : By.RB w (.slice sa ns sc) ns f) (hr3 : By.RB w (.slice ia ni ic) ni inf) (hk : KT w) (hn : nk ≤ 140737488351232) (hns : ns ≤ 140737488351232) (hni : ni ≤ 140737488351232) :
    Calls Tryd.prog 4 #[.bool a, .slice ka nk kc, .slice sa ns sc, .slice ia ni ic, .int .i64 n, .int .i64 z] w fun e w' => e = .returned (.bool true) ∧ Below w.heap.size w w' := by
  have HK := hid hk
  have A1 := hid (show ∀ w', Below w.heap.size w w' → By.RB w' (.slice ka nk kc) nk g from fun w' hb => hr.below hb)
  have A2 := hid (show ∀ w', Below w.heap.size w w' → By.RB w' (.slice sa ns sc) ns f from fun w' hb => hr2.below hb)
  have A3 := hid (show ∀ w', Below w.heap.size w w' → By.RB w' (.slice ia ni ic) ni inf from fun w' hb => hr3.below hb)
  clear hr hr2 hr3 hk
  obtain ⟨s, hs⟩ : ∃ s, sz a = s := ⟨_, rfl⟩
  have hs1 : 32 ≤ s := by rw [← hs]; cases a <;> decide
  have hs2 : s ≤ 64 := by rw [← hs]; exact sz_le a
  have HA := hid (fun w => alg1 a w)
  rw [hs] at HA
  have P6 := hid (fun w => pickN n (255 * s + 1) (by omega) (by omega) w)
  rw [show ((255 * s + 1 : Nat) : Int) = 255 * (s : Int) + 1 from by omega] at P6
  have hsa0 := sz_le a
  have HS := hid hs
  clear hs
  go_enter Tryd.func4, Tryd.ntmps4
  go_wp2_with fail
  refine (HA.out _).mono ?_
  rintro e w0 ⟨rfl, hw⟩
  subst w0
  go_wp2_with fail
  refine (P6.out _).mono ?_
  rintro e w0 ⟨⟨N, hN, rfl⟩, hw⟩
  subst w0
  have XN := hid (show xN a (N : Int) = N by unfold xN; rw [if_pos (by rw [HS.out]; omega)]; omega)
  have P2 := hid (fun w => pickN z (N + 1) (by omega) (by omega) w)
  rw [show ((N + 1 : Nat) : Int) = (N : Int) + 1 from rfl] at P2
  go_wp2_with fail
  refine (P2.out _).mono ?_
  rintro e w0 ⟨⟨q, hq, rfl⟩, hw⟩
  subst w0
  have XQ := hid (show xN a (q : Int) = q by unfold xN; rw [if_pos (by rw [HS.out]; omega)]; omega)
  have QL := hid (qp_le a N (by rw [HS.out]; omega))
  have K255 := hid (show ∀ k, ∀ {c : Nat}, c < N → k * s = c → k < 255 from fun k c hc he => by
    apply Classical.byContradiction
    intro h
    have h2 : 255 * s ≤ k * s := Nat.mul_le_mul_right _ (by omega)
    omega)
  by_cases hs0 : ns = 0
  · have hs0' : (((ns : Nat) : Int) == 0) = true := by rw [hs0]; rfl
    have hmk := make_nn s (by omega) w
    have KU := hid (show kb a s (fun _ => 0) = kb a ns f by
      rw [kb_nought a s (by have h := HS.out; have : 2 * sz a = bk a := by cases a <;> rfl
                            omega), hs0]
      exact kb_congr a 0 _ _ (fun i hi => absurd hi (Nat.not_lt_zero _)))
    have U0 := hid (Sh.own_made w s s w.heap.size (fun _ => 0) (fun _ => by decide) (Nat.le_refl _) (by simp [maxLen]; omega) (Nat.le_refl _)).reads
    have B0 := hid (below_alloc w (.cells (bl s (fun _ => 0)).toArray 5))
    clear hs0
    go_wp2_with fail
    refine (extract0 a ns nk _ _ f g _ (HK.out.below B0.out) (A2.out _ B0.out) (A1.out _ B0.out) (by omega) (by omega)).mono ?_
    rintro e w1 ⟨pv, rfl, h1, b1⟩
    have P1 := hid h1
    have B1 := hid (below_next B0.out b1)
    have U1 := hid (U0.out.below b1)
    clear h1 b1 U0 B0
    go_wp2_with fail
    refine (tag0 a s nk _ _ (fun _ => 0) g _ (HK.out.below B1.out) U1.out (A1.out _ B1.out) (by omega) (by omega)).mono ?_
    rintro e w2 ⟨tv, rfl, h2, b2⟩
    rw [KU.out] at h2
    have T2 := hid h2
    have P2 := hid (own_below P1.out b2)
    have B2 := hid (below_next B1.out b2)
    clear h2 b2 P1 B1 U1
    go_wp2_with fail
    refine (awake1 _ (HK.out.below B2.out)).mono ?_
    rintro e w3 ⟨rfl, b3⟩
    have T3 := hid (own_below T2.out b3)
    have P3 := hid (own_below P2.out b3)
    have B3 := hid (below_next B2.out b3)
    clear b3 T2 P2 B2
    go_wp2_with fail
    refine (same_true _ _ (sz a) _ _ _ P3.out.reads T3.out.reads (by omega) (fun _ _ => rfl)).mono ?_
    rintro e w4 ⟨rfl, d4, hw⟩
    have b4 : Below w3.heap.size w3 w4 := by rw [hw]; exact below_drewN w3 d4
    have P4 := hid (own_below P3.out b4)
    have B4 := hid (below_next B3.out b4)
    clear hw b4 P3 T3 B3
    have hsa := sz_le a
    obtain ⟨PF, hPF⟩ : ∃ x, hm a (kb a ns f) nk g = x := ⟨_, rfl⟩
    rw [hPF] at P4
    go_wp2_with fail
    refine (expand0 a (sz a) ni N _ _ PF inf _ (HK.out.below B4.out) P4.out.reads (A3.out _ B4.out) (by omega) (by omega)).mono ?_
    rintro e w5 ⟨av, rfl, h5, b5⟩
    rw [xc_ok a N (by rw [HS.out]; omega)]
    rw [XN.out] at h5
    have V5 := hid h5
    have P5 := hid (own_below P4.out b5)
    have B5 := hid (below_next B4.out b5)
    clear h5 b5 P4 B4
    go_wp2_with fail
    refine (key0 a nk ns ni N _ _ _ g f inf _ (HK.out.below B5.out) (A1.out _ B5.out) (A2.out _ B5.out) (A3.out _ B5.out) (by omega) (by omega) (by omega)).mono ?_
    rintro e w6 ⟨bv, rfl, h6, b6⟩
    rw [xc_ok a N (by rw [HS.out]; omega)]
    rw [XN.out, hPF] at h6
    have Y6 := hid h6
    have V6 := hid (own_below V5.out b6)
    have P6' := hid (own_below P5.out b6)
    have B6 := hid (below_next B5.out b6)
    clear h6 b6 P5 B5 V5 hPF
    go_wp2_with fail
    refine (expand0 a (sz a) ni q _ _ PF inf _ (HK.out.below B6.out) P6'.out.reads (A3.out _ B6.out) (by omega) (by omega)).mono ?_
    rintro e w7 ⟨cv, rfl, h7, b7⟩
    rw [xc_ok a q (by rw [HS.out]; omega)]
    rw [XQ.out] at h7
    have Z7 := hid h7
    have Y7 := hid (own_below Y6.out b7)
    have V7 := hid (own_below V6.out b7)
    have P7 := hid (own_below P6'.out b7)
    have B7 := hid (below_next B6.out b7)
    clear h7 b7 P6' B6 V6 Y6
    obtain ⟨aa, ac, rfl⟩ := own_sl V7.out
    go_wp2_with fail
    refine (same_true _ _ N _ _ _ V7.out.reads Y7.out.reads (by omega) (fun _ _ => rfl)).mono ?_
    rintro e w8 ⟨rfl, d8, hw⟩
    have b8 : Below w7.heap.size w7 w8 := by rw [hw]; exact below_drewN w7 d8
    have Z8 := hid (own_below Z7.out b8)
    have V8 := hid (own_below V7.out b8)
    have P8 := hid (own_below P7.out b8)
    have B8 := hid (below_next B7.out b8)
    clear hw b8 P7 V7 Z7 Y7 B7
    have hac := rb_cap V8.out.reads
    have hsq := sub_hA aa N ac q w8 (by omega) hac
    go_wp2_with fail
    refine (same_true _ _ q _ _ _ (V8.out.reads.first q (by omega)) Z8.out.reads (by omega) (fun _ _ => rfl)).mono ?_
    rintro e w9 ⟨rfl, d9, hw⟩
    have b9 : Below w8.heap.size w8 w9 := by rw [hw]; exact below_drewN w8 d9
    have V9 := hid (own_below V8.out b9)
    have P9 := hid (own_below P8.out b9)
    have B9 := hid (below_next B8.out b9)
    clear hw b9 P8 V8 Z8 B8 hsq
    go_wp2_with fail
    go_loopw [24, 25] (fun lv i wr => ∃ k : Nat, k ≤ qp a N ∧ i = .int .i64 ((k : Int) + 1) ∧ By.Own wr w.heap.size lv (pl a k) (tp a (kb a (sz a) PF) ni inf k) ∧ Below w9.heap.size w9 wr) (fun _ i _ => 300 - (intOf i).toNat)
    case atStart => exact ⟨0, Nat.zero_le _, rfl, own_nil _ _ _ nof_b, Below.refl _ _⟩
    case round =>
      obtain ⟨k, hk, rfl, hlv, hbw⟩ := hrel
      have hk2 : k ≤ 255 := Nat.le_trans hk QL.out
      have V := hid (own_below V9.out hbw)
      have P := hid (own_below P9.out hbw)
      have B := hid (below_next B9.out hbw)
      have BW := hid hbw
      have LV := hid hlv
      obtain ⟨la, lc, rfl⟩ := own_sl hlv
      obtain ⟨c, hc⟩ : ∃ c, k * s = c := ⟨_, rfl⟩
      have hci : (k : Int) * (s : Int) = (c : Int) := by rw [← hc]; exact (Int.natCast_mul k s).symm
      have hcm : c ≤ 255 * s := by rw [← hc]; exact Nat.mul_le_mul_right _ hk2
      have hcs : ((k : Int) + 1) * (s : Int) = (c : Int) + (s : Int) := by rw [Int.add_mul, hci]; omega
      have hc1 := hid hc
      clear hlv hbw hc
      by_cases hlt : c < N
      · have hlt' : (c : Int) < (N : Int) := by omega
        go_wp2_with (at_builtin; go_must (refine Sg.wpList_cat rfl _ _ rfl wr.heap.size 0 (pl a k) _ _ nof _ rfl (own_nil _ _ _ nof_b) rfl LV.out.reads (by have := pl_le a k; omega) (Nat.le_refl _) ?_))
        intro m1 w10 hm1 hg1
        have M1 := hid (show By.Own w10 wr.heap.size m1 (pl a k) (tp a (kb a (sz a) PF) ni inf k) from by rw [show Sg.cat 0 nof (tp a (kb a (sz a) PF) ni inf k) = _ from Sg.cat0 _ _] at hm1; exact hm1)
        have b10 := Below.of_grown hg1
        have I10 := hid (A3.out _ (below_next B.out b10))
        have B10 := hid b10
        obtain ⟨ma, mc, rfl⟩ := own_sl M1.out
        clear hm1 hg1 b10
        go_wp2_with (at_builtin; go_must (refine Sg.wpList_cat rfl _ _ rfl wr.heap.size (pl a k) ni _ _ _ inf rfl M1.out rfl I10.out (by have := pl_le a k; omega) B10.out.size ?_))
        intro m2 w11 hm2 hg2
        have M2 := hid hm2
        have B11 := hid (Sh.below_grow B10.out B10.out.size M1.out hg2)
        obtain ⟨na, nc, rfl⟩ := own_sl hm2
        clear hm2 hg2 M1 I10 B10
        have hkm : ((k : Int) + 1) % 256 = (k : Int) + 1 := by have := K255.out k hlt hc1.out; omega
        have OV := hid (own_below M2.out (below_alloc w11 (.cells #[.int .u8 ((k : Int) + 1)] 5)))
        have OL := hid (own_byte w11 ((k : Int) + 1) (by have := K255.out k hlt hc1.out; omega))
        have B11a := hid (below_next B11.out (below_alloc w11 (.cells #[.int .u8 ((k : Int) + 1)] 5)))
        go_wp2_with (at_builtin; go_must (refine Sg.wpList_cat rfl _ _ rfl wr.heap.size (pl a k + ni) 1 _ _ _ (fun _ => (k : Int) + 1) rfl OV.out rfl OL.out.reads (by have := pl_le a k; omega) B11a.out.size ?_))
        intro m3 w12 hm3 hg3
        have M3 := hid (show By.Own w12 wr.heap.size m3 (mln a ni k) (msgf a ni inf (tp a (kb a (sz a) PF) ni inf k) k) from hm3)
        have B12 := hid (Sh.below_grow B11a.out B11a.out.size OV.out hg3)
        have ZZ := hid (show w.heap.size ≤ w12.heap.size from Nat.le_trans B.out.size B12.out.size)
        clear hm3 hg3 OV OL M2 B11 B11a
        go_wp2_with fail
        refine (tag0 a (sz a) (mln a ni k) _ _ PF _ _ (HK.out.below (below_next B.out B12.out)) (own_below P.out B12.out).reads M3.out.reads (by omega) (by have := mln_le a ni k; omega)).mono ?_
        rintro e w13 ⟨tt, rfl, h13, b13⟩
        have T13 := hid (show By.Own w13 w12.heap.size tt (sz a) (tp a (kb a (sz a) PF) ni inf (k + 1)) from h13)
        have B13 := hid (below_next B12.out b13)
        clear h13 b13 M3 B12
        obtain ⟨D, hD⟩ : ∃ D, min (c + s) N = D := ⟨_, rfl⟩
        obtain ⟨d, hd⟩ : ∃ d, D - c = d := ⟨_, rfl⟩
        have hmin : ∀ (ts : Array TypeId) (t : TypeId) (w : World), (Builtin.min_ ts t #[.int .i64 ((c : Int) + (s : Int)), .int .i64 (N : Int)]).run Tryd.prog w = .ok (.int .i64 D) w := fun ts t w => min_d ts t (c + s) N D hD w
        have hDc : IntKind.i64.wrap ((D : Int) - (c : Int)) = (d : Int) := by rw [IntKind.wrap_i64]; omega
        have hd0 : 0 < d := by omega
        have hds : d ≤ s := by omega
        have hcd : c + d ≤ N := by omega
        rcases V.out.shape with ⟨_, e0⟩ | ⟨ag, ac', hav, -, -, hac', -, -, -⟩
        · omega
        simp only [Value.slice.injEq] at hav
        obtain ⟨rfl, -, rfl⟩ := hav
        obtain ⟨ta, tc, rfl⟩ := own_sl T13.out
        have htc := rb_cap T13.out.reads
        have hs1' := fun w => sub_hA ta (sz a) tc d w (by rw [HS.out]; exact hds) htc
        have hs2' := fun w => sub_cd ag N ac c D (by omega) (by omega) (by omega) w
        rw [hd] at hs2'
        have HQ := hid (show ∀ w', Below w13.heap.size w13 w' → Calls Tryd.prog 17 #[.slice ta d tc, .slice (some ⟨ag, c, none⟩) d (ac - c)] w' (fun e w'' => e = .returned (.bool true) ∧ ∃ k, w'' = w'.drewN k) from fun w' hb =>
          same_true _ _ d _ _ _ ((own_below T13.out hb).reads.first d (by rw [HS.out]; exact hds)) (rb_cd ((own_below V.out (below_next B13.out hb)).reads) hcd hd0) (by omega) (fun j hj => by
            have h := okm_at a (kb a (sz a) PF) ni inf k j (by rw [HS.out]; omega)
            rw [HS.out, hc1.out, ← HS.out] at h
            exact h.symm))
        clear hD hd
        go_wp2_with fail
        go_region_held3 (fun _ => True) (trivial) (first
          | (go_at_call 17; go_must (refine (HQ.out _ (below_drewN w13 1)).mono ?_; rintro e w14 ⟨rfl, d14, hw⟩; have B14 := hid (show Below w13.heap.size w13 w14 by rw [hw]; exact below_next (below_drewN w13 1) (below_drewN _ d14)); clear hw)))
        clear HQ hs1' hs2' hmin
        have T14 := hid (own_below T13.out B14.out)
        have B15 := hid (below_next B13.out B14.out)
        have BB15 := hid (below_next BW.out B15.out)
        have Z15 := hid (show w.heap.size ≤ w12.heap.size from ZZ.out)
        have hq1 := qp_lt a N k (by rw [HS.out, hc1.out]; exact hlt)
        clear B13 B14 T13 V P B BW
        go_wp2
        exact ⟨⟨k + 1, hq1, by rfl, Sg.own_mono T14.out Z15.out, BB15.out⟩, by simp [intOf]; omega⟩
      · have hlt' : ¬ (c : Int) < (N : Int) := by omega
        go_wp2
        go_ret
        exact ⟨rfl, B.out⟩
  · have hs0' : ¬ ((ns : Nat) : Int) = 0 := by omega
    obtain ⟨un, uf, usv, hun, hU0, hKU⟩ : ∃ (un : Nat) (uf : Nat → Int) (usv : Value), usv = .slice sa ns sc ∧ (By.RB w usv un uf ∧ un ≤ 140737488351232) ∧ kb a un uf = kb a ns f := ⟨ns, f, _, rfl, ⟨A2.out w (Below.refl _ _), hns⟩, rfl⟩
    have U0 := hid hU0.1
    have hule := hU0.2
    have KU := hid hKU
    have B0 := hid (Below.refl w.heap.size w)
    clear hKU hU0
    subst hun
    go_wp2_with fail
    refine (extract0 a ns nk _ _ f g _ (HK.out.below B0.out) (A2.out _ B0.out) (A1.out _ B0.out) (by omega) (by omega)).mono ?_
    rintro e w1 ⟨pv, rfl, h1, b1⟩
    have P1 := hid h1
    have B1 := hid (below_next B0.out b1)
    have U1 := hid (U0.out.below b1)
    clear h1 b1 U0 B0
    go_wp2_with fail
    refine (tag0 a un nk _ _ uf g _ (HK.out.below B1.out) U1.out (A1.out _ B1.out) (by omega) (by omega)).mono ?_
    rintro e w2 ⟨tv, rfl, h2, b2⟩
    rw [KU.out] at h2
    have T2 := hid h2
    have P2 := hid (own_below P1.out b2)
    have B2 := hid (below_next B1.out b2)
    clear h2 b2 P1 B1 U1
    go_wp2_with fail
    refine (awake1 _ (HK.out.below B2.out)).mono ?_
    rintro e w3 ⟨rfl, b3⟩
    have T3 := hid (own_below T2.out b3)
    have P3 := hid (own_below P2.out b3)
    have B3 := hid (below_next B2.out b3)
    clear b3 T2 P2 B2
    go_wp2_with fail
    refine (same_true _ _ (sz a) _ _ _ P3.out.reads T3.out.reads (by omega) (fun _ _ => rfl)).mono ?_
    rintro e w4 ⟨rfl, d4, hw⟩
    have b4 : Below w3.heap.size w3 w4 := by rw [hw]; exact below_drewN w3 d4
    have P4 := hid (own_below P3.out b4)
    have B4 := hid (below_next B3.out b4)
    clear hw b4 P3 T3 B3
    have hsa := sz_le a
    obtain ⟨PF, hPF⟩ : ∃ x, hm a (kb a ns f) nk g = x := ⟨_, rfl⟩
    rw [hPF] at P4
    go_wp2_with fail
    refine (expand0 a (sz a) ni N _ _ PF inf _ (HK.out.below B4.out) P4.out.reads (A3.out _ B4.out) (by omega) (by omega)).mono ?_
    rintro e w5 ⟨av, rfl, h5, b5⟩
    rw [xc_ok a N (by rw [HS.out]; omega)]
    rw [XN.out] at h5
    have V5 := hid h5
    have P5 := hid (own_below P4.out b5)
    have B5 := hid (below_next B4.out b5)
    clear h5 b5 P4 B4
    go_wp2_with fail
    refine (key0 a nk ns ni N _ _ _ g f inf _ (HK.out.below B5.out) (A1.out _ B5.out) (A2.out _ B5.out) (A3.out _ B5.out) (by omega) (by omega) (by omega)).mono ?_
    rintro e w6 ⟨bv, rfl, h6, b6⟩
    rw [xc_ok a N (by rw [HS.out]; omega)]
    rw [XN.out, hPF] at h6
    have Y6 := hid h6
    have V6 := hid (own_below V5.out b6)
    have P6' := hid (own_below P5.out b6)
    have B6 := hid (below_next B5.out b6)
    clear h6 b6 P5 B5 V5 hPF
    go_wp2_with fail
    refine (expand0 a (sz a) ni q _ _ PF inf _ (HK.out.below B6.out) P6'.out.reads (A3.out _ B6.out) (by omega) (by omega)).mono ?_
    rintro e w7 ⟨cv, rfl, h7, b7⟩
    rw [xc_ok a q (by rw [HS.out]; omega)]
    rw [XQ.out] at h7
    have Z7 := hid h7
    have Y7 := hid (own_below Y6.out b7)
    have V7 := hid (own_below V6.out b7)
    have P7 := hid (own_below P6'.out b7)
    have B7 := hid (below_next B6.out b7)
    clear h7 b7 P6' B6 V6 Y6
    obtain ⟨aa, ac, rfl⟩ := own_sl V7.out
    go_wp2_with fail
    refine (same_true _ _ N _ _ _ V7.out.reads Y7.out.reads (by omega) (fun _ _ => rfl)).mono ?_
    rintro e w8 ⟨rfl, d8, hw⟩
    have b8 : Below w7.heap.size w7 w8 := by rw [hw]; exact below_drewN w7 d8
    have Z8 := hid (own_below Z7.out b8)
    have V8 := hid (own_below V7.out b8)
    have P8 := hid (own_below P7.out b8)
    have B8 := hid (below_next B7.out b8)
    clear hw b8 P7 V7 Z7 Y7 B7
    have hac := rb_cap V8.out.reads
    have hsq := sub_hA aa N ac q w8 (by omega) hac
    go_wp2_with fail
    refine (same_true _ _ q _ _ _ (V8.out.reads.first q (by omega)) Z8.out.reads (by omega) (fun _ _ => rfl)).mono ?_
    rintro e w9 ⟨rfl, d9, hw⟩
    have b9 : Below w8.heap.size w8 w9 := by rw [hw]; exact below_drewN w8 d9
    have V9 := hid (own_below V8.out b9)
    have P9 := hid (own_below P8.out b9)
    have B9 := hid (below_next B8.out b9)
    clear hw b9 P8 V8 Z8 B8 hsq
    go_wp2_with fail
    go_loopw [24, 25] (fun lv i wr => ∃ k : Nat, k ≤ qp a N ∧ i = .int .i64 ((k : Int) + 1) ∧ By.Own wr w.heap.size lv (pl a k) (tp a (kb a (sz a) PF) ni inf k) ∧ Below w9.heap.size w9 wr) (fun _ i _ => 300 - (intOf i).toNat)
    case atStart => exact ⟨0, Nat.zero_le _, rfl, own_nil _ _ _ nof_b, Below.refl _ _⟩
    case round =>
      obtain ⟨k, hk, rfl, hlv, hbw⟩ := hrel
      have hk2 : k ≤ 255 := Nat.le_trans hk QL.out
      have V := hid (own_below V9.out hbw)
      have P := hid (own_below P9.out hbw)
      have B := hid (below_next B9.out hbw)
      have BW := hid hbw
      have LV := hid hlv
      obtain ⟨la, lc, rfl⟩ := own_sl hlv
      obtain ⟨c, hc⟩ : ∃ c, k * s = c := ⟨_, rfl⟩
      have hci : (k : Int) * (s : Int) = (c : Int) := by rw [← hc]; exact (Int.natCast_mul k s).symm
      have hcm : c ≤ 255 * s := by rw [← hc]; exact Nat.mul_le_mul_right _ hk2
      have hcs : ((k : Int) + 1) * (s : Int) = (c : Int) + (s : Int) := by rw [Int.add_mul, hci]; omega
      have hc1 := hid hc
      clear hlv hbw hc
      by_cases hlt : c < N
      · have hlt' : (c : Int) < (N : Int) := by omega
        go_wp2_with (at_builtin; go_must (refine Sg.wpList_cat rfl _ _ rfl wr.heap.size 0 (pl a k) _ _ nof _ rfl (own_nil _ _ _ nof_b) rfl LV.out.reads (by have := pl_le a k; omega) (Nat.le_refl _) ?_))
        intro m1 w10 hm1 hg1
        have M1 := hid (show By.Own w10 wr.heap.size m1 (pl a k) (tp a (kb a (sz a) PF) ni inf k) from by rw [show Sg.cat 0 nof (tp a (kb a (sz a) PF) ni inf k) = _ from Sg.cat0 _ _] at hm1; exact hm1)
        have b10 := Below.of_grown hg1
        have I10 := hid (A3.out _ (below_next B.out b10))
        have B10 := hid b10
        obtain ⟨ma, mc, rfl⟩ := own_sl M1.out
        clear hm1 hg1 b10
        go_wp2_with (at_builtin; go_must (refine Sg.wpList_cat rfl _ _ rfl wr.heap.size (pl a k) ni _ _ _ inf rfl M1.out rfl I10.out (by have := pl_le a k; omega) B10.out.size ?_))
        intro m2 w11 hm2 hg2
        have M2 := hid hm2
        have B11 := hid (Sh.below_grow B10.out B10.out.size M1.out hg2)
        obtain ⟨na, nc, rfl⟩ := own_sl hm2
        clear hm2 hg2 M1 I10 B10
        have hkm : ((k : Int) + 1) % 256 = (k : Int) + 1 := by have := K255.out k hlt hc1.out; omega
        have OV := hid (own_below M2.out (below_alloc w11 (.cells #[.int .u8 ((k : Int) + 1)] 5)))
        have OL := hid (own_byte w11 ((k : Int) + 1) (by have := K255.out k hlt hc1.out; omega))
        have B11a := hid (below_next B11.out (below_alloc w11 (.cells #[.int .u8 ((k : Int) + 1)] 5)))
        go_wp2_with (at_builtin; go_must (refine Sg.wpList_cat rfl _ _ rfl wr.heap.size (pl a k + ni) 1 _ _ _ (fun _ => (k : Int) + 1) rfl OV.out rfl OL.out.reads (by have := pl_le a k; omega) B11a.out.size ?_))
        intro m3 w12 hm3 hg3
        have M3 := hid (show By.Own w12 wr.heap.size m3 (mln a ni k) (msgf a ni inf (tp a (kb a (sz a) PF) ni inf k) k) from hm3)
        have B12 := hid (Sh.below_grow B11a.out B11a.out.size OV.out hg3)
        have ZZ := hid (show w.heap.size ≤ w12.heap.size from Nat.le_trans B.out.size B12.out.size)
        clear hm3 hg3 OV OL M2 B11 B11a
        go_wp2_with fail
        refine (tag0 a (sz a) (mln a ni k) _ _ PF _ _ (HK.out.below (below_next B.out B12.out)) (own_below P.out B12.out).reads M3.out.reads (by omega) (by have := mln_le a ni k; omega)).mono ?_
        rintro e w13 ⟨tt, rfl, h13, b13⟩
        have T13 := hid (show By.Own w13 w12.heap.size tt (sz a) (tp a (kb a (sz a) PF) ni inf (k + 1)) from h13)
        have B13 := hid (below_next B12.out b13)
        clear h13 b13 M3 B12
        obtain ⟨D, hD⟩ : ∃ D, min (c + s) N = D := ⟨_, rfl⟩
        obtain ⟨d, hd⟩ : ∃ d, D - c = d := ⟨_, rfl⟩
        have hmin : ∀ (ts : Array TypeId) (t : TypeId) (w : World), (Builtin.min_ ts t #[.int .i64 ((c : Int) + (s : Int)), .int .i64 (N : Int)]).run Tryd.prog w = .ok (.int .i64 D) w := fun ts t w => min_d ts t (c + s) N D hD w
        have hDc : IntKind.i64.wrap ((D : Int) - (c : Int)) = (d : Int) := by rw [IntKind.wrap_i64]; omega
        have hd0 : 0 < d := by omega
        have hds : d ≤ s := by omega
        have hcd : c + d ≤ N := by omega
        rcases V.out.shape with ⟨_, e0⟩ | ⟨ag, ac', hav, -, -, hac', -, -, -⟩
        · omega
        simp only [Value.slice.injEq] at hav
        obtain ⟨rfl, -, rfl⟩ := hav
        obtain ⟨ta, tc, rfl⟩ := own_sl T13.out
        have htc := rb_cap T13.out.reads
        have hs1' := fun w => sub_hA ta (sz a) tc d w (by rw [HS.out]; exact hds) htc
        have hs2' := fun w => sub_cd ag N ac c D (by omega) (by omega) (by omega) w
        rw [hd] at hs2'
        have HQ := hid (show ∀ w', Below w13.heap.size w13 w' → Calls Tryd.prog 17 #[.slice ta d tc, .slice (some ⟨ag, c, none⟩) d (ac - c)] w' (fun e w'' => e = .returned (.bool true) ∧ ∃ k, w'' = w'.drewN k) from fun w' hb =>
          same_true _ _ d _ _ _ ((own_below T13.out hb).reads.first d (by rw [HS.out]; exact hds)) (rb_cd ((own_below V.out (below_next B13.out hb)).reads) hcd hd0) (by omega) (fun j hj => by
            have h := okm_at a (kb a (sz a) PF) ni inf k j (by rw [HS.out]; omega)
            rw [HS.out, hc1.out, ← HS.out] at h
            exact h.symm))
        clear hD hd
        go_wp2_with fail
        go_region_held3 (fun _ => True) (trivial) (first
          | (go_at_call 17; go_must (refine (HQ.out _ (below_drewN w13 1)).mono ?_; rintro e w14 ⟨rfl, d14, hw⟩; have B14 := hid (show Below w13.heap.size w13 w14 by rw [hw]; exact below_next (below_drewN w13 1) (below_drewN _ d14)); clear hw)))
        clear HQ hs1' hs2' hmin
        have T14 := hid (own_below T13.out B14.out)
        have B15 := hid (below_next B13.out B14.out)
        have BB15 := hid (below_next BW.out B15.out)
        have Z15 := hid (show w.heap.size ≤ w12.heap.size from ZZ.out)
        have hq1 := qp_lt a N k (by rw [HS.out, hc1.out]; exact hlt)
        clear B13 B14 T13 V P B BW
        go_wp2
        exact ⟨⟨k + 1, hq1, by rfl, Sg.own_mono T14.out Z15.out, BB15.out⟩, by simp [intOf]; omega⟩
      · have hlt' : ¬ (c : Int) < (N : Int) := by omega
        go_wp2
        go_ret
        exact ⟨rfl, B.out⟩
end Go.Proofs.YtmbcccmidfpgeaaDoor.Dg
