/- The document's HKDF: wrong, Extract, Expand, Key. -/
import Derived.Test.YtmbcccmidfpgeaaGreatDoorIdx
import Derived.Test.YtmbcccmidfpgeaaGreatDoorIex
namespace Go.Proofs.YtmbcccmidfpgeaaGreatDoor.Dg
open Go.ChangeShapes Go.WideShapes Go.ChangeAt Go.RowKit
open Go.Proofs.YtmbcccmidfpgeaaGreatDoor.By
open Go.Proofs.YtmbcccmidfpgeaaGreatDoor.Sh (Blk size_alloc)
theorem wrongN (al : Int) (h1 : ¬ al = 1) (h2 : ¬ al = 2) (n : Int) (w : World) : Calls Tryz.prog 28 #[.int .u8 al, .int .i64 n] w fun e w' => e = .returned (.int .i64 4) ∧ w' = w := by
  go_enter Tryz.func28, Tryz.ntmps28
  go_wp2_with fail
  refine (rblockNo al _ h1 h2).mono ?_
  rintro e w1 ⟨rfl, hw⟩
  subst w1
  go_wp2
  go_ret
  exact ⟨rfl, rfl⟩
theorem wrongA (a : Bool) (n : Int) (w : World) : Calls Tryz.prog 28 #[.int .u8 (an a), .int .i64 n] w fun e w' => e = .returned (.int .i64 (xc a n)) ∧ w' = w := by
  cases a
  · have e0 : xc false n = if n < 0 then 2 else if 8160 < n then 9 else 0 := rfl
    rw [e0]
    show Calls Tryz.prog 28 #[.int .u8 1, .int .i64 n] w _
    clear e0
    by_cases hn : n < 0
    · rw [if_pos hn]
      go_enter Tryz.func28, Tryz.ntmps28
      go_wp2_with fail
      refine (rblock256 _).mono ?_
      rintro e w1 ⟨rfl, hw⟩
      subst w1
      go_wp2
      go_ret
      exact ⟨rfl, rfl⟩
    · rw [if_neg hn]
      by_cases hl : 8160 < n
      · rw [if_pos hl]
        go_enter Tryz.func28, Tryz.ntmps28
        go_wp2_with fail
        refine (rblock256 _).mono ?_
        rintro e w1 ⟨rfl, hw⟩
        subst w1
        go_wp2
        go_ret
        exact ⟨rfl, rfl⟩
      · rw [if_neg hl]
        go_enter Tryz.func28, Tryz.ntmps28
        go_wp2_with fail
        refine (rblock256 _).mono ?_
        rintro e w1 ⟨rfl, hw⟩
        subst w1
        go_wp2
        go_ret
        exact ⟨rfl, rfl⟩
  · have e0 : xc true n = if n < 0 then 2 else if 16320 < n then 9 else 0 := rfl
    rw [e0]
    show Calls Tryz.prog 28 #[.int .u8 2, .int .i64 n] w _
    clear e0
    by_cases hn : n < 0
    · rw [if_pos hn]
      go_enter Tryz.func28, Tryz.ntmps28
      go_wp2_with fail
      refine (rblock512 _).mono ?_
      rintro e w1 ⟨rfl, hw⟩
      subst w1
      go_wp2
      go_ret
      exact ⟨rfl, rfl⟩
    · rw [if_neg hn]
      by_cases hl : 16320 < n
      · rw [if_pos hl]
        go_enter Tryz.func28, Tryz.ntmps28
        go_wp2_with fail
        refine (rblock512 _).mono ?_
        rintro e w1 ⟨rfl, hw⟩
        subst w1
        go_wp2
        go_ret
        exact ⟨rfl, rfl⟩
      · rw [if_neg hl]
        go_enter Tryz.func28, Tryz.ntmps28
        go_wp2_with fail
        refine (rblock512 _).mono ?_
        rintro e w1 ⟨rfl, hw⟩
        subst w1
        go_wp2
        go_ret
        exact ⟨rfl, rfl⟩
theorem dexpandN (al : Int) (h1 : ¬ al = 1) (h2 : ¬ al = 2) (lp v v2 : Value) (n : Int) (w : World) : Calls Tryz.prog 11 #[lp, .int .u8 al, v, v2, .int .i64 n] w fun e w' => e = .returned (.tuple #[.slice none 0 0, .int .i64 4]) ∧ w' = w := by
  go_enter Tryz.func11, Tryz.ntmps11
  go_wp2_with fail
  refine (wrongN al h1 h2 n _).mono ?_
  rintro e w1 ⟨rfl, hw⟩
  subst w1
  go_wp2
  go_ret2
  exact ⟨rfl, rfl⟩
theorem dkeyN (al : Int) (h1 : ¬ al = 1) (h2 : ¬ al = 2) (lp v v2 v3 : Value) (n : Int) (w : World) : Calls Tryz.prog 12 #[lp, .int .u8 al, v, v2, v3, .int .i64 n] w fun e w' => e = .returned (.tuple #[.slice none 0 0, .int .i64 4]) ∧ w' = w := by
  go_enter Tryz.func12, Tryz.ntmps12
  go_wp2_with fail
  refine (wrongN al h1 h2 n _).mono ?_
  rintro e w1 ⟨rfl, hw⟩
  subst w1
  go_wp2
  go_ret2
  exact ⟨rfl, rfl⟩
theorem dextractN (al : Int) (h1 : ¬ al = 1) (h2 : ¬ al = 2) (lp v v2 : Value) (w : World) : Calls Tryz.prog 10 #[lp, .int .u8 al, v, v2] w fun e w' => e = .returned (.tuple #[.slice none 0 0, .int .i64 4]) ∧ w' = w := by
  go_enter Tryz.func10, Tryz.ntmps10
  go_wp2_with fail
  refine (rtagNo al lp v v2 _ h1 h2).mono ?_
  rintro e w1 ⟨rfl, hw⟩
  subst w1
  go_wp2
  go_ret2
  exact ⟨rfl, rfl⟩
theorem dexpand_bad (a : Bool) (n : Int) (hn : ¬ (0 ≤ n ∧ n ≤ ((255 * sz a : Nat) : Int))) (lp v v2 : Value) (w : World) : Calls Tryz.prog 11 #[lp, .int .u8 (an a), v, v2, .int .i64 n] w fun e w' => e = .returned (.tuple #[.slice none 0 0, .int .i64 (xc a n)]) ∧ w' = w := by
  have hc : ¬ xc a n = 0 := by unfold xc; split; omega; split <;> omega
  have R := hid (fun w => wrongA a n w)
  obtain ⟨c, hcc⟩ : ∃ c, xc a n = c := ⟨_, rfl⟩
  rw [hcc] at R hc ⊢
  clear hcc hn
  go_enter Tryz.func11, Tryz.ntmps11
  go_wp2_with fail
  refine (R.out _).mono ?_
  rintro e w1 ⟨rfl, hw⟩
  subst w1
  go_wp2
  go_ret2
  exact ⟨rfl, rfl⟩
theorem dkey_bad (a : Bool) (n : Int) (hn : ¬ (0 ≤ n ∧ n ≤ ((255 * sz a : Nat) : Int))) (lp v v2 v3 : Value) (w : World) : Calls Tryz.prog 12 #[lp, .int .u8 (an a), v, v2, v3, .int .i64 n] w fun e w' => e = .returned (.tuple #[.slice none 0 0, .int .i64 (xc a n)]) ∧ w' = w := by
  have hc : ¬ xc a n = 0 := by unfold xc; split; omega; split <;> omega
  have R := hid (fun w => wrongA a n w)
  obtain ⟨c, hcc⟩ : ∃ c, xc a n = c := ⟨_, rfl⟩
  rw [hcc] at R hc ⊢
  clear hcc hn
  go_enter Tryz.func12, Tryz.ntmps12
  go_wp2_with fail
  refine (R.out _).mono ?_
  rintro e w1 ⟨rfl, hw⟩
  subst w1
  go_wp2
  go_ret2
  exact ⟨rfl, rfl⟩
theorem dextract (a : Bool) (mb n np : Nat) (rv v v2 : Value) (g f : Nat → Int) (L : List Rn) (w : World) (h : RLed w mb rv L) (hr : ∀ w', Kp (SM mb rv) w w' → By.RB w' v n g) (hr2 : ∀ w', Kp (SM mb rv) w w' → By.RB w' v2 np f) (hn : n ≤ 140737488352328) (hnp : np ≤ 140737488352328) (ht : tq L ≤ 900000000) :
    Calls Tryz.prog 10 #[.pointer (some ⟨mb, 0, none⟩), .int .u8 (an a), v, v2] w fun e w' => ∃ u, e = .returned (.tuple #[u, .int .i64 0]) ∧ By.Own w' w.heap.size u (sz a) (hm a (kb a n g) np f) ∧ RW w w' mb rv (tev a L n np) := by
  have HC := hid (rtagM a mb n np rv v v2 g f L w h hr hr2 hn hnp ht)
  clear h hr hr2
  go_enter Tryz.func10, Tryz.ntmps10
  go_wp2_with fail
  refine HC.out.mono ?_
  rintro e w1 ⟨u, rfl, h1, h2⟩
  have U := hid h1
  have R := hid h2
  clear h1 h2 HC
  go_wp2
  go_ret2
  exact ⟨u, rfl, U.out, R.out⟩
theorem sub_hA (aa : Option Addr) (n cap d : Nat) (w : World) (hn : d ≤ n) (hc : n ≤ cap) : (Instr.sliceAt 23 (.slice aa n cap) none (some (.int .i64 d)) none).run Tryz.prog w = .ok (.slice aa d cap) w := by
  have h1 : (d : Int) ≤ cap := by omega
  simp [Instr.sliceAt, Instr.slice, go_sem, h1]
set_option maxHeartbeats 4000000 in
theorem dexpand_ok (a : Bool) (mb nk ni N : Nat) (rv v v2 : Value) (g inf : Nat → Int) (L : List Rn) (w : World) (h : RLed w mb rv L) (hr : ∀ w', Kp (SM mb rv) w w' → By.RB w' v nk g) (hr2 : ∀ w', Kp (SM mb rv) w w' → By.RB w' v2 ni inf) (hn : nk ≤ 140737488352328) (hni : ni ≤ 140737488352000) (hN : N ≤ 255 * sz a) (ht : tq L ≤ 900000000) :
    Calls Tryz.prog 11 #[.pointer (some ⟨mb, 0, none⟩), .int .u8 (an a), v, v2, .int .i64 N] w fun e w' => ∃ u, e = .returned (.tuple #[u, .int .i64 0]) ∧ By.Own w' w.heap.size u N (okm a (kb a nk g) ni inf) ∧ RW w w' mb rv (xev a L nk ni (qp a N)) := by
  have HC := hid (qnewM a mb nk rv v g L w h hr hn ht)
  have HR2 := hid hr2
  have HP := hid h.pos
  have HF := hid (kev_fine a h.pos nk (by omega) (by omega))
  have HQ := hid (qp_le a N hN)
  have e0 := xc_ok a N hN
  have hsz := sz_le a
  obtain ⟨-, xa, xc', rfl, -⟩ := hr2 w (Kp.refl _ _)
  have HN := hid hN
  have hN2 : N ≤ 16320 := by have h3 : 255 * sz a ≤ 255 * 64 := Nat.mul_le_mul_left _ hsz; omega
  clear h hr hr2 hN
  go_enter Tryz.func11, Tryz.ntmps11
  go_wp2_with fail
  refine (wrongA a N _).mono ?_
  rintro e w1 ⟨rfl, hw⟩
  subst w1
  rw [e0]
  clear e0
  go_wp2_with fail
  refine HC.out.mono ?_
  rintro e w1 ⟨c, kv, hcz, rfl, hq, hkv, hrw⟩
  have D0 : DX w mb c rv a nk g ni inf (kev a L nk) 0 0 0 nof kv (.slice none 0 0) (.slice none 0 0) (.slice none 0 0) w1 := by
    obtain ⟨⟨rv', h1, h2⟩, h3⟩ := hrw
    exact ⟨h3, ⟨rv', h1, h2⟩, hq, hcz, by rw [Nat.zero_mul]; exact own_nil _ _ _ (okm_b _ _ _ _), own_nil _ _ _ nof_b, fun p hp => by simp [Value.ownBlock] at hp⟩
  have G0 := hid D0
  clear hcz hq hkv hrw D0 HC
  go_wp2_with fail
  go_loopw [15, 16, 17] (fun ov lv i wr => ∃ k m f mv, k ≤ qp a N ∧ i = .int .i64 ((k : Int) + 1) ∧ DX w mb c rv a nk g ni inf (evs a (kev a L nk) (es a ni k)) k k m f kv mv ov lv wr) (fun _ _ i _ => 300 - (intOf i).toNat)
  case atStart => exact ⟨0, 0, nof, _, Nat.zero_le _, rfl, by show DX w mb c rv a nk g ni inf (evs a (kev a L nk) 0) 0 0 0 nof kv _ _ _ w1; rw [evs_zero]; exact G0.out⟩
  case round =>
    obtain ⟨k, m, f, mv, hk, rfl, hd⟩ := hrel
    have hk2 : k ≤ 255 := Nat.le_trans hk HQ.out
    have G := hid hd
    obtain ⟨ol, hol⟩ : ∃ c, k * sz a = c := ⟨_, rfl⟩
    have HO := hid hol
    have OO := hid hd.oo
    rw [hol] at OO
    obtain ⟨oa, oc, rfl⟩ := own_sl OO.out
    obtain ⟨la, lc, rfl⟩ := own_sl hd.lo
    have LV := hid hd.lo
    have I0 := hid (HR2.out _ hd.kp)
    have HKP := hid hk
    have HS := hid hsz
    have hplk := pl_le a k
    clear hd hol hk
    by_cases hlt : ol < N
    · have hlt' : (ol : Int) < (N : Int) := by omega
      have hq1 := hid (qp_lt a N k (by rw [HO.out]; exact hlt))
      have hk255 : k < 255 := by have := hq1.out; have := HQ.out; omega
      go_wp2_with (at_builtin; go_must (refine Sg.wpList_cat rfl _ _ rfl wr.heap.size 0 (pl a k) _ _ nof _ rfl (own_nil _ _ _ nof_b) rfl LV.out.reads (by omega) (Nat.le_refl _) ?_))
      intro m1 w10 hm1 hg1
      have M1 := hid (show By.Own w10 wr.heap.size m1 (pl a k) (tp a (kb a nk g) ni inf k) from by rw [show Sg.cat 0 nof (tp a (kb a nk g) ni inf k) = _ from Sg.cat0 _ _] at hm1; exact hm1)
      have b10 := Below.of_grown hg1
      have I10 := hid (I0.out.below b10)
      have B10 := hid b10
      obtain ⟨ma, mc, rfl⟩ := own_sl M1.out
      clear hm1 hg1 b10
      go_wp2_with (at_builtin; go_must (refine Sg.wpList_cat rfl _ _ rfl wr.heap.size (pl a k) ni _ _ _ inf rfl M1.out rfl I10.out (by omega) B10.out.size ?_))
      intro m2 w11 hm2 hg2
      have M2 := hid hm2
      have B11 := hid (Sh.below_grow B10.out B10.out.size M1.out hg2)
      obtain ⟨na, nc, rfl⟩ := own_sl hm2
      clear hm2 hg2 M1 I10 B10
      have hkm : ((k : Int) + 1) % 256 = (k : Int) + 1 := by omega
      have OV := hid (own_below M2.out (below_alloc w11 (.cells #[.int .u8 ((k : Int) + 1)] 5)))
      have OL := hid (own_byte w11 ((k : Int) + 1) (by omega))
      have B11a := hid (below_next B11.out (below_alloc w11 (.cells #[.int .u8 ((k : Int) + 1)] 5)))
      go_wp2_with (at_builtin; go_must (refine Sg.wpList_cat rfl _ _ rfl wr.heap.size (pl a k + ni) 1 _ _ _ (fun _ => (k : Int) + 1) rfl OV.out rfl OL.out.reads (by omega) B11a.out.size ?_))
      intro m3 w12 hm3 hg3
      have M3 := hid (show By.Own w12 wr.heap.size m3 (mln a ni k) (msgf a ni inf (tp a (kb a nk g) ni inf k) k) from hm3)
      have B12 := hid (Sh.below_grow B11a.out B11a.out.size OV.out hg3)
      have G12 := hid (G.out.below B12.out)
      have hml := hid (mln_le a ni k)
      clear hm3 hg3 OV OL M2 B11 B11a G I0 LV OO
      go_wp2_with fail
      refine G12.out.reset.mono ?_
      rintro e w13 ⟨rfl, hd, hown, hz⟩
      have G13 := hid hd
      have M13 := hid (hown M3.out)
      clear hd hown hz G12 M3
      have F1 := hid (es_fine a (kevP a HP.out nk) ni k (by have := HF.out; omega) hni (by omega))
      go_wp2_with fail
      refine (G13.out.write (mln a ni k) _ _ M13.out.reads (by have := hml.out; omega) (by have := F1.out; have := HF.out; omega)).mono ?_
      rintro e w14 ⟨rfl, mv', hd⟩
      rw [evs_add] at hd
      have G14 := hid hd
      clear hd G13 M13
      have F2 := hid (show tq (evs a (kev a L nk) (es a ni k + mln a ni k / bk a)) ≤ 4399500000000 by
        have h1 := es_le a ni k hni
        have h2 : k * 2199023255700 ≤ 255 * 2199023255700 := Nat.mul_le_mul_right _ (by omega)
        have h3 := bk_div a (mln a ni k)
        have h4 := hml.out
        have h5 := HF.out
        have h6 := evs_fine a (kevP a HP.out nk) (es a ni k + mln a ni k / bk a) (by omega) (by omega)
        have h7 : mln a ni k / bk a ≤ 2199023255700 := by omega
        have h8 : (es a ni k + mln a ni k / bk a) / 1048576 ≤ (255 * 2199023255700 + 2199023255700) / 1048576 := Nat.div_le_div_right (by omega)
        omega)
      go_wp2_with fail
      refine (G14.out.sum hn (by have := hml.out; omega) F2.out rfl).mono ?_
      rintro e w15 ⟨u, rfl, hd⟩
      rw [show sev a (evs a (kev a L nk) (es a ni k + mln a ni k / bk a)) (mln a ni k) = evs a (kev a L nk) (es a ni (k + 1)) from by
        unfold sev; rw [evs_add]; show _ = evs a (kev a L nk) (es a ni k + (mln a ni k / bk a + (last a (mln a ni k) + 1))); rw [Nat.add_assoc]] at hd
      have G15 := hid hd
      obtain ⟨ua, uc, rfl⟩ := own_sl hd.lo
      have O15 := hid hd.oo
      rw [HO.out] at O15
      have L15 := hid hd.lo
      have Z15 := hid hd.kp.size
      clear hd G14 F1 F2
      go_wp2_with (at_builtin; go_must (refine wpList_catS rfl _ _ rfl w.heap.size ol (pl a (k + 1)) _ _ _ _ rfl O15.out rfl L15.out.reads (by have := pl_le a (k + 1); omega) Z15.out ?_))
      intro ov' w16 ho hkp hso
      have ho' : By.Own w16 w.heap.size ov' (k * sz a + sz a) (cat (k * sz a) (okm a (kb a nk g) ni inf) (tp a (kb a nk g) ni inf (k + 1))) := by rw [HO.out]; exact ho
      have G16 := hid (show DX w mb c rv a nk g ni inf (evs a (kev a L nk) (es a ni (k + 1))) (k + 1) (k + 1) (mln a ni k) (msgf a ni inf (tp a (kb a nk g) ni inf k) k) kv mv' ov' _ w16 from by
        have := G15.out
        have h2 : DX w mb c rv a nk g ni inf (evs a (kev a L nk) (es a ni (k + 1))) k (k + 1) (mln a ni k) (msgf a ni inf (tp a (kb a nk g) ni inf k) k) kv mv' (.slice oa (k * sz a) oc) (.slice ua (pl a (k + 1)) uc) w15 := by rw [HO.out]; exact this
        exact h2.put ho' (by rw [HO.out]; exact hkp) (by rw [HO.out]; exact hso))
      clear ho ho' hkp hso G15 O15 L15
      go_wp2
      exact ⟨⟨k + 1, _, _, _, hq1.out, by rfl, G16.out⟩, by simp [intOf]; omega⟩
    · have hlt' : ¬ (ol : Int) < (N : Int) := by omega
      have he : Hid (qp a N = k) := by
        apply Classical.byContradiction
        intro h
        have h1 := HKP.out
        have h2 := qp_spec a N
        have h3 : (k + 1) * sz a ≤ qp a N * sz a := Nat.mul_le_mul_right _ (by have : ¬ qp a N = k := h; omega)
        have h4 : (k + 1) * sz a = k * sz a + sz a := Nat.succ_mul _ _
        have h5 := HO.out
        omega
      have hoc := rb_cap OO.out.reads
      have hsl := sub_hA oa ol oc N wr (by omega) hoc
      go_wp2_with (at_builtin; go_must (refine Sg.wpList_cat rfl _ _ rfl wr.heap.size 0 N _ _ nof _ rfl (own_nil _ _ _ nof_b) rfl (OO.out.reads.first N (by omega)) (by omega) (Nat.le_refl _) ?_))
      intro u3 w3 hu3 hg3
      have U := hid (show By.Own w3 w.heap.size u3 N (okm a (kb a nk g) ni inf) from by rw [show Sg.cat 0 nof (okm a (kb a nk g) ni inf) = _ from Sg.cat0 _ _] at hu3; exact Sg.own_mono hu3 G.out.kp.size)
      have G3 := hid (G.out.below (Below.of_grown hg3))
      clear hu3 hg3
      go_wp2
      go_ret2
      refine ⟨u3, rfl, U.out, ?_, G3.out.kp⟩
      obtain ⟨rv', h1, h2⟩ := G3.out.rl
      refine ⟨rv', ?_, h2⟩
      show RLed w3 mb rv' (evs a (kev a L nk) (es a ni (qp a N)))
      rw [he.out]
      exact h1
set_option maxHeartbeats 2000000 in
theorem dkey_ok (a : Bool) (mb nk ns ni N : Nat) (rv v v2 v3 : Value) (g f inf : Nat → Int) (L : List Rn) (w : World) (h : RLed w mb rv L) (hr : ∀ w', Kp (SM mb rv) w w' → By.RB w' v nk g) (hr2 : ∀ w', Kp (SM mb rv) w w' → By.RB w' v2 ns f) (hr3 : ∀ w', Kp (SM mb rv) w w' → By.RB w' v3 ni inf) (hn : nk ≤ 140737488352328) (hns : ns ≤ 140737488352328) (hni : ni ≤ 140737488352000) (hN : N ≤ 255 * sz a) (ht : tq L ≤ 890000000) :
    Calls Tryz.prog 12 #[.pointer (some ⟨mb, 0, none⟩), .int .u8 (an a), v, v2, v3, .int .i64 N] w fun e w' => ∃ u, e = .returned (.tuple #[u, .int .i64 0]) ∧ By.Own w' w.heap.size u N (okm a (kb a (sz a) (hm a (kb a ns f) nk g)) ni inf) ∧ RW w w' mb rv (xev a (tev a L ns nk) (sz a) ni (qp a N)) := by
  have HC := hid (dextract a mb ns nk rv v2 v f g L w h hr2 hr hns hn (by omega))
  have HR3 := hid hr3
  have HF := hid (tev_fine a h.pos ns nk (by omega) (by omega) (by omega))
  have e0 := xc_ok a N hN
  have hsz := sz_le a
  clear h hr hr2 hr3
  go_enter Tryz.func12, Tryz.ntmps12
  go_wp2_with fail
  refine (wrongA a N _).mono ?_
  rintro e w1 ⟨rfl, hw⟩
  subst w1
  rw [e0]
  clear e0
  go_wp2_with fail
  refine HC.out.mono ?_
  rintro e w1 ⟨u, rfl, h1, ⟨rv1, h2, h3⟩, h4⟩
  have hz := h4.size
  have back : ∀ w', Kp (SM mb rv1) w1 w' → Kp (SM mb rv) w w' := fun w' hk' => h4.trans hk' (fun i hi e => by
    rcases e with e | e
    · exact .inl e
    · rcases h3 with hs | hs
      · exact .inr (hs ▸ e)
      · have := hs i e; omega)
  have HE := hid (dexpand_ok a mb (sz a) ni N rv1 u v3 (hm a (kb a ns f) nk g) inf (tev a L ns nk) w1 h2 (fun w' hk' => (rled_own h2 hk' h1).reads) (fun w' hk' => HR3.out w' (back w' hk')) (by omega) hni hN (by have := HF.out; omega))
  have H4 := hid h4
  have H3 := hid h3
  clear h1 h2 h3 h4 HC back
  go_wp2_with fail
  refine HE.out.mono ?_
  rintro e w2 ⟨u2, rfl, g1, g2⟩
  have U := hid (Sg.own_mono g1 hz)
  have R := hid (RW.trans H4.out H3.out g2)
  clear g1 g2 HE
  go_wp2
  go_ret2
  exact ⟨u2, rfl, U.out, R.out⟩
theorem dexpand_any (a : Bool) (mb nk ni : Nat) (n : Int) (rv v v2 : Value) (g inf : Nat → Int) (L : List Rn) (w : World) (h : RLed w mb rv L) (hr : ∀ w', Kp (SM mb rv) w w' → By.RB w' v nk g) (hr2 : ∀ w', Kp (SM mb rv) w w' → By.RB w' v2 ni inf) (hn : nk ≤ 140737488352328) (hni : ni ≤ 140737488352000) (ht : tq L ≤ 900000000) :
    Calls Tryz.prog 11 #[.pointer (some ⟨mb, 0, none⟩), .int .u8 (an a), v, v2, .int .i64 n] w fun e w' => ∃ u, e = .returned (.tuple #[u, .int .i64 (xc a n)]) ∧ By.Own w' w.heap.size u (xN a n) (okm a (kb a nk g) ni inf) ∧ RW w w' mb rv (xl a L nk ni n) := by
  by_cases hh : 0 ≤ n ∧ n ≤ ((255 * sz a : Nat) : Int)
  · obtain ⟨N, rfl⟩ : ∃ N : Nat, n = N := ⟨n.toNat, by omega⟩
    have hN : N ≤ 255 * sz a := by omega
    rw [xc_ok a N hN, show xN a (N : Int) = N from by unfold xN; rw [if_pos hh]; omega, show xl a L nk ni (N : Int) = xev a L nk ni (qp a N) from by unfold xl; rw [if_pos hh]; rfl]
    exact dexpand_ok a mb nk ni N rv v v2 g inf L w h hr hr2 hn hni hN ht
  · refine (dexpand_bad a n hh _ v v2 w).mono ?_
    rintro e w' ⟨rfl, rfl⟩
    exact ⟨_, rfl, by rw [show xN a n = 0 from by unfold xN; rw [if_neg hh]]; exact own_nil _ _ _ (okm_b _ _ _ _), by rw [show xl a L nk ni n = L from by unfold xl; rw [if_neg hh]]; exact RW.refl h⟩
theorem dkey_any (a : Bool) (mb nk ns ni : Nat) (n : Int) (rv v v2 v3 : Value) (g f inf : Nat → Int) (L : List Rn) (w : World) (h : RLed w mb rv L) (hr : ∀ w', Kp (SM mb rv) w w' → By.RB w' v nk g) (hr2 : ∀ w', Kp (SM mb rv) w w' → By.RB w' v2 ns f) (hr3 : ∀ w', Kp (SM mb rv) w w' → By.RB w' v3 ni inf) (hn : nk ≤ 140737488352328) (hns : ns ≤ 140737488352328) (hni : ni ≤ 140737488352000) (ht : tq L ≤ 890000000) :
    Calls Tryz.prog 12 #[.pointer (some ⟨mb, 0, none⟩), .int .u8 (an a), v, v2, v3, .int .i64 n] w fun e w' => ∃ u, e = .returned (.tuple #[u, .int .i64 (xc a n)]) ∧ By.Own w' w.heap.size u (xN a n) (okm a (kb a (sz a) (hm a (kb a ns f) nk g)) ni inf) ∧ RW w w' mb rv (yl a L ns nk ni n) := by
  by_cases hh : 0 ≤ n ∧ n ≤ ((255 * sz a : Nat) : Int)
  · obtain ⟨N, rfl⟩ : ∃ N : Nat, n = N := ⟨n.toNat, by omega⟩
    have hN : N ≤ 255 * sz a := by omega
    rw [xc_ok a N hN, show xN a (N : Int) = N from by unfold xN; rw [if_pos hh]; omega, show yl a L ns nk ni (N : Int) = xev a (tev a L ns nk) (sz a) ni (qp a N) from by unfold yl; rw [if_pos hh]; rfl]
    exact dkey_ok a mb nk ns ni N rv v v2 v3 g f inf L w h hr hr2 hr3 hn hns hni hN ht
  · refine (dkey_bad a n hh _ v v2 v3 w).mono ?_
    rintro e w' ⟨rfl, rfl⟩
    exact ⟨_, rfl, by rw [show xN a n = 0 from by unfold xN; rw [if_neg hh]]; exact own_nil _ _ _ (okm_b _ _ _ _), by rw [show yl a L ns nk ni n = L from by unfold yl; rw [if_neg hh]]; exact RW.refl h⟩
end Go.Proofs.YtmbcccmidfpgeaaGreatDoor.Dg
