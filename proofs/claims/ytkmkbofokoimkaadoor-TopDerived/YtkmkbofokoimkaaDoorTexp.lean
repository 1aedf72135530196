/- TopDerived's helper expands. -/
import Derived.Test.YtkmkbofokoimkaaDoorTtag
import Derived.Test.YtkmkbofokoimkaaDoorIgm
import Derived.Test.YtkmkbofokoimkaaDoorIpk0
namespace Go.Proofs.YtkmkbofokoimkaaDoor.Dg
open Go.ChangeShapes Go.WideShapes Go.ChangeAt Go.RowKit
open Go.Proofs.YtkmkbofokoimkaaDoor.By
open Go.Proofs.YtkmkbofokoimkaaDoor.Sh (Blk size_alloc)
theorem xsub_h (pa : Option Addr) (n cap d : Nat) (w : World) (hn : d ≤ n) (hc : n ≤ cap) : (Instr.sliceAt 22 (.slice pa n cap) none (some (.int .i64 d)) none).run Tryd.prog w = .ok (.slice pa d cap) w := by
  have h1 : (d : Int) ≤ cap := by omega
  simp [Instr.sliceAt, Instr.slice, go_sem, h1]
set_option maxRecDepth 8000 in
set_option maxHeartbeats 8000000 in
theorem expands_false (ka sa ia : Option Addr) (nk kc ns sc ni ic N : Nat) (g f inf : Nat → Int) (w : World) (hr : By.RB w (.slice ka nk kc) nk g) (hr2 : By.RB w (.slice sa ns sc) ns f) (hr3 : By.RB w (.slice ia ni ic) ni inf) (hk : KT w) (hn : nk ≤ 500) (hns : ns ≤ 500) (hni : ni ≤ 500) (hN1 : 1 ≤ N) (hN2 : N ≤ 200) :
    Calls Tryd.prog 5 #[.int .u8 1, .slice ka nk kc, .slice sa ns sc, .slice ia ni ic, .int .i64 N] w fun e w' => e = .returned (.bool true) ∧ Below w.heap.size w w' := by
  have HK := hid hk
  have A1 := hid (show ∀ w', Below w.heap.size w w' → By.RB w' (.slice ka nk kc) nk g from fun w' hb => hr.below hb)
  have A2 := hid (show ∀ w', Below w.heap.size w w' → By.RB w' (.slice sa ns sc) ns f from fun w' hb => hr2.below hb)
  have A3 := hid (show ∀ w', Below w.heap.size w w' → By.RB w' (.slice ia ni ic) ni inf from fun w' hb => hr3.below hb)
  clear hr hr2 hr3 hk
  obtain ⟨PF, hPF⟩ : ∃ y, hm false (kb false ns f) nk g = y := ⟨_, rfl⟩
  obtain ⟨KP, hKP⟩ : ∃ y, kb false 32 PF = y := ⟨_, rfl⟩
  have HPF := hid hPF
  have HKP := hid hKP
  clear hPF hKP
  by_cases hs0 : ns = 0
  · have hs0' : (((ns : Nat) : Int) == 0) = true := by rw [hs0]; rfl
    have SK := hid (show kb false 32 (fun _ => 0) = kb false ns f by
      rw [kb_nought false 32 (by decide), hs0]
      exact kb_congr false 0 _ _ (fun i hi => absurd hi (Nat.not_lt_zero _)))
    clear hs0
    go_enter Tryd.func5, Tryd.ntmps5
    go_wp2_with fail
    refine (twin1 _ ns f _ (A2.out _ (Below.refl _ _)) (by omega)).mono ?_
    rintro e w1 ⟨sv, rfl, hsv, hb⟩
    obtain ⟨va, vc, rfl⟩ := own_sl hsv
    have b2 := below_alloc w1 (.cells (bl 32 (fun _ => 0)).toArray 5)
    obtain ⟨z0, hz0⟩ : ∃ y, (bl 32 (fun _ => 0)).toArray = y := ⟨_, rfl⟩
    have hmk : (Instr.makeSlice 22 (.int .i64 32) (.int .i64 32)).run Tryd.prog w1 = .ok (.slice (some ⟨w1.heap.size, 0, none⟩) 32 32) (w1.alloc (.cells z0 5)) := by rw [← hz0]; exact make_nn 32 (by omega) w1
    have SV := hid (show By.Own (w1.alloc (.cells z0 5)) w1.heap.size (.slice (some ⟨w1.heap.size, 0, none⟩) 32 32) 32 (fun _ => 0) from by rw [← hz0]; exact Sh.own_made w1 32 32 w1.heap.size (fun _ => 0) (fun _ => by decide) (Nat.le_refl _) (by simp [maxLen]) (Nat.le_refl _))
    have BS := hid (show Below w.heap.size w (w1.alloc (.cells z0 5)) from by rw [← hz0]; exact below_next hb b2)
    clear hsv hb b2 hz0
    go_wp2_with fail
    obtain ⟨wS, hwS⟩ : ∃ y, w1.alloc (.cells z0 5) = y := ⟨_, rfl⟩
    rw [hwS] at SV BS ⊢
    clear hwS hmk
    refine (twin1 _ nk g _ (A1.out _ BS.out) (by omega)).mono ?_
    rintro e w2 ⟨kv, rfl, hkv, hb⟩
    have KV2 := hid hkv
    have SV2 := hid (own_below SV.out hb)
    have B2 := hid (below_next BS.out hb)
    clear hkv hb SV BS
    go_wp2_with fail
    refine (ttag0 false 32 nk _ _ (fun _ => 0) g _ (HK.out.below B2.out) SV2.out.reads KV2.out.reads (by omega) (by omega)).mono ?_
    rintro e wP ⟨pv, rfl, hu, hb⟩
    rw [SK.out] at hu
    have PV := hid (show By.Own wP w2.heap.size pv 32 PF from by rw [← HPF.out]; exact hu)
    have BP := hid (below_next B2.out hb)
    clear hu hb KV2 SV2 B2
    go_wp2_with fail
    go_loopw [15, 16, 17] (fun ov lv i wr => ∃ k ol : Nat, k * 32 = ol ∧ i = .int .i64 ((k : Int) + 1) ∧ By.Own wr wP.heap.size ov ol (okm false KP ni inf) ∧ By.Own wr wP.heap.size lv (pl false k) (tp false KP ni inf k) ∧ (∀ p, ov.ownBlock = some p → lv.ownBlock ≠ some p) ∧ Below wP.heap.size wP wr ∧ ol ≤ N + 64) (fun ov _ _ _ => N + 64 - (match ov with | .slice _ n _ => n | _ => 0))
    case atStart => exact ⟨0, 0, Nat.zero_mul _, rfl, own_nil _ _ _ (okm_b _ _ _ _), own_nil _ _ _ nof_b, fun p hp => by simp [Value.ownBlock] at hp, Below.refl _ _, by omega⟩
    case round =>
      obtain ⟨k, ol, hol, rfl, ho, hl, hne, hbw, hol2⟩ := hrel
      have hk8 : k ≤ 10 := by omega
      have hplk := pl_le false k
      have O := hid ho
      have LV := hid hl
      have NE := hid hne
      have BW := hid hbw
      have B := hid (below_next BP.out hbw)
      have P := hid (own_below PV.out hbw)
      have HO := hid hol
      obtain ⟨oa, oc, rfl⟩ := own_sl ho
      clear ho hl hne hbw hol
      by_cases hlt : ol < N
      · have hlt' : (ol : Int) < (N : Int) := by omega
        have HK8 := hid hk8
        have hkm : ((k : Int) + 1) % 256 = (k : Int) + 1 := by omega
        go_wp2_with fail
        refine (twin1 _ (pl false k) _ _ LV.out.reads (by omega)).mono ?_
        rintro e w3 ⟨mv, rfl, hm3, hb⟩
        obtain ⟨ma, mc, rfl⟩ := own_sl hm3
        have M3 := hid hm3
        have BC3 := hid hb
        have I3 := hid (A3.out _ (below_next B.out hb))
        clear hm3 hb
        go_wp2_with (at_builtin; go_must (refine Sg.wpList_cat rfl _ _ rfl wr.heap.size (pl false k) ni _ _ _ inf rfl M3.out rfl I3.out (by omega) BC3.out.size ?_))
        intro m4 w4 hm4 hg4
        have M4 := hid hm4
        have BC4 := hid (Sh.below_grow BC3.out BC3.out.size M3.out hg4)
        obtain ⟨na, nc, rfl⟩ := own_sl hm4
        clear hm4 hg4 M3 I3 BC3
        have OV := hid (own_below M4.out (below_alloc w4 (.cells #[.int .u8 ((k : Int) + 1)] 5)))
        have OL := hid (own_byte w4 ((k : Int) + 1) (by omega))
        have BC4a := hid (below_next BC4.out (below_alloc w4 (.cells #[.int .u8 ((k : Int) + 1)] 5)))
        go_wp2_with (at_builtin; go_must (refine Sg.wpList_cat rfl _ _ rfl wr.heap.size (pl false k + ni) 1 _ _ _ (fun _ => (k : Int) + 1) rfl OV.out rfl OL.out.reads (by omega) BC4a.out.size ?_))
        intro m5 w5 hm5 hg5
        have M5 := hid (show By.Own w5 wr.heap.size m5 (mln false ni k) (msgf false ni inf (tp false KP ni inf k) k) from hm5)
        have b5 := Sh.below_grow BC4a.out BC4a.out.size OV.out hg5
        have P5 := hid (own_below P.out b5)
        have O5 := hid (own_below O.out b5)
        have BW5 := hid (below_next BW.out b5)
        have B5 := hid (below_next B.out b5)
        have hml := mln_le false ni k
        obtain ⟨qa, qc, rfl⟩ := own_sl M5.out
        clear hm5 hg5 b5 OV OL M4 BC4 BC4a O P BW B LV
        go_wp2_with fail
        refine (ttag0 false 32 (mln false ni k) _ _ PF (msgf false ni inf (tp false KP ni inf k) k) _ (HK.out.below B5.out) P5.out.reads M5.out.reads (by omega) (by omega)).mono ?_
        rintro e w6 ⟨u6, rfl, hu, hb⟩
        have U6 := hid (show By.Own w6 w5.heap.size u6 (pl false (k + 1)) (tp false KP ni inf (k + 1)) from by rw [← HKP.out]; rw [← HKP.out] at *; exact hu)
        have O6 := hid (own_below O5.out hb)
        have BW6 := hid (below_next BW5.out hb)
        have N6 := hid (show ∀ p, (Value.slice oa ol oc).ownBlock = some p → u6.ownBlock ≠ some p from fun p hp e => by have h1 := own_lt O5.out p hp; have h2 := own_row U6.out p e; omega)
        have Z5 := hid (show wP.heap.size ≤ w5.heap.size from BW5.out.size)
        obtain ⟨ua, uc, rfl⟩ := own_sl U6.out
        rw [show pl false (k + 1) = 32 from rfl] at U6 N6 ⊢
        clear hu hb P5 O5 BW5 B5 M5
        go_wp2_with (at_builtin; go_must (refine wpList_catS rfl _ _ rfl wP.heap.size ol 32 _ _ _ _ rfl O6.out rfl U6.out.reads (by omega) BW6.out.size ?_))
        intro ov' w7 ho7 hk7 hs7
        have O7 := hid (show By.Own w7 wP.heap.size ov' (ol + 32) (okm false KP ni inf) from own_congr ho7 (okm_b _ _ _ _) (fun i hi => by
          have h := okm_cat false KP ni inf k 32 (Nat.le_refl _) i (by show i < k * 32 + 32; rw [HO.out]; exact hi)
          have h' : cat (k * 32) (okm false KP ni inf) (tp false KP ni inf (k + 1)) i = okm false KP ni inf i := h
          rw [HO.out] at h'
          exact h'))
        have U7 := hid (Sg.own_mono (Sg.own_kept U6.out hk7 (fun p hp e => N6.out p e hp)) Z5.out)
        have B7 := hid (show Below wP.heap.size wP w7 from BW6.out.trans (hk7.below BW6.out.size (fun j hj e => by have := own_row O6.out j e; omega)))
        have N7 := hid (show ∀ p, ov'.ownBlock = some p → (Value.slice ua 32 uc).ownBlock ≠ some p from fun p hp e => by
          rcases hs7 with h | h
          · exact N6.out p (h ▸ hp) e
          · have h1 := h p hp
            have h2 := own_lt U6.out p e
            omega)
        obtain ⟨ra, rc', rfl⟩ := own_sl O7.out
        clear ho7 hk7 hs7 O6 U6 BW6 N6
        go_wp2_with fail
        exact ⟨⟨k + 1, ol + 32, by rw [Nat.succ_mul, HO.out], by rfl, O7.out, U7.out, N7.out, B7.out, by omega⟩, by simp; omega⟩
      · have hlt' : ¬ (ol : Int) < (N : Int) := by omega
        have hoc := rb_cap O.out.reads
        clear LV NE P
        go_wp2_with fail
        refine (twin1 _ nk g _ (A1.out _ B.out) (by omega)).mono ?_
        rintro e w3 ⟨kv, rfl, hv, hb⟩
        have K3 := hid hv
        have O3 := hid (own_below O.out hb)
        have B3 := hid (below_next B.out hb)
        clear hv hb O B BW
        go_wp2_with fail
        refine (twin1 _ ns f _ (A2.out _ B3.out) (by omega)).mono ?_
        rintro e w4 ⟨sv, rfl, hv, hb⟩
        have S4 := hid hv
        have K4 := hid (own_below K3.out hb)
        have O4 := hid (own_below O3.out hb)
        have B4 := hid (below_next B3.out hb)
        clear hv hb O3 B3 K3
        go_wp2_with fail
        refine (twin1 _ ni inf _ (A3.out _ B4.out) (by omega)).mono ?_
        rintro e w5 ⟨iv, rfl, hv, hb⟩
        have I5 := hid hv
        have S5 := hid (own_below S4.out hb)
        have K5 := hid (own_below K4.out hb)
        have O5 := hid (own_below O4.out hb)
        have B5 := hid (below_next B4.out hb)
        clear hv hb O4 B4 K4 S4
        go_wp2_with fail
        refine (key0 false nk ns ni N _ _ _ g f inf _ (HK.out.below B5.out) K5.out.reads S5.out.reads I5.out.reads (by omega) (by omega) (by omega)).mono ?_
        rintro e w6 ⟨u, rfl, hu, hb⟩
        rw [xc_ok false N (by show N ≤ 255 * 32; omega)]
        rw [show xN false (N : Int) = N from by unfold xN; rw [if_pos (by show 0 ≤ (N : Int) ∧ (N : Int) ≤ ((255 * 32 : Nat) : Int); omega)]; omega] at hu
        have hu' : By.Own w6 w5.heap.size u N (okm false KP ni inf) := by rw [← HKP.out, ← HPF.out]; exact hu
        obtain ⟨ua, uc, rfl⟩ := own_sl hu'
        have B6 := hid (below_next B5.out hb)
        have O6 := own_below O5.out hb
        have hc1 := fun d => cvs (w := w6.drewN d) (hu'.reads.drewN d) (by omega)
        have hc2 := fun d => cvs (w := w6.drewN d) ((O6.reads.first N (by omega)).drewN d) (by omega)
        have hsl := fun W => xsub_h oa ol oc N W (by omega) hoc
        clear hu hu' hb O6
        go_wp2_with fail
        go_quiet (fail)
        go_wp2
        go_ret
        exact ⟨rfl, below_next B6.out (below_drewN w6 nq)⟩
  · have hs0' : (((ns : Nat) : Int) == 0) = false := beq_eq_false_iff_ne.2 (by omega)
    clear hs0
    go_enter Tryd.func5, Tryd.ntmps5
    go_wp2_with fail
    refine (twin1 _ ns f _ (A2.out _ (Below.refl _ _)) (by omega)).mono ?_
    rintro e wS ⟨sv, rfl, hsv, hb⟩
    obtain ⟨va, vc, rfl⟩ := own_sl hsv
    have SV := hid hsv
    have BS := hid hb
    clear hsv hb
    go_wp2_with fail
    refine (twin1 _ nk g _ (A1.out _ BS.out) (by omega)).mono ?_
    rintro e w2 ⟨kv, rfl, hkv, hb⟩
    have KV2 := hid hkv
    have SV2 := hid (own_below SV.out hb)
    have B2 := hid (below_next BS.out hb)
    clear hkv hb SV BS
    go_wp2_with fail
    refine (ttag0 false ns nk _ _ f g _ (HK.out.below B2.out) SV2.out.reads KV2.out.reads (by omega) (by omega)).mono ?_
    rintro e wP ⟨pv, rfl, hu, hb⟩
    have PV := hid (show By.Own wP w2.heap.size pv 32 PF from by rw [← HPF.out]; exact hu)
    have BP := hid (below_next B2.out hb)
    clear hu hb KV2 SV2 B2
    go_wp2_with fail
    go_loopw [15, 16, 17] (fun ov lv i wr => ∃ k ol : Nat, k * 32 = ol ∧ i = .int .i64 ((k : Int) + 1) ∧ By.Own wr wP.heap.size ov ol (okm false KP ni inf) ∧ By.Own wr wP.heap.size lv (pl false k) (tp false KP ni inf k) ∧ (∀ p, ov.ownBlock = some p → lv.ownBlock ≠ some p) ∧ Below wP.heap.size wP wr ∧ ol ≤ N + 64) (fun ov _ _ _ => N + 64 - (match ov with | .slice _ n _ => n | _ => 0))
    case atStart => exact ⟨0, 0, Nat.zero_mul _, rfl, own_nil _ _ _ (okm_b _ _ _ _), own_nil _ _ _ nof_b, fun p hp => by simp [Value.ownBlock] at hp, Below.refl _ _, by omega⟩
    case round =>
      obtain ⟨k, ol, hol, rfl, ho, hl, hne, hbw, hol2⟩ := hrel
      have hk8 : k ≤ 10 := by omega
      have hplk := pl_le false k
      have O := hid ho
      have LV := hid hl
      have NE := hid hne
      have BW := hid hbw
      have B := hid (below_next BP.out hbw)
      have P := hid (own_below PV.out hbw)
      have HO := hid hol
      obtain ⟨oa, oc, rfl⟩ := own_sl ho
      clear ho hl hne hbw hol
      by_cases hlt : ol < N
      · have hlt' : (ol : Int) < (N : Int) := by omega
        have HK8 := hid hk8
        have hkm : ((k : Int) + 1) % 256 = (k : Int) + 1 := by omega
        go_wp2_with fail
        refine (twin1 _ (pl false k) _ _ LV.out.reads (by omega)).mono ?_
        rintro e w3 ⟨mv, rfl, hm3, hb⟩
        obtain ⟨ma, mc, rfl⟩ := own_sl hm3
        have M3 := hid hm3
        have BC3 := hid hb
        have I3 := hid (A3.out _ (below_next B.out hb))
        clear hm3 hb
        go_wp2_with (at_builtin; go_must (refine Sg.wpList_cat rfl _ _ rfl wr.heap.size (pl false k) ni _ _ _ inf rfl M3.out rfl I3.out (by omega) BC3.out.size ?_))
        intro m4 w4 hm4 hg4
        have M4 := hid hm4
        have BC4 := hid (Sh.below_grow BC3.out BC3.out.size M3.out hg4)
        obtain ⟨na, nc, rfl⟩ := own_sl hm4
        clear hm4 hg4 M3 I3 BC3
        have OV := hid (own_below M4.out (below_alloc w4 (.cells #[.int .u8 ((k : Int) + 1)] 5)))
        have OL := hid (own_byte w4 ((k : Int) + 1) (by omega))
        have BC4a := hid (below_next BC4.out (below_alloc w4 (.cells #[.int .u8 ((k : Int) + 1)] 5)))
        go_wp2_with (at_builtin; go_must (refine Sg.wpList_cat rfl _ _ rfl wr.heap.size (pl false k + ni) 1 _ _ _ (fun _ => (k : Int) + 1) rfl OV.out rfl OL.out.reads (by omega) BC4a.out.size ?_))
        intro m5 w5 hm5 hg5
        have M5 := hid (show By.Own w5 wr.heap.size m5 (mln false ni k) (msgf false ni inf (tp false KP ni inf k) k) from hm5)
        have b5 := Sh.below_grow BC4a.out BC4a.out.size OV.out hg5
        have P5 := hid (own_below P.out b5)
        have O5 := hid (own_below O.out b5)
        have BW5 := hid (below_next BW.out b5)
        have B5 := hid (below_next B.out b5)
        have hml := mln_le false ni k
        obtain ⟨qa, qc, rfl⟩ := own_sl M5.out
        clear hm5 hg5 b5 OV OL M4 BC4 BC4a O P BW B LV
        go_wp2_with fail
        refine (ttag0 false 32 (mln false ni k) _ _ PF (msgf false ni inf (tp false KP ni inf k) k) _ (HK.out.below B5.out) P5.out.reads M5.out.reads (by omega) (by omega)).mono ?_
        rintro e w6 ⟨u6, rfl, hu, hb⟩
        have U6 := hid (show By.Own w6 w5.heap.size u6 (pl false (k + 1)) (tp false KP ni inf (k + 1)) from by rw [← HKP.out]; rw [← HKP.out] at *; exact hu)
        have O6 := hid (own_below O5.out hb)
        have BW6 := hid (below_next BW5.out hb)
        have N6 := hid (show ∀ p, (Value.slice oa ol oc).ownBlock = some p → u6.ownBlock ≠ some p from fun p hp e => by have h1 := own_lt O5.out p hp; have h2 := own_row U6.out p e; omega)
        have Z5 := hid (show wP.heap.size ≤ w5.heap.size from BW5.out.size)
        obtain ⟨ua, uc, rfl⟩ := own_sl U6.out
        rw [show pl false (k + 1) = 32 from rfl] at U6 N6 ⊢
        clear hu hb P5 O5 BW5 B5 M5
        go_wp2_with (at_builtin; go_must (refine wpList_catS rfl _ _ rfl wP.heap.size ol 32 _ _ _ _ rfl O6.out rfl U6.out.reads (by omega) BW6.out.size ?_))
        intro ov' w7 ho7 hk7 hs7
        have O7 := hid (show By.Own w7 wP.heap.size ov' (ol + 32) (okm false KP ni inf) from own_congr ho7 (okm_b _ _ _ _) (fun i hi => by
          have h := okm_cat false KP ni inf k 32 (Nat.le_refl _) i (by show i < k * 32 + 32; rw [HO.out]; exact hi)
          have h' : cat (k * 32) (okm false KP ni inf) (tp false KP ni inf (k + 1)) i = okm false KP ni inf i := h
          rw [HO.out] at h'
          exact h'))
        have U7 := hid (Sg.own_mono (Sg.own_kept U6.out hk7 (fun p hp e => N6.out p e hp)) Z5.out)
        have B7 := hid (show Below wP.heap.size wP w7 from BW6.out.trans (hk7.below BW6.out.size (fun j hj e => by have := own_row O6.out j e; omega)))
        have N7 := hid (show ∀ p, ov'.ownBlock = some p → (Value.slice ua 32 uc).ownBlock ≠ some p from fun p hp e => by
          rcases hs7 with h | h
          · exact N6.out p (h ▸ hp) e
          · have h1 := h p hp
            have h2 := own_lt U6.out p e
            omega)
        obtain ⟨ra, rc', rfl⟩ := own_sl O7.out
        clear ho7 hk7 hs7 O6 U6 BW6 N6
        go_wp2_with fail
        exact ⟨⟨k + 1, ol + 32, by rw [Nat.succ_mul, HO.out], by rfl, O7.out, U7.out, N7.out, B7.out, by omega⟩, by simp; omega⟩
      · have hlt' : ¬ (ol : Int) < (N : Int) := by omega
        have hoc := rb_cap O.out.reads
        clear LV NE P
        go_wp2_with fail
        refine (twin1 _ nk g _ (A1.out _ B.out) (by omega)).mono ?_
        rintro e w3 ⟨kv, rfl, hv, hb⟩
        have K3 := hid hv
        have O3 := hid (own_below O.out hb)
        have B3 := hid (below_next B.out hb)
        clear hv hb O B BW
        go_wp2_with fail
        refine (twin1 _ ns f _ (A2.out _ B3.out) (by omega)).mono ?_
        rintro e w4 ⟨sv, rfl, hv, hb⟩
        have S4 := hid hv
        have K4 := hid (own_below K3.out hb)
        have O4 := hid (own_below O3.out hb)
        have B4 := hid (below_next B3.out hb)
        clear hv hb O3 B3 K3
        go_wp2_with fail
        refine (twin1 _ ni inf _ (A3.out _ B4.out) (by omega)).mono ?_
        rintro e w5 ⟨iv, rfl, hv, hb⟩
        have I5 := hid hv
        have S5 := hid (own_below S4.out hb)
        have K5 := hid (own_below K4.out hb)
        have O5 := hid (own_below O4.out hb)
        have B5 := hid (below_next B4.out hb)
        clear hv hb O4 B4 K4 S4
        go_wp2_with fail
        refine (key0 false nk ns ni N _ _ _ g f inf _ (HK.out.below B5.out) K5.out.reads S5.out.reads I5.out.reads (by omega) (by omega) (by omega)).mono ?_
        rintro e w6 ⟨u, rfl, hu, hb⟩
        rw [xc_ok false N (by show N ≤ 255 * 32; omega)]
        rw [show xN false (N : Int) = N from by unfold xN; rw [if_pos (by show 0 ≤ (N : Int) ∧ (N : Int) ≤ ((255 * 32 : Nat) : Int); omega)]; omega] at hu
        have hu' : By.Own w6 w5.heap.size u N (okm false KP ni inf) := by rw [← HKP.out, ← HPF.out]; exact hu
        obtain ⟨ua, uc, rfl⟩ := own_sl hu'
        have B6 := hid (below_next B5.out hb)
        have O6 := own_below O5.out hb
        have hc1 := fun d => cvs (w := w6.drewN d) (hu'.reads.drewN d) (by omega)
        have hc2 := fun d => cvs (w := w6.drewN d) ((O6.reads.first N (by omega)).drewN d) (by omega)
        have hsl := fun W => xsub_h oa ol oc N W (by omega) hoc
        clear hu hu' hb O6
        go_wp2_with fail
        go_quiet (fail)
        go_wp2
        go_ret
        exact ⟨rfl, below_next B6.out (below_drewN w6 nq)⟩
set_option maxRecDepth 8000 in
set_option maxHeartbeats 8000000 in
theorem expands_true (ka sa ia : Option Addr) (nk kc ns sc ni ic N : Nat) (g f inf : Nat → Int) (w : World) (hr : By.RB w (.slice ka nk kc) nk g) (hr2 : By.RB w (.slice sa ns sc) ns f) (hr3 : By.RB w (.slice ia ni ic) ni inf) (hk : KT w) (hn : nk ≤ 500) (hns : ns ≤ 500) (hni : ni ≤ 500) (hN1 : 1 ≤ N) (hN2 : N ≤ 200) :
    Calls Tryd.prog 5 #[.int .u8 2, .slice ka nk kc, .slice sa ns sc, .slice ia ni ic, .int .i64 N] w fun e w' => e = .returned (.bool true) ∧ Below w.heap.size w w' := by
  have HK := hid hk
  have A1 := hid (show ∀ w', Below w.heap.size w w' → By.RB w' (.slice ka nk kc) nk g from fun w' hb => hr.below hb)
  have A2 := hid (show ∀ w', Below w.heap.size w w' → By.RB w' (.slice sa ns sc) ns f from fun w' hb => hr2.below hb)
  have A3 := hid (show ∀ w', Below w.heap.size w w' → By.RB w' (.slice ia ni ic) ni inf from fun w' hb => hr3.below hb)
  clear hr hr2 hr3 hk
  obtain ⟨PF, hPF⟩ : ∃ y, hm true (kb true ns f) nk g = y := ⟨_, rfl⟩
  obtain ⟨KP, hKP⟩ : ∃ y, kb true 64 PF = y := ⟨_, rfl⟩
  have HPF := hid hPF
  have HKP := hid hKP
  clear hPF hKP
  by_cases hs0 : ns = 0
  · have hs0' : (((ns : Nat) : Int) == 0) = true := by rw [hs0]; rfl
    have SK := hid (show kb true 64 (fun _ => 0) = kb true ns f by
      rw [kb_nought true 64 (by decide), hs0]
      exact kb_congr true 0 _ _ (fun i hi => absurd hi (Nat.not_lt_zero _)))
    clear hs0
    go_enter Tryd.func5, Tryd.ntmps5
    go_wp2_with fail
    refine (twin1 _ ns f _ (A2.out _ (Below.refl _ _)) (by omega)).mono ?_
    rintro e w1 ⟨sv, rfl, hsv, hb⟩
    obtain ⟨va, vc, rfl⟩ := own_sl hsv
    have b2 := below_alloc w1 (.cells (bl 64 (fun _ => 0)).toArray 5)
    obtain ⟨z0, hz0⟩ : ∃ y, (bl 64 (fun _ => 0)).toArray = y := ⟨_, rfl⟩
    have hmk : (Instr.makeSlice 22 (.int .i64 64) (.int .i64 64)).run Tryd.prog w1 = .ok (.slice (some ⟨w1.heap.size, 0, none⟩) 64 64) (w1.alloc (.cells z0 5)) := by rw [← hz0]; exact make_nn 64 (by omega) w1
    have SV := hid (show By.Own (w1.alloc (.cells z0 5)) w1.heap.size (.slice (some ⟨w1.heap.size, 0, none⟩) 64 64) 64 (fun _ => 0) from by rw [← hz0]; exact Sh.own_made w1 64 64 w1.heap.size (fun _ => 0) (fun _ => by decide) (Nat.le_refl _) (by simp [maxLen]) (Nat.le_refl _))
    have BS := hid (show Below w.heap.size w (w1.alloc (.cells z0 5)) from by rw [← hz0]; exact below_next hb b2)
    clear hsv hb b2 hz0
    go_wp2_with fail
    obtain ⟨wS, hwS⟩ : ∃ y, w1.alloc (.cells z0 5) = y := ⟨_, rfl⟩
    rw [hwS] at SV BS ⊢
    clear hwS hmk
    refine (twin1 _ nk g _ (A1.out _ BS.out) (by omega)).mono ?_
    rintro e w2 ⟨kv, rfl, hkv, hb⟩
    have KV2 := hid hkv
    have SV2 := hid (own_below SV.out hb)
    have B2 := hid (below_next BS.out hb)
    clear hkv hb SV BS
    go_wp2_with fail
    refine (ttag0 true 64 nk _ _ (fun _ => 0) g _ (HK.out.below B2.out) SV2.out.reads KV2.out.reads (by omega) (by omega)).mono ?_
    rintro e wP ⟨pv, rfl, hu, hb⟩
    rw [SK.out] at hu
    have PV := hid (show By.Own wP w2.heap.size pv 64 PF from by rw [← HPF.out]; exact hu)
    have BP := hid (below_next B2.out hb)
    clear hu hb KV2 SV2 B2
    go_wp2_with fail
    go_loopw [15, 16, 17] (fun ov lv i wr => ∃ k ol : Nat, k * 64 = ol ∧ i = .int .i64 ((k : Int) + 1) ∧ By.Own wr wP.heap.size ov ol (okm true KP ni inf) ∧ By.Own wr wP.heap.size lv (pl true k) (tp true KP ni inf k) ∧ (∀ p, ov.ownBlock = some p → lv.ownBlock ≠ some p) ∧ Below wP.heap.size wP wr ∧ ol ≤ N + 64) (fun ov _ _ _ => N + 64 - (match ov with | .slice _ n _ => n | _ => 0))
    case atStart => exact ⟨0, 0, Nat.zero_mul _, rfl, own_nil _ _ _ (okm_b _ _ _ _), own_nil _ _ _ nof_b, fun p hp => by simp [Value.ownBlock] at hp, Below.refl _ _, by omega⟩
    case round =>
      obtain ⟨k, ol, hol, rfl, ho, hl, hne, hbw, hol2⟩ := hrel
      have hk8 : k ≤ 10 := by omega
      have hplk := pl_le true k
      have O := hid ho
      have LV := hid hl
      have NE := hid hne
      have BW := hid hbw
      have B := hid (below_next BP.out hbw)
      have P := hid (own_below PV.out hbw)
      have HO := hid hol
      obtain ⟨oa, oc, rfl⟩ := own_sl ho
      clear ho hl hne hbw hol
      by_cases hlt : ol < N
      · have hlt' : (ol : Int) < (N : Int) := by omega
        have HK8 := hid hk8
        have hkm : ((k : Int) + 1) % 256 = (k : Int) + 1 := by omega
        go_wp2_with fail
        refine (twin1 _ (pl true k) _ _ LV.out.reads (by omega)).mono ?_
        rintro e w3 ⟨mv, rfl, hm3, hb⟩
        obtain ⟨ma, mc, rfl⟩ := own_sl hm3
        have M3 := hid hm3
        have BC3 := hid hb
        have I3 := hid (A3.out _ (below_next B.out hb))
        clear hm3 hb
        go_wp2_with (at_builtin; go_must (refine Sg.wpList_cat rfl _ _ rfl wr.heap.size (pl true k) ni _ _ _ inf rfl M3.out rfl I3.out (by omega) BC3.out.size ?_))
        intro m4 w4 hm4 hg4
        have M4 := hid hm4
        have BC4 := hid (Sh.below_grow BC3.out BC3.out.size M3.out hg4)
        obtain ⟨na, nc, rfl⟩ := own_sl hm4
        clear hm4 hg4 M3 I3 BC3
        have OV := hid (own_below M4.out (below_alloc w4 (.cells #[.int .u8 ((k : Int) + 1)] 5)))
        have OL := hid (own_byte w4 ((k : Int) + 1) (by omega))
        have BC4a := hid (below_next BC4.out (below_alloc w4 (.cells #[.int .u8 ((k : Int) + 1)] 5)))
        go_wp2_with (at_builtin; go_must (refine Sg.wpList_cat rfl _ _ rfl wr.heap.size (pl true k + ni) 1 _ _ _ (fun _ => (k : Int) + 1) rfl OV.out rfl OL.out.reads (by omega) BC4a.out.size ?_))
        intro m5 w5 hm5 hg5
        have M5 := hid (show By.Own w5 wr.heap.size m5 (mln true ni k) (msgf true ni inf (tp true KP ni inf k) k) from hm5)
        have b5 := Sh.below_grow BC4a.out BC4a.out.size OV.out hg5
        have P5 := hid (own_below P.out b5)
        have O5 := hid (own_below O.out b5)
        have BW5 := hid (below_next BW.out b5)
        have B5 := hid (below_next B.out b5)
        have hml := mln_le true ni k
        obtain ⟨qa, qc, rfl⟩ := own_sl M5.out
        clear hm5 hg5 b5 OV OL M4 BC4 BC4a O P BW B LV
        go_wp2_with fail
        refine (ttag0 true 64 (mln true ni k) _ _ PF (msgf true ni inf (tp true KP ni inf k) k) _ (HK.out.below B5.out) P5.out.reads M5.out.reads (by omega) (by omega)).mono ?_
        rintro e w6 ⟨u6, rfl, hu, hb⟩
        have U6 := hid (show By.Own w6 w5.heap.size u6 (pl true (k + 1)) (tp true KP ni inf (k + 1)) from by rw [← HKP.out]; rw [← HKP.out] at *; exact hu)
        have O6 := hid (own_below O5.out hb)
        have BW6 := hid (below_next BW5.out hb)
        have N6 := hid (show ∀ p, (Value.slice oa ol oc).ownBlock = some p → u6.ownBlock ≠ some p from fun p hp e => by have h1 := own_lt O5.out p hp; have h2 := own_row U6.out p e; omega)
        have Z5 := hid (show wP.heap.size ≤ w5.heap.size from BW5.out.size)
        obtain ⟨ua, uc, rfl⟩ := own_sl U6.out
        rw [show pl true (k + 1) = 64 from rfl] at U6 N6 ⊢
        clear hu hb P5 O5 BW5 B5 M5
        go_wp2_with (at_builtin; go_must (refine wpList_catS rfl _ _ rfl wP.heap.size ol 64 _ _ _ _ rfl O6.out rfl U6.out.reads (by omega) BW6.out.size ?_))
        intro ov' w7 ho7 hk7 hs7
        have O7 := hid (show By.Own w7 wP.heap.size ov' (ol + 64) (okm true KP ni inf) from own_congr ho7 (okm_b _ _ _ _) (fun i hi => by
          have h := okm_cat true KP ni inf k 64 (Nat.le_refl _) i (by show i < k * 64 + 64; rw [HO.out]; exact hi)
          have h' : cat (k * 64) (okm true KP ni inf) (tp true KP ni inf (k + 1)) i = okm true KP ni inf i := h
          rw [HO.out] at h'
          exact h'))
        have U7 := hid (Sg.own_mono (Sg.own_kept U6.out hk7 (fun p hp e => N6.out p e hp)) Z5.out)
        have B7 := hid (show Below wP.heap.size wP w7 from BW6.out.trans (hk7.below BW6.out.size (fun j hj e => by have := own_row O6.out j e; omega)))
        have N7 := hid (show ∀ p, ov'.ownBlock = some p → (Value.slice ua 64 uc).ownBlock ≠ some p from fun p hp e => by
          rcases hs7 with h | h
          · exact N6.out p (h ▸ hp) e
          · have h1 := h p hp
            have h2 := own_lt U6.out p e
            omega)
        obtain ⟨ra, rc', rfl⟩ := own_sl O7.out
        clear ho7 hk7 hs7 O6 U6 BW6 N6
        go_wp2_with fail
        exact ⟨⟨k + 1, ol + 64, by rw [Nat.succ_mul, HO.out], by rfl, O7.out, U7.out, N7.out, B7.out, by omega⟩, by simp; omega⟩
      · have hlt' : ¬ (ol : Int) < (N : Int) := by omega
        have hoc := rb_cap O.out.reads
        clear LV NE P
        go_wp2_with fail
        refine (twin1 _ nk g _ (A1.out _ B.out) (by omega)).mono ?_
        rintro e w3 ⟨kv, rfl, hv, hb⟩
        have K3 := hid hv
        have O3 := hid (own_below O.out hb)
        have B3 := hid (below_next B.out hb)
        clear hv hb O B BW
        go_wp2_with fail
        refine (twin1 _ ns f _ (A2.out _ B3.out) (by omega)).mono ?_
        rintro e w4 ⟨sv, rfl, hv, hb⟩
        have S4 := hid hv
        have K4 := hid (own_below K3.out hb)
        have O4 := hid (own_below O3.out hb)
        have B4 := hid (below_next B3.out hb)
        clear hv hb O3 B3 K3
        go_wp2_with fail
        refine (twin1 _ ni inf _ (A3.out _ B4.out) (by omega)).mono ?_
        rintro e w5 ⟨iv, rfl, hv, hb⟩
        have I5 := hid hv
        have S5 := hid (own_below S4.out hb)
        have K5 := hid (own_below K4.out hb)
        have O5 := hid (own_below O4.out hb)
        have B5 := hid (below_next B4.out hb)
        clear hv hb O4 B4 K4 S4
        go_wp2_with fail
        refine (key0 true nk ns ni N _ _ _ g f inf _ (HK.out.below B5.out) K5.out.reads S5.out.reads I5.out.reads (by omega) (by omega) (by omega)).mono ?_
        rintro e w6 ⟨u, rfl, hu, hb⟩
        rw [xc_ok true N (by show N ≤ 255 * 64; omega)]
        rw [show xN true (N : Int) = N from by unfold xN; rw [if_pos (by show 0 ≤ (N : Int) ∧ (N : Int) ≤ ((255 * 64 : Nat) : Int); omega)]; omega] at hu
        have hu' : By.Own w6 w5.heap.size u N (okm true KP ni inf) := by rw [← HKP.out, ← HPF.out]; exact hu
        obtain ⟨ua, uc, rfl⟩ := own_sl hu'
        have B6 := hid (below_next B5.out hb)
        have O6 := own_below O5.out hb
        have hc1 := fun d => cvs (w := w6.drewN d) (hu'.reads.drewN d) (by omega)
        have hc2 := fun d => cvs (w := w6.drewN d) ((O6.reads.first N (by omega)).drewN d) (by omega)
        have hsl := fun W => xsub_h oa ol oc N W (by omega) hoc
        clear hu hu' hb O6
        go_wp2_with fail
        go_quiet (fail)
        go_wp2
        go_ret
        exact ⟨rfl, below_next B6.out (below_drewN w6 nq)⟩
  · have hs0' : (((ns : Nat) : Int) == 0) = false := beq_eq_false_iff_ne.2 (by omega)
    clear hs0
    go_enter Tryd.func5, Tryd.ntmps5
    go_wp2_with fail
    refine (twin1 _ ns f _ (A2.out _ (Below.refl _ _)) (by omega)).mono ?_
    rintro e wS ⟨sv, rfl, hsv, hb⟩
    obtain ⟨va, vc, rfl⟩ := own_sl hsv
    have SV := hid hsv
    have BS := hid hb
    clear hsv hb
    go_wp2_with fail
    refine (twin1 _ nk g _ (A1.out _ BS.out) (by omega)).mono ?_
    rintro e w2 ⟨kv, rfl, hkv, hb⟩
    have KV2 := hid hkv
    have SV2 := hid (own_below SV.out hb)
    have B2 := hid (below_next BS.out hb)
    clear hkv hb SV BS
    go_wp2_with fail
    refine (ttag0 true ns nk _ _ f g _ (HK.out.below B2.out) SV2.out.reads KV2.out.reads (by omega) (by omega)).mono ?_
    rintro e wP ⟨pv, rfl, hu, hb⟩
    have PV := hid (show By.Own wP w2.heap.size pv 64 PF from by rw [← HPF.out]; exact hu)
    have BP := hid (below_next B2.out hb)
    clear hu hb KV2 SV2 B2
    go_wp2_with fail
    go_loopw [15, 16, 17] (fun ov lv i wr => ∃ k ol : Nat, k * 64 = ol ∧ i = .int .i64 ((k : Int) + 1) ∧ By.Own wr wP.heap.size ov ol (okm true KP ni inf) ∧ By.Own wr wP.heap.size lv (pl true k) (tp true KP ni inf k) ∧ (∀ p, ov.ownBlock = some p → lv.ownBlock ≠ some p) ∧ Below wP.heap.size wP wr ∧ ol ≤ N + 64) (fun ov _ _ _ => N + 64 - (match ov with | .slice _ n _ => n | _ => 0))
    case atStart => exact ⟨0, 0, Nat.zero_mul _, rfl, own_nil _ _ _ (okm_b _ _ _ _), own_nil _ _ _ nof_b, fun p hp => by simp [Value.ownBlock] at hp, Below.refl _ _, by omega⟩
    case round =>
      obtain ⟨k, ol, hol, rfl, ho, hl, hne, hbw, hol2⟩ := hrel
      have hk8 : k ≤ 10 := by omega
      have hplk := pl_le true k
      have O := hid ho
      have LV := hid hl
      have NE := hid hne
      have BW := hid hbw
      have B := hid (below_next BP.out hbw)
      have P := hid (own_below PV.out hbw)
      have HO := hid hol
      obtain ⟨oa, oc, rfl⟩ := own_sl ho
      clear ho hl hne hbw hol
      by_cases hlt : ol < N
      · have hlt' : (ol : Int) < (N : Int) := by omega
        have HK8 := hid hk8
        have hkm : ((k : Int) + 1) % 256 = (k : Int) + 1 := by omega
        go_wp2_with fail
        refine (twin1 _ (pl true k) _ _ LV.out.reads (by omega)).mono ?_
        rintro e w3 ⟨mv, rfl, hm3, hb⟩
        obtain ⟨ma, mc, rfl⟩ := own_sl hm3
        have M3 := hid hm3
        have BC3 := hid hb
        have I3 := hid (A3.out _ (below_next B.out hb))
        clear hm3 hb
        go_wp2_with (at_builtin; go_must (refine Sg.wpList_cat rfl _ _ rfl wr.heap.size (pl true k) ni _ _ _ inf rfl M3.out rfl I3.out (by omega) BC3.out.size ?_))
        intro m4 w4 hm4 hg4
        have M4 := hid hm4
        have BC4 := hid (Sh.below_grow BC3.out BC3.out.size M3.out hg4)
        obtain ⟨na, nc, rfl⟩ := own_sl hm4
        clear hm4 hg4 M3 I3 BC3
        have OV := hid (own_below M4.out (below_alloc w4 (.cells #[.int .u8 ((k : Int) + 1)] 5)))
        have OL := hid (own_byte w4 ((k : Int) + 1) (by omega))
        have BC4a := hid (below_next BC4.out (below_alloc w4 (.cells #[.int .u8 ((k : Int) + 1)] 5)))
        go_wp2_with (at_builtin; go_must (refine Sg.wpList_cat rfl _ _ rfl wr.heap.size (pl true k + ni) 1 _ _ _ (fun _ => (k : Int) + 1) rfl OV.out rfl OL.out.reads (by omega) BC4a.out.size ?_))
        intro m5 w5 hm5 hg5
        have M5 := hid (show By.Own w5 wr.heap.size m5 (mln true ni k) (msgf true ni inf (tp true KP ni inf k) k) from hm5)
        have b5 := Sh.below_grow BC4a.out BC4a.out.size OV.out hg5
        have P5 := hid (own_below P.out b5)
        have O5 := hid (own_below O.out b5)
        have BW5 := hid (below_next BW.out b5)
        have B5 := hid (below_next B.out b5)
        have hml := mln_le true ni k
        obtain ⟨qa, qc, rfl⟩ := own_sl M5.out
        clear hm5 hg5 b5 OV OL M4 BC4 BC4a O P BW B LV
        go_wp2_with fail
        refine (ttag0 true 64 (mln true ni k) _ _ PF (msgf true ni inf (tp true KP ni inf k) k) _ (HK.out.below B5.out) P5.out.reads M5.out.reads (by omega) (by omega)).mono ?_
        rintro e w6 ⟨u6, rfl, hu, hb⟩
        have U6 := hid (show By.Own w6 w5.heap.size u6 (pl true (k + 1)) (tp true KP ni inf (k + 1)) from by rw [← HKP.out]; rw [← HKP.out] at *; exact hu)
        have O6 := hid (own_below O5.out hb)
        have BW6 := hid (below_next BW5.out hb)
        have N6 := hid (show ∀ p, (Value.slice oa ol oc).ownBlock = some p → u6.ownBlock ≠ some p from fun p hp e => by have h1 := own_lt O5.out p hp; have h2 := own_row U6.out p e; omega)
        have Z5 := hid (show wP.heap.size ≤ w5.heap.size from BW5.out.size)
        obtain ⟨ua, uc, rfl⟩ := own_sl U6.out
        rw [show pl true (k + 1) = 64 from rfl] at U6 N6 ⊢
        clear hu hb P5 O5 BW5 B5 M5
        go_wp2_with (at_builtin; go_must (refine wpList_catS rfl _ _ rfl wP.heap.size ol 64 _ _ _ _ rfl O6.out rfl U6.out.reads (by omega) BW6.out.size ?_))
        intro ov' w7 ho7 hk7 hs7
        have O7 := hid (show By.Own w7 wP.heap.size ov' (ol + 64) (okm true KP ni inf) from own_congr ho7 (okm_b _ _ _ _) (fun i hi => by
          have h := okm_cat true KP ni inf k 64 (Nat.le_refl _) i (by show i < k * 64 + 64; rw [HO.out]; exact hi)
          have h' : cat (k * 64) (okm true KP ni inf) (tp true KP ni inf (k + 1)) i = okm true KP ni inf i := h
          rw [HO.out] at h'
          exact h'))
        have U7 := hid (Sg.own_mono (Sg.own_kept U6.out hk7 (fun p hp e => N6.out p e hp)) Z5.out)
        have B7 := hid (show Below wP.heap.size wP w7 from BW6.out.trans (hk7.below BW6.out.size (fun j hj e => by have := own_row O6.out j e; omega)))
        have N7 := hid (show ∀ p, ov'.ownBlock = some p → (Value.slice ua 64 uc).ownBlock ≠ some p from fun p hp e => by
          rcases hs7 with h | h
          · exact N6.out p (h ▸ hp) e
          · have h1 := h p hp
            have h2 := own_lt U6.out p e
            omega)
        obtain ⟨ra, rc', rfl⟩ := own_sl O7.out
        clear ho7 hk7 hs7 O6 U6 BW6 N6
        go_wp2_with fail
        exact ⟨⟨k + 1, ol + 64, by rw [Nat.succ_mul, HO.out], by rfl, O7.out, U7.out, N7.out, B7.out, by omega⟩, by simp; omega⟩
      · have hlt' : ¬ (ol : Int) < (N : Int) := by omega
        have hoc := rb_cap O.out.reads
        clear LV NE P
        go_wp2_with fail
        refine (twin1 _ nk g _ (A1.out _ B.out) (by omega)).mono ?_
        rintro e w3 ⟨kv, rfl, hv, hb⟩
        have K3 := hid hv
        have O3 := hid (own_below O.out hb)
        have B3 := hid (below_next B.out hb)
        clear hv hb O B BW
        go_wp2_with fail
        refine (twin1 _ ns f _ (A2.out _ B3.out) (by omega)).mono ?_
        rintro e w4 ⟨sv, rfl, hv, hb⟩
        have S4 := hid hv
        have K4 := hid (own_below K3.out hb)
        have O4 := hid (own_below O3.out hb)
        have B4 := hid (below_next B3.out hb)
        clear hv hb O3 B3 K3
        go_wp2_with fail
        refine (twin1 _ ni inf _ (A3.out _ B4.out) (by omega)).mono ?_
        rintro e w5 ⟨iv, rfl, hv, hb⟩
        have I5 := hid hv
        have S5 := hid (own_below S4.out hb)
        have K5 := hid (own_below K4.out hb)
        have O5 := hid (own_below O4.out hb)
        have B5 := hid (below_next B4.out hb)
        clear hv hb O4 B4 K4 S4
        go_wp2_with fail
        refine (key0 true nk ns ni N _ _ _ g f inf _ (HK.out.below B5.out) K5.out.reads S5.out.reads I5.out.reads (by omega) (by omega) (by omega)).mono ?_
        rintro e w6 ⟨u, rfl, hu, hb⟩
        rw [xc_ok true N (by show N ≤ 255 * 64; omega)]
        rw [show xN true (N : Int) = N from by unfold xN; rw [if_pos (by show 0 ≤ (N : Int) ∧ (N : Int) ≤ ((255 * 64 : Nat) : Int); omega)]; omega] at hu
        have hu' : By.Own w6 w5.heap.size u N (okm true KP ni inf) := by rw [← HKP.out, ← HPF.out]; exact hu
        obtain ⟨ua, uc, rfl⟩ := own_sl hu'
        have B6 := hid (below_next B5.out hb)
        have O6 := own_below O5.out hb
        have hc1 := fun d => cvs (w := w6.drewN d) (hu'.reads.drewN d) (by omega)
        have hc2 := fun d => cvs (w := w6.drewN d) ((O6.reads.first N (by omega)).drewN d) (by omega)
        have hsl := fun W => xsub_h oa ol oc N W (by omega) hoc
        clear hu hu' hb O6
        go_wp2_with fail
        go_quiet (fail)
        go_wp2
        go_ret
        exact ⟨rfl, below_next B6.out (below_drewN w6 nq)⟩
end Go.Proofs.YtkmkbofokoimkaaDoor.Dg
