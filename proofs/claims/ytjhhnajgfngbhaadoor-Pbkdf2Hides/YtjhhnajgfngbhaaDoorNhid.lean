/- The law Pbkdf2Hides. -/
import Derived.Test.YtjhhnajgfngbhaaDoorNaw
import Derived.Test.YtjhhnajgfngbhaaDoorIpk0
namespace Go.Proofs.YtjhhnajgfngbhaaDoor.Dg
open Go.ChangeShapes Go.WideShapes Go.ChangeAt Go.RowKit
open Go.Proofs.YtjhhnajgfngbhaaDoor.By
open Go.Proofs.YtjhhnajgfngbhaaDoor.Sh (Blk size_alloc)
/-- Key records at least two events. -/
theorem kl_two (a : Bool) (np ns : Nat) (c n : Int) (h : kok c n) (hp : np ≤ 140737488353328) (hs : ns ≤ 1000000) : 2 ≤ tot (kl a [] np ns c n) := by
  have h' := h
  unfold kok at h'
  rw [show kl a [] np ns c n = del a [] np ns c.toNat (qp a n.toNat) from if_pos h]
  have t0 : tq ([] : List Rn) = 0 := tq_nil
  have hP := keP a Sg.pos_nil' np
  have h1 := ke_fine a Sg.pos_nil' np hp (by omega)
  have h2 := kev_fine a Sg.pos_nil' np hp (by omega)
  have q := bes_le a ns c.toNat (qp a n.toNat) hs (by omega) (by have := qp_511 a n.toNat (by omega); omega)
  have m1 := evs_more a (kevP a Sg.pos_nil' np) (qp a n.toNat * be a ns c.toNat) (by omega) (by omega)
  have m2 := evs_more a hP 2 (by omega) (by omega)
  have m3 := tot_nn hP
  have m4 : tot (kev a [] np) = tot (evs a (ke a [] np) 2) := rfl
  unfold del
  omega
theorem Ko.ownB {W W' : World} (hk : Ko W W') {base n : Nat} {v : Value} {f : Nat → Int} (ho : By.Own W base v n f) : By.Own W' base v n f := hk.own ho
set_option maxRecDepth 8000 in
set_option maxHeartbeats 8000000 in
theorem hides_on (a : Bool) (ka sa : Option Addr) (np pc ns sc : Nat) (g f : Nat → Int) (x c n : Int) (hx : 0 ≤ x ∧ x < 256) (w : World) (hr : By.RB w (.slice ka np pc) np g) (hr2 : By.RB w (.slice sa ns sc) ns f) (hk : KT w) (hn : np ≤ 140737488351232) (hns : ns ≤ 140737488351232) :
    Calls Tryd.prog 5 #[.bool a, .slice ka np pc, .slice sa ns sc, .int .u8 x, .int .i64 c, .int .i64 n] w fun e w' => e = .returned (.bool true) ∧ Below w.heap.size w w' := by
  have HK := hid hk
  have HX := hid hx
  have A1 := hid (show ∀ w', Below w.heap.size w w' → By.RB w' (.slice ka np pc) np g from fun w' hb => hr.below hb)
  have A2 := hid (show ∀ w', Below w.heap.size w w' → By.RB w' (.slice sa ns sc) ns f from fun w' hb => hr2.below hb)
  clear hr hr2 hx
  obtain ⟨s, hs⟩ : ∃ s, sz a = s := ⟨_, rfl⟩
  have HA := hid (fun w => alg1 a w)
  rw [hs] at HA
  have PC := hid (fun w => pickN c 8 (by omega) (by omega) w)
  have PN := hid (fun w => pickN n 200 (by omega) (by omega) w)
  have hB1 := tq_nil
  clear hk hs
  by_cases h1 : np ≤ 3000
  · by_cases h2 : ns ≤ 3000
    · have h1' : ¬ (3000 : Int) < (np : Int) := by omega
      have h2' : ¬ (3000 : Int) < (ns : Int) := by omega
      go_enter Tryd.func5, Tryd.ntmps5
      go_wp2_with fail
      refine (awake1 _ HK.out).mono ?_
      rintro e w1 ⟨rfl, hb⟩
      have B1 := hid hb
      clear hb
      go_wp2_with fail
      refine (HA.out _).mono ?_
      rintro e ww ⟨rfl, hw⟩
      subst ww
      go_wp2_with fail
      refine (PC.out _).mono ?_
      rintro e ww ⟨⟨C, hC, rfl⟩, hw⟩
      subst ww
      go_wp2_with fail
      refine (PN.out _).mono ?_
      rintro e ww ⟨⟨N, hN, rfl⟩, hw⟩
      subst ww
      go_wp2_with fail
      refine (copy16 _ np g _ (A1.out _ B1.out) (by omega)).mono ?_
      rintro e w2 ⟨pv, rfl, ho, hb⟩
      obtain ⟨pa, qc, rfl⟩ := own_sl ho
      have O2 := hid ho
      have Z1 := hid B1.out.size
      have B2 := hid (below_next B1.out hb)
      clear ho hb B1
      go_wp2_with fail
      refine (copy16 _ ns f _ (A2.out _ B2.out) (by omega)).mono ?_
      rintro e w3 ⟨sv, rfl, ho, hb⟩
      obtain ⟨ta, tc, rfl⟩ := own_sl ho
      have S3 := hid ho
      have O3 := hid (own_below O2.out hb)
      have B3 := hid (below_next B2.out hb)
      have NE := hid (show ∀ p, (Value.slice pa np qc).ownBlock = some p → (Value.slice ta ns tc).ownBlock ≠ some p from fun p hp e => by have h1 := own_lt O2.out p hp; have h2 := own_row ho p e; omega)
      have Z2 := hid B2.out.size
      clear ho hb B2
      have PW := hid (Sg.own_mono O3.out (by have := Z1.out; omega))
      have SW := hid (Sg.own_mono S3.out Z2.out)
      clear O2 O3 S3
      go_wp2_with fail
      go_loopw [18] (fun i wr => ∃ k : Nat, k ≤ np ∧ i = .int .i64 k ∧ By.Own wr w.heap.size (.slice pa np qc) np (fun j => if j < k then x else g j) ∧ By.Own wr w.heap.size (.slice ta ns tc) ns f ∧ Below w.heap.size w wr) (fun i _ => np - (intOf i).toNat)
      case atStart => exact ⟨0, Nat.zero_le _, rfl, PW.out, SW.out, B3.out⟩
      case round =>
        clear PW SW B3
        obtain ⟨k, hk, rfl, ho, ht, hb⟩ := hrel
        by_cases hlt : k < np
        · obtain ⟨gp, cp, ep, -⟩ := own_cells ho (by omega)
          cases ep
          have hcell := ho.2.cellAt k (by omega)
          rw [bl_get _ _ _ hlt] at hcell
          have hfz := ho.2.frozenAt k
          have OW := hid ho
          have TW := hid ht
          have BW := hid hb
          clear ho ht hb
          have hlt' : (k : Int) < (np : Int) := by omega
          go_wp2_with fail
          have S := own_store OW.out k x HX.out
          refine ⟨⟨k + 1, by omega, by go_num, own_congr S.1 (fun i => ?_) (fun i hi => ?_), Sg.own_kept TW.out (Kp.of_grown S.2) (fun p hp e => NE.out gp rfl (by rw [hp]; exact e.symm ▸ rfl)), ?_⟩, by simp [intOf]; omega⟩
          · show 0 ≤ (if i < k + 1 then x else g i) ∧ (if i < k + 1 then x else g i) < 256
            split
            · exact HX.out
            · have h := OW.out.1 i
              dsimp only at h
              rw [if_neg (by omega)] at h
              exact h
          · show (if i = k then x else if i < k then x else g i) = if i < k + 1 then x else g i
            by_cases h : i = k
            · subst h; rw [if_pos rfl, if_pos (by omega)]
            · rw [if_neg h]; by_cases h2 : i < k
              · rw [if_pos h2, if_pos (by omega)]
              · rw [if_neg h2, if_neg (by omega)]
          · exact BW.out.grown S.2 BW.out.size (own_row OW.out)
        · have hlt' : ¬ (k : Int) < (np : Int) := by omega
          have P4 := hid (own_congr ho (fun _ => HX.out) (fun j hj => by rw [if_pos (by omega)]))
          have SW := hid ht
          have B4 := hid hb
          clear ho ht hb
          go_wp2_with fail
          go_loopw [19] (fun i wr => ∃ k : Nat, k ≤ ns ∧ i = .int .i64 k ∧ By.Own wr w.heap.size (.slice pa np qc) np (fun _ => x) ∧ By.Own wr w.heap.size (.slice ta ns tc) ns (fun j => if j < k then x else f j) ∧ Below w.heap.size w wr) (fun i _ => ns - (intOf i).toNat)
          case atStart => exact ⟨0, Nat.zero_le _, rfl, P4.out, SW.out, B4.out⟩
          case round =>
            clear P4 SW B4
            obtain ⟨l, hl, rfl, ho, ht, hb⟩ := hrel
            by_cases hlt2 : l < ns
            · obtain ⟨gp, cp, ep, -⟩ := own_cells ht (by omega)
              cases ep
              have hcell := ht.2.cellAt l (by omega)
              rw [bl_get _ _ _ hlt2] at hcell
              have hfz := ht.2.frozenAt l
              have OW := hid ho
              have TW := hid ht
              have BW := hid hb
              clear ho ht hb
              have hlt2' : (l : Int) < (ns : Int) := by omega
              go_wp2_with fail
              have S := own_store TW.out l x HX.out
              refine ⟨⟨l + 1, by omega, by go_num, Sg.own_kept OW.out (Kp.of_grown S.2) (fun p hp e => NE.out p hp e), own_congr S.1 (fun i => ?_) (fun i hi => ?_), ?_⟩, by simp [intOf]; omega⟩
              · show 0 ≤ (if i < l + 1 then x else f i) ∧ (if i < l + 1 then x else f i) < 256
                split
                · exact HX.out
                · have h := TW.out.1 i
                  dsimp only at h
                  rw [if_neg (by omega)] at h
                  exact h
              · show (if i = l then x else if i < l then x else f i) = if i < l + 1 then x else f i
                by_cases h : i = l
                · subst h; rw [if_pos rfl, if_pos (by omega)]
                · rw [if_neg h]; by_cases h2 : i < l
                  · rw [if_pos h2, if_pos (by omega)]
                  · rw [if_neg h2, if_neg (by omega)]
              · exact BW.out.grown S.2 BW.out.size (own_row TW.out)
            · have hlt2' : ¬ (l : Int) < (ns : Int) := by omega
              have P5 := hid ho
              have S5 := hid (own_congr ht (fun _ => HX.out) (fun j hj => by rw [if_pos (by omega)]))
              have G5 := hid ((GM.start w HK.out).below hb)
              clear ho ht hb
              go_wp2_with fail
              refine (new9 _).mono ?_
              rintro e w6 ⟨rfl, hl, hb⟩
              have G6 := hid (G5.out.addLed hb (o := true) hl)
              rw [List.nil_append] at G6
              have P6 := hid (own_below P5.out hb)
              have S6 := hid (own_below S5.out hb)
              clear hl hb G5 P5 S5
              go_wp2_with fail
              refine (new9 _).mono ?_
              rintro e w7 ⟨rfl, hl, hb⟩
              have G7 := hid (G6.out.addLed hb (o := true) hl)
              rw [List.singleton_append] at G7
              have P7 := hid (own_below P6.out hb)
              have S7 := hid (own_below S6.out hb)
              clear hl hb G6 P6 S6
              have KO := hid (show kok (1 + (C : Int)) (N : Int) by unfold kok; omega)
              go_wp2_with fail
              refine (GM.pkey (l1 := []) G7.out a np ns (1 + (C : Int)) N _ _ g f (GM.rdA (l1 := []) G7.out A1.out) (GM.rdA (l1 := []) G7.out A2.out) (by omega) (fun _ => by omega) (by omega)).mono ?_
              rintro e w8 ⟨u8, rv8, rfl, hu, hg, hko⟩
              rw [kc_ok KO.out]
              obtain ⟨ua8, uc8, rfl⟩ := own_sl hu
              have G8 := hid hg
              have P8 := hid (hko.ownB P7.out)
              have S8 := hid (hko.ownB S7.out)
              clear hu hg hko G7 P7 S7
              go_wp2_with fail
              refine (GM.pkey (l1 := [_]) (l2 := []) G8.out a np ns (1 + (C : Int)) N _ _ (fun _ => x) (fun _ => x) (GM.rdO (l1 := [_]) (l2 := []) G8.out P8.out) (GM.rdO (l1 := [_]) (l2 := []) G8.out S8.out) (by omega) (fun _ => by omega) (by omega)).mono ?_
              rintro e w9 ⟨u9, rv9, rfl, hu, hg, hko⟩
              rw [kc_ok KO.out]
              obtain ⟨ua9, uc9, rfl⟩ := own_sl hu
              obtain ⟨LL, hLL⟩ : ∃ y, kl a [] np ns (1 + (C : Int)) (N : Int) = y := ⟨_, rfl⟩
              have TL := hid (show LL.length < 5000000000 by rw [← hLL]; have h1 := kl_fine a Sg.pos_nil' np ns (1 + (C : Int)) (N : Int) (by omega) (fun _ => by omega) (by omega); have h2 := tq_len (kl a [] np ns (1 + (C : Int)) (N : Int)); omega)
              have TT := hid (show 2 ≤ tot LL by rw [← hLL]; exact kl_two a np ns _ _ KO.out (by omega) (by omega))
              rw [hLL, List.singleton_append] at hg
              have G9 := hid hg
              clear hu hg hko hLL G8 P8 S8
              go_wp2_with fail
              refine (len20 _ _ _ _ (GM.midL (l1 := []) G9.out).1).mono ?_
              rintro e w10 ⟨rfl, hw⟩
              subst w10
              have ht := TT.out
              go_wp2_with fail
              refine (runs22 _ _ _ _ (GM.midL (l1 := []) G9.out).1 (by have := TL.out; omega)).mono ?_
              rintro e w11 ⟨r11, rfl, ho, hb⟩
              have R11 := hid ho
              have G11 := hid (G9.out.below hb)
              clear ho hb G9
              go_wp2_with fail
              refine (runs22 _ _ _ _ (GM.midL (l1 := [_]) (l2 := []) G11.out).1 (by have := TL.out; omega)).mono ?_
              rintro e w12 ⟨r12, rfl, ho, hb⟩
              have S12 := hid ho
              have R12 := hid (R11.out.below hb)
              have G12 := hid (G11.out.below hb)
              clear ho hb G11 R11
              go_wp2_with fail
              refine (same14 _ _ LL LL _ R12.out.reads S12.out.reads (by have := TL.out; omega) (by have := TL.out; omega)).mono ?_
              rw [decide_eq_true (show LL = LL from rfl)]
              rintro e w13 ⟨rfl, d13, hw⟩
              have G13 := hid (G12.out.below (show Below w12.heap.size w12 w13 by rw [hw]; exact below_drewN w12 d13))
              clear hw G12 R12 S12
              go_wp2
              go_ret
              exact ⟨rfl, G13.out.bel⟩
    · have h2' : (3000 : Int) < (ns : Int) := by omega
      have h1' : ¬ (3000 : Int) < (np : Int) := by omega
      go_enter Tryd.func5, Tryd.ntmps5
      go_wp2_with fail
      refine (awake1 _ HK.out).mono ?_
      rintro e w1 ⟨rfl, hb⟩
      have B1 := hid hb
      clear hb
      go_wp2
      go_ret
      exact ⟨rfl, B1.out⟩
  · have h1' : (3000 : Int) < (np : Int) := by omega
    go_enter Tryd.func5, Tryd.ntmps5
    go_wp2_with fail
    refine (awake1 _ HK.out).mono ?_
    rintro e w1 ⟨rfl, hb⟩
    have B1 := hid hb
    clear hb
    go_wp2
    go_ret
    exact ⟨rfl, B1.out⟩
end Go.Proofs.YtjhhnajgfngbhaaDoor.Dg
