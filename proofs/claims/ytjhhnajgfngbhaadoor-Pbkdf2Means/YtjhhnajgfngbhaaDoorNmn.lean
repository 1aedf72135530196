/- The law Pbkdf2Means. -/
import Derived.Test.YtjhhnajgfngbhaaDoorNaw
import Derived.Test.YtjhhnajgfngbhaaDoorIpk0
namespace Go.Proofs.YtjhhnajgfngbhaaDoor.Dg
open Go.ChangeShapes Go.WideShapes Go.ChangeAt Go.RowKit
open Go.Proofs.YtjhhnajgfngbhaaDoor.By
open Go.Proofs.YtjhhnajgfngbhaaDoor.Sh (Blk size_alloc)
theorem pickL (i : Int) (N : Nat) (h0 : 0 < N) (h1 : N ≤ 4294967296) (w : World) :
    Calls Tryd.prog 9 #[.int .i64 i, .int .i64 N] w fun e w' => (∃ p : Nat, p < N ∧ e = .returned (.int .i64 p)) ∧ w' = w := by
  have hN : (0 : Int) < N := by omega
  have a1 := Int.tmod_lt_of_pos i hN
  have a2 : - (N : Int) < i.tmod N := by
    have := Int.lt_tmod_of_pos i hN
    omega
  have nz : ¬ (N : Int) = 0 := by omega
  have nz2 : ¬ N = 0 := by omega
  obtain ⟨q, hq⟩ : ∃ q, i.tmod N = q := ⟨_, rfl⟩
  rw [hq] at a1 a2
  have w1 : IntKind.i64.wrap q = q := by rw [IntKind.wrap_i64]; omega
  by_cases hlt : q < 0
  · have w2 : IntKind.i64.wrap (q + N) = q + N := by rw [IntKind.wrap_i64]; omega
    go_enter Tryd.func9, Tryd.ntmps9
    go_wp2
    go_ret
    exact ⟨⟨(q + N).toNat, by omega, by rw [show (((q + N).toNat : Nat) : Int) = q + N by omega]; rfl⟩, rfl⟩
  · go_enter Tryd.func9, Tryd.ntmps9
    go_wp2
    go_ret
    exact ⟨⟨q.toNat, by omega, by rw [show ((q.toNat : Nat) : Int) = q by omega]; rfl⟩, rfl⟩
theorem ptag0 (a : Bool) (n np : Nat) (v v2 : Value) (g f : Nat → Int) (w : World) (hk : KT w) (hr : By.RB w v n g) (hr2 : By.RB w v2 np f) (hn : n ≤ 140737488352328) (hnp : np ≤ 140737488352328) :
    Calls Tryd.prog 11 #[.pointer none, .int .u8 (an a), v, v2] w fun e w' => ∃ u, e = .returned (.tuple #[u, .int .i64 0]) ∧ By.Own w' w.heap.size u (sz a) (hm a (kb a n g) np f) ∧ Below w.heap.size w w' := by
  refine (tagM a n np v v2 g f none [] (fun _ => False) w hk id id trivial Sg.pos_nil' (fun w' hk' => hr.below (Sg.below_kp hk')) (fun w' hk' => hr2.below (Sg.below_kp hk')) hn hnp (by decide)).mono ?_
  rintro e w' ⟨u, rfl, g1, -, g3⟩
  exact ⟨u, rfl, g1, Sg.below_kp g3⟩
theorem own4 (i : Nat) (W : World) : By.Own (W.alloc (.cells #[.int .u8 ((i : Int) / 16777216 % 256), .int .u8 ((i : Int) / 65536 % 256), .int .u8 ((i : Int) / 256 % 256), .int .u8 ((i : Int) % 256)] 5)) W.heap.size (.slice (some ⟨W.heap.size, 0, none⟩) 4 4) 4 (i4 i) := by
  refine By.own_lit W _ 4 _ (i4_b i) (by decide) rfl ?_
  show [Value.int .u8 ((i : Int) / 16777216 % 256), .int .u8 ((i : Int) / 65536 % 256), .int .u8 ((i : Int) / 256 % 256), .int .u8 ((i : Int) % 256)] = bl 4 (i4 i)
  rw [show bl 4 (i4 i) = [Value.int .u8 (i4 i 0), .int .u8 (i4 i 1), .int .u8 (i4 i 2), .int .u8 (i4 i 3)] from rfl]
  have e0 : i4 i 0 = (i : Int) / 16777216 % 256 := by unfold i4; rw [show 256 ^ (3 - 0) = 16777216 from rfl]; omega
  have e1 : i4 i 1 = (i : Int) / 65536 % 256 := by unfold i4; rw [show 256 ^ (3 - 1) = 65536 from rfl]; omega
  have e2 : i4 i 2 = (i : Int) / 256 % 256 := by unfold i4; rw [show 256 ^ (3 - 2) = 256 from rfl]; omega
  have e3 : i4 i 3 = (i : Int) % 256 := by unfold i4; rw [show 256 ^ (3 - 3) = 1 from rfl]; omega
  rw [e0, e1, e2, e3]
set_option maxRecDepth 8000 in
set_option maxHeartbeats 8000000 in
theorem means_on (a : Bool) (ka sa : Option Addr) (np pc ns sc : Nat) (g f : Nat → Int) (c i : Int) (w : World) (hr : By.RB w (.slice ka np pc) np g) (hr2 : By.RB w (.slice sa ns sc) ns f) (hk : KT w) (hn : np ≤ 140737488351232) (hns : ns ≤ 140737488351232) :
    Calls Tryd.prog 3 #[.bool a, .slice ka np pc, .slice sa ns sc, .int .i64 c, .int .i64 i] w fun e w' => e = .returned (.bool true) ∧ Below w.heap.size w w' := by
  have HK := hid hk
  have A1 := hid (show ∀ w', Below w.heap.size w w' → By.RB w' (.slice ka np pc) np g from fun w' hb => hr.below hb)
  have A2 := hid (show ∀ w', Below w.heap.size w w' → By.RB w' (.slice sa ns sc) ns f from fun w' hb => hr2.below hb)
  clear hr hr2
  obtain ⟨s, hs⟩ : ∃ s, sz a = s := ⟨_, rfl⟩
  have hs1 : 32 ≤ s := by rw [← hs]; cases a <;> decide
  have hs2 : s ≤ 64 := by rw [← hs]; exact sz_le a
  have HA := hid (fun w => alg1 a w)
  rw [hs] at HA
  have PC := hid (fun w => pickN c 40 (by omega) (by omega) w)
  have PN := hid (fun w => pickL i 4294967295 (by omega) (by omega) w)
  have HS := hid hs
  clear hk hs
  by_cases h1 : np ≤ 3000
  · by_cases h2 : ns ≤ 3000
    · have h1' : ¬ (3000 : Int) < (np : Int) := by omega
      have h2' : ¬ (3000 : Int) < (ns : Int) := by omega
      go_enter Tryd.func3, Tryd.ntmps3
      go_wp2_with fail
      refine (awake1 _ HK.out).mono ?_
      rintro e w1 ⟨rfl, hb⟩
      have B1 := hid hb
      clear hb
      go_wp2_with fail
      refine (HA.out _).mono ?_
      rintro e ww ⟨rfl, hw⟩
      subst ww
      go_wp2_with fail
      refine (PC.out _).mono ?_
      rintro e ww ⟨⟨C, hC, rfl⟩, hw⟩
      subst ww
      go_wp2_with fail
      refine (PN.out _).mono ?_
      rintro e ww ⟨⟨I, hI, rfl⟩, hw⟩
      subst ww
      obtain ⟨c1, hc1⟩ : ∃ c1, 1 + C = c1 := ⟨_, rfl⟩
      obtain ⟨i1, hi1⟩ : ∃ i1, 1 + I = i1 := ⟨_, rfl⟩
      have hci : (1 : Int) + (C : Int) = (c1 : Int) := by omega
      have hii : (1 : Int) + (I : Int) = (i1 : Int) := by omega
      have hw1 : IntKind.i64.wrap ((1 : Int) + (I : Int)) = (i1 : Int) := by rw [IntKind.wrap_i64]; omega
      have hib : i1 ≤ 4294967295 := by omega
      have hcb : c1 ≤ 40 := by omega
      have hcb1 : 1 ≤ c1 := by omega
      have hib1 : 1 ≤ i1 := by omega
      rw [hci]
      clear hci hc1 hi1 hC hI
      go_wp2_with fail
      clear hii hw1
      refine (pblk0k a np ns c1 i1 _ _ g f _ (HK.out.below B1.out) (A1.out _ B1.out) (A2.out _ B1.out) (by omega) (by omega) (by omega) (by omega) (by omega) (by omega)).mono ?_
      rintro e w2 ⟨u2, rfl, hu, hb⟩
      rw [HS.out] at hu
      obtain ⟨ga, gc, rfl⟩ := own_sl hu
      have U2 := hid hu
      have ZU := hid B1.out.size
      have B2 := hid (below_next B1.out hb)
      clear hu hb B1
      go_wp2_with fail
      refine (copy16 _ ns f _ (A2.out _ B2.out) (by omega)).mono ?_
      rintro e w3 ⟨cv, rfl, ho, hb⟩
      obtain ⟨ca, cc, rfl⟩ := own_sl ho
      obtain ⟨arr, harr⟩ : ∃ arr, arr = (#[.int .u8 ((i1 : Int) / 16777216 % 256), .int .u8 ((i1 : Int) / 65536 % 256), .int .u8 ((i1 : Int) / 256 % 256), .int .u8 ((i1 : Int) % 256)] : Array Value) := ⟨_, rfl⟩
      have b4 := below_alloc w3 (.cells arr 5)
      have OV := hid (own_below ho b4)
      have OL := hid (own4 i1 w3)
      have Z4 := hid (show w2.heap.size ≤ (w3.alloc (.cells arr 5)).heap.size from Nat.le_trans hb.size b4.size)
      have B4c := hid (below_next hb b4)
      rw [harr] at OV Z4 B4c
      have HIB := hid hib
      have HIB1 := hid hib1
      clear ho hb b4 harr hib hib1
      go_wp2_with (at_builtin; go_must (refine Sg.wpList_cat rfl _ _ rfl w2.heap.size ns 4 _ _ f (i4 i1) rfl OV.out rfl OL.out.reads (by omega) Z4.out ?_))
      intro mv w5 hm5 hg5
      have M5 := hid (show By.Own w5 w2.heap.size mv (ns + 4) (sm ns f i1) from hm5)
      have b5 := Sh.below_grow B4c.out Z4.out OV.out hg5
      have ZV := hid (below_next B2.out b5).size
      have U5 := hid (own_below U2.out b5)
      have B5 := hid (below_next B2.out b5)
      obtain ⟨ma, mc, rfl⟩ := own_sl hm5
      clear hm5 hg5 b5 OV OL Z4 B4c B2 U2
      go_wp2_with fail
      refine (ptag0 a np (ns + 4) _ _ g (sm ns f i1) _ (HK.out.below B5.out) (A1.out _ B5.out) M5.out.reads (by omega) (by omega)).mono ?_
      rintro e w6 ⟨u6, rfl, hu, hb⟩
      have V6 := hid (show By.Own w6 w5.heap.size u6 s (uu a (kb a np g) ns f i1 0) from by rw [← HS.out]; exact hu)
      obtain ⟨va, vc, rfl⟩ := own_sl V6.out
      have U6 := hid (own_below U5.out hb)
      have B6 := hid (below_next B5.out hb)
      clear hu hb B5 U5 M5
      go_wp2_with fail
      refine (copy16 _ s _ _ V6.out.reads (by omega)).mono ?_
      rintro e w7 ⟨wv, rfl, ho, hb⟩
      obtain ⟨gw, cw, rfl, -⟩ := own_cells ho (by omega)
      have O7 := hid (show By.Own w7 w6.heap.size (.slice (some ⟨gw, 0, none⟩) s cw) s (xs a (kb a np g) ns f i1 0) from ho)
      have V7 := hid (own_below V6.out hb)
      have U7 := hid (own_below U6.out hb)
      have B7 := hid (below_next B6.out hb)
      have NGG := hid (show ∀ p, (Value.slice ga s gc).ownBlock = some p → p ≠ gw from fun p hp e => by have h1 := own_lt U6.out p hp; have h2 := own_row ho gw rfl; omega)
      have Z7 := hid (show w6.heap.size ≤ gw from own_row ho gw rfl)
      have N7 := hid (show ∀ p, (Value.slice va s vc).ownBlock = some p → p ≠ gw from fun p hp e => by have h1 := own_lt V6.out p hp; have h2 := own_row ho gw rfl; omega)
      have Z6 := hid B6.out.size
      clear ho hb B6 U6 V6
      go_wp2_with fail
      go_loopw [16, 19] (fun uv j wr => ∃ k : Nat, k + 1 ≤ c1 ∧ j = .int .i64 ((k : Int) + 1) ∧ By.Own wr w.heap.size uv s (uu a (kb a np g) ns f i1 k) ∧ By.Own wr w.heap.size (.slice (some ⟨gw, 0, none⟩) s cw) s (xs a (kb a np g) ns f i1 k) ∧ (∀ p, uv.ownBlock = some p → p ≠ gw) ∧ By.Own wr w.heap.size (.slice ga s gc) s (xs a (kb a np g) ns f i1 (c1 - 1)) ∧ Below w.heap.size w wr ∧ gw < wr.heap.size) (fun _ j _ => c1 - (intOf j).toNat)
      case atStart => exact ⟨0, by omega, rfl, Sg.own_mono V7.out (by have := ZV.out; omega), Sg.own_mono O7.out Z6.out, N7.out, Sg.own_mono U7.out ZU.out, B7.out, own_lt O7.out gw rfl⟩
      case round =>
        clear V7 O7 N7 U7 B7
        obtain ⟨k, hk, rfl, hu, hw, hne, hgot, hb, hgl⟩ := hrel
        obtain ⟨ra, rc', rfl⟩ := own_sl hu
        have B := hid hb
        have U := hid hu
        have W := hid hw
        have G := hid hgot
        have NE := hid hne
        have GL := hid hgl
        have HKL := hid hk
        clear hu hw hne hgot hb hgl hk
        by_cases hlt : k + 1 < c1
        · have hlt' : (k : Int) + 1 < (c1 : Int) := by omega
          go_wp2_with fail
          refine (ptag0 a np s _ _ g (uu a (kb a np g) ns f i1 k) _ (HK.out.below B.out) (A1.out _ B.out) U.out.reads (by omega) (by omega)).mono ?_
          rintro e w8 ⟨u8, rfl, hu, hb⟩
          have V8 := hid (show By.Own w8 wr.heap.size u8 s (uu a (kb a np g) ns f i1 (k + 1)) from by
            show By.Own w8 wr.heap.size u8 s (hm a (kb a np g) (sz a) (uu a (kb a np g) ns f i1 k))
            rw [HS.out] at hu ⊢
            exact hu)
          have N8 := hid (show ∀ p, u8.ownBlock = some p → p ≠ gw from fun p hp e => by have h1 := own_row V8.out p hp; have h2 := GL.out; omega)
          obtain ⟨ug, uc, rfl, -⟩ := own_cells V8.out (by omega)
          have W8 := hid (own_below W.out hb)
          have G8 := hid (own_below G.out hb)
          have B8 := hid (below_next B.out hb)
          have Z8 := hid (show w.heap.size ≤ wr.heap.size from B.out.size)
          have GL8 := hid (show gw < w8.heap.size from by have h1 := GL.out; have h2 := hb.size; omega)
          have NG := hid (N8.out ug rfl)
          have ZW := hid (own_row W.out gw rfl)
          clear hu hb U W G NE B GL
          go_wp2_with fail
          go_loopw [20] (fun j wq => ∃ q : Nat, q ≤ s ∧ j = .int .i64 q ∧ By.Own wq w.heap.size (.slice (some ⟨gw, 0, none⟩) s cw) s (fun i => if i < q then bx (xs a (kb a np g) ns f i1 k i) (uu a (kb a np g) ns f i1 (k + 1) i) else xs a (kb a np g) ns f i1 k i) ∧ w8.grownBy wq (some gw)) (fun j _ => s - (intOf j).toNat)
          case atStart => exact ⟨0, Nat.zero_le _, rfl, W8.out, World.grownBy.refl _ _⟩
          case round =>
            obtain ⟨q, hq, rfl, hown, hgr⟩ := hrel
            have HW := hid hown
            have HG := hid hgr
            by_cases hlq : q < s
            · have hlq' : (q : Int) < (s : Int) := by omega
              obtain ⟨X, hX⟩ : ∃ y, xs a (kb a np g) ns f i1 k = y := ⟨_, rfl⟩
              obtain ⟨Y, hY⟩ : ∃ y, uu a (kb a np g) ns f i1 (k + 1) = y := ⟨_, rfl⟩
              rw [hX, hY] at hown HW
              have HXX := hid hX
              have HYY := hid hY
              have hcell : wr.cell? ⟨gw, q, none⟩ = some (.int .u8 (X q)) := by
                rw [hown.2.cellAt q (by omega), bl_get _ _ _ hlq, if_neg (by omega)]
              have hfz := hown.2.frozenAt q
              have hux : wr.cell? ⟨ug, q, none⟩ = some (.int .u8 (Y q)) := by
                have hk' := Sg.own_kept V8.out (Kp.of_grown hgr) (fun p hp e => NG.out (by cases hp; exact (Option.some.inj e).symm))
                rw [hk'.2.cellAt q (by omega), bl_get _ _ _ hlq, hY]
              have XB := hid (show BB X from hX ▸ xs_b a (kb a np g) ns f i1 k)
              clear hown hgr hX hY
              obtain ⟨x, ex⟩ : ∃ x, X q = x := ⟨_, rfl⟩
              obtain ⟨y, ey⟩ : ∃ y, Y q = y := ⟨_, rfl⟩
              have EX := hid ex
              have EY := hid ey
              rw [ex] at hcell
              rw [ey] at hux
              clear ex ey
              go_wp2_with fail
              have HWd := hid (show By.Own wr.drew w.heap.size (.slice (some ⟨gw, 0, none⟩) s cw) s (fun i => if i < q then bx (X i) (Y i) else X i) from HW.out)
              have HGd := hid (show w8.grownBy wr.drew (some gw) from ⟨HG.out.os, HG.out.tape, HG.out.output, HG.out.size, HG.out.block⟩)
              go_region_law (fail)
              all_goals
                go_wp2_with fail
                have S := own_store HWd.out q (bx x y) (bx_b _ _)
                refine ⟨⟨q + 1, by omega, by go_num, ?_, grown_trans HGd.out S.2⟩, by simp [intOf]; omega⟩
                rw [HXX.out, HYY.out]
                refine own_congr S.1 (fun i => ?_) (fun i hi => ?_)
                · show 0 ≤ (if i < q + 1 then bx (X i) (Y i) else X i) ∧ (if i < q + 1 then bx (X i) (Y i) else X i) < 256
                  split
                  · exact bx_b _ _
                  · exact XB.out i
                · show (if i = q then bx x y else if i < q then bx (X i) (Y i) else X i) = if i < q + 1 then bx (X i) (Y i) else X i
                  by_cases h : i = q
                  · subst h; rw [if_pos rfl, if_pos (by omega), EX.out, EY.out]
                  · rw [if_neg h]; by_cases h2 : i < q
                    · rw [if_pos h2, if_pos (by omega)]
                    · rw [if_neg h2, if_neg (by omega)]
            · have hlq' : ¬ (q : Int) < (s : Int) := by omega
              have kg := Kp.of_grown hgr
              have W9 := hid (show By.Own wr w.heap.size (.slice (some ⟨gw, 0, none⟩) s cw) s (xs a (kb a np g) ns f i1 (k + 1)) from own_congr hown (xs_b a (kb a np g) ns f i1 (k + 1)) (fun i hi => by rw [if_pos (by omega)]; rfl))
              have V9 := hid (Sg.own_mono (Sg.own_kept V8.out kg (fun p hp e => N8.out p hp (Option.some.inj e).symm)) Z8.out)
              have G9 := hid (Sg.own_kept G8.out kg (fun p hp e => NGG.out p hp (Option.some.inj e).symm))
              have B9 := hid (B8.out.grown hgr B8.out.size (fun p hp => by rw [← Option.some.inj hp]; exact ZW.out))
              have GL9 := hid (show gw < wr.heap.size from Nat.lt_of_lt_of_le GL8.out kg.size)
              clear hown hgr kg HW HG V8 W8 G8 B8 GL8
              go_wp2_with fail
              exact ⟨⟨k + 1, by omega, by rfl, V9.out, W9.out, N8.out, G9.out, B9.out, GL9.out⟩, by simp [intOf]; omega⟩
        · have hlt' : ¬ (k : Int) + 1 < (c1 : Int) := by omega
          have ek := hid (show k = c1 - 1 by have := HKL.out; omega)
          go_wp2_with fail
          refine (same_true _ _ s _ _ _ G.out.reads W.out.reads (by omega) (fun j _ => by rw [ek.out])).mono ?_
          rintro e w9 ⟨rfl, d9, hw⟩
          have B9 := hid (below_next B.out (show Below wr.heap.size wr w9 by rw [hw]; exact below_drewN wr d9))
          clear hw
          go_wp2
          go_ret
          exact ⟨rfl, B9.out⟩
    · have h2' : (3000 : Int) < (ns : Int) := by omega
      have h1' : ¬ (3000 : Int) < (np : Int) := by omega
      go_enter Tryd.func3, Tryd.ntmps3
      go_wp2_with fail
      refine (awake1 _ HK.out).mono ?_
      rintro e w1 ⟨rfl, hb⟩
      have B1 := hid hb
      clear hb
      go_wp2
      go_ret
      exact ⟨rfl, B1.out⟩
  · have h1' : (3000 : Int) < (np : Int) := by omega
    go_enter Tryd.func3, Tryd.ntmps3
    go_wp2_with fail
    refine (awake1 _ HK.out).mono ?_
    rintro e w1 ⟨rfl, hb⟩
    have B1 := hid hb
    clear hb
    go_wp2
    go_ret
    exact ⟨rfl, B1.out⟩
end Go.Proofs.YtjhhnajgfngbhaaDoor.Dg
