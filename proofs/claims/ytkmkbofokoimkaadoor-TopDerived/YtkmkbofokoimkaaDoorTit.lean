/- TopDerived's helper iterates. -/
import Derived.Test.YtkmkbofokoimkaaDoorTtag
import Derived.Test.YtkmkbofokoimkaaDoorNks
namespace Go.Proofs.YtkmkbofokoimkaaDoor.Dg
open Go.ChangeShapes Go.WideShapes Go.ChangeAt Go.RowKit
open Go.Proofs.YtkmkbofokoimkaaDoor.By
open Go.Proofs.YtkmkbofokoimkaaDoor.Sh (Blk size_alloc)
theorem tkey0 (a : Bool) (np ns c N : Nat) (v v2 : Value) (g f : Nat → Int) (w : World) (hk : KT w) (hr : By.RB w v np g) (hr2 : By.RB w v2 ns f) (hn : np ≤ 140737488353328) (hns : ns ≤ 1000000) (hc1 : 1 ≤ c) (hc2 : c ≤ 1048576) (hN : N ≤ 16320) :
    Calls Tryd.prog 10 #[.pointer none, .int .u8 (an a), v, v2, .int .i64 c, .int .i64 N] w fun e w' => ∃ u, e = .returned (.tuple #[u, .int .i64 0]) ∧ By.Own w' w.heap.size u N (dk a (kb a np g) ns f c) ∧ Below w.heap.size w w' := by
  refine (pkey_ok a np ns c N v v2 g f none [] (fun _ => False) w hk id id trivial Sg.pos_nil' (fun w' hk' => hr.below (Sg.below_kp hk')) (fun w' hk' => hr2.below (Sg.below_kp hk')) hn hns hc1 hc2 hN (by decide)).mono ?_
  rintro e w' ⟨u, rfl, g1, -, g3⟩
  exact ⟨u, rfl, g1, Sg.below_kp g3⟩
theorem own4s (i : Nat) (hi : i < 256) (W : World) : By.Own (W.alloc (.cells #[.int .u8 0, .int .u8 0, .int .u8 0, .int .u8 (i : Int)] 5)) W.heap.size (.slice (some ⟨W.heap.size, 0, none⟩) 4 4) 4 (i4 i) := by
  refine By.own_lit W _ 4 _ (i4_b i) (by decide) rfl ?_
  show [Value.int .u8 0, .int .u8 0, .int .u8 0, .int .u8 (i : Int)] = bl 4 (i4 i)
  rw [show bl 4 (i4 i) = [Value.int .u8 (i4 i 0), .int .u8 (i4 i 1), .int .u8 (i4 i 2), .int .u8 (i4 i 3)] from rfl]
  have e0 : i4 i 0 = 0 := by unfold i4; rw [show 256 ^ (3 - 0) = 16777216 from rfl]; omega
  have e1 : i4 i 1 = 0 := by unfold i4; rw [show 256 ^ (3 - 1) = 65536 from rfl]; omega
  have e2 : i4 i 2 = 0 := by unfold i4; rw [show 256 ^ (3 - 2) = 256 from rfl]; omega
  have e3 : i4 i 3 = (i : Int) := by unfold i4; rw [show 256 ^ (3 - 3) = 1 from rfl]; omega
  rw [e0, e1, e2, e3]
set_option maxRecDepth 8000 in
set_option maxHeartbeats 8000000 in
theorem iterates1 (a : Bool) (ka sa : Option Addr) (np pc ns sc N C : Nat) (g f : Nat → Int) (w : World) (hr : By.RB w (.slice ka np pc) np g) (hr2 : By.RB w (.slice sa ns sc) ns f) (hk : KT w) (hn : np ≤ 500) (hns : ns ≤ 500) (hN1 : 1 ≤ N) (hN2 : N ≤ 200) (hC1 : 1 ≤ C) (hC2 : C ≤ 12) :
    Calls Tryd.prog 6 #[.int .u8 (an a), .slice ka np pc, .slice sa ns sc, .int .i64 N, .int .i64 C] w fun e w' => e = .returned (.bool true) ∧ Below w.heap.size w w' := by
  have HK := hid hk
  have A1 := hid (show ∀ w', Below w.heap.size w w' → By.RB w' (.slice ka np pc) np g from fun w' hb => hr.below hb)
  have A2 := hid (show ∀ w', Below w.heap.size w w' → By.RB w' (.slice sa ns sc) ns f from fun w' hb => hr2.below hb)
  clear hr hr2 hk
  obtain ⟨s, hs⟩ : ∃ s, sz a = s := ⟨_, rfl⟩
  have hs1 : 32 ≤ s := by rw [← hs]; cases a <;> decide
  have hs2 : s ≤ 64 := by rw [← hs]; exact sz_le a
  have HS := hid hs
  obtain ⟨K, hK⟩ : ∃ K, kb a np g = K := ⟨_, rfl⟩
  have HKK := hid hK
  clear hs hK
  go_enter Tryd.func6, Tryd.ntmps6
  go_wp2_with fail
  go_loopw [11, 12] (fun ov i wr => ∃ k ol : Nat, k * s = ol ∧ i = .int .i64 ((k : Int) + 1) ∧ By.Own wr w.heap.size ov ol (dk a K ns f C) ∧ Below w.heap.size w wr ∧ ol ≤ N + 64) (fun ov _ _ => N + 64 - (match ov with | .slice _ n _ => n | _ => 0))
  case atStart => exact ⟨0, 0, Nat.zero_mul _, rfl, own_nil _ _ _ (dk_b _ _ _ _ _), Below.refl _ _, by omega⟩
  case round =>
    obtain ⟨k, ol, hol, rfl, ho, hb, hol2⟩ := hrel
    have B := hid hb
    have O := hid ho
    have HO := hid hol
    have hk8 : k ≤ 10 := by
      apply Classical.byContradiction
      intro h
      have h2 : 11 * s ≤ k * s := Nat.mul_le_mul_right _ (by omega)
      omega
    obtain ⟨oa, oc, rfl⟩ := own_sl ho
    clear ho hb hol
    by_cases hlt : ol < N
    · have hlt' : (ol : Int) < (N : Int) := by omega
      have HK8 := hid hk8
      have hkm : ((k : Int) + 1) % 256 = (k : Int) + 1 := by omega
      go_wp2_with fail
      refine (twin1 _ np g _ (A1.out _ B.out) (by omega)).mono ?_
      rintro e w1 ⟨kv, rfl, hkv, hb⟩
      have KV1 := hid hkv
      have B1 := hid (below_next B.out hb)
      have O1 := hid (own_below O.out hb)
      clear hkv hb
      go_wp2_with fail
      refine (twin1 _ ns f _ (A2.out _ B1.out) (by omega)).mono ?_
      rintro e w2 ⟨sv, rfl, hsv, hb⟩
      obtain ⟨va, vc, rfl⟩ := own_sl hsv
      have b3 := below_alloc w2 (.cells #[.int .u8 0, .int .u8 0, .int .u8 0, .int .u8 ((k : Int) + 1)] 5)
      have OV := hid (own_below hsv b3)
      have OL := hid (show By.Own (w2.alloc (.cells #[.int .u8 0, .int .u8 0, .int .u8 0, .int .u8 ((k : Int) + 1)] 5)) w2.heap.size (.slice (some ⟨w2.heap.size, 0, none⟩) 4 4) 4 (i4 (k + 1)) from own4s (k + 1) (by have := HK8.out; omega) w2)
      have BC := hid (below_next hb b3)
      have Z3 := hid (below_next hb b3).size
      clear hsv hb b3
      go_wp2_with (at_builtin; go_must (refine Sg.wpList_cat rfl _ _ rfl w1.heap.size ns 4 _ _ f (i4 (k + 1)) rfl OV.out rfl OL.out.reads (by omega) Z3.out ?_))
      intro mv w4 hm4 hg4
      have M4 := hid (show By.Own w4 w1.heap.size mv (ns + 4) (sm ns f (k + 1)) from hm4)
      have b4 := Sh.below_grow BC.out Z3.out OV.out hg4
      have KV4 := hid (own_below KV1.out b4)
      have O4 := hid (own_below O1.out b4)
      have B4 := hid (below_next B1.out b4)
      obtain ⟨ma, mc, rfl⟩ := own_sl hm4
      clear hm4 hg4 b4 OV OL BC Z3 KV1 O1 B1
      go_wp2_with fail
      refine (ttag0 a np (ns + 4) _ _ g (sm ns f (k + 1)) _ (HK.out.below B4.out) KV4.out.reads M4.out.reads (by omega) (by omega)).mono ?_
      rintro e w5 ⟨u5, rfl, hu, hb⟩
      have V5 := hid (show By.Own w5 w4.heap.size u5 s (uu a K ns f (k + 1) 0) from by rw [← HS.out, ← HKK.out]; exact hu)
      obtain ⟨ua, uc, rfl⟩ := own_sl V5.out
      have O5 := hid (own_below O4.out hb)
      have B5 := hid (below_next B4.out hb)
      have Z4 := hid B4.out.size
      clear hu hb KV4 M4 O4 B4
      have hs0 : ¬ (s : Int) = 0 := by omega
      go_wp2_with fail
      refine (twin1 _ s _ _ V5.out.reads (by omega)).mono ?_
      rintro e w6 ⟨tv, rfl, ho, hb⟩
      obtain ⟨gw, cw, rfl, -⟩ := own_cells ho (by omega)
      have T6 := hid (show By.Own w6 w5.heap.size (.slice (some ⟨gw, 0, none⟩) s cw) s (xs a K ns f (k + 1) 0) from ho)
      have V6 := hid (own_below V5.out hb)
      have O6 := hid (own_below O5.out hb)
      have B6 := hid (below_next B5.out hb)
      have Z6 := hid B5.out.size
      have N6 := hid (show ∀ p, (Value.slice ua s uc).ownBlock = some p → p ≠ gw from fun p hp e => by have h1 := own_lt V5.out p hp; have h2 := own_row ho gw rfl; omega)
      have NO := hid (show ∀ p, (Value.slice oa ol oc).ownBlock = some p → p ≠ gw from fun p hp e => by have h1 := own_lt O5.out p hp; have h2 := own_row ho gw rfl; omega)
      clear ho hb V5 O5 B5 O B
      go_wp2_with fail
      go_loopw [13, 16] (fun uv j wr => ∃ q : Nat, q + 1 ≤ C ∧ j = .int .i64 ((q : Int) + 1) ∧ By.Own wr w.heap.size uv s (uu a K ns f (k + 1) q) ∧ By.Own wr w.heap.size (.slice (some ⟨gw, 0, none⟩) s cw) s (xs a K ns f (k + 1) q) ∧ (∀ p, uv.ownBlock = some p → p ≠ gw) ∧ By.Own wr w.heap.size (.slice oa ol oc) ol (dk a K ns f C) ∧ Below w.heap.size w wr ∧ gw < wr.heap.size) (fun _ j _ => C - (intOf j).toNat)
      case atStart => exact ⟨0, by omega, rfl, Sg.own_mono V6.out Z4.out, Sg.own_mono T6.out Z6.out, N6.out, O6.out, B6.out, own_lt T6.out gw rfl⟩
      case round =>
        clear V6 T6 N6 O6 B6
        obtain ⟨q, hq, rfl, hu, hw, hne, hgot, hb, hgl⟩ := hrel
        obtain ⟨ra, rc', rfl⟩ := own_sl hu
        have B := hid hb
        have U := hid hu
        have W := hid hw
        have G := hid hgot
        have GL := hid hgl
        have HQL := hid hq
        clear hu hw hne hgot hb hgl hq
        by_cases hltq : q + 1 < C
        · have hltq' : (q : Int) + 1 < (C : Int) := by omega
          go_wp2_with fail
          refine (twin1 _ np g _ (A1.out _ B.out) (by omega)).mono ?_
          rintro e w7 ⟨kv, rfl, hkv, hb⟩
          have KV7 := hid hkv
          have U7 := hid (own_below U.out hb)
          have W7 := hid (own_below W.out hb)
          have G7 := hid (own_below G.out hb)
          have B7 := hid (below_next B.out hb)
          have GL7 := hid (show gw < w7.heap.size from by have h1 := GL.out; have h2 := hb.size; omega)
          clear hkv hb U W G B GL
          go_wp2_with fail
          refine (ttag0 a np s _ _ g (uu a K ns f (k + 1) q) _ (HK.out.below B7.out) KV7.out.reads U7.out.reads (by omega) (by omega)).mono ?_
          rintro e w8 ⟨u8, rfl, hu, hb⟩
          have V8 := hid (show By.Own w8 w7.heap.size u8 s (uu a K ns f (k + 1) (q + 1)) from by
            show By.Own w8 w7.heap.size u8 s (hm a K (sz a) (uu a K ns f (k + 1) q))
            rw [HS.out, HKK.out] at hu
            rw [HS.out]
            exact hu)
          have N8 := hid (show ∀ p, u8.ownBlock = some p → p ≠ gw from fun p hp e => by have h1 := own_row V8.out p hp; have h2 := GL7.out; omega)
          obtain ⟨ug, uc', rfl, -⟩ := own_cells V8.out (by omega)
          have W8 := hid (own_below W7.out hb)
          have G8 := hid (own_below G7.out hb)
          have B8 := hid (below_next B7.out hb)
          have Z8 := hid (show w.heap.size ≤ w7.heap.size from B7.out.size)
          have GL8 := hid (show gw < w8.heap.size from by have h1 := GL7.out; have h2 := hb.size; omega)
          have NG := hid (N8.out ug rfl)
          have ZW := hid (own_row W7.out gw rfl)
          clear hu hb U7 W7 G7 B7 GL7 KV7
          go_wp2_with fail
          go_loopw [17] (fun j wq => ∃ z : Nat, z ≤ s ∧ j = .int .i64 z ∧ By.Own wq w.heap.size (.slice (some ⟨gw, 0, none⟩) s cw) s (fun i => if i < z then bx (xs a K ns f (k + 1) q i) (uu a K ns f (k + 1) (q + 1) i) else xs a K ns f (k + 1) q i) ∧ w8.grownBy wq (some gw)) (fun j _ => s - (intOf j).toNat)
          case atStart => exact ⟨0, Nat.zero_le _, rfl, W8.out, World.grownBy.refl _ _⟩
          case round =>
            obtain ⟨z, hz, rfl, hown, hgr⟩ := hrel
            have HW := hid hown
            have HG := hid hgr
            by_cases hlz : z < s
            · have hlz' : (z : Int) < (s : Int) := by omega
              obtain ⟨X, hX⟩ : ∃ y, xs a K ns f (k + 1) q = y := ⟨_, rfl⟩
              obtain ⟨Y, hY⟩ : ∃ y, uu a K ns f (k + 1) (q + 1) = y := ⟨_, rfl⟩
              rw [hX, hY] at hown HW
              have HXX := hid hX
              have HYY := hid hY
              have hcell : wr.cell? ⟨gw, z, none⟩ = some (.int .u8 (X z)) := by
                rw [hown.2.cellAt z (by omega), bl_get _ _ _ hlz, if_neg (by omega)]
              have hfz := hown.2.frozenAt z
              have hux : wr.cell? ⟨ug, z, none⟩ = some (.int .u8 (Y z)) := by
                have hk' := Sg.own_kept V8.out (Kp.of_grown hgr) (fun p hp e => NG.out (by cases hp; exact (Option.some.inj e).symm))
                rw [hk'.2.cellAt z (by omega), bl_get _ _ _ hlz, hY]
              have XB := hid (show BB X from hX ▸ xs_b a K ns f (k + 1) q)
              clear hown hgr hX hY
              obtain ⟨x, ex⟩ : ∃ x, X z = x := ⟨_, rfl⟩
              obtain ⟨y, ey⟩ : ∃ y, Y z = y := ⟨_, rfl⟩
              have EX := hid ex
              have EY := hid ey
              rw [ex] at hcell
              rw [ey] at hux
              clear ex ey
              go_wp2_with fail
              have HWd := hid (show By.Own wr.drew w.heap.size (.slice (some ⟨gw, 0, none⟩) s cw) s (fun i => if i < z then bx (X i) (Y i) else X i) from HW.out)
              have HGd := hid (show w8.grownBy wr.drew (some gw) from ⟨HG.out.os, HG.out.tape, HG.out.output, HG.out.size, HG.out.block⟩)
              go_region_law (fail)
              all_goals
                go_wp2_with fail
                have S := own_store HWd.out z (bx x y) (bx_b _ _)
                refine ⟨⟨z + 1, by omega, by go_num, ?_, grown_trans HGd.out S.2⟩, by simp [intOf]; omega⟩
                rw [HXX.out, HYY.out]
                refine own_congr S.1 (fun i => ?_) (fun i hi => ?_)
                · show 0 ≤ (if i < z + 1 then bx (X i) (Y i) else X i) ∧ (if i < z + 1 then bx (X i) (Y i) else X i) < 256
                  split
                  · exact bx_b _ _
                  · exact XB.out i
                · show (if i = z then bx x y else if i < z then bx (X i) (Y i) else X i) = if i < z + 1 then bx (X i) (Y i) else X i
                  by_cases h : i = z
                  · subst h; rw [if_pos rfl, if_pos (by omega), EX.out, EY.out]
                  · rw [if_neg h]; by_cases h2 : i < z
                    · rw [if_pos h2, if_pos (by omega)]
                    · rw [if_neg h2, if_neg (by omega)]
            · have hlz' : ¬ (z : Int) < (s : Int) := by omega
              have kg := Kp.of_grown hgr
              have W9 := hid (show By.Own wr w.heap.size (.slice (some ⟨gw, 0, none⟩) s cw) s (xs a K ns f (k + 1) (q + 1)) from own_congr hown (xs_b a K ns f (k + 1) (q + 1)) (fun i hi => by rw [if_pos (by omega)]; rfl))
              have V9 := hid (Sg.own_mono (Sg.own_kept V8.out kg (fun p hp e => N8.out p hp (Option.some.inj e).symm)) Z8.out)
              have G9 := hid (Sg.own_kept G8.out kg (fun p hp e => NO.out p hp (Option.some.inj e).symm))
              have B9 := hid (B8.out.grown hgr B8.out.size (fun p hp => by rw [← Option.some.inj hp]; exact ZW.out))
              have GL9 := hid (show gw < wr.heap.size from Nat.lt_of_lt_of_le GL8.out kg.size)
              clear hown hgr kg HW HG V8 W8 G8 B8 GL8
              go_wp2_with fail
              exact ⟨⟨q + 1, by omega, by rfl, V9.out, W9.out, N8.out, G9.out, B9.out, GL9.out⟩, by simp [intOf]; omega⟩
        · have hltq' : ¬ (q : Int) + 1 < (C : Int) := by omega
          have ek := hid (show q = C - 1 by have := HQL.out; omega)
          have W0 := hid (show By.Own wr w.heap.size (.slice (some ⟨gw, 0, none⟩) s cw) s (xs a K ns f (k + 1) (C - 1)) from by rw [← ek.out]; exact W.out)
          clear W
          go_wp2_with (at_builtin; go_must (refine Sg.wpList_cat rfl _ _ rfl w.heap.size ol s _ _ _ _ rfl G.out rfl W0.out.reads (by omega) B.out.size ?_))
          intro ov' w9 ho9 hg9
          have O9 := hid (show By.Own w9 w.heap.size ov' (ol + s) (dk a K ns f C) from own_congr ho9 (dk_b a K ns f C) (fun i hi => by
            have h := dk_cat a K ns f C k s (by rw [HS.out]; omega) i (by rw [HS.out, HO.out]; exact hi)
            rw [HS.out, HO.out] at h
            exact h))
          have B9 := hid (Sh.below_grow B.out B.out.size G.out hg9)
          obtain ⟨na, nc, rfl⟩ := own_sl O9.out
          clear ho9 hg9 G W0 B U
          go_wp2_with fail
          exact ⟨⟨k + 1, ol + s, by rw [Nat.succ_mul, HO.out], by rfl, O9.out, B9.out, by omega⟩, by simp; omega⟩
    · have hlt' : ¬ (ol : Int) < (N : Int) := by omega
      have hoc := rb_cap O.out.reads
      go_wp2_with fail
      refine (twin1 _ np g _ (A1.out _ B.out) (by omega)).mono ?_
      rintro e w1 ⟨kv, rfl, hkv, hb⟩
      have KV1 := hid hkv
      have B1 := hid (below_next B.out hb)
      have O1 := hid (own_below O.out hb)
      clear hkv hb O B
      go_wp2_with fail
      refine (twin1 _ ns f _ (A2.out _ B1.out) (by omega)).mono ?_
      rintro e w2 ⟨sv, rfl, hsv, hb⟩
      have SV2 := hid hsv
      have KV2 := hid (own_below KV1.out hb)
      have B2 := hid (below_next B1.out hb)
      have O2 := hid (own_below O1.out hb)
      clear hsv hb O1 B1 KV1
      go_wp2_with fail
      refine (tkey0 a np ns C N _ _ g f _ (HK.out.below B2.out) KV2.out.reads SV2.out.reads (by omega) (by omega) hC1 (by omega) (by omega)).mono ?_
      rintro e w3 ⟨u, rfl, hu, hb⟩
      rw [HKK.out] at hu
      obtain ⟨ua, uc, rfl⟩ := own_sl hu
      have B3 := hid (below_next B2.out hb)
      have O3 := own_below O2.out hb
      have hc1 := fun d => cvs (w := w3.drewN d) (hu.reads.drewN d) (by omega)
      have hc2 := fun d => cvs (w := w3.drewN d) ((O3.reads.first N (by omega)).drewN d) (by omega)
      have hsl := fun W => psub_h oa ol oc N W (by omega) hoc
      clear hu hb O3
      go_wp2_with fail
      go_quiet (fail)
      go_wp2
      go_ret
      exact ⟨rfl, below_next B3.out (below_drewN w3 nq)⟩
end Go.Proofs.YtkmkbofokoimkaaDoor.Dg
