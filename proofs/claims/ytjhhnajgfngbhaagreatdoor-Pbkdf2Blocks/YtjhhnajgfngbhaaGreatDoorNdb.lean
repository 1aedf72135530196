/- The document's PBKDF2: one block. -/
import Derived.Test.YtjhhnajgfngbhaaGreatDoorNdx
import Derived.Test.YtjhhnajgfngbhaaGreatDoorZmt
namespace Go.Proofs.YtjhhnajgfngbhaaGreatDoor.Dg
open Go.ChangeShapes Go.WideShapes Go.ChangeAt Go.RowKit
open Go.Proofs.YtjhhnajgfngbhaaGreatDoor.By
open Go.Proofs.YtjhhnajgfngbhaaGreatDoor.Sh (Blk size_alloc)
theorem own4d (i : Nat) (W : World) : By.Own (W.alloc (.cells #[.int .u8 ((i : Int) / 16777216 % 256), .int .u8 ((i : Int) / 65536 % 256), .int .u8 ((i : Int) / 256 % 256), .int .u8 ((i : Int) % 256)] 5)) W.heap.size (.slice (some ⟨W.heap.size, 0, none⟩) 4 4) 4 (i4 i) := by
  refine By.own_lit W _ 4 _ (i4_b i) (by decide) rfl ?_
  show [Value.int .u8 ((i : Int) / 16777216 % 256), .int .u8 ((i : Int) / 65536 % 256), .int .u8 ((i : Int) / 256 % 256), .int .u8 ((i : Int) % 256)] = bl 4 (i4 i)
  rw [show bl 4 (i4 i) = [Value.int .u8 (i4 i 0), .int .u8 (i4 i 1), .int .u8 (i4 i 2), .int .u8 (i4 i 3)] from rfl]
  have e0 : i4 i 0 = (i : Int) / 16777216 % 256 := by unfold i4; rw [show 256 ^ (3 - 0) = 16777216 from rfl]; omega
  have e1 : i4 i 1 = (i : Int) / 65536 % 256 := by unfold i4; rw [show 256 ^ (3 - 1) = 65536 from rfl]; omega
  have e2 : i4 i 2 = (i : Int) / 256 % 256 := by unfold i4; rw [show 256 ^ (3 - 2) = 256 from rfl]; omega
  have e3 : i4 i 3 = (i : Int) % 256 := by unfold i4; rw [show 256 ^ (3 - 3) = 1 from rfl]; omega
  rw [e0, e1, e2, e3]
section
variable {w W : World} {mb c : Nat} {rv0 : Value} {a : Bool} {nk : Nat} {g : Nat → Int} {L : List Rn} {kv : Value}
set_option maxRecDepth 8000 in
set_option maxHeartbeats 4000000 in
theorem eblock (h : EX w mb c rv0 a nk g L 0 nof kv (.slice none 0 0) W) (ns C i : Nat) (v : Value) (f : Nat → Int) (hr : ∀ w', Kp (SM mb rv0) w w' → By.RB w' v ns f) (hns : ns ≤ 1000000) (hC1 : 1 ≤ C) (hC2 : C ≤ 1048576) (hn : nk ≤ 140737488352328) (hp : Pos L) (ht : tq L ≤ 3900000000) :
    Calls Tryz.prog 25 #[.pointer (some ⟨mb, 0, none⟩), .pointer (some ⟨c, 0, none⟩), v, .int .i64 C, .int .i64 i] W fun e w' => ∃ u, e = .returned u ∧ By.Own w' W.heap.size u (sz a) (xs a (kb a nk g) ns f i (C - 1)) ∧ EX w mb c rv0 a nk g (evs a L (be a ns C)) 0 nof kv (.slice none 0 0) w' ∧ KO W w' := by
  have HX := hid h
  have HR := hid hr
  have HP := hid hp
  have HF := hid (show ∀ k, k ≤ 4300000 → tq (evs a L k) ≤ 3900000010 from fun k hk => by
    have h1 := evs_fine a hp k (by omega) (by omega)
    have h2 : k / 1048576 ≤ 4300000 / 1048576 := Nat.div_le_div_right hk
    omega)
  have HT := hid ht
  obtain ⟨-, va, vc, rfl, -⟩ := hr w (Kp.refl _ _)
  obtain ⟨K, hK⟩ : ∃ K, kb a nk g = K := ⟨_, rfl⟩
  rw [hK]
  have HKK := hid hK
  obtain ⟨s, hs⟩ : ∃ s, sz a = s := ⟨_, rfl⟩
  have hs1 : 0 < s := by rw [← hs]; exact sz_pos a
  have hs2 : s ≤ 64 := by rw [← hs]; exact sz_le a
  have HS := hid hs
  have WW := hid (show w.heap.size ≤ W.heap.size from h.kp.size)
  have KV := hid (show ∀ p, kv.ownBlock = some p → p < W.heap.size from fun p hp => own_lt h.q.k p hp)
  have b1 := below_alloc W (.cells #[.int .u8 ((i : Int) / 16777216 % 256), .int .u8 ((i : Int) / 65536 % 256), .int .u8 ((i : Int) / 256 % 256), .int .u8 ((i : Int) % 256)] 5)
  have O1 := hid (own4d i W)
  have X1 := hid (h.below b1)
  have K1 := hid ((KO.refl W).below b1)
  have R1 := hid (hr _ (h.below b1).kp)
  clear h hr hp ht hK hs b1
  go_enter Tryz.func25, Tryz.ntmps25
  go_wp2_with fail
  obtain ⟨w1, hw1⟩ : ∃ y, W.alloc (.cells #[.int .u8 ((i : Int) / 16777216 % 256), .int .u8 ((i : Int) / 65536 % 256), .int .u8 ((i : Int) / 256 % 256), .int .u8 ((i : Int) % 256)] 5) = y := ⟨_, rfl⟩
  rw [hw1] at O1 X1 K1 R1 ⊢
  clear hw1
  refine (etag X1.out ns 4 _ _ f (i4 i) R1.out ⟨_, O1.out⟩ (by omega) hn HP.out (by have := HT.out; omega)).mono ?_
  rintro e w2 ⟨u, rfl, hu, h2, k2⟩
  have U2 := hid (show By.Own w2 W.heap.size u s (uu a K ns f i 0) from by
    have o := Sg.own_mono hu K1.out.2
    rw [HKK.out, HS.out] at o
    exact o)
  have X2 := hid (show EX w mb c rv0 a nk g (evs a L (bq a ns 0)) 0 nof kv (.slice none 0 0) w2 from by rw [show bq a ns 0 = ue a (ns + 4) from by unfold bq; omega]; exact h2)
  have K2 := hid (K1.out.trans k2)
  obtain ⟨ua, uc, rfl⟩ := own_sl U2.out
  clear hu h2 k2 O1 X1 K1 R1 HX
  go_wp2_with (at_builtin; go_must (refine Sg.wpList_cat rfl _ _ rfl w2.heap.size 0 s _ _ nof _ rfl (own_nil _ _ _ nof_b) rfl U2.out.reads (by omega) (Nat.le_refl _) ?_))
  intro ov w3 ho3 hg3
  rw [show Sg.cat 0 nof (uu a K ns f i 0) = uu a K ns f i 0 from Sg.cat0 _ _] at ho3
  have b3 := Below.of_grown hg3
  obtain ⟨go, oc, rfl, -⟩ := own_cells ho3 hs1
  have O3 := hid (Sg.own_mono ho3 K2.out.2)
  have X3 := hid (X2.out.below b3)
  have U3 := hid (own_below U2.out b3)
  have K3 := hid (K2.out.below b3)
  have N3 := hid (show ∀ p, (Value.slice ua s uc).ownBlock = some p → p ≠ go from fun p hp e => by have h1 := own_lt U2.out p hp; have h2 := own_row ho3 go rfl; omega)
  have Z3 := hid (show W.heap.size ≤ go from Nat.le_trans K2.out.2 (own_row ho3 go rfl))
  clear ho3 hg3 b3 X2 U2 K2
  go_wp2_with fail
  go_loopw [11, 13] (fun uv j wr => ∃ k : Nat, k + 1 ≤ C ∧ j = .int .i64 ((k : Int) + 1) ∧ EX w mb c rv0 a nk g (evs a L (bq a ns k)) 0 nof kv (.slice none 0 0) wr ∧ By.Own wr W.heap.size (.slice (some ⟨go, 0, none⟩) s oc) s (xs a K ns f i k) ∧ By.Own wr W.heap.size uv s (uu a K ns f i k) ∧ (∀ p, uv.ownBlock = some p → p ≠ go) ∧ KO W wr) (fun _ j _ => C - (intOf j).toNat)
  case atStart => exact ⟨0, by omega, rfl, X3.out, O3.out, U3.out, N3.out, K3.out⟩
  case round =>
    clear X3 O3 U3 N3 K3
    obtain ⟨k, hk, rfl, hx, ho, hu, hne, hko⟩ := hrel
    obtain ⟨ka, kc', rfl⟩ := own_sl hu
    have X := hid hx
    have O := hid ho
    have U := hid hu
    have NE := hid hne
    have KK := hid hko
    have HKL := hid hk
    have WZ := hid (show W.heap.size ≤ wr.heap.size from hko.2)
    clear hx ho hu hne hko hk
    by_cases hlt : k + 1 < C
    · have hlt' : (k : Int) + 1 < (C : Int) := by omega
      go_wp2_with fail
      refine (etag X.out s 0 _ _ (uu a K ns f i k) nof U.out.reads ⟨0, own_nil _ _ _ nof_b⟩ (by omega) hn (evsP a HP.out _) (by have := HF.out (bq a ns k) (bq_le a ns k hns (by have := HKL.out; omega)); omega)).mono ?_
      rintro e w4 ⟨u, rfl, hu, h4, k4⟩
      have V4 := hid (show By.Own w4 wr.heap.size u s (uu a K ns f i (k + 1)) from by
        rw [HKK.out, Nat.add_zero, HS.out] at hu
        have ec : hm a K s (cat s (uu a K ns f i k) nof) = hm a K s (uu a K ns f i k) := hm_congr a K s _ _ (fun i hi => by show (if i < s then _ else _) = _; rw [if_pos hi])
        rw [ec] at hu
        show By.Own w4 wr.heap.size u s (hm a K (sz a) (uu a K ns f i k))
        rw [HS.out]
        exact hu)
      have X4 := hid (show EX w mb c rv0 a nk g (evs a L (bq a ns (k + 1))) 0 nof kv (.slice none 0 0) w4 from by
        rw [Nat.add_zero, evs_add, ← HS.out, bq_succ] at h4
        exact h4)
      have O4 := hid (k4.1 _ _ _ _ O.out)
      have K4 := hid (KK.out.trans k4)
      have GL := hid (own_lt O.out go rfl)
      have N4 := hid (show ∀ p, u.ownBlock = some p → p ≠ go from fun p hp e => by have h1 := own_row V4.out p hp; have h2 := GL.out; omega)
      obtain ⟨ug, uc', rfl, -⟩ := own_cells V4.out hs1
      have NG := hid (N4.out ug rfl)
      clear hu h4 k4 X O U NE KK
      go_wp2_with fail
      go_loopw [14] (fun j wq => ∃ q : Nat, q ≤ s ∧ j = .int .i64 q ∧ By.Own wq W.heap.size (.slice (some ⟨go, 0, none⟩) s oc) s (fun i' => if i' < q then bx (xs a K ns f i k i') (uu a K ns f i (k + 1) i') else xs a K ns f i k i') ∧ w4.grownBy wq (some go)) (fun j _ => s - (intOf j).toNat)
      case atStart => exact ⟨0, Nat.zero_le _, rfl, O4.out, World.grownBy.refl _ _⟩
      case round =>
        obtain ⟨q, hq, rfl, hown, hgr⟩ := hrel
        have HW := hid hown
        have HG := hid hgr
        by_cases hlq : q < s
        · have hlq' : (q : Int) < (s : Int) := by omega
          obtain ⟨X, hX⟩ : ∃ y, xs a K ns f i k = y := ⟨_, rfl⟩
          obtain ⟨Y, hY⟩ : ∃ y, uu a K ns f i (k + 1) = y := ⟨_, rfl⟩
          rw [hX, hY] at hown HW
          have HXX := hid hX
          have HYY := hid hY
          have hcell : wr.cell? ⟨go, q, none⟩ = some (.int .u8 (X q)) := by
            rw [hown.2.cellAt q (by omega), bl_get _ _ _ hlq, if_neg (by omega)]
          have hfz := hown.2.frozenAt q
          have hux : wr.cell? ⟨ug, q, none⟩ = some (.int .u8 (Y q)) := by
            have hk' := Sg.own_kept V4.out (Kp.of_grown hgr) (fun p hp e => NG.out (by cases hp; exact (Option.some.inj e).symm))
            rw [hk'.2.cellAt q (by omega), bl_get _ _ _ hlq, hY]
          have XB := hid (show BB X from hX ▸ xs_b a K ns f i k)
          clear hown hgr hX hY
          obtain ⟨x, ex⟩ : ∃ x, X q = x := ⟨_, rfl⟩
          obtain ⟨y, ey⟩ : ∃ y, Y q = y := ⟨_, rfl⟩
          have EX' := hid ex
          have EY := hid ey
          rw [ex] at hcell
          rw [ey] at hux
          clear ex ey
          go_wp2_with fail
          have HWd := hid (show By.Own wr.drew W.heap.size (.slice (some ⟨go, 0, none⟩) s oc) s (fun i => if i < q then bx (X i) (Y i) else X i) from HW.out)
          have HGd := hid (show w4.grownBy wr.drew (some go) from ⟨HG.out.os, HG.out.tape, HG.out.output, HG.out.size, HG.out.block⟩)
          go_region_law (fail)
          all_goals
            go_wp2_with fail
            have S := own_store HWd.out q (bx x y) (bx_b _ _)
            refine ⟨⟨q + 1, by omega, by go_num, ?_, grown_trans HGd.out S.2⟩, by simp [intOf]; omega⟩
            rw [HXX.out, HYY.out]
            refine own_congr S.1 (fun i => ?_) (fun i hi => ?_)
            · show 0 ≤ (if i < q + 1 then bx (X i) (Y i) else X i) ∧ (if i < q + 1 then bx (X i) (Y i) else X i) < 256
              split
              · exact bx_b _ _
              · exact XB.out i
            · show (if i = q then bx x y else if i < q then bx (X i) (Y i) else X i) = if i < q + 1 then bx (X i) (Y i) else X i
              by_cases h : i = q
              · subst h; rw [if_pos rfl, if_pos (by omega), EX'.out, EY.out]
              · rw [if_neg h]; by_cases h2 : i < q
                · rw [if_pos h2, if_pos (by omega)]
                · rw [if_neg h2, if_neg (by omega)]
        · have hlq' : ¬ (q : Int) < (s : Int) := by omega
          have kg := Kp.of_grown hgr
          have O9 := hid (show By.Own wr W.heap.size (.slice (some ⟨go, 0, none⟩) s oc) s (xs a K ns f i (k + 1)) from own_congr hown (xs_b a K ns f i (k + 1)) (fun i' hi => by rw [if_pos (by omega)]; rfl))
          have V9 := hid (Sg.own_mono (Sg.own_kept V4.out kg (fun p hp e => N4.out p hp (Option.some.inj e).symm)) WZ.out)
          have X9 := hid (X4.out.grow (Sg.own_mono O4.out WW.out) (kg.mono (fun _ _ e => e)) (fun p hp e => by have h1 := KV.out p e; have h2 := Z3.out; have : go = p := Option.some.inj hp; omega))
          have K9 := hid (show KO W wr from ⟨fun base n v f ho => Sg.own_kept (K4.out.1 _ _ _ _ ho) kg (fun p hp e => by have h1 := own_lt ho p hp; have h2 := Z3.out; have : go = p := Option.some.inj e; omega), Nat.le_trans K4.out.2 kg.size⟩)
          clear hown hgr kg HW HG V4 O4 X4 K4
          go_wp2_with fail
          exact ⟨⟨k + 1, by omega, by rfl, X9.out, O9.out, V9.out, N4.out, K9.out⟩, by simp [intOf]; omega⟩
    · have hlt' : ¬ (k : Int) + 1 < (C : Int) := by omega
      have ek := hid (show k = C - 1 by have := HKL.out; omega)
      go_wp2
      go_ret
      have o := O.out
      have x := X.out
      rw [ek.out] at o x
      rw [bq_be] at x
      exact ⟨_, rfl, by rw [HS.out]; exact o, x, KK.out⟩
end
end Go.Proofs.YtjhhnajgfngbhaaGreatDoor.Dg
