/- Acts of TableScript on the table of pairs: all. -/
import Derived.Test.YtodihepgfpbonaaTsP
import Derived.Test.YtodihepgfpbonaaTph
import Derived.Deep.RegionHeld3
import Derived.BigQuiet
namespace Go.Proofs.Ytodihepgfpbonaa.Tb.P
open Go.ChangeShapes Go.WideShapes Go.ChangeAt Go.RowKit
section
variable {w0 W : World} {t : Nat → Th} {C : Cn} {kb n0 n1 a b hb vb m : Nat} {hd : Nat → Option Int} {vf : Nat → Int} {l : Nat → Value} {f : Nat → Nat → Value}
set_option maxRecDepth 20000 in
set_option maxHeartbeats 1600000 in
theorem act_all (hG : GX w0 w0.heap.size t W) (h0 : t 0 = tK C) (hT : P.TT t C 2 a m (ph hd)) (hD : DT t 6 b hb vb m hd vf) (hK : KS t C kb n0 n1 l f) (on h v : Int) (hn : n1 ≤ 1100) :
    Calls Try.prog 12 #[.pointer (some ⟨kb, 0, none⟩), .pointer (some ⟨a, 0, none⟩), .pointer (some ⟨b, 0, none⟩), .agg #[.int .i64 on, .int .i64 5, .int .i64 h, .int .i64 v]] W fun e W' => e = .returned (.bool true) ∧ OP w0 t C kb n0 n1 a b hb vb m W' := by
  obtain ⟨W1, hW1⟩ : ∃ V, W.alloc (.cells #[.int .i64 on, .int .i64 5, .int .i64 h, .int .i64 v] 44) = V := ⟨_, rfl⟩
  obtain ⟨t1, s⟩ := SI.start hG h0 hT hD hK (on, 5, h, v) hW1
  obtain ⟨ab, hab⟩ : ∃ x, W.heap.size = x := ⟨_, rfl⟩
  rw [hab] at s
  have c1 := s.cell 1 _ rfl
  have c2 := s.cell 2 _ rfl
  have c3 := s.cell 3 _ rfl
  have H := hid s
  clear hG h0 hT hD hK s
  go_enter Try.func12, Try.ntmps12
  obtain ⟨ps, hps, hst⟩ := H.out.T.ex
  have HST := hid hst
  have HPS := hid hps
  clear hst hps
  go_wp2_with fail
  refine (all_t a m ps W1 (H.out.G.blk HPS.out) H.out.T.h1).mono ?_
  rintro e W2 ⟨rfl, hbl, hb2⟩
  have H2 := hid (H.out.below hb2)
  have BL := hid hbl
  have HB2 := hid hb2
  obtain ⟨Bs, hBs⟩ : ∃ x, W1.heap.size = x := ⟨_, rfl⟩
  rw [hBs] at BL ⊢
  have HBS := hid hBs
  clear hbl hb2 c1 c2 c3 hW1 hab hBs
  go_wp2_with fail
  refine (held_t b hb vb m (so hd) vf W2 (H2.out.D.rt H2.out.G) H2.out.D.h2).mono ?_
  rintro e W3 ⟨hv, lv, rfl, r1, r2, r3, hb3⟩
  obtain ⟨ha, hc, rfl⟩ := row_slice r1
  obtain ⟨va, vc, rfl⟩ := row_slice r2
  have HB3 := hid (nx HB2.out hb3)
  have R1 := hid (row_base r1 HB2.out.size)
  have R2 := hid (row_base r2 HB2.out.size)
  replace BL := hid (BL.out.below hb3)
  obtain ⟨L, hL⟩ : ∃ L, hl (so hd) m = L := ⟨_, rfl⟩
  have hll := hl_len (so hd) m
  rw [hL] at R1 R2 hll ⊢
  obtain ⟨N, hN⟩ : ∃ N, L.length = N := ⟨_, rfl⟩
  rw [hN] at R1 R2 hll ⊢
  have HL := hid hL
  have HN := hid hN
  have hm64 := H.out.D.h2
  clear r1 r2 r3 hb3 HB2 hL hN H2
  go_wp2_with fail
  go_loopw [24, 25] (fun q i wr => ∃ j : Nat, j ≤ N ∧ i = .int .i64 j ∧ wr.ownsRow W3.heap.size 31 2 q j (pv2 ((L.take j).map fun y => pr (vf y))) ∧ Below W3.heap.size W3 wr) (fun _ i _ => N - (intOf i).toNat)
  case atStart => exact ⟨0, Nat.zero_le _, rfl, World.ownsRow_nil _ _ _ _, Below.refl _ _⟩
  case round =>
    obtain ⟨j, hj, rfl, ho, hb⟩ := hrel
    have HO := hid ho
    have HW := hid hb
    have hw := hb.size
    clear ho hb
    by_cases hjn : j < N
    · obtain ⟨x, hx⟩ : ∃ x, L[j]? = some x := ⟨_, List.getElem?_eq_getElem (by rw [HN.out]; exact hjn)⟩
      obtain ⟨vg, rfl, cv⟩ := row_cell (row_below R2.out HW.out) (iv_get _ j (vf x) (by rw [List.getElem?_map, hx]; rfl))
      have l3 : (0 : Int) ≤ j := by omega
      have l5 : (j : Int) < N := by omega
      have HE : Hid (L.take (j + 1) = L.take j ++ [x]) := by show _ = _; rw [List.take_add_one, hx]; rfl
      clear hx
      go_wp2_with fail
      refine (pair_t (vf x) wr).mono ?_
      rintro e W4 ⟨rfl, hb4⟩
      have hr4 := row_below HO.out hb4
      obtain ⟨qa, qc, rfl⟩ := row_slice hr4
      have hw4 := hb4.size
      obtain ⟨u', w1, hap, hown, hkp, hson⟩ := push_run (W4.alloc (.cells #[.int .i64 (pr (vf x)).1, .int .i64 (pr (vf x)).2] 31)) 90 31 (vv vz) 2 16 Try.underlying90 infoR rfl (by decide) (by decide) W3.heap.size _ _ _ (P.vc (pr (vf x))) (row_below hr4 (below_alloc _ _)) rfl (vc_one _) (by rw [size_alloc]; omega) (by omega) ⟨W4.heap.size, 0, none⟩ (cell_new2 _ _ _ _ _ rfl)
      have hap : (APR #[.slice qa j qc, .slice (some ⟨W4.heap.size, 0, none⟩) 1 1]).run Try.prog (W4.alloc (.cells #[.int .i64 (pr (vf x)).1, .int .i64 (pr (vf x)).2] 31)) = .ok u' w1 := hap
      have Q1 : Hid (w1.ownsRow W3.heap.size 31 2 u' (j + 1) (pv2 ((L.take (j + 1)).map fun y => pr (vf y)))) := by
        show World.ownsRow _ _ _ _ _ _ _
        rw [HE.out, List.map_append, List.map_singleton, pv2_snoc]; exact hown
      have Q2 : Hid (Below W3.heap.size W3 w1) := by
        refine (nx (nx HW.out hb4) (below_alloc _ _)).trans (hkp.below (by rw [size_alloc]; omega) (fun k hk e => ?_))
        have := (hr4.lt k e).1; omega
      obtain ⟨ra, rc', rfl⟩ := row_slice Q1.out
      clear hown hkp hson HO HW hb4 hr4
      go_wp2
      go_roundw
      case rel => exact ⟨j + 1, by omega, by go_num, Q1.out, Q2.out⟩
      case measure => simp [intOf]; omega
    · obtain rfl : j = N := by omega
      have hl1 : ¬ (j : Int) < j := by omega
      obtain ⟨V9, hV9⟩ : ∃ V, wr = V := ⟨_, rfl⟩
      have hown := HO.out
      rw [show L.take j = L from List.take_of_length_le (by rw [HN.out]; exact Nat.le_refl _)] at hown
      obtain ⟨ea, ec, rfl⟩ := row_slice hown
      rw [hV9] at hown HW ⊢
      have hbx := nx HB3.out HW.out
      have rr1 := row_below R1.out HW.out
      have rr2 := row_base hown HB3.out.size
      have hbs := HBS.out
      rw [← HN.out] at rr1 rr2
      rw [← HL.out] at rr1 rr2
      obtain ⟨t3, C3, hg, hz, hc3, hB, hki⟩ := kp_all H.out.G H.out.Z H.out.D HST.out hbx (Nat.le_of_eq hbs) (BL.out.below HW.out) rr1 rr2
      have H3 := hid (H.out.free hg hz hc3 (fun k hk _ => hB k hk hk))
      rw [HL.out, HN.out] at hki
      have KK := hid hki
      obtain ⟨N, eN⟩ : ∃ N, j = N := ⟨_, rfl⟩
      rw [eN] at KK hl1 ⊢
      clear hown hbx rr1 rr2 hbs hg hz hc3 hB hki HST HPS BL HBS HB3 R1 R2 HO HW HL HN hV9 H hll hw eN
      have k0 : V9.cell? ⟨kb, 1, none⟩ = some (l 1) := (H3.out.G.blk H3.out.K.k).cell 1 _ rfl
      obtain ⟨u0, w1, ap0, kc0, kd0, kf0, t4, g4, e4k, e4r, B4⟩ := gx_push H3.out.G 37 88 .nilFunc 8 Try.underlying37 infoT rfl (by decide) (by decide) H3.out.K.k H3.out.K.r1 (by decide) (i := 1) rfl (.func (.func 60) #[] #[.pointer (some ⟨Bs, 0, none⟩)]) rfl (by omega) (below_alloc V9 (.cells #[(.func (.func 60) #[] #[.pointer (some ⟨Bs, 0, none⟩)])] 88)) ⟨V9.heap.size, 0, none⟩ (cell_new1 _ _ _ _ rfl)
      obtain ⟨ua0, uc0, rfl⟩ := row_slice (g4.row e4r)
      have ap0 : (APT #[l 1, .slice (some ⟨V9.heap.size, 0, none⟩) 1 1]).run Try.prog (V9.alloc (.cells #[(.func (.func 60) #[] #[.pointer (some ⟨Bs, 0, none⟩)])] 88)) = .ok (.slice ua0 (n1 + 1) uc0) w1 := ap0
      obtain ⟨W4, hW4⟩ : ∃ V, w1.setCell ⟨kb, 1, none⟩ (.slice ua0 (n1 + 1) uc0) = V := ⟨_, rfl⟩
      rw [hW4] at g4
      have k2 : W4.cell? ⟨kb, 3, none⟩ = some (l 3) := (g4.blk e4k).cell 3 _ rfl
      obtain ⟨u2, w2, ap2, kc2, kd2, kf2, t5, g5, e5k, e5r, B5⟩ := gx_push g4 38 72 (.slice none 0 0) 24 Try.underlying38 infoL rfl (by decide) (by decide) e4k ((B4 13 (by decide) (by decide)).trans H3.out.K.r3) (by decide) (i := 3) rfl (.slice ha N hc) rfl (by omega) (below_alloc W4 (.cells #[.slice ha N hc] 72)) ⟨W4.heap.size, 0, none⟩ (cell_new1 _ _ _ _ rfl)
      obtain ⟨ua2, uc2, rfl⟩ := row_slice (g5.row e5r)
      have ap2 : (APL #[l 3, .slice (some ⟨W4.heap.size, 0, none⟩) 1 1]).run Try.prog (W4.alloc (.cells #[.slice ha N hc] 72)) = .ok (.slice ua2 (n1 + 1) uc2) w2 := ap2
      obtain ⟨W5, hW5⟩ : ∃ V, w2.setCell ⟨kb, 3, none⟩ (.slice ua2 (n1 + 1) uc2) = V := ⟨_, rfl⟩
      rw [hW5] at g5
      have k4 : W5.cell? ⟨kb, 5, none⟩ = some (l 5) := (g5.blk e5k).cell 5 _ rfl
      obtain ⟨u4, w3, ap4, kc4, kd4, kf4, t6, g6, e6k, e6r, B6⟩ := gx_push g5 39 90 (.slice none 0 0) 24 Try.underlying39 infoQ rfl (by decide) (by decide) e5k ((B5 15 (by decide) (by decide)).trans ((B4 15 (by decide) (by decide)).trans H3.out.K.r5)) (by decide) (i := 5) rfl (.slice ea N ec) rfl (by omega) (below_alloc W5 (.cells #[.slice ea N ec] 90)) ⟨W5.heap.size, 0, none⟩ (cell_new1 _ _ _ _ rfl)
      obtain ⟨ua4, uc4, rfl⟩ := row_slice (g6.row e6r)
      have ap4 : (APQ #[l 5, .slice (some ⟨W5.heap.size, 0, none⟩) 1 1]).run Try.prog (W5.alloc (.cells #[.slice ea N ec] 90)) = .ok (.slice ua4 (n1 + 1) uc4) w3 := ap4
      obtain ⟨W6, hW6⟩ : ∃ V, w3.setCell ⟨kb, 5, none⟩ (.slice ua4 (n1 + 1) uc4) = V := ⟨_, rfl⟩
      rw [hW6] at g6
      have e10 : t6 11 = tW (.slice ua0 (n1 + 1) uc0) (n1 + 1) (vals (n1 + 1) (snoc n1 (f 1) (.func (.func 60) #[] #[.pointer (some ⟨Bs, 0, none⟩)]))) 88 1 := by rw [B6 11 (by decide) (by decide), B5 11 (by decide) (by decide), e4r, vals_snoc]
      have e12 : t6 13 = tW (.slice ua2 (n1 + 1) uc2) (n1 + 1) (vals (n1 + 1) (snoc n1 (f 3) (.slice ha N hc))) 72 1 := by rw [B6 13 (by decide) (by decide), e5r, vals_snoc]
      have e14 : t6 15 = tW (.slice ua4 (n1 + 1) uc4) (n1 + 1) (vals (n1 + 1) (snoc n1 (f 5) (.slice ea N ec))) 90 1 := by rw [e6r, vals_snoc]
      have B : ∀ k, k ≠ 9 → k ≠ 11 → k ≠ 13 → k ≠ 15 → t6 k = t3 k := fun k h1 h2 h3 h4 => (B6 k h1 h4).trans ((B5 k h1 h3).trans (B4 k h1 h2))
      have H6 : Hid (SI w0 t C kb a b hb vb m ab (on, 5, h, v) t6 C3 n0 (n1 + 1) hd hd vf (uq3 l (.slice ua0 (n1 + 1) uc0) (.slice ua2 (n1 + 1) uc2) (.slice ua4 (n1 + 1) uc4)) (uqf f (snoc n1 (f 1) (.func (.func 60) #[] #[.pointer (some ⟨Bs, 0, none⟩)])) (snoc n1 (f 3) (.slice ha N hc)) (snoc n1 (f 5) (.slice ea N ec))) W6) := by
        refine ⟨g6, (B 0 (by decide) (by decide) (by decide) (by decide)).trans H3.out.Z, H3.out.c, H3.out.T.keep (B 2 (by decide) (by decide) (by decide) (by decide)) (Cle.refl _), H3.out.D.keep (fun k hk => B _ (by omega) (by omega) (by omega) (by omega)), ?_, (B 16 (by decide) (by decide) (by decide) (by decide)).trans H3.out.E, (B 1 (by decide) (by decide) (by decide) (by decide)).trans H3.out.p, fun k hk => (B _ (by omega) (by omega) (by omega) (by omega)).trans (H3.out.q k hk)⟩
        refine ⟨e6k, (B 10 (by decide) (by decide) (by decide) (by decide)).trans H3.out.K.r0, e10, (B 12 (by decide) (by decide) (by decide) (by decide)).trans H3.out.K.r2, e12, (B 14 (by decide) (by decide) (by decide) (by decide)).trans H3.out.K.r4, e14, fun j hj => H3.out.K.ki j hj, fun j hj => ?_⟩
        show KP C3 (snoc n1 (f 1) (.func (.func 60) #[] #[.pointer (some ⟨Bs, 0, none⟩)]) j) (snoc n1 (f 3) (.slice ha N hc) j) (snoc n1 (f 5) (.slice ea N ec) j)
        by_cases e : j = n1
        · subst e; rw [snoc_at, snoc_at, snoc_at]; exact KK.out
        · rw [snoc_ne _ _ (by omega), snoc_ne _ _ (by omega), snoc_ne _ _ (by omega)]; exact H3.out.K.kp j (by omega)
      have c3 := H6.out.cell 3 _ rfl
      clear g4 e4k e4r B4 g5 e5k e5r B5 g6 e6k e6r B6 e10 e12 e14 B H3
      go_wp2_with fail
      refine (gx_walkP H6.out.G H6.out.Z KK.out v).mono ?_
      rintro e W7 ⟨rfl, hb7⟩
      have R : Hid (OP w0 t C kb n0 n1 a b hb vb m W7) := (H6.out.below hb7).out ⟨rfl, by omega⟩
      clear hb7 H6 KK
      go_wp2
      go_ret
      exact ⟨rfl, R.out⟩
end
end Go.Proofs.Ytodihepgfpbonaa.Tb.P
