/- Acts of TableScript on the table of ints: all. -/
import Derived.Test.YtodihepgfpbonaaTsI
import Derived.Test.YtodihepgfpbonaaTka
import Derived.Deep.RegionHeld3
import Derived.BigQuiet
namespace Go.Proofs.Ytodihepgfpbonaa.Tb.I
open Go.ChangeShapes Go.WideShapes Go.ChangeAt Go.RowKit
section
variable {w0 W : World} {t : Nat → Th} {C : Cn} {kb n0 n1 a b hb vb m : Nat} {hd : Nat → Option Int} {vf : Nat → Int} {l : Nat → Value} {f : Nat → Nat → Value}
set_option maxRecDepth 20000 in
set_option maxHeartbeats 1600000 in
theorem act_all (hG : GX w0 w0.heap.size t W) (h0 : t 0 = tK C) (hT : I.TT t C 1 a m hd) (hD : DT t 3 b hb vb m hd vf) (hK : KS t C kb n0 n1 l f) (on h v : Int) (hn : n0 ≤ 1100) :
    Calls Try.prog 11 #[.pointer (some ⟨kb, 0, none⟩), .pointer (some ⟨a, 0, none⟩), .pointer (some ⟨b, 0, none⟩), .agg #[.int .i64 on, .int .i64 5, .int .i64 h, .int .i64 v]] W fun e W' => e = .returned (.bool true) ∧ OI w0 t C kb n0 n1 a b hb vb m W' := by
  obtain ⟨W1, hW1⟩ : ∃ V, W.alloc (.cells #[.int .i64 on, .int .i64 5, .int .i64 h, .int .i64 v] 44) = V := ⟨_, rfl⟩
  obtain ⟨t1, s⟩ := SI.start hG h0 hT hD hK (on, 5, h, v) hW1
  obtain ⟨ab, hab⟩ : ∃ x, W.heap.size = x := ⟨_, rfl⟩
  rw [hab] at s
  have c1 := s.cell 1 _ rfl
  have c2 := s.cell 2 _ rfl
  have c3 := s.cell 3 _ rfl
  have H := hid s
  clear hG h0 hT hD hK s
  go_enter Try.func11, Try.ntmps11
  obtain ⟨ps, hps, hst⟩ := H.out.T.ex
  have HST := hid hst
  have HPS := hid hps
  clear hst hps
  go_wp2_with fail
  refine (all_t a m ps W1 (H.out.G.blk HPS.out) H.out.T.h1).mono ?_
  rintro e W2 ⟨rfl, hbl, hb2⟩
  have H2 := hid (H.out.below hb2)
  have BL := hid hbl
  have HB2 := hid hb2
  obtain ⟨Bs, hBs⟩ : ∃ x, W1.heap.size = x := ⟨_, rfl⟩
  rw [hBs] at BL ⊢
  clear hbl hb2 c1 c2 c3 hW1 hab
  go_wp2_with fail
  refine (held_t b hb vb m (so hd) vf W2 (H2.out.D.rt H2.out.G) H2.out.D.h2).mono ?_
  rintro e W3 ⟨hv, lv, rfl, r1, r2, r3, hb3⟩
  obtain ⟨ha, hc, rfl⟩ := row_slice r1
  obtain ⟨va, vc, rfl⟩ := row_slice r2
  obtain ⟨t3, C3, hg, hz, hc3, hB, hki⟩ := ki_all H.out.G H.out.Z H.out.D HST.out (nx HB2.out hb3) (Nat.le_of_eq hBs) (BL.out.below hb3) (row_base r1 HB2.out.size) (row_base r2 HB2.out.size)
  have H3 := hid (H.out.free hg hz hc3 (fun k hk _ => hB k hk hk))
  have KK := hid hki
  obtain ⟨N, hN⟩ : ∃ N, (hl (so hd) m).length = N := ⟨_, rfl⟩
  rw [hN] at KK ⊢
  clear r1 r2 r3 hb3 hg hz hc3 hB hki HST HPS BL HB2 hBs H H2 hN
  have k0 : W3.cell? ⟨kb, 0, none⟩ = some (l 0) := (H3.out.G.blk H3.out.K.k).cell 0 _ rfl
  obtain ⟨u0, w1, ap0, kc0, kd0, kf0, t4, g4, e4k, e4r, B4⟩ := gx_push H3.out.G 36 77 .nilFunc 8 Try.underlying36 infoS rfl (by decide) (by decide) H3.out.K.k H3.out.K.r0 (by decide) (i := 0) rfl (.func (.func 57) #[] #[.pointer (some ⟨Bs, 0, none⟩)]) rfl (by omega) (below_alloc W3 (.cells #[(.func (.func 57) #[] #[.pointer (some ⟨Bs, 0, none⟩)])] 77)) ⟨W3.heap.size, 0, none⟩ (cell_new1 _ _ _ _ rfl)
  obtain ⟨ua0, uc0, rfl⟩ := row_slice (g4.row e4r)
  have ap0 : (APS #[l 0, .slice (some ⟨W3.heap.size, 0, none⟩) 1 1]).run Try.prog (W3.alloc (.cells #[(.func (.func 57) #[] #[.pointer (some ⟨Bs, 0, none⟩)])] 77)) = .ok (.slice ua0 (n0 + 1) uc0) w1 := ap0
  obtain ⟨W4, hW4⟩ : ∃ V, w1.setCell ⟨kb, 0, none⟩ (.slice ua0 (n0 + 1) uc0) = V := ⟨_, rfl⟩
  rw [hW4] at g4
  have k2 : W4.cell? ⟨kb, 2, none⟩ = some (l 2) := (g4.blk e4k).cell 2 _ rfl
  obtain ⟨u2, w2, ap2, kc2, kd2, kf2, t5, g5, e5k, e5r, B5⟩ := gx_push g4 38 72 (.slice none 0 0) 24 Try.underlying38 infoL rfl (by decide) (by decide) e4k ((B4 12 (by decide) (by decide)).trans H3.out.K.r2) (by decide) (i := 2) rfl (.slice ha N hc) rfl (by omega) (below_alloc W4 (.cells #[.slice ha N hc] 72)) ⟨W4.heap.size, 0, none⟩ (cell_new1 _ _ _ _ rfl)
  obtain ⟨ua2, uc2, rfl⟩ := row_slice (g5.row e5r)
  have ap2 : (APL #[l 2, .slice (some ⟨W4.heap.size, 0, none⟩) 1 1]).run Try.prog (W4.alloc (.cells #[.slice ha N hc] 72)) = .ok (.slice ua2 (n0 + 1) uc2) w2 := ap2
  obtain ⟨W5, hW5⟩ : ∃ V, w2.setCell ⟨kb, 2, none⟩ (.slice ua2 (n0 + 1) uc2) = V := ⟨_, rfl⟩
  rw [hW5] at g5
  have k4 : W5.cell? ⟨kb, 4, none⟩ = some (l 4) := (g5.blk e5k).cell 4 _ rfl
  obtain ⟨u4, w3, ap4, kc4, kd4, kf4, t6, g6, e6k, e6r, B6⟩ := gx_push g5 38 72 (.slice none 0 0) 24 Try.underlying38 infoL rfl (by decide) (by decide) e5k ((B5 14 (by decide) (by decide)).trans ((B4 14 (by decide) (by decide)).trans H3.out.K.r4)) (by decide) (i := 4) rfl (.slice va N vc) rfl (by omega) (below_alloc W5 (.cells #[.slice va N vc] 72)) ⟨W5.heap.size, 0, none⟩ (cell_new1 _ _ _ _ rfl)
  obtain ⟨ua4, uc4, rfl⟩ := row_slice (g6.row e6r)
  have ap4 : (APL #[l 4, .slice (some ⟨W5.heap.size, 0, none⟩) 1 1]).run Try.prog (W5.alloc (.cells #[.slice va N vc] 72)) = .ok (.slice ua4 (n0 + 1) uc4) w3 := ap4
  obtain ⟨W6, hW6⟩ : ∃ V, w3.setCell ⟨kb, 4, none⟩ (.slice ua4 (n0 + 1) uc4) = V := ⟨_, rfl⟩
  rw [hW6] at g6
  have e10 : t6 10 = tW (.slice ua0 (n0 + 1) uc0) (n0 + 1) (vals (n0 + 1) (snoc n0 (f 0) (.func (.func 57) #[] #[.pointer (some ⟨Bs, 0, none⟩)]))) 77 1 := by rw [B6 10 (by decide) (by decide), B5 10 (by decide) (by decide), e4r, vals_snoc]
  have e12 : t6 12 = tW (.slice ua2 (n0 + 1) uc2) (n0 + 1) (vals (n0 + 1) (snoc n0 (f 2) (.slice ha N hc))) 72 1 := by rw [B6 12 (by decide) (by decide), e5r, vals_snoc]
  have e14 : t6 14 = tW (.slice ua4 (n0 + 1) uc4) (n0 + 1) (vals (n0 + 1) (snoc n0 (f 4) (.slice va N vc))) 72 1 := by rw [e6r, vals_snoc]
  have B : ∀ k, k ≠ 9 → k ≠ 10 → k ≠ 12 → k ≠ 14 → t6 k = t3 k := fun k h1 h2 h3 h4 => (B6 k h1 h4).trans ((B5 k h1 h3).trans (B4 k h1 h2))
  have H6 : Hid (SI w0 t C kb a b hb vb m ab (on, 5, h, v) t6 C3 (n0 + 1) n1 hd hd vf (up3 l (.slice ua0 (n0 + 1) uc0) (.slice ua2 (n0 + 1) uc2) (.slice ua4 (n0 + 1) uc4)) (upf f (snoc n0 (f 0) (.func (.func 57) #[] #[.pointer (some ⟨Bs, 0, none⟩)])) (snoc n0 (f 2) (.slice ha N hc)) (snoc n0 (f 4) (.slice va N vc))) W6) := by
    refine ⟨g6, (B 0 (by decide) (by decide) (by decide) (by decide)).trans H3.out.Z, H3.out.c, H3.out.T.keep (B 1 (by decide) (by decide) (by decide) (by decide)) (Cle.refl _), H3.out.D.keep (fun k hk => B _ (by omega) (by omega) (by omega) (by omega)), ?_, (B 16 (by decide) (by decide) (by decide) (by decide)).trans H3.out.E, (B 2 (by decide) (by decide) (by decide) (by decide)).trans H3.out.p, fun k hk => (B _ (by omega) (by omega) (by omega) (by omega)).trans (H3.out.q k hk)⟩
    refine ⟨e6k, e10, (B 11 (by decide) (by decide) (by decide) (by decide)).trans H3.out.K.r1, e12, (B 13 (by decide) (by decide) (by decide) (by decide)).trans H3.out.K.r3, e14, (B 15 (by decide) (by decide) (by decide) (by decide)).trans H3.out.K.r5, fun j hj => ?_, fun j hj => H3.out.K.kp j hj⟩
    show KI C3 (snoc n0 (f 0) (.func (.func 57) #[] #[.pointer (some ⟨Bs, 0, none⟩)]) j) (snoc n0 (f 2) (.slice ha N hc) j) (snoc n0 (f 4) (.slice va N vc) j)
    by_cases e : j = n0
    · subst e; rw [snoc_at, snoc_at, snoc_at]; exact KK.out
    · rw [snoc_ne _ _ (by omega), snoc_ne _ _ (by omega), snoc_ne _ _ (by omega)]; exact H3.out.K.ki j (by omega)
  have c3 := H6.out.cell 3 _ rfl
  clear g4 e4k e4r B4 g5 e5k e5r B5 g6 e6k e6r B6 e10 e12 e14 B H3
  go_wp2_with fail
  refine (gx_walkI H6.out.G H6.out.Z KK.out v).mono ?_
  rintro e W7 ⟨rfl, hb7⟩
  have R : Hid (OI w0 t C kb n0 n1 a b hb vb m W7) := (H6.out.below hb7).out ⟨rfl, by omega⟩
  clear hb7 H6 KK
  go_wp2
  go_ret
  exact ⟨rfl, R.out⟩
end
end Go.Proofs.Ytodihepgfpbonaa.Tb.I
