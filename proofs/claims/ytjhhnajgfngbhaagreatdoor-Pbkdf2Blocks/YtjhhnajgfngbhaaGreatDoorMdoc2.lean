/- The document's macs: New, Write, Sum, Reset, Clone, Wipe. -/
import Derived.Test.YtjhhnajgfngbhaaGreatDoorMdoc
namespace Go.Proofs.YtjhhnajgfngbhaaGreatDoor.Dg
open Go.ChangeShapes Go.WideShapes Go.ChangeAt Go.RowKit
open Go.Proofs.YtjhhnajgfngbhaaGreatDoor.By
open Go.Proofs.YtjhhnajgfngbhaaGreatDoor.Sh (Blk size_alloc)
theorem rled_no {W : World} {mb : Nat} {rv : Value} {L : List Rn} (h : RLed W mb rv L) {g : Nat} {cs : List Value} {t : TypeId} (hg : Blk W g cs t) (h1 : t ≠ 48) (h2 : t ≠ 66) : ¬ SM mb rv g := fun e => by
  rcases e with e | e
  · exact Blk.ne hg (show Blk W mb _ 48 from h.here) h1 e
  · obtain ⟨c, hc⟩ := Sg.own_type h.own e
    exact Blk.ne hg (show Blk W g c.toList 66 from by show W.heap[g]? = _; rw [hc]) h2 rfl
theorem rled_own {W W' : World} {mb : Nat} {rv : Value} {L : List Rn} (h : RLed W mb rv L) (hk : Kp (SM mb rv) W W') {base n : Nat} {v : Value} {f : Nat → Int} (ho : By.Own W base v n f) : By.Own W' base v n f := Sg.own_kept ho hk (fun g hg => by
  obtain ⟨c, hc⟩ := Sg.own8_type ho hg
  exact rled_no h (show Blk W g c.toList 5 from by show W.heap[g]? = _; rw [hc]) (by decide) (by decide))
theorem IsQk.kl {W W' : World} {mb c : Nat} {rv kv mv : Value} {L : List Rn} {y : DK} (h : RLed W mb rv L) (hk : Kp (SM mb rv) W W') (hq : IsQk W c y kv mv) : IsQk W' c y kv mv :=
  ⟨hq.here.kept hk (rled_no h hq.here (by decide) (by decide)), rled_own h hk hq.k, rled_own h hk hq.m⟩
theorem IsQk.below {W W' : World} {c : Nat} {kv mv : Value} {y : DK} (hq : IsQk W c y kv mv) (hb : Below W.heap.size W W') : IsQk W' c y kv mv := ⟨hq.here.below hb, own_below hq.k hb, own_below hq.m hb⟩
theorem wrap_sub (N b d q : Nat) (hN : N ≤ 140737488353328) (h : N / b - d = q) (hd : d ≤ N / b) : IntKind.i64.wrap (IntKind.i64.wrap ((N : Int) / (b : Int)) - (d : Int)) = (q : Int) := by
  have e : (N : Int) / (b : Int) = ((N / b : Nat) : Int) := (Int.natCast_ediv N b).symm
  have h1 : N / b ≤ N := Nat.div_le_self N b
  rw [e]
  generalize N / b = x at *
  rw [wrap_small x (by omega), show (x : Int) - (d : Int) = (q : Int) from by omega]
  exact wrap_small q (by omega)
theorem qreset (c : Nat) (y : DK) (kv mv : Value) (w : World) (h : IsQk w c y kv mv) :
    Calls Tryz.prog 45 #[.pointer (some ⟨c, 0, none⟩)] w fun e w' => e = .returned (.int .i64 0) ∧ IsQk w' c ⟨y.a, y.nk, y.kf, 0, nof⟩ kv (.slice none 0 0) ∧ Kp (fun j => j = c) w w' := by
  have H := hid h
  have c2 := h.here.cell 2 _ rfl
  have f2 := h.here.frozen 2
  clear h
  go_enter Tryz.func45, Tryz.ntmps45
  go_wp2_with fail
  refine (madeS c y kv mv _ H.out).mono ?_
  rintro e w1 ⟨rfl, hw1⟩
  subst w1
  go_wp2
  go_ret
  have hk : Kp (fun j => j = c) w (w.setCell ⟨c, 2, none⟩ (.slice none 0 0)) := Kp.setCell c 2 _
  exact ⟨rfl, ⟨H.out.here.set 2 _, Sg.own_kept H.out.k hk (fun g hg e => by
    obtain ⟨cc, hc⟩ := Sg.own8_type H.out.k hg
    exact Blk.ne (show Blk w g cc.toList 5 from by show w.heap[g]? = _; rw [hc]) H.out.here (by decide) e), own_nil _ _ _ nof_b⟩, hk⟩
set_option maxRecDepth 4000 in
set_option maxHeartbeats 2000000 in
theorem qnew256 (mb n : Nat) (rv v : Value) (g : Nat → Int) (L : List Rn) (w : World) (h : RLed w mb rv L) (hr : ∀ w', Kp (SM mb rv) w w' → By.RB w' v n g) (hn : n ≤ 140737488352328) (ht : tq L ≤ 900000000) :
    Calls Tryz.prog 24 #[.pointer (some ⟨mb, 0, none⟩), .int .u8 1, v] w fun e w' => ∃ d kv, w.heap.size ≤ d ∧ e = .returned (.tuple #[.pointer (some ⟨d, 0, none⟩), .int .i64 0]) ∧ IsQk w' d ⟨false, n, g, 0, nof⟩ kv (.slice none 0 0) ∧ (∀ p, kv.ownBlock = some p → w.heap.size ≤ p) ∧ RW w w' mb rv (kev false L n) := by
  have H := hid h
  have HR := hid hr
  obtain ⟨_, va, vc, rfl, -⟩ := hr w (Kp.refl _ _)
  clear h hr
  go_enter Tryz.func24, Tryz.ntmps24
  go_wp2_with fail
  refine (rblock256 _).mono ?_
  rintro e w1 ⟨rfl, hw1⟩
  subst w1
  go_wp2_with fail
  refine (rbegins256 mb n rv L _ H.out (by omega) (by omega)).mono ?_
  rintro e w1 ⟨rfl, h1⟩
  have R1 := hid h1
  have K1 := hid (HR.out w1 h1.2)
  have z1 := hid h1.2.size
  clear h1 HR
  go_wp2_with (at_builtin; go_must (refine Sg.wpList_cat rfl _ _ rfl w1.heap.size 0 n _ _ nof g rfl (own_nil _ _ _ nof_b) rfl K1.out (by omega) (Nat.le_refl _) ?_))
  intro kv w2 hkv hg2
  have KV := hid (show By.Own w2 w1.heap.size kv n g from by rw [show Sg.cat 0 nof g = g from Sg.cat0 _ _] at hkv; exact hkv)
  have B2 := hid (show Below w1.heap.size w1 w2 from Below.of_grown hg2)
  clear hkv hg2
  obtain ⟨xa, xc, rfl⟩ := own_sl KV.out
  go_wp2
  go_ret2
  have hbb := below_alloc w2 (.cells #[.int .u8 1, .slice xa n xc, .slice none 0 0, .bool true] 71)
  refine ⟨_, _, ?_, rfl, ⟨Sh.Blk.new w2 [.int .u8 1, .slice xa n xc, .slice none 0 0, .bool true] _, Sg.own_mono (own_below KV.out hbb) (Nat.zero_le _), own_nil _ _ _ nof_b⟩, fun p hp => by have := own_row KV.out p hp; have := z1.out; omega, (R1.out.below B2.out).below hbb⟩
  have := z1.out
  have := B2.out.size
  omega
set_option maxRecDepth 4000 in
set_option maxHeartbeats 2000000 in
theorem qsum256 (mb c nk m : Nat) (rv kv mv : Value) (kf f : Nat → Int) (L : List Rn) (w : World) (hq : IsQk w c ⟨false, nk, kf, m, f⟩ kv mv) (h : RLed w mb rv L) (hn : nk ≤ 140737488352328) (hmm : m ≤ 140737488352328) (ht : tq L ≤ 4399500000000) :
    Calls Tryz.prog 44 #[.pointer (some ⟨c, 0, none⟩), .pointer (some ⟨mb, 0, none⟩)] w fun e w' => ∃ u, e = .returned (.tuple #[u, .int .i64 0]) ∧ By.Own w' w.heap.size u 32 (hm false (kb false nk kf) m f) ∧ RW w w' mb rv (sev false L m) := by
  have Q := hid hq
  have H := hid h
  have c0 : w.cell? ⟨c, 0, none⟩ = some (.int .u8 1) := hq.here.cell 0 _ rfl
  have c2 := hq.here.cell 2 _ rfl
  obtain ⟨ma, mc, rfl⟩ := own_sl hq.m
  obtain ⟨ka, kc, rfl⟩ := own_sl hq.k
  clear hq h
  go_enter Tryz.func44, Tryz.ntmps44
  go_wp2_with fail
  refine (madeS c _ _ _ _ Q.out).mono ?_
  rintro e w1 ⟨rfl, hw1⟩
  subst w1
  have HE := hid (show Calls Tryz.prog 56 #[.pointer (some ⟨mb, 0, none⟩), .int .u8 1, .int .i64 m] w.drew (fun e w' => e = .returned (.tuple #[]) ∧ RW w w' mb rv (sev false L m)) from by
    refine (rends256 mb m rv L w.drew (H.out.below (below_drewN w 1)) (by omega) (by omega)).mono ?_
    rintro e w' ⟨rfl, h1⟩
    exact ⟨rfl, RW.start (below_drewN w 1) h1⟩)
  go_wp2_with fail
  go_region_held3 (fun W => W.cell? ⟨c, 0, none⟩ = some (.int .u8 1) ∧ W.cell? ⟨c, 2, none⟩ = some (.slice ma m mc)) (go_keep) (first
    | (go_at_call 56; go_must (refine HE.out.mono ?_; rintro e w1 ⟨rfl, h1⟩; have R1 := hid h1; have Q1 := hid (Q.out.kl H.out h1.2); have y0 : w1.cell? ⟨c, 0, none⟩ = some (.int .u8 1) := (Q.out.kl H.out h1.2).here.cell 0 _ rfl; have y2 := (Q.out.kl H.out h1.2).here.cell 2 _ rfl; clear h1)))
  clear c0 c2 Q HE
  have y1 := Q1.out.here.cell 1 _ rfl
  have HO := hid (show Calls Tryz.prog 57 #[.int .u8 1, .slice ka nk kc, .slice ma m mc] w1.drew (fun e w' => ∃ u, e = .returned u ∧ By.Own w' w1.heap.size u 32 (hm false (kb false nk kf) m f) ∧ Below w1.heap.size w1 w') from by
    refine (rof256 nk m (.slice ka nk kc) (.slice ma m mc) kf f w1.drew (Q1.out.k.reads.drewN 1) (Q1.out.m.reads.drewN 1) (by omega) hmm).mono ?_
    rintro e w' ⟨u, rfl, h1, h2⟩
    exact ⟨u, rfl, h1, below_next (below_drewN w1 1) h2⟩)
  go_wp2_with fail
  go_region_held3 (fun W => W.cell? ⟨c, 0, none⟩ = some (.int .u8 1) ∧ W.cell? ⟨c, 1, none⟩ = some (.slice ka nk kc) ∧ W.cell? ⟨c, 2, none⟩ = some (.slice ma m mc)) (go_keep) (first
    | (go_at_call 57; go_must (refine HO.out.mono ?_; rintro e w2 ⟨u, rfl, hu, hb⟩; have U := hid (Sg.own_mono hu R1.out.2.size); have R2 := hid (R1.out.below hb); have z0 : w2.cell? ⟨c, 0, none⟩ = some (.int .u8 1) := (Q1.out.here.below hb).cell 0 _ rfl; have z1 := (Q1.out.here.below hb).cell 1 _ rfl; have z2 := (Q1.out.here.below hb).cell 2 _ rfl; clear hu hb)))
  clear y0 y1 y2 z0 z1 z2 HO Q1 R1
  go_wp2
  go_ret2
  exact ⟨u, rfl, U.out, R2.out⟩
set_option maxRecDepth 8000 in
set_option maxHeartbeats 4000000 in
theorem qwrite256 (mb c nk m n : Nat) (rv kv mv v : Value) (kf f g : Nat → Int) (L : List Rn) (w : World) (hq : IsQk w c ⟨false, nk, kf, m, f⟩ kv mv) (h : RLed w mb rv L) (hr : By.RB w v n g) (hmn : m + n ≤ 140737488352328) (ht : tq L ≤ 4399500000000) :
    Calls Tryz.prog 43 #[.pointer (some ⟨c, 0, none⟩), .pointer (some ⟨mb, 0, none⟩), v] w fun e w' => e = .returned (.int .i64 0) ∧ (∃ mv', IsQk w' c ⟨false, nk, kf, m + n, cat m f g⟩ kv mv' ∧ ∀ p, mv'.ownBlock = some p → w.heap.size ≤ p) ∧ (∃ rv', RLed w' mb rv' (evs false L ((m + n) / 64 - m / 64)) ∧ SameOrNew w rv rv') ∧ Kp (fun j => j = c ∨ SM mb rv j) w w' := by
  have Q := hid hq
  have H := hid h
  have HR := hid hr
  have hgb := hid hr.1
  have c0 : w.cell? ⟨c, 0, none⟩ = some (.int .u8 1) := hq.here.cell 0 _ rfl
  have c2 := hq.here.cell 2 _ rfl
  have hlt := hq.here.lt
  obtain ⟨ma, mc, rfl⟩ := own_sl hq.m
  obtain ⟨_, va, vc, rfl, -⟩ := hr
  clear hq h
  obtain ⟨d, hd⟩ : ∃ d, m / 64 = d := ⟨_, rfl⟩
  obtain ⟨N, hN⟩ : ∃ N, m + n = N := ⟨_, rfl⟩
  obtain ⟨q, hq⟩ : ∃ q, N / 64 - d = q := ⟨_, rfl⟩
  have hdv : ((m : Int) / 64) = (d : Int) := by omega
  have hwd : IntKind.i64.wrap (d : Int) = (d : Int) := wrap_small d (by omega)
  have hq2 : IntKind.i64.wrap (IntKind.i64.wrap ((N : Int) / 64) - (d : Int)) = (q : Int) := wrap_sub N 64 d q (by omega) hq (by rw [← hd]; exact Nat.div_le_div_right (by omega))
  have hqb : q ≤ 2300000000000 := by omega
  have EN := hid (show evs false L ((m + n) / 64 - m / 64) = evs false L q by rw [hN, hd, hq])
  go_enter Tryz.func43, Tryz.ntmps43
  go_wp2_with fail
  refine (madeS c _ _ _ _ Q.out).mono ?_
  rintro e w1 ⟨rfl, hw⟩
  subst w1
  clear hd hq
  go_wp2_with fail
  go_region_held3 (fun W => W.cell? ⟨c, 0, none⟩ = some (.int .u8 1) ∧ W.cell? ⟨c, 2, none⟩ = some (.slice ma m mc)) (go_keep) (first
    | (go_at_call 33; go_must (refine (rblock256 _).mono ?_; rintro e w1 ⟨rfl, hw⟩; subst w1)))
  obtain ⟨W1, hW1⟩ : ∃ x, w.drew = x := ⟨_, rfl⟩
  have b1 : Below w.heap.size w W1 := by rw [← hW1]; exact below_drewN w 1
  have Q1 := hid (Q.out.below b1)
  have H1 := hid (H.out.below b1)
  have R1 := hid (HR.out.below b1)
  have B1 := hid b1
  rw [hW1]
  have zB := hid b1.size
  have Q0 := hid Q.out
  have H0 := hid H.out
  clear b1 hW1 Q H HR c0 c2
  have d2 := Q1.out.here.cell 2 _ rfl
  go_wp2_with (at_builtin; go_must (refine Sg.wpList_cat rfl _ _ rfl W1.heap.size 0 m _ _ nof f rfl (own_nil _ _ _ nof_b) rfl Q1.out.m.reads (by omega) (Nat.le_refl _) ?_))
  intro u2 w2 h2 hg2
  have U2 := hid (show By.Own w2 W1.heap.size u2 m f from by rw [show Sg.cat 0 nof f = f from Sg.cat0 _ _] at h2; exact h2)
  have b2 := Below.of_grown hg2
  have Q2 := hid (Q1.out.below b2)
  have H2 := hid (H1.out.below b2)
  have R2 := hid (R1.out.below b2)
  have B2 := hid (below_next B1.out b2)
  have z2 := hid b2.size
  clear h2 hg2 b2 Q1 H1 R1 B1 d2
  obtain ⟨ua, uc, rfl⟩ := own_sl U2.out
  go_wp2_with (at_builtin; go_must (refine Sg.wpList_cat rfl _ _ rfl W1.heap.size m n _ _ f g rfl U2.out rfl R2.out (by omega) z2.out ?_))
  intro u3 w3 h3 hg3
  have b3 : Below w.heap.size w w3 := Sh.below_grow B2.out B2.out.size (Sg.own_mono U2.out zB.out) hg3
  have U3 := hid (show By.Own w3 0 u3 N (cat m f g) from Sg.own_mono h3 (Nat.zero_le _))
  have UB := hid (show ∀ p, u3.ownBlock = some p → w.heap.size ≤ p from fun p hp => by have := own_row h3 p hp; have := zB.out; omega)
  have Q3 := hid (Q0.out.below b3)
  have H3 := hid (H0.out.below b3)
  have B3 := hid b3
  clear h3 hg3 b3 Q2 H2 R2 B2 U2 z2 Q0 zB
  obtain ⟨xa, xc, rfl⟩ := own_sl U3.out
  have e2 := Q3.out.here.cell 2 _ rfl
  have f2 := Q3.out.here.frozen 2
  have k4 : Kp (fun j => j = c) w3 (w3.setCell ⟨c, 2, none⟩ (.slice xa N xc)) := Kp.setCell c 2 _
  have ou : ∀ {base p : Nat} {v : Value} {h : Nat → Int}, By.Own w3 base v p h → By.Own (w3.setCell ⟨c, 2, none⟩ (.slice xa N xc)) base v p h := fun ho => Sg.own_kept ho k4 (fun g hg e => by
    obtain ⟨cc, hc⟩ := Sg.own8_type ho hg
    exact Blk.ne (show Blk w3 g cc.toList 5 from by show w3.heap[g]? = _; rw [hc]) Q3.out.here (by decide) e)
  have Q4 := hid (show IsQk (w3.setCell ⟨c, 2, none⟩ (.slice xa N xc)) c ⟨false, nk, kf, N, cat m f g⟩ kv (.slice xa N xc) from ⟨Q3.out.here.set 2 _, ou Q3.out.k, ou U3.out⟩)
  have nc : ¬ SM mb rv c := rled_no H3.out Q3.out.here (by decide) (by decide)
  have H4 := hid (H3.out.kept k4 (fun e => nc (.inl (show mb = c from e).symm)) (fun g hg e => nc (.inr (by rw [← show g = c from e]; exact hg))))
  have K4 := hid ((Kp.of_below (fun j => j = c ∨ SM mb rv j) B3.out).trans k4 (fun _ _ e => .inl e))
  clear k4 ou nc Q3 H3 U3
  obtain ⟨W4, hW4⟩ : ∃ x, w3.setCell ⟨c, 2, none⟩ (.slice xa N xc) = x := ⟨_, rfl⟩
  rw [hW4] at Q4 H4 K4
  have HB := hid (show Calls Tryz.prog 41 #[.pointer (some ⟨mb, 0, none⟩), .int .u8 1, .int .i64 q] W4.drew (fun e w' => e = .returned (.tuple #[]) ∧ RW W4 w' mb rv (evs false L q)) from by
    refine (rblocks256 mb q rv L W4.drew (H4.out.below (below_drewN W4 1)) hqb (by omega)).mono ?_
    rintro e w' ⟨rfl, h1⟩
    exact ⟨rfl, RW.start (below_drewN W4 1) h1⟩)
  go_wp2_with fail
  have g0 : W4.cell? ⟨c, 0, none⟩ = some (.int .u8 1) := Q4.out.here.cell 0 _ rfl
  have g2 := Q4.out.here.cell 2 _ rfl
  clear e2 f2
  go_region_held3 (fun W => W.cell? ⟨c, 0, none⟩ = some (.int .u8 1) ∧ W.cell? ⟨c, 2, none⟩ = some (.slice xa N xc)) (go_keep) (first
    | (go_at_call 33; go_must (refine (rblock256 _).mono ?_; rintro e w5 ⟨rfl, hw⟩; subst w5))
    | (go_at_call 41; go_must (refine HB.out.mono ?_; rintro e w5 ⟨rfl, h1⟩; have R5 := hid h1; have Q5 := hid (Q4.out.kl H4.out h1.2); have y0 : w5.cell? ⟨c, 0, none⟩ = some (.int .u8 1) := (Q4.out.kl H4.out h1.2).here.cell 0 _ rfl; have y2 := (Q4.out.kl H4.out h1.2).here.cell 2 _ rfl; clear h1)))
  clear y0 y2 g0 g2 HB hdv hwd hq2
  go_wp2
  go_ret
  obtain ⟨⟨rv', r1, r2⟩, r3⟩ := R5.out
  rw [EN.out]
  refine ⟨rfl, ⟨_, hN ▸ Q5.out, UB.out⟩, ⟨rv', r1, ?_⟩, K4.out.trans r3 (fun _ _ e => .inr e)⟩
  rcases r2 with e | e
  · exact .inl e
  · exact .inr (fun g hg => Nat.le_trans K4.out.size (e g hg))
set_option maxRecDepth 4000 in
set_option maxHeartbeats 2000000 in
theorem qnew512 (mb n : Nat) (rv v : Value) (g : Nat → Int) (L : List Rn) (w : World) (h : RLed w mb rv L) (hr : ∀ w', Kp (SM mb rv) w w' → By.RB w' v n g) (hn : n ≤ 140737488352328) (ht : tq L ≤ 900000000) :
    Calls Tryz.prog 24 #[.pointer (some ⟨mb, 0, none⟩), .int .u8 2, v] w fun e w' => ∃ d kv, w.heap.size ≤ d ∧ e = .returned (.tuple #[.pointer (some ⟨d, 0, none⟩), .int .i64 0]) ∧ IsQk w' d ⟨true, n, g, 0, nof⟩ kv (.slice none 0 0) ∧ (∀ p, kv.ownBlock = some p → w.heap.size ≤ p) ∧ RW w w' mb rv (kev true L n) := by
  have H := hid h
  have HR := hid hr
  obtain ⟨_, va, vc, rfl, -⟩ := hr w (Kp.refl _ _)
  clear h hr
  go_enter Tryz.func24, Tryz.ntmps24
  go_wp2_with fail
  refine (rblock512 _).mono ?_
  rintro e w1 ⟨rfl, hw1⟩
  subst w1
  go_wp2_with fail
  refine (rbegins512 mb n rv L _ H.out (by omega) (by omega)).mono ?_
  rintro e w1 ⟨rfl, h1⟩
  have R1 := hid h1
  have K1 := hid (HR.out w1 h1.2)
  have z1 := hid h1.2.size
  clear h1 HR
  go_wp2_with (at_builtin; go_must (refine Sg.wpList_cat rfl _ _ rfl w1.heap.size 0 n _ _ nof g rfl (own_nil _ _ _ nof_b) rfl K1.out (by omega) (Nat.le_refl _) ?_))
  intro kv w2 hkv hg2
  have KV := hid (show By.Own w2 w1.heap.size kv n g from by rw [show Sg.cat 0 nof g = g from Sg.cat0 _ _] at hkv; exact hkv)
  have B2 := hid (show Below w1.heap.size w1 w2 from Below.of_grown hg2)
  clear hkv hg2
  obtain ⟨xa, xc, rfl⟩ := own_sl KV.out
  go_wp2
  go_ret2
  have hbb := below_alloc w2 (.cells #[.int .u8 2, .slice xa n xc, .slice none 0 0, .bool true] 71)
  refine ⟨_, _, ?_, rfl, ⟨Sh.Blk.new w2 [.int .u8 2, .slice xa n xc, .slice none 0 0, .bool true] _, Sg.own_mono (own_below KV.out hbb) (Nat.zero_le _), own_nil _ _ _ nof_b⟩, fun p hp => by have := own_row KV.out p hp; have := z1.out; omega, (R1.out.below B2.out).below hbb⟩
  have := z1.out
  have := B2.out.size
  omega
set_option maxRecDepth 4000 in
set_option maxHeartbeats 2000000 in
theorem qsum512 (mb c nk m : Nat) (rv kv mv : Value) (kf f : Nat → Int) (L : List Rn) (w : World) (hq : IsQk w c ⟨true, nk, kf, m, f⟩ kv mv) (h : RLed w mb rv L) (hn : nk ≤ 140737488352328) (hmm : m ≤ 140737488352328) (ht : tq L ≤ 4399500000000) :
    Calls Tryz.prog 44 #[.pointer (some ⟨c, 0, none⟩), .pointer (some ⟨mb, 0, none⟩)] w fun e w' => ∃ u, e = .returned (.tuple #[u, .int .i64 0]) ∧ By.Own w' w.heap.size u 64 (hm true (kb true nk kf) m f) ∧ RW w w' mb rv (sev true L m) := by
  have Q := hid hq
  have H := hid h
  have c0 : w.cell? ⟨c, 0, none⟩ = some (.int .u8 2) := hq.here.cell 0 _ rfl
  have c2 := hq.here.cell 2 _ rfl
  obtain ⟨ma, mc, rfl⟩ := own_sl hq.m
  obtain ⟨ka, kc, rfl⟩ := own_sl hq.k
  clear hq h
  go_enter Tryz.func44, Tryz.ntmps44
  go_wp2_with fail
  refine (madeS c _ _ _ _ Q.out).mono ?_
  rintro e w1 ⟨rfl, hw1⟩
  subst w1
  have HE := hid (show Calls Tryz.prog 56 #[.pointer (some ⟨mb, 0, none⟩), .int .u8 2, .int .i64 m] w.drew (fun e w' => e = .returned (.tuple #[]) ∧ RW w w' mb rv (sev true L m)) from by
    refine (rends512 mb m rv L w.drew (H.out.below (below_drewN w 1)) (by omega) (by omega)).mono ?_
    rintro e w' ⟨rfl, h1⟩
    exact ⟨rfl, RW.start (below_drewN w 1) h1⟩)
  go_wp2_with fail
  go_region_held3 (fun W => W.cell? ⟨c, 0, none⟩ = some (.int .u8 2) ∧ W.cell? ⟨c, 2, none⟩ = some (.slice ma m mc)) (go_keep) (first
    | (go_at_call 56; go_must (refine HE.out.mono ?_; rintro e w1 ⟨rfl, h1⟩; have R1 := hid h1; have Q1 := hid (Q.out.kl H.out h1.2); have y0 : w1.cell? ⟨c, 0, none⟩ = some (.int .u8 2) := (Q.out.kl H.out h1.2).here.cell 0 _ rfl; have y2 := (Q.out.kl H.out h1.2).here.cell 2 _ rfl; clear h1)))
  clear c0 c2 Q HE
  have y1 := Q1.out.here.cell 1 _ rfl
  have HO := hid (show Calls Tryz.prog 57 #[.int .u8 2, .slice ka nk kc, .slice ma m mc] w1.drew (fun e w' => ∃ u, e = .returned u ∧ By.Own w' w1.heap.size u 64 (hm true (kb true nk kf) m f) ∧ Below w1.heap.size w1 w') from by
    refine (rof512 nk m (.slice ka nk kc) (.slice ma m mc) kf f w1.drew (Q1.out.k.reads.drewN 1) (Q1.out.m.reads.drewN 1) (by omega) hmm).mono ?_
    rintro e w' ⟨u, rfl, h1, h2⟩
    exact ⟨u, rfl, h1, below_next (below_drewN w1 1) h2⟩)
  go_wp2_with fail
  go_region_held3 (fun W => W.cell? ⟨c, 0, none⟩ = some (.int .u8 2) ∧ W.cell? ⟨c, 1, none⟩ = some (.slice ka nk kc) ∧ W.cell? ⟨c, 2, none⟩ = some (.slice ma m mc)) (go_keep) (first
    | (go_at_call 57; go_must (refine HO.out.mono ?_; rintro e w2 ⟨u, rfl, hu, hb⟩; have U := hid (Sg.own_mono hu R1.out.2.size); have R2 := hid (R1.out.below hb); have z0 : w2.cell? ⟨c, 0, none⟩ = some (.int .u8 2) := (Q1.out.here.below hb).cell 0 _ rfl; have z1 := (Q1.out.here.below hb).cell 1 _ rfl; have z2 := (Q1.out.here.below hb).cell 2 _ rfl; clear hu hb)))
  clear y0 y1 y2 z0 z1 z2 HO Q1 R1
  go_wp2
  go_ret2
  exact ⟨u, rfl, U.out, R2.out⟩
set_option maxRecDepth 8000 in
set_option maxHeartbeats 4000000 in
theorem qwrite512 (mb c nk m n : Nat) (rv kv mv v : Value) (kf f g : Nat → Int) (L : List Rn) (w : World) (hq : IsQk w c ⟨true, nk, kf, m, f⟩ kv mv) (h : RLed w mb rv L) (hr : By.RB w v n g) (hmn : m + n ≤ 140737488352328) (ht : tq L ≤ 4399500000000) :
    Calls Tryz.prog 43 #[.pointer (some ⟨c, 0, none⟩), .pointer (some ⟨mb, 0, none⟩), v] w fun e w' => e = .returned (.int .i64 0) ∧ (∃ mv', IsQk w' c ⟨true, nk, kf, m + n, cat m f g⟩ kv mv' ∧ ∀ p, mv'.ownBlock = some p → w.heap.size ≤ p) ∧ (∃ rv', RLed w' mb rv' (evs true L ((m + n) / 128 - m / 128)) ∧ SameOrNew w rv rv') ∧ Kp (fun j => j = c ∨ SM mb rv j) w w' := by
  have Q := hid hq
  have H := hid h
  have HR := hid hr
  have hgb := hid hr.1
  have c0 : w.cell? ⟨c, 0, none⟩ = some (.int .u8 2) := hq.here.cell 0 _ rfl
  have c2 := hq.here.cell 2 _ rfl
  have hlt := hq.here.lt
  obtain ⟨ma, mc, rfl⟩ := own_sl hq.m
  obtain ⟨_, va, vc, rfl, -⟩ := hr
  clear hq h
  obtain ⟨d, hd⟩ : ∃ d, m / 128 = d := ⟨_, rfl⟩
  obtain ⟨N, hN⟩ : ∃ N, m + n = N := ⟨_, rfl⟩
  obtain ⟨q, hq⟩ : ∃ q, N / 128 - d = q := ⟨_, rfl⟩
  have hdv : ((m : Int) / 128) = (d : Int) := by omega
  have hwd : IntKind.i64.wrap (d : Int) = (d : Int) := wrap_small d (by omega)
  have hq2 : IntKind.i64.wrap (IntKind.i64.wrap ((N : Int) / 128) - (d : Int)) = (q : Int) := wrap_sub N 128 d q (by omega) hq (by rw [← hd]; exact Nat.div_le_div_right (by omega))
  have hqb : q ≤ 2300000000000 := by omega
  have EN := hid (show evs true L ((m + n) / 128 - m / 128) = evs true L q by rw [hN, hd, hq])
  go_enter Tryz.func43, Tryz.ntmps43
  go_wp2_with fail
  refine (madeS c _ _ _ _ Q.out).mono ?_
  rintro e w1 ⟨rfl, hw⟩
  subst w1
  clear hd hq
  go_wp2_with fail
  go_region_held3 (fun W => W.cell? ⟨c, 0, none⟩ = some (.int .u8 2) ∧ W.cell? ⟨c, 2, none⟩ = some (.slice ma m mc)) (go_keep) (first
    | (go_at_call 33; go_must (refine (rblock512 _).mono ?_; rintro e w1 ⟨rfl, hw⟩; subst w1)))
  obtain ⟨W1, hW1⟩ : ∃ x, w.drew = x := ⟨_, rfl⟩
  have b1 : Below w.heap.size w W1 := by rw [← hW1]; exact below_drewN w 1
  have Q1 := hid (Q.out.below b1)
  have H1 := hid (H.out.below b1)
  have R1 := hid (HR.out.below b1)
  have B1 := hid b1
  rw [hW1]
  have zB := hid b1.size
  have Q0 := hid Q.out
  have H0 := hid H.out
  clear b1 hW1 Q H HR c0 c2
  have d2 := Q1.out.here.cell 2 _ rfl
  go_wp2_with (at_builtin; go_must (refine Sg.wpList_cat rfl _ _ rfl W1.heap.size 0 m _ _ nof f rfl (own_nil _ _ _ nof_b) rfl Q1.out.m.reads (by omega) (Nat.le_refl _) ?_))
  intro u2 w2 h2 hg2
  have U2 := hid (show By.Own w2 W1.heap.size u2 m f from by rw [show Sg.cat 0 nof f = f from Sg.cat0 _ _] at h2; exact h2)
  have b2 := Below.of_grown hg2
  have Q2 := hid (Q1.out.below b2)
  have H2 := hid (H1.out.below b2)
  have R2 := hid (R1.out.below b2)
  have B2 := hid (below_next B1.out b2)
  have z2 := hid b2.size
  clear h2 hg2 b2 Q1 H1 R1 B1 d2
  obtain ⟨ua, uc, rfl⟩ := own_sl U2.out
  go_wp2_with (at_builtin; go_must (refine Sg.wpList_cat rfl _ _ rfl W1.heap.size m n _ _ f g rfl U2.out rfl R2.out (by omega) z2.out ?_))
  intro u3 w3 h3 hg3
  have b3 : Below w.heap.size w w3 := Sh.below_grow B2.out B2.out.size (Sg.own_mono U2.out zB.out) hg3
  have U3 := hid (show By.Own w3 0 u3 N (cat m f g) from Sg.own_mono h3 (Nat.zero_le _))
  have UB := hid (show ∀ p, u3.ownBlock = some p → w.heap.size ≤ p from fun p hp => by have := own_row h3 p hp; have := zB.out; omega)
  have Q3 := hid (Q0.out.below b3)
  have H3 := hid (H0.out.below b3)
  have B3 := hid b3
  clear h3 hg3 b3 Q2 H2 R2 B2 U2 z2 Q0 zB
  obtain ⟨xa, xc, rfl⟩ := own_sl U3.out
  have e2 := Q3.out.here.cell 2 _ rfl
  have f2 := Q3.out.here.frozen 2
  have k4 : Kp (fun j => j = c) w3 (w3.setCell ⟨c, 2, none⟩ (.slice xa N xc)) := Kp.setCell c 2 _
  have ou : ∀ {base p : Nat} {v : Value} {h : Nat → Int}, By.Own w3 base v p h → By.Own (w3.setCell ⟨c, 2, none⟩ (.slice xa N xc)) base v p h := fun ho => Sg.own_kept ho k4 (fun g hg e => by
    obtain ⟨cc, hc⟩ := Sg.own8_type ho hg
    exact Blk.ne (show Blk w3 g cc.toList 5 from by show w3.heap[g]? = _; rw [hc]) Q3.out.here (by decide) e)
  have Q4 := hid (show IsQk (w3.setCell ⟨c, 2, none⟩ (.slice xa N xc)) c ⟨true, nk, kf, N, cat m f g⟩ kv (.slice xa N xc) from ⟨Q3.out.here.set 2 _, ou Q3.out.k, ou U3.out⟩)
  have nc : ¬ SM mb rv c := rled_no H3.out Q3.out.here (by decide) (by decide)
  have H4 := hid (H3.out.kept k4 (fun e => nc (.inl (show mb = c from e).symm)) (fun g hg e => nc (.inr (by rw [← show g = c from e]; exact hg))))
  have K4 := hid ((Kp.of_below (fun j => j = c ∨ SM mb rv j) B3.out).trans k4 (fun _ _ e => .inl e))
  clear k4 ou nc Q3 H3 U3
  obtain ⟨W4, hW4⟩ : ∃ x, w3.setCell ⟨c, 2, none⟩ (.slice xa N xc) = x := ⟨_, rfl⟩
  rw [hW4] at Q4 H4 K4
  have HB := hid (show Calls Tryz.prog 41 #[.pointer (some ⟨mb, 0, none⟩), .int .u8 2, .int .i64 q] W4.drew (fun e w' => e = .returned (.tuple #[]) ∧ RW W4 w' mb rv (evs true L q)) from by
    refine (rblocks512 mb q rv L W4.drew (H4.out.below (below_drewN W4 1)) hqb (by omega)).mono ?_
    rintro e w' ⟨rfl, h1⟩
    exact ⟨rfl, RW.start (below_drewN W4 1) h1⟩)
  go_wp2_with fail
  have g0 : W4.cell? ⟨c, 0, none⟩ = some (.int .u8 2) := Q4.out.here.cell 0 _ rfl
  have g2 := Q4.out.here.cell 2 _ rfl
  clear e2 f2
  go_region_held3 (fun W => W.cell? ⟨c, 0, none⟩ = some (.int .u8 2) ∧ W.cell? ⟨c, 2, none⟩ = some (.slice xa N xc)) (go_keep) (first
    | (go_at_call 33; go_must (refine (rblock512 _).mono ?_; rintro e w5 ⟨rfl, hw⟩; subst w5))
    | (go_at_call 41; go_must (refine HB.out.mono ?_; rintro e w5 ⟨rfl, h1⟩; have R5 := hid h1; have Q5 := hid (Q4.out.kl H4.out h1.2); have y0 : w5.cell? ⟨c, 0, none⟩ = some (.int .u8 2) := (Q4.out.kl H4.out h1.2).here.cell 0 _ rfl; have y2 := (Q4.out.kl H4.out h1.2).here.cell 2 _ rfl; clear h1)))
  clear y0 y2 g0 g2 HB hdv hwd hq2
  go_wp2
  go_ret
  obtain ⟨⟨rv', r1, r2⟩, r3⟩ := R5.out
  rw [EN.out]
  refine ⟨rfl, ⟨_, hN ▸ Q5.out, UB.out⟩, ⟨rv', r1, ?_⟩, K4.out.trans r3 (fun _ _ e => .inr e)⟩
  rcases r2 with e | e
  · exact .inl e
  · exact .inr (fun g hg => Nat.le_trans K4.out.size (e g hg))
theorem qnewM (a : Bool) (mb n : Nat) (rv v : Value) (g : Nat → Int) (L : List Rn) (w : World) (h : RLed w mb rv L) (hr : ∀ w', Kp (SM mb rv) w w' → By.RB w' v n g) (hn : n ≤ 140737488352328) (ht : tq L ≤ 900000000) :
    Calls Tryz.prog 24 #[.pointer (some ⟨mb, 0, none⟩), .int .u8 (an a), v] w fun e w' => ∃ d kv, w.heap.size ≤ d ∧ e = .returned (.tuple #[.pointer (some ⟨d, 0, none⟩), .int .i64 0]) ∧ IsQk w' d ⟨a, n, g, 0, nof⟩ kv (.slice none 0 0) ∧ (∀ p, kv.ownBlock = some p → w.heap.size ≤ p) ∧ RW w w' mb rv (kev a L n) := by
  cases a
  · exact qnew256 mb n rv v g L w h hr hn ht
  · exact qnew512 mb n rv v g L w h hr hn ht
theorem qsumM (y : DK) (mb c : Nat) (rv kv mv : Value) (L : List Rn) (w : World) (hq : IsQk w c y kv mv) (h : RLed w mb rv L) (hn : y.nk ≤ 140737488352328) (hmm : y.m ≤ 140737488352328) (ht : tq L ≤ 4399500000000) :
    Calls Tryz.prog 44 #[.pointer (some ⟨c, 0, none⟩), .pointer (some ⟨mb, 0, none⟩)] w fun e w' => ∃ u, e = .returned (.tuple #[u, .int .i64 0]) ∧ By.Own w' w.heap.size u (sz y.a) (hm y.a (kb y.a y.nk y.kf) y.m y.f) ∧ RW w w' mb rv (sev y.a L y.m) := by
  obtain ⟨a, nk, kf, m, f⟩ := y
  cases a
  · exact qsum256 mb c nk m rv kv mv kf f L w hq h hn hmm ht
  · exact qsum512 mb c nk m rv kv mv kf f L w hq h hn hmm ht
theorem qwriteM (y : DK) (mb c n : Nat) (rv kv mv v : Value) (g : Nat → Int) (L : List Rn) (w : World) (hq : IsQk w c y kv mv) (h : RLed w mb rv L) (hr : By.RB w v n g) (hmn : y.m + n ≤ 140737488352328) (ht : tq L ≤ 4399500000000) :
    Calls Tryz.prog 43 #[.pointer (some ⟨c, 0, none⟩), .pointer (some ⟨mb, 0, none⟩), v] w fun e w' => e = .returned (.int .i64 0) ∧ (∃ mv', IsQk w' c ⟨y.a, y.nk, y.kf, y.m + n, cat y.m y.f g⟩ kv mv' ∧ ∀ p, mv'.ownBlock = some p → w.heap.size ≤ p) ∧ (∃ rv', RLed w' mb rv' (evs y.a L ((y.m + n) / bk y.a - y.m / bk y.a)) ∧ SameOrNew w rv rv') ∧ Kp (fun j => j = c ∨ SM mb rv j) w w' := by
  obtain ⟨a, nk, kf, m, f⟩ := y
  cases a
  · exact qwrite256 mb c nk m n rv kv mv v kf f g L w hq h hr hmn ht
  · exact qwrite512 mb c nk m n rv kv mv v kf f g L w hq h hr hmn ht
end Go.Proofs.YtjhhnajgfngbhaaGreatDoor.Dg
