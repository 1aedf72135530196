/- The law Sha256Names, walked: its first part. -/
import Derived.Test.YtimalofmomgjlaaDoorHnames3
import Derived.Deep.Cut
namespace Go.Proofs.YtimalofmomgjlaaDoor.Sh
open Go.ChangeShapes Go.WideShapes Go.ChangeAt Go.RowKit
open Go.Proofs.YtimalofmomgjlaaDoor.By Go.Proofs.YtimalofmomgjlaaDoor.Wd

theorem SL_kp {w w' : World} {lb : Nat} {rv : Value} {B : Nat} (hk : Kp (SL lb rv) w w') (hB : B ≤ w.heap.size) (h1 : B ≤ lb) (h2 : ∀ g, rv.ownBlock = some g → B ≤ g) : Below B w w' :=
  hk.below hB (fun k hk e => by rcases e with e | e; omega; have := h2 k e; omega)
/-- sum23 with a ledger that lies at B or behind it: what it leaves. -/
theorem sum_led (B lb n : Nat) (v : Value) (g : Nat → Int) (rv : Value) (L : List Rn) (w : World) (hk : KT w) (hB : 0 < B) (hBw : B ≤ w.heap.size) (hl : Led w lb rv L) (h1 : B ≤ lb) (h2 : ∀ q, rv.ownBlock = some q → B ≤ q)
    (hr : ∀ w', Kp (SL lb rv) w w' → By.RB w' v n g) (hn : n ≤ 900000) (hroom : tot L ≤ 50000) :
    Calls Tryd.prog 23 #[lpv (some lb), v] w fun e w' => ∃ u rv', e = .returned u ∧ By.Own w' w.heap.size u 32 (dig n g) ∧ Led w' lb rv' (evs256 L (n / 64 + last n)) ∧ (∀ q, rv'.ownBlock = some q → B ≤ q) ∧ Kp (SL lb rv) w w' ∧ Below B w w' := by
  refine (sum23 n v g (some lb) L (SL lb rv) w hk (by rintro (e | e); omega; have := h2 0 e; omega) (lg_led hl) hl.pos hr hn hroom).mono ?_
  rintro e w' ⟨u, rfl, hu, hlg, hkp⟩
  obtain ⟨_, rv', hl', ho'⟩ := hlg
  refine ⟨u, rv', rfl, hu, hl', fun q hq => ?_, hkp, SL_kp hkp hBw h1 h2⟩
  by_cases hlt : q < w.heap.size
  · rcases ho' q hq hlt with e | e
    · omega
    · exact h2 q e
  · omega
theorem rb_kept2 {w w' : World} {a : Addr} {n cap : Nat} {f : Nat → Int} {S : Nat → Prop} (h : By.RB w (.slice (some a) n cap) n f) (hk : Kp S w w') (hn : ¬ S a.block) (hlt : a.block < w.heap.size) : By.RB w' (.slice (some a) n cap) n f := by
  obtain ⟨hf, a', cap', he, h1, h2, hc⟩ := h
  refine ⟨hf, a', cap', he, h1, h2, ?_⟩
  simp only [Value.slice.injEq] at he
  obtain ⟨e1, _, _⟩ := he
  rcases hc with hc | ⟨b, off, rfl, hc⟩
  · exact .inl hc
  · simp only [Option.some.injEq] at e1
    subst e1
    refine .inr ⟨b, off, rfl, fun i hi => ?_⟩
    rw [← hc i hi]
    have e := hk.block b hlt hn
    simp [World.cell?, e]
theorem e56 : #[Value.int .u8 97, .int .u8 98, .int .u8 99, .int .u8 100, .int .u8 98, .int .u8 99, .int .u8 100, .int .u8 101, .int .u8 99, .int .u8 100, .int .u8 101, .int .u8 102, .int .u8 100, .int .u8 101, .int .u8 102, .int .u8 103, .int .u8 101, .int .u8 102, .int .u8 103, .int .u8 104, .int .u8 102, .int .u8 103, .int .u8 104, .int .u8 105, .int .u8 103, .int .u8 104, .int .u8 105, .int .u8 106, .int .u8 104, .int .u8 105, .int .u8 106, .int .u8 107, .int .u8 105, .int .u8 106, .int .u8 107, .int .u8 108, .int .u8 106, .int .u8 107, .int .u8 108, .int .u8 109, .int .u8 107, .int .u8 108, .int .u8 109, .int .u8 110, .int .u8 108, .int .u8 109, .int .u8 110, .int .u8 111, .int .u8 109, .int .u8 110, .int .u8 111, .int .u8 112, .int .u8 110, .int .u8 111, .int .u8 112, .int .u8 113] = (bl 56 f56).toArray := by kernel_rfl
theorem cv56 (w : World) : (convert 40 40 (.slice (some ⟨w.heap.size, 0, none⟩) 56 56)).run Tryd.prog (w.alloc (.cells #[Value.int .u8 97, .int .u8 98, .int .u8 99, .int .u8 100, .int .u8 98, .int .u8 99, .int .u8 100, .int .u8 101, .int .u8 99, .int .u8 100, .int .u8 101, .int .u8 102, .int .u8 100, .int .u8 101, .int .u8 102, .int .u8 103, .int .u8 101, .int .u8 102, .int .u8 103, .int .u8 104, .int .u8 102, .int .u8 103, .int .u8 104, .int .u8 105, .int .u8 103, .int .u8 104, .int .u8 105, .int .u8 106, .int .u8 104, .int .u8 105, .int .u8 106, .int .u8 107, .int .u8 105, .int .u8 106, .int .u8 107, .int .u8 108, .int .u8 106, .int .u8 107, .int .u8 108, .int .u8 109, .int .u8 107, .int .u8 108, .int .u8 109, .int .u8 110, .int .u8 108, .int .u8 109, .int .u8 110, .int .u8 111, .int .u8 109, .int .u8 110, .int .u8 111, .int .u8 112, .int .u8 110, .int .u8 111, .int .u8 112, .int .u8 113] 5)) = .ok (.slice (some ⟨w.heap.size, 0, none⟩) 56 56) (w.alloc (.cells (bl 56 f56).toArray 5 (56, 57))) := by
  rw [e56]
  exact Lib.run_convert_bytes_const (P := Tryd.prog) w 40 5 (bl 56 f56).toArray 56 56 Tryd.underlying40 Tryd.underlying5
theorem zro63 (w : World) : (Instr.makeSlice 40 (.int .i64 63) (.int .i64 63)).run Tryd.prog w = .ok (.slice (some ⟨w.heap.size, 0, none⟩) 63 63) (w.alloc (.cells (bl 63 f0).toArray 5)) := by kernel_rfl
theorem zro1 (w : World) : (Instr.makeSlice 40 (.int .i64 1) (.int .i64 1)).run Tryd.prog w = .ok (.slice (some ⟨w.heap.size, 0, none⟩) 1 1) (w.alloc (.cells (bl 1 f0).toArray 5)) := by kernel_rfl
theorem zro65 (w : World) : (Instr.makeSlice 40 (.int .i64 65) (.int .i64 65)).run Tryd.prog w = .ok (.slice (some ⟨w.heap.size, 0, none⟩) 65 65) (w.alloc (.cells (bl 65 f0).toArray 5)) := by kernel_rfl
theorem zro72 (w : World) : (Instr.makeSlice 40 (.int .i64 72) (.int .i64 72)).run Tryd.prog w = .ok (.slice (some ⟨w.heap.size, 0, none⟩) 72 72) (w.alloc (.cells (bl 72 f0).toArray 5)) := by kernel_rfl
set_option maxRecDepth 8000 in
set_option maxHeartbeats 4000000 in
theorem names_walk (w : World) (hk : KT w) : Calls Tryd.prog 7 #[] w fun e w' => e = .returned (.bool true) ∧ Below w.heap.size w w' := by
  have HK := hid hk
  have H0 := hid hk.lt
  clear hk
  go_enter Tryd.func7, Tryd.ntmps7
  go_wp2_with fail
  refine (new9 _).mono ?_
  rintro e w1 ⟨rfl, hl1, hb1⟩
  have L1 := hid hl1
  have b1 := hid hb1
  clear hl1 hb1
  go_wp2_with fail
  refine (sum_led w.heap.size w.heap.size 0 _ f0 _ [] _ (HK.out.below b1.out) H0.out b1.out.size L1.out (Nat.le_refl _) (fun q hq => by simp [Value.ownBlock] at hq) (fun w' _ => (By.own_nil w' 0 f0 f0_bound).reads) (by omega) (by decide)).mono ?_
  rintro e w2 ⟨u2, rv2, rfl, hu2, hl2, ho2, -, hb2⟩
  have U2 := hid (own_congr hu2 (lf_bound (wof w0l)) dig_none)
  have L2 := hid (show Led w2 w.heap.size rv2 [⟨1, 64, 1⟩] from hl2)
  have O2 := hid ho2
  have b2 := hid (b1.out.trans hb2)
  have hcv := cv56 w2
  clear hu2 hl2 ho2 hb2
  go_wp2_with fail
  have R3 := hid (rb_marked w2 56 f56 (56, 57) f56_bound (by decide))
  have b3 := hid (below_alloc w2 (.cells (bl 56 f56).toArray 5 (56, 57)))
  have z2 := hid b2.out.size
  refine (sum_led w.heap.size w.heap.size 56 _ f56 rv2 [⟨1, 64, 1⟩] _ (HK.out.below (b2.out.trans (b3.out.mono z2.out))) H0.out (Nat.le_trans z2.out b3.out.size) (L2.out.below b3.out) (Nat.le_refl _) O2.out (fun w' h' => rb_kept2 R3.out h' (fun e => by rcases e with e | e; have := L2.out.lt; simp at e; omega; have := (L2.out.own.lt _ e).2; simp at this) (by simp)) (by omega) (by decide)).mono ?_
  rintro e w3 ⟨u3, rv3, rfl, hu3, hl3, ho3, hk3, hb3⟩
  have U3 := hid (own_congr hu3 (lf_bound (wof w56l)) dig_56)
  have L3 := hid (show Led w3 w.heap.size rv3 [⟨1, 64, 3⟩] from hl3)
  have O3 := hid ho3
  have U2' := hid (own_led (own_below U2.out b3.out) (L2.out.below b3.out) hk3 (fun _ _ e => e))
  have b4 := hid ((b2.out.trans (b3.out.mono z2.out)).trans hb3)
  clear hu3 hl3 ho3 hk3 hb3 R3 b3 hcv
  go_wp2_with fail
  refine (wants35 (wof w0l) (wof_w _ (by decide)) _).mono ?_
  rintro e w4 ⟨u4, rfl, hu4, hb⟩
  have U4 := hid hu4.reads
  have V2 := hid (own_below U2'.out hb).reads
  have V3 := hid (own_below U3.out hb)
  have L4 := hid (L3.out.below hb)
  have b5 := hid (b4.out.trans (hb.mono b4.out.size))
  clear hu4 hb
  go_wp2_with fail
  refine (same_true _ _ 32 _ _ _ V2.out U4.out (by omega) (fun _ _ => rfl)).mono ?_
  rintro e w5 ⟨rfl, d5, rfl⟩
  go_wp2_with fail
  refine (wants35 (wof w56l) (wof_w _ (by decide)) _).mono ?_
  rintro e w6 ⟨u6, rfl, hu6, hb⟩
  have U6 := hid hu6.reads
  have V6 := hid (own_below V3.out (below_next (below_drewN w4 d5) hb)).reads
  have L6 := hid (L4.out.below (below_next (below_drewN w4 d5) hb))
  have b6 := hid (b5.out.trans ((below_next (below_drewN w4 d5) hb).mono b5.out.size))
  clear hu6 hb
  go_wp2_with fail
  refine (same_true _ _ 32 _ _ _ V6.out U6.out (by omega) (fun _ _ => rfl)).mono ?_
  rintro e w7 ⟨rfl, d7, rfl⟩
  have L7 := hid (L6.out.below (below_drewN w6 d7))
  have b7 := hid (below_drew' b6.out d7)
  go_wp2_with fail
  refine (runs22 _ _ _ _ L7.out (by decide)).mono ?_
  rintro e w8 ⟨u8, rfl, hu8, hb⟩
  have U8 := hid hu8
  have b8 := hid (b7.out.trans (hb.mono b7.out.size))
  clear hu8 hb
  go_wp2_with fail
  have ol := own_lit w8 [⟨1, 64, 3⟩] #[.int .u8 1, .int .i64 64, .int .i64 3] (fun r hr => by simp at hr; subst hr; exact ⟨by decide, by decide, by decide⟩) rfl (by decide)
  refine (same14 _ _ [⟨1, 64, 3⟩] [⟨1, 64, 3⟩] _ ((U8.out.alloc _).reads) ol.reads (by decide) (by decide)).mono ?_
  rw [decide_eq_true (show ([⟨1, 64, 3⟩] : List Rn) = [⟨1, 64, 3⟩] from rfl)]
  rintro e w9 ⟨rfl, d9, rfl⟩
  have b9 := hid (below_drew' (b8.out.trans ((below_alloc w8 (.cells #[.int .u8 1, .int .i64 64, .int .i64 3] 68)).mono b8.out.size)) d9)
  clear ol U8 L7 L6 L4 V3 V2 U4 U6 V6 U2' U3 U2 L3 L2 L1 O2 O3
  go_upto_region 7 with fail
  obtain ⟨W0, hW0⟩ : ∃ x, World.drewN (w8.alloc (.cells #[.int .u8 1, .int .i64 64, .int .i64 3] 68)) d9 = x := ⟨_, rfl⟩
  rw [hW0] at b9
  rw [hW0]
  clear hW0
  have K0 := hid (HK.out.below b9.out)
  have z0 := hid b9.out.size
  go_wp2_with fail
  refine (new12 _).mono ?_
  rintro e w10 ⟨rfl, hs, hb⟩
  have S10 := hid (show St w10 W0.heap.size 0 f0 from hs)
  have c10 := hid hb
  clear hs hb
  go_wp2_with fail
  refine (form30 _ _ _ _ S10.out).mono ?_
  rintro e w11 ⟨u11, rfl, hu, hb⟩
  have U11 := hid (own_mono hu c10.out.size)
  have S11 := hid (S10.out.below hb)
  have c11 := hid (c10.out.trans (hb.mono c10.out.size))
  clear hu hb
  go_wp2_with fail
  refine (new9 _).mono ?_
  rintro e w12 ⟨rfl, hl, hb⟩
  have z11 := hid c11.out.size
  have al := below_alloc w12 (.cells szl.toArray 3)
  have N0 := hid (show NS W0 W0.heap.size W0.heap.size w11.heap.size w12.heap.size u11 (.slice none 0 0) 0 [] [] (w12.alloc (.cells szl.toArray 3)) from ⟨(S11.out.below hb).below al, ⟨_, hl.below al, fun q hq => by simp [Value.ownBlock] at hq⟩, own_below (own_below U11.out hb) al, Blk.newAt w12 _ szl _ _ rfl rfl, World.ownsRow_nil _ _ _ _, (c11.out.trans (hb.mono z11.out)).trans (al.mono (Nat.le_trans z11.out hb.size)), ((K0.out.below c11.out).below hb).below al, Nat.le_refl _, z11.out, Nat.le_trans (Nat.le_trans z11.out hb.size) al.size, by have := H0.out; have := z0.out; omega, fun q hq => by simp [Value.ownBlock] at hq⟩)
  clear hl hb S10 S11 U11 c10 c11 al
  obtain ⟨i0, hi, hz0, hz1, hz2⟩ := info_parts infoI
  have k63 := zro63
  have k1 := zro1
  have k65 := zro65
  go_wp2_with fail
  obtain ⟨X0, hX0⟩ : ∃ x, w12.alloc (.cells szl.toArray 3) = x := ⟨_, rfl⟩
  rw [hX0] at N0
  rw [show w12.alloc (.cells #[Value.int .i64 63, .int .i64 1, .int .i64 65] 3) = X0 from hX0]
  clear hX0
  obtain ⟨zb, hzb⟩ : ∃ x, w12.heap.size = x := ⟨_, rfl⟩
  rw [hzb] at N0
  rw [hzb]
  clear hzb
  obtain ⟨kb, hkb⟩ : ∃ x, w11.heap.size = x := ⟨_, rfl⟩
  rw [hkb] at N0
  rw [hkb]
  clear hkb
  obtain ⟨cv0, hcv0⟩ : ∃ x, Value.slice none 0 0 = x := ⟨_, rfl⟩
  rw [hcv0] at N0
  refine wp_loop_rounds 4 ?_
  have sz0 := N0.out.sizes.cell 0 _ rfl
  rw [rounds_succ]
  go_wp2_with fail
  refine (((hid N0.out).out.below (below_alloc X0 (.cells (bl 63 f0).toArray 5))).write _ (fun w' hk => rb_blk (hk _ _ (Blk.new X0 (bl 63 f0) 5)) f0_bound (by decide)) (by omega) (by decide)).mono ?_
  rintro e Y0 ⟨rfl, hN⟩
  have M0 := hid (show NS W0 W0.heap.size W0.heap.size kb zb u11 cv0 63 [] [] Y0 from hN)
  clear hN sz0
  go_wp2_with fail
  obtain ⟨rvl0, hl0, -⟩ := M0.out.led
  refine (len20 _ _ _ _ hl0).mono ?_
  rw [show tot [] = 0 from rfl]
  rintro e Y0 ⟨rfl, rfl⟩
  clear hl0
  go_wp2_with (at_builtin; go_must (refine wpList_append_lies _ rfl _ _ 77 rfl W0.heap.size 3 i0 (.int .i64 0) 1 8 Tryd.underlying77 hi hz0 hz1 hz2 rfl (by decide) _ _ _ rfl (M0.out.below (below_alloc Y0 (.cells #[.int .i64 0] 3))).counts ⟨_, 0, none⟩ 1 1 [.int .i64 0] rfl rfl (fun j u hj => by rw [By.add_plain, Nat.zero_add]; exact (Blk.newAt Y0 _ [.int .i64 0] 3 _ rfl rfl).cell j u hj) (by intro u hu; simp at hu; subst hu; rfl) (by decide) (by decide) (by decide) (M0.out.below (below_alloc Y0 (.cells #[.int .i64 0] 3))).hB _ rfl ?_))
  rintro g1 cp1 X1 ho hg hw -
  have N1 := hid (show NS W0 W0.heap.size W0.heap.size kb zb u11 (.slice (some ⟨g1, 0, none⟩) 1 cp1) 63 [] [0] X1 from (M0.out.below (below_alloc Y0 (.cells #[.int .i64 0] 3))).count hg ho (by rw [size_alloc]; exact hw))
  clear ho hg hw
  go_wp2_with fail
  have sz1 := N1.out.sizes.cell 1 _ rfl
  rw [rounds_succ]
  go_wp2_with fail
  refine (((hid N1.out).out.below (below_alloc X1 (.cells (bl 1 f0).toArray 5))).write _ (fun w' hk => rb_blk (hk _ _ (Blk.new X1 (bl 1 f0) 5)) f0_bound (by decide)) (by omega) (by decide)).mono ?_
  rintro e Y1 ⟨rfl, hN⟩
  have M1 := hid (show NS W0 W0.heap.size W0.heap.size kb zb u11 (.slice (some ⟨g1, 0, none⟩) 1 cp1) 64 [⟨1, 64, 1⟩] [0] Y1 from hN)
  clear hN sz1
  go_wp2_with fail
  obtain ⟨rvl1, hl1, -⟩ := M1.out.led
  refine (len20 _ _ _ _ hl1).mono ?_
  rw [show tot [⟨1, 64, 1⟩] = 1 from rfl]
  rintro e Y1 ⟨rfl, rfl⟩
  clear hl1
  go_wp2_with (at_builtin; go_must (refine wpList_append_lies _ rfl _ _ 77 rfl W0.heap.size 3 i0 (.int .i64 0) 1 8 Tryd.underlying77 hi hz0 hz1 hz2 rfl (by decide) _ _ _ rfl (M1.out.below (below_alloc Y1 (.cells #[.int .i64 1] 3))).counts ⟨_, 0, none⟩ 1 1 [.int .i64 1] rfl rfl (fun j u hj => by rw [By.add_plain, Nat.zero_add]; exact (Blk.newAt Y1 _ [.int .i64 1] 3 _ rfl rfl).cell j u hj) (by intro u hu; simp at hu; subst hu; rfl) (by decide) (by decide) (by decide) (M1.out.below (below_alloc Y1 (.cells #[.int .i64 1] 3))).hB _ rfl ?_))
  rintro g2 cp2 X2 ho hg hw -
  have N2 := hid (show NS W0 W0.heap.size W0.heap.size kb zb u11 (.slice (some ⟨g2, 0, none⟩) 2 cp2) 64 [⟨1, 64, 1⟩] [0, 1] X2 from (M1.out.below (below_alloc Y1 (.cells #[.int .i64 1] 3))).count hg ho (by rw [size_alloc]; exact hw))
  clear ho hg hw
  go_wp2_with fail
  have sz2 := N2.out.sizes.cell 2 _ rfl
  rw [rounds_succ]
  go_wp2_with fail
  refine (((hid N2.out).out.below (below_alloc X2 (.cells (bl 65 f0).toArray 5))).write _ (fun w' hk => rb_blk (hk _ _ (Blk.new X2 (bl 65 f0) 5)) f0_bound (by decide)) (by omega) (by decide)).mono ?_
  rintro e Y2 ⟨rfl, hN⟩
  have M2 := hid (show NS W0 W0.heap.size W0.heap.size kb zb u11 (.slice (some ⟨g2, 0, none⟩) 2 cp2) 129 [⟨1, 64, 2⟩] [0, 1] Y2 from hN)
  clear hN sz2
  go_wp2_with fail
  obtain ⟨rvl2, hl2, -⟩ := M2.out.led
  refine (len20 _ _ _ _ hl2).mono ?_
  rw [show tot [⟨1, 64, 2⟩] = 2 from rfl]
  rintro e Y2 ⟨rfl, rfl⟩
  clear hl2
  go_wp2_with (at_builtin; go_must (refine wpList_append_lies _ rfl _ _ 77 rfl W0.heap.size 3 i0 (.int .i64 0) 1 8 Tryd.underlying77 hi hz0 hz1 hz2 rfl (by decide) _ _ _ rfl (M2.out.below (below_alloc Y2 (.cells #[.int .i64 2] 3))).counts ⟨_, 0, none⟩ 1 1 [.int .i64 2] rfl rfl (fun j u hj => by rw [By.add_plain, Nat.zero_add]; exact (Blk.newAt Y2 _ [.int .i64 2] 3 _ rfl rfl).cell j u hj) (by intro u hu; simp at hu; subst hu; rfl) (by decide) (by decide) (by decide) (M2.out.below (below_alloc Y2 (.cells #[.int .i64 2] 3))).hB _ rfl ?_))
  rintro g3 cp3 X3 ho hg hw -
  have N3 := hid (show NS W0 W0.heap.size W0.heap.size kb zb u11 (.slice (some ⟨g3, 0, none⟩) 3 cp3) 129 [⟨1, 64, 2⟩] [0, 1, 2] X3 from (M2.out.below (below_alloc Y2 (.cells #[.int .i64 2] 3))).count hg ho (by rw [size_alloc]; exact hw))
  clear ho hg hw
  go_wp2_with fail
  rw [rounds_succ]
  go_wp2_with fail
  refine (N3.out.sum (by omega) (by decide)).mono ?_
  rintro e X4 ⟨vs, rfl, hN⟩
  have N4 := hid (show NS W0 W0.heap.size W0.heap.size kb zb u11 (.slice (some ⟨g3, 0, none⟩) 3 cp3) 129 [⟨1, 64, 3⟩] [0, 1, 2] X4 from hN)
  clear hN
  obtain ⟨gu, cu, rfl, -⟩ := own_cells N4.out.form (by omega)
  go_wp2_with fail
  have N5 := hid (N4.out.below (below_alloc X4 (.cells #[.int .i64 0, .int .i64 1, .int .i64 2] 3)))
  have bz := Blk.newAt X4 #[.int .i64 0, .int .i64 1, .int .i64 2] [.int .i64 0, .int .i64 1, .int .i64 2] 3 X4.heap.size rfl rfl
  refine (ints3 g3 X4.heap.size cp3 0 1 2 _ (row_cell N5.out.counts 0 _ rfl) (row_cell N5.out.counts 1 _ rfl) (row_cell N5.out.counts 2 _ rfl) (bz.cell 0 _ rfl) (bz.cell 1 _ rfl) (bz.cell 2 _ rfl)).mono ?_
  rintro e X5 ⟨rfl, d, rfl⟩
  have N6 := hid (N5.out.below (below_drewN _ d))
  clear bz
  obtain ⟨X6, hX6⟩ : ∃ x, World.drewN (X4.alloc (.cells #[.int .i64 0, .int .i64 1, .int .i64 2] 3)) d = x := ⟨_, rfl⟩
  rw [hX6] at N6
  rw [hX6]
  clear hX6
  obtain ⟨rvk, hlk, -⟩ := N6.out.led
  have LK := hid hlk
  clear hlk
  have TK : Hid (tot [⟨1, 64, 3⟩] = 3) := rfl
  go_upto_region 23 with (first | (go_at_call 31; refine (len31 _ _ _ _ N6.out.st).mono ?_; rintro e X6 ⟨rfl, rfl⟩) | (go_at_call 15; refine (len20 _ _ _ _ LK.out).mono ?_; rw [TK.out]; rintro e X6 ⟨rfl, rfl⟩))
  have F := hid N6.out.form.reads
  have hcu := rb_cap F.out
  have h8 : (8 : Int) ≤ cu := by omega
  have FA := hid (fun w' (h : Below X6.heap.size X6 w') => (F.out.below h).first 8 (by omega))
  have FB := hid (fun w' (h : Below X6.heap.size X6 w') => rb_tail (F.out.below h))
  have k72 := zro72
  clear k63 k1 k65
  go_wp2_with fail
  have RL := hid (show ∀ W' : World, By.RB ((W'.alloc (.cells #[Value.int .u8 106, .int .u8 9, .int .u8 230, .int .u8 103, .int .u8 187, .int .u8 103, .int .u8 174, .int .u8 133] 5)).drew) (.slice (some ⟨W'.heap.size, 0, none⟩) 8 8) 8 beg8 from fun W' => (rb_top W' 8 beg8 beg8_bound (by decide)).drewN 1)
  have RZ := hid (show ∀ d : Nat, By.RB ((World.drewN (X6.alloc (.cells #[Value.int .u8 106, .int .u8 9, .int .u8 230, .int .u8 103, .int .u8 187, .int .u8 103, .int .u8 174, .int .u8 133] 5)) d).alloc (.cells (bl 72 f0).toArray 5)) (.slice (some ⟨X6.heap.size + 1, 0, none⟩) 72 72) 72 f0 from fun d => by
    have := rb_top (World.drewN (X6.alloc (.cells #[Value.int .u8 106, .int .u8 9, .int .u8 230, .int .u8 103, .int .u8 187, .int .u8 103, .int .u8 174, .int .u8 133] 5)) d) 72 f0 f0_bound (by decide)
    rwa [show (World.drewN (X6.alloc (.cells #[Value.int .u8 106, .int .u8 9, .int .u8 230, .int .u8 103, .int .u8 187, .int .u8 103, .int .u8 174, .int .u8 133] 5)) d).heap.size = X6.heap.size + 1 from size_alloc X6 _] at this)
  set_option maxHeartbeats 400000 in
  go_region_held3 (fun _ => True) (trivial) (first
    | (go_at_call 17; go_must ((first
      | with_reducible refine (same_true _ _ 8 (formf 0 f0) beg8 _ (FA.out _ ?bb) (RL.out _) (by omega) form_8).mono ?_
      | with_reducible refine (same_true _ _ 72 (fun i => formf 0 f0 (32 + i)) f0 _ (FB.out _ ?bb) (RZ.out _) (by omega) form_72).mono ?_); (case bb => (repeat (first | with_reducible exact Below.refl _ _ | with_reducible refine bel_al ?_ | with_reducible refine bel_dn ?_ | with_reducible refine bel_d1 ?_))); rintro e X7 ⟨rfl, dd, rfl⟩)))
  have bX := hid (b9.out.trans (N6.out.bel.mono z0.out))
  go_wp2_with fail
  refine (lives8 _ (N6.out.kt.below ?bk)).mono ?_
  case bk => repeat (first | with_reducible exact Below.refl _ _ | with_reducible refine bel_al ?_ | with_reducible refine bel_dn ?_ | with_reducible refine bel_d1 ?_)
  rintro e X8 ⟨rfl, hb⟩
  have b10 := hid ((bX.out.trans (Below.mono (show Below X6.heap.size X6 _ from by repeat (first | with_reducible exact Below.refl _ _ | with_reducible refine bel_al ?_ | with_reducible refine bel_dn ?_ | with_reducible refine bel_d1 ?_)) bX.out.size)).trans (hb.mono (by simp; have := bX.out.size; omega)))
  clear hb
  go_wp2
  go_ret
  exact ⟨rfl, b10.out⟩
end Go.Proofs.YtimalofmomgjlaaDoor.Sh
