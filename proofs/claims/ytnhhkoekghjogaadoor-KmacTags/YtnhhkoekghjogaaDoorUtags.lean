/- The statement Tags, walked. -/
import Derived.Test.YtnhhkoekghjogaaDoorUtag
import Derived.Test.YtnhhkoekghjogaaDoorUsml
import Derived.Test.YtnhhkoekghjogaaDoorUlive
import Derived.Test.YtnhhkoekghjogaaDoorRlen
import Derived.Test.YtnhhkoekghjogaaDoorRreads
namespace Go.Proofs.YtnhhkoekghjogaaDoor.Kc
open Go.ChangeShapes Go.WideShapes Go.ChangeAt Go.RowKit
open Go.Proofs.YtnhhkoekghjogaaDoor.By Go.Proofs.YtnhhkoekghjogaaDoor.Wd
theorem LS.rot {w : World} {B : Nat} {xs : List LI} {x : LI} (h : LS w B (xs ++ [x])) : LS w B (x :: xs) := by
  obtain ⟨p1, _, p3⟩ := List.pairwise_append.1 h.ap
  exact ⟨h.hB, fun y hy => h.own y (by rcases List.mem_cons.1 hy with rfl | hy; simp; simp [hy]), List.pairwise_cons.2 ⟨fun y hy => apart_symm (p3 y hy x (by simp)), p1⟩⟩
theorem LS.dropL {w : World} {B : Nat} {xs : List LI} {x : LI} (h : LS w B (xs ++ [x])) : LS w B xs := h.sublist (List.sublist_append_left _ _)
set_option maxRecDepth 8000 in
set_option maxHeartbeats 8000000 in
theorem tags_walk (st n : Int) (xof : Bool) (ka : Option Addr) (kn kc : Nat) (ca : Option Addr) (cn cc : Nat) (pa : Option Addr) (pn pc : Nat) (f h g : Nat → Int) (w : World) (hk : KT w)
    (hp : By.RB w (.slice ka kn kc) kn f) (hq : By.RB w (.slice ca cn cc) cn h) (hx : By.RB w (.slice pa pn pc) pn g) (lk : kn ≤ 140737488355328 ∧ cn ≤ 140737488355328 ∧ pn ≤ 140737488355328) :
    Calls Tryd.prog 3 #[.agg #[.int .i64 st, .slice ka kn kc, .slice ca cn cc], .agg #[.slice pa pn pc, .int .i64 n, .bool xof]] w fun e w' => e = .returned (.bool true) ∧ Below w.heap.size w w' := by
  have HK := hid hk
  have HP := hid hp
  have HQ := hid hq
  have HX := hid hx
  have G0 := hid (GS.start w hk)
  clear hk hp hq hx
  have LK := hid lk
  clear lk
  go_enter Tryd.func3, Tryd.ntmps3
  go_wp2_with fail
  obtain ⟨cb, hcb⟩ : ∃ x, w.heap.size = x := ⟨_, rfl⟩
  obtain ⟨W, hW⟩ : ∃ x, (w.alloc (.cells #[.int .i64 st, .slice ka kn kc, .slice ca cn cc] 24)).alloc (.cells #[.slice pa pn pc, .int .i64 n, .bool xof] 26) = x := ⟨_, rfl⟩
  have bW : Hid (Below w.heap.size w W) := by rw [← hW]; exact below_next (below_alloc _ _) (below_alloc _ _)
  have C0 : Hid (Blk W cb [.int .i64 st, .slice ka kn kc, .slice ca cn cc] 24) := by
    rw [← hW]
    exact (Blk.newAt w #[.int .i64 st, .slice ka kn kc, .slice ca cn cc] _ 24 cb hcb.symm rfl).below (below_alloc _ _)
  have X0 : Hid (Blk W (cb + 1) [.slice pa pn pc, .int .i64 n, .bool xof] 26) := by
    rw [← hW]
    exact Blk.newAt _ #[.slice pa pn pc, .int .i64 n, .bool xof] _ 26 (cb + 1) (by simp [hcb]) rfl
  have HCB := hid hcb
  rw [hW, hcb]
  clear hW hcb
  have G0' := hid (G0.out.below bW.out)
  clear G0
  refine (lives1 W (HK.out.below bW.out)).mono ?_
  rintro e w1 ⟨rfl, hb⟩
  have G1 := hid (G0'.out.below hb)
  have C1 := hid (C0.out.below hb)
  have X1 := hid (X0.out.below hb)
  clear hb C0 X0 G0'
  obtain ⟨w2, hw2⟩ : ∃ x, w1.alloc (.cells #[.int .i64 0, .int .i64 0, .int .i64 0, .slice pa pn pc, .int .i64 n, .bool false] 30) = x := ⟨_, rfl⟩
  obtain ⟨w3, hw3⟩ : ∃ x, w2.alloc (.cells #[.int .i64 st, .slice ka kn kc, .slice ca cn cc] 24) = x := ⟨_, rfl⟩
  obtain ⟨ab, hab⟩ : ∃ x, w1.heap.size = x := ⟨_, rfl⟩
  obtain ⟨sb, hsb⟩ : ∃ x, w2.heap.size = x := ⟨_, rfl⟩
  have b12 : Hid (Below w1.heap.size w1 w2) := by rw [← hw2]; exact below_alloc _ _
  have b23 : Hid (Below w2.heap.size w2 w3) := by rw [← hw3]; exact below_alloc _ _
  have A2 : Hid (Blk w2 ab [.int .i64 0, .int .i64 0, .int .i64 0, .slice pa pn pc, .int .i64 n, .bool false] 30) := by
    rw [← hw2]; exact Blk.newAt w1 _ _ _ ab hab.symm rfl
  have A3 := hid (A2.out.below b23.out)
  have S3 : Hid (Blk w3 sb [.int .i64 st, .slice ka kn kc, .slice ca cn cc] 24) := by
    rw [← hw3]; exact Blk.newAt w2 _ _ _ sb hsb.symm rfl
  have x0 := X1.out.cell 0 _ rfl
  have x1 := X1.out.cell 1 _ rfl
  have c0 := (C1.out.below b12.out).cell 0 _ rfl
  have c1 := (C1.out.below b12.out).cell 1 _ rfl
  have c2 := (C1.out.below b12.out).cell 2 _ rfl
  have C3 := hid ((C1.out.below b12.out).below b23.out)
  have X3 := hid ((X1.out.below b12.out).below b23.out)
  have G3 := hid ((G1.out.below b12.out).below b23.out)
  clear C1 X1 G1 A2
  go_wp2_with fail
  refine (small1 (some ⟨ab, 0, none⟩) ab 0 1 1 (fun _ => rfl) (fun _ => ⟨0, 0, 0, pa, pn, pc, n, false, g⟩) sb 1 (fun _ => ⟨st, ka, kn, kc, ca, cn, cc, f, h⟩) w3 (fun i hi => by
    obtain rfl : i = 0 := by omega
    exact ⟨A3.out.cell 0 _ rfl, A3.out.cell 1 _ rfl, A3.out.cell 2 _ rfl, A3.out.cell 3 _ rfl, A3.out.cell 4 _ rfl, A3.out.cell 5 _ rfl⟩) (fun i hi => by
    obtain rfl : i = 0 := by omega
    exact ⟨S3.out.cell 0 _ rfl, S3.out.cell 1 _ rfl, S3.out.cell 2 _ rfl⟩) (by omega) (by decide) (fun _ _ => LK.out.2.2) (fun _ _ => ⟨LK.out.1, LK.out.2.1⟩) (by omega)).mono ?_
  rintro e w4 ⟨⟨y, rfl, hy⟩, d4, hw4⟩
  have b34 : Hid (Below w3.heap.size w3 w4) := by rw [hw4]; exact below_drewN _ _
  have HY := hid hy
  clear hw4 hy A3 S3 hw2 hw3 hab hsb x0 x1 c0 c1 c2 b12 b23
  have C4 := hid (C3.out.below b34.out)
  have X4 := hid (X3.out.below b34.out)
  have G4 := hid (G3.out.below b34.out)
  clear C3 X3 G3 b34
  cases y with
  | false =>
    go_wp2
    go_ret
    exact ⟨rfl, G4.out.bel⟩
  | true =>
    have SZ : Hid (kn ≤ 4000 ∧ cn ≤ 4000 ∧ pn ≤ 4000) := by
      obtain ⟨_, h1, h2⟩ := HY.out rfl
      exact ⟨(h2 0 (by omega)).1, (h2 0 (by omega)).2, h1 0 (by omega)⟩
    clear HY LK
    have L4 := hid (LS.nil (w := w4) (B := w.heap.size) G4.out.hB)
    have c1 := C4.out.cell 1 _ rfl
    go_wp2_with fail
    refine (lent14 _ kn f _ (HP.out.below G4.out.bel) (by have := SZ.out; omega)).mono ?_
    rintro e w5 ⟨vk, rfl, ho, hb⟩
    obtain ⟨gk, ck, rfl, -⟩ := own_cells ho (by omega)
    have L5 := hid (L4.out.snoc hb ho)
    have G5 := hid (G4.out.below hb)
    have C5 := hid (C4.out.below hb)
    have X5 := hid (X4.out.below hb)
    have hk := rb_cap ho.reads
    clear ho hb L4 G4 C4 X4 c1
    have c0 := X5.out.cell 0 _ rfl
    go_wp2_with fail
    refine (lent14 _ pn g _ (HX.out.below G5.out.bel) (by have := SZ.out; omega)).mono ?_
    rintro e w6 ⟨vp, rfl, ho, hb⟩
    obtain ⟨gp, cp, rfl, -⟩ := own_cells ho (by omega)
    have L6 := hid (L5.out.snoc hb ho)
    have G6 := hid (G5.out.below hb)
    have C6 := hid (C5.out.below hb)
    have X6 := hid (X5.out.below hb)
    have hp := rb_cap ho.reads
    clear ho hb L5 G5 C5 X5 c0
    have c2 := C6.out.cell 2 _ rfl
    go_wp2_with fail
    refine (lent14 _ cn h _ (HQ.out.below G6.out.bel) (by have := SZ.out; omega)).mono ?_
    rintro e w7 ⟨vq, rfl, ho, hb⟩
    obtain ⟨gq, cq, rfl, -⟩ := own_cells ho (by omega)
    have L7 := hid (L6.out.snoc hb ho)
    have G7 := hid (G6.out.below hb)
    have C7 := hid (C6.out.below hb)
    have X7 := hid (X6.out.below hb)
    have hq := rb_cap ho.reads
    clear ho hb L6 G6 C6 X6 c2
    go_wp2_with fail
    refine (new9 w7).mono ?_
    rintro e w8 ⟨rfl, hl, hb⟩
    have G8 := hid (G7.out.addLed hb (o := true) hl)
    have L8 := hid (L7.out.below hb)
    have C8 := hid (C7.out.below hb)
    have X8 := hid (X7.out.below hb)
    clear hl hb G7 L7 C7 X7
    go_wp2_with fail
    refine (refNew10 w8).mono ?_
    rintro e w9 ⟨rfl, hl, hb⟩
    have G9 := hid (show GS w w.heap.size [] [⟨true, w7.heap.size, .slice none 0 0, []⟩, ⟨false, w8.heap.size, .slice none 0 0, []⟩] w9 from G8.out.addLed hb (o := false) hl)
    have L9 := hid (L8.out.below hb)
    have C9 := hid (C8.out.below hb)
    have X9 := hid (X8.out.below hb)
    clear hl hb G8 L8 C8 X8
    obtain ⟨lb, hlb⟩ : ∃ x, w7.heap.size = x := ⟨_, rfl⟩
    obtain ⟨mb, hmb⟩ : ∃ x, w8.heap.size = x := ⟨_, rfl⟩
    rw [hlb, hmb] at G9
    rw [hlb, hmb]
    clear hlb hmb
    have z0 := C9.out.cell 0 _ rfl
    have z1 := C9.out.cell 1 _ rfl
    have z2 := C9.out.cell 2 _ rfl
    have y0 := X9.out.cell 0 _ rfl
    have y1 := X9.out.cell 1 _ rfl
    have y2 := X9.out.cell 2 _ rfl
    have i1 : (kn : Int) ≤ (ck : Int) := by omega
    have i2 : (cn : Int) ≤ (cq : Int) := by omega
    have i3 : (pn : Int) ≤ (cp : Int) := by omega
    have FB : Hid ((∀ i, 0 ≤ f i ∧ f i < 256) ∧ (∀ i, 0 ≤ h i ∧ h i < 256) ∧ ∀ i, 0 ≤ g i ∧ g i < 256) := ⟨HP.out.1, HQ.out.1, HX.out.1⟩
    have GD := hid (G9.out.below (below_drewN w9 1))
    have LD := hid (L9.out.below (below_drewN w9 1))
    have CD := hid (C9.out.below (below_drewN w9 1))
    have XD := hid (X9.out.below (below_drewN w9 1))
    have TP := hid (tag_any st n xof kn cn pn f h g (.slice (some ⟨gk, 0, none⟩) kn ck) (.slice (some ⟨gq, 0, none⟩) cn cq) (.slice (some ⟨gp, 0, none⟩) pn cp) (some lb) [] (SE ⟨true, lb, .slice none 0 0, []⟩) (w9.drewN 1) GD.out.kt (GS.no0 (leds1 := []) GD.out) (GS.no1 (leds1 := []) GD.out) (GS.lgP (leds1 := []) GD.out) pos_nil ⟨by decide, by decide⟩
      (fun w' hk' => rb_lent ((GS.koL (leds1 := []) GD.out hk').1.own (LD.out.at (i := 0) rfl)) FB.out.1)
      (fun w' hk' => rb_lent ((GS.koL (leds1 := []) GD.out hk').1.own (LD.out.at (i := 2) rfl)) FB.out.2.1)
      (fun w' hk' => rb_lent ((GS.koL (leds1 := []) GD.out hk').1.own (LD.out.at (i := 1) rfl)) FB.out.2.2)
      (by have := SZ.out; omega) (by have := SZ.out; omega) (by have := SZ.out; omega))
    go_wp2_with fail
    go_region_held3 (fun W => W.cell? ⟨cb, 0, none⟩ = some (.int .i64 st) ∧ W.cell? ⟨cb, 1, none⟩ = some (.slice ka kn kc) ∧ W.cell? ⟨cb, 2, none⟩ = some (.slice ca cn cc) ∧ W.cell? ⟨cb + 1, 0, none⟩ = some (.slice pa pn pc) ∧ W.cell? ⟨cb + 1, 1, none⟩ = some (.int .i64 n) ∧ W.cell? ⟨cb + 1, 2, none⟩ = some (.bool xof)) (go_keep) (first | (go_at_call 12; go_must (refine TP.out.mono ?_; rintro e w10 ⟨va, rfl, ho, hlg, hkp⟩; obtain ⟨aa, caa, rfl⟩ := own_slice ho; obtain ⟨rv1, hG, hko⟩ := GS.turnP (leds1 := []) GD.out hlg hkp; have G10 := hid hG; have L10 := hid (LD.out.snocO hko hkp.size ho); have C10 := hid (hko _ _ _ CD.out (by decide) (by decide) (by decide) (by decide)); have X10 := hid (hko _ _ _ XD.out (by decide) (by decide) (by decide) (by decide)); have q0 := C10.out.cell 0 _ rfl; have q1 := C10.out.cell 1 _ rfl; have q2 := C10.out.cell 2 _ rfl; have r0 := X10.out.cell 0 _ rfl; have r1 := X10.out.cell 1 _ rfl; have r2 := X10.out.cell 2 _ rfl; clear ho hlg hkp hG hko)))
    clear TP GD LD CD XD G9 L9 C9 X9 z0 z1 z2 y0 y1 y2
    have TQ := hid (rtag_any st n xof kn cn pn f h g (.slice ka kn kc) (.slice ca cn cc) (.slice pa pn pc) (some mb) [] (SE ⟨false, mb, .slice none 0 0, []⟩) w10 (GS.rgQ (leds1 := [_]) (leds2 := []) G10.out) pos_nil ⟨by decide, by decide⟩
      (fun w' hk' => HP.out.below (GS.koL (leds1 := [_]) (leds2 := []) G10.out hk').2)
      (fun w' hk' => HQ.out.below (GS.koL (leds1 := [_]) (leds2 := []) G10.out hk').2)
      (fun w' hk' => HX.out.below (GS.koL (leds1 := [_]) (leds2 := []) G10.out hk').2)
      (by have := SZ.out; omega) (by have := SZ.out; omega) (by have := SZ.out; omega))
    go_wp2_with fail
    refine TQ.out.mono ?_
    rintro e w11 ⟨vb, rfl, ho, hlg, hkp⟩
    obtain ⟨rv2, hG, hko⟩ := GS.turnQ (leds1 := [_]) (leds2 := []) G10.out hlg hkp
    have G11 := hid hG
    have L11 := hid (L10.out.ko hko hkp.size)
    have C11 := hid (hko _ _ _ C10.out (by decide) (by decide) (by decide) (by decide))
    have X11 := hid (hko _ _ _ X10.out (by decide) (by decide) (by decide) (by decide))
    have VB := hid ho
    clear ho hlg hkp hG hko TQ G10 L10 C10 X10 q0 q1 q2 r0 r1 r2
    have q1 := C11.out.cell 1 _ rfl
    go_wp2_with fail
    refine (kept17 _ _ kn f w11 (L11.out.at (i := 0) rfl).reads (HP.out.below G11.out.bel) (by have := SZ.out; omega)).mono ?_
    rintro e w12 ⟨rfl, hb⟩
    have G12 := hid (G11.out.below hb)
    have L12 := hid (L11.out.below hb)
    have C12 := hid (C11.out.below hb)
    have X12 := hid (X11.out.below hb)
    have VB12 := hid (own_below VB.out hb)
    clear hb G11 L11 C11 X11 q1
    have q1 := X12.out.cell 0 _ rfl
    go_wp2_with fail
    refine (kept17 _ _ pn g w12 (L12.out.at (i := 1) rfl).reads (HX.out.below G12.out.bel) (by have := SZ.out; omega)).mono ?_
    rintro e w13 ⟨rfl, hb⟩
    have G13 := hid (G12.out.below hb)
    have L13 := hid (L12.out.below hb)
    have C13 := hid (C12.out.below hb)
    have X13 := hid (X12.out.below hb)
    have VB13 := hid (own_below VB12.out hb)
    clear hb G12 L12 C12 X12 q1
    have q1 := C13.out.cell 2 _ rfl
    go_wp2_with fail
    refine (kept17 _ _ cn h w13 (L13.out.at (i := 2) rfl).reads (HQ.out.below G13.out.bel) (by have := SZ.out; omega)).mono ?_
    rintro e w14 ⟨rfl, hb⟩
    have G14 := hid (G13.out.below hb)
    have L14 := hid (L13.out.below hb)
    have C14 := hid (C13.out.below hb)
    have X14 := hid (X13.out.below hb)
    have VB14 := hid (own_below VB13.out hb)
    clear hb G13 L13 C13 X13 q1
    have hlen := hid (tgk_le st n)
    go_wp2_with fail
    refine (same_true _ _ (tgk st n) _ _ w14 (L14.out.at (i := 3) rfl).reads VB14.out.reads (by have := hlen.out; omega) (fun _ _ => rfl)).mono ?_
    rintro e w15 ⟨rfl, d15, hw15⟩
    have b15 : Below w14.heap.size w14 w15 := by rw [hw15]; exact below_drewN _ _
    have G15 := hid (G14.out.below b15)
    have L15 := hid (L14.out.below b15)
    clear hw15 b15 VB VB12 VB13 VB14 C14 X14 G14 L14
    have hev : Hid ((evk [] (tgC st n xof kn f cn h pn g)).length * 24 ≤ 140737488355328) := by
      have h1 := evk_len [] (tgC st n xof kn f cn h pn g)
      have h2 := tgC_le st n xof kn f cn h pn g (by have := SZ.out; omega) (by have := SZ.out; omega) (by have := SZ.out; omega)
      simp at h1
      show _ ≤ _
      omega
    go_wp2_with fail
    refine (runs22 lb rv1 _ w15 (GS.midL (leds1 := []) G15.out).1 hev.out).mono ?_
    rintro e w16 ⟨u1, rfl, hu, hb⟩
    have U1 := hid hu
    have G16 := hid (G15.out.below hb)
    have L16 := hid (L15.out.below hb)
    clear hu hb G15 L15
    go_wp2_with fail
    refine (refRuns20 mb rv2 _ w16 (GS.midL (leds1 := [_]) (leds2 := []) G16.out).1 hev.out).mono ?_
    rintro e w17 ⟨u2, rfl, hu, hb⟩
    have U2 := hid hu
    have U1' := hid (U1.out.reads.below hb)
    have G17 := hid (G16.out.below hb)
    have L17 := hid (L16.out.below hb)
    clear hu hb G16 L16 U1
    go_wp2_with fail
    refine (same14 _ _ _ _ w17 U1'.out U2.out.reads (by have := hev.out; omega) (by have := hev.out; omega)).mono ?_
    rw [decide_eq_true rfl]
    rintro e w18 ⟨rfl, d18, hw18⟩
    have b18 : Below w17.heap.size w17 w18 := by rw [hw18]; exact below_drewN _ _
    have G18 := hid (G17.out.below b18)
    have L18 := hid (L17.out.below b18)
    clear hw18 b18 G17 L17 U1' U2
    have LR := hid (show LS w18 w.heap.size (⟨.slice aa (tgk st n) caa, tgk st n, _⟩ :: [⟨.slice (some ⟨gk, 0, none⟩) (kn + 6) ck, kn + 6, _⟩, ⟨.slice (some ⟨gp, 0, none⟩) (pn + 6) cp, pn + 6, _⟩, ⟨.slice (some ⟨gq, 0, none⟩) (cn + 6) cq, cn + 6, _⟩]) from L18.out.rot)
    go_wp2_with fail
    refine (LR.out.apart _ rfl 4 rfl (by omega) (by omega) (fun x hx => by
      have := hlen.out
      have := SZ.out
      simp only [List.mem_cons, List.not_mem_nil, or_false] at hx
      rcases hx with rfl | rfl | rfl | rfl
      · show tgk st n ≤ _; omega
      · show kn + 6 ≤ _; omega
      · show pn + 6 ≤ _; omega
      · show cn + 6 ≤ _; omega)).mono ?_
    rintro e w19 ⟨rfl, hb⟩
    have B19 := hid ((below_next G18.out.bel (below_alloc _ _)).trans hb)
    clear hb
    go_wp2
    go_ret
    exact ⟨rfl, B19.out⟩
end Go.Proofs.YtnhhkoekghjogaaDoor.Kc
