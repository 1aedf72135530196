/- The statement AesBack, walked: a key of 24 bytes. -/
import Derived.Test.YtbommnigljmfkaaDoorAbk
namespace Go.Proofs.YtbommnigljmfkaaDoor.Ae
open Go.ChangeShapes Go.WideShapes Go.ChangeAt Go.RowKit
open Go.Proofs.YtbommnigljmfkaaDoor.By Go.Proofs.YtbommnigljmfkaaDoor.Gf
open Go.Proofs.YtbommnigljmfkaaDoor.Kc (own_kept own_mono own8_type cat cat_bound wpList_cat below_grow)
set_option maxRecDepth 8000 in
set_option maxHeartbeats 8000000 in
theorem back_ok24 (fk : Nat → Int) (hkey : ∀ i, kf fk i < 256) (kb ko cap : Nat) (hc : 4 * 6 ≤ cap) (p q : Value) (np nq : Nat) (fp fq : Nat → Int) (w : World) (hM : KM w) (hU : KU w) (hcell : ∀ i, i < 4 * 6 → w.cell? ⟨kb, ko + i, none⟩ = some (.int .u8 ((kf fk i : Nat) : Int))) (hp : By.RB w p np fp) (hq : By.RB w q nq fq) (hnp : np ≤ 140737488355999) (hnq : nq ≤ 140737488355999) :
    Calls Tryd.prog 5 #[.slice (some ⟨kb, ko, none⟩) 24 cap, p, q] w fun e w' => e = .returned (.bool true) ∧ Below w.heap.size w w' := by
  have HM := hid hM
  have HU := hid hU
  have PW := hid hp
  have QW := hid hq
  have KW := hid hcell
  have hkb := block_lt_of_cell (hcell 0 (by omega))
  clear hM hU hp hq hcell
  go_enter Tryd.func5, Tryd.ntmps5
  go_wp2_with fail
  refine (awake1 w HM.out).mono ?_
  rintro e W1 ⟨rfl, hb⟩
  have B1 := hid hb
  clear hb
  go_wp2_with fail
  refine (newL w W1 B1.out).mono ?_
  rintro e W2 ⟨rfl, g2, hb⟩
  have G := hid g2
  clear g2
  clear hb
  have NC := hid (G.out.new room0 6 (.inr (.inl rfl)) (kf fk) hkey kb ko cap hc (fun V hv _ i hi => (hv.cell (p := ⟨kb, ko + i, none⟩) hkb).trans (KW.out i hi)))
  obtain ⟨lb, elb⟩ : ∃ x, W1.heap.size = x := ⟨_, rfl⟩
  rw [elb] at G NC
  rw [elb]
  clear elb
  go_wp2_with fail
  refine NC.out.mono ?_
  rintro e W3 ⟨g, rfl, c3, hg3, g3, ht⟩
  have C := hid c3
  have G := hid g3
  have WL := hid (rk_lt 6 (kf fk) hkey)
  obtain ⟨ws, ews⟩ : ∃ x, rk 6 (kf fk) = x := ⟨_, rfl⟩
  rw [ews] at C WL
  clear ht c3 g3 hg3 NC B1 ews
  obtain ⟨bp, ebp⟩ : ∃ x, blk np (kf fp) = x := ⟨_, rfl⟩
  obtain ⟨bq, ebq⟩ : ∃ x, blk nq (kf fq) = x := ⟨_, rfl⟩
  have HBP : Hid (B16 bp) := by rw [← ebp]; exact blk_b np _ (kf_lt PW.out.1)
  have HBQ : Hid (B16 bq) := by rw [← ebq]; exact blk_b nq _ (kf_lt QW.out.1)
  have BP : Hid (∀ W, Below w.heap.size w W → Calls Tryd.prog 23 #[p] W fun e w' => e = .returned (bv bp) ∧ Below W.heap.size W w') := fun W h => by rw [← ebp]; exact block1 p np fp W (PW.out.below h) hnp
  have BQ : Hid (∀ W, Below w.heap.size w W → Calls Tryd.prog 23 #[q] W fun e w' => e = .returned (bv bq) ∧ Below W.heap.size W w') := fun W h => by rw [← ebq]; exact block1 q nq fq W (QW.out.below h) hnq
  clear ebp ebq
  obtain ⟨EA, eA⟩ : ∃ x, enc ws (6 + 6) bp = x := ⟨_, rfl⟩
  obtain ⟨EB, eB⟩ : ∃ x, dec ws (6 + 6) EA = x := ⟨_, rfl⟩
  obtain ⟨ED, eD⟩ : ∃ x, dec ws (6 + 6) bq = x := ⟨_, rfl⟩
  obtain ⟨EX, eX⟩ : ∃ x, enc ws (6 + 6) ED = x := ⟨_, rfl⟩
  obtain ⟨EY, eY⟩ : ∃ x, enc ws (6 + 6) bq = x := ⟨_, rfl⟩
  have q1 : eqb EB bp = true := eqb_true (by rw [← eB, ← eA]; exact dec_enc WL.out _ HBP.out)
  have q2 : eqb EX bq = true := eqb_true (by rw [← eX, ← eD]; exact enc_dec WL.out _ HBQ.out)
  have q3 : eqb EA EY = eqb bp bq := by
    by_cases h : E16 bp bq
    · rw [eqb_true h, eqb_true (by rw [← eA, ← eY]; exact (enc_inj WL.out _ HBP.out HBQ.out).2 h)]
    · rw [eqb_false h, eqb_false (fun e => h ((enc_inj WL.out _ HBP.out HBQ.out).1 (by rw [eA, eY]; exact e)))]
  have HA : Hid (B16 EA) := by rw [← eA]; exact encTo_b WL.out _ _ HBP.out
  have HD : Hid (B16 ED) := by rw [← eD]; exact decFrom_b WL.out _ _ HBQ.out
  have CE : Hid (∀ W L (b : Nat → Nat), B16 b → Ci W g 6 ws → Lg w W lb L → Room L → Calls Tryd.prog 22 #[.pointer (some ⟨g, 0, none⟩), .pointer (some ⟨lb, 0, none⟩), bv b] W fun e w' => e = .returned (.tuple #[bv (enc ws (6 + 6) b), .int .i64 0]) ∧ Lg w w' lb (putL L ⟨5, 24, 1⟩) ∧ Ci w' g 6 ws ∧ Kt W w') := fun W L b hb hc hl hr => hl.enc hr HM.out g 6 ws b hb hc
  have CD : Hid (∀ W L (b : Nat → Nat), B16 b → Ci W g 6 ws → Lg w W lb L → Room L → Calls Tryd.prog 24 #[.pointer (some ⟨g, 0, none⟩), .pointer (some ⟨lb, 0, none⟩), bv b] W fun e w' => e = .returned (.tuple #[bv (dec ws (6 + 6) b), .int .i64 0]) ∧ Lg w w' lb (putL L ⟨5, 24, 1⟩) ∧ Ci w' g 6 ws ∧ Kt W w') := fun W L b hb hc hl hr => hl.dec hr HU.out g 6 ws b hb hc
  have Q1 := hid q1
  have Q2 := hid q2
  have Q3 := hid q3
  have FA := hid eA
  have FB := hid eB
  have FD := hid eD
  have FX := hid eX
  have FY := hid eY
  clear eA eB eD eX eY q1 q2 q3
  go_wp2_with fail
  refine (BP.out W3 G.out.bel).mono ?_
  rintro e W4 ⟨rfl, hb⟩
  have C := hid (C.out.below hb)
  have G := hid (G.out.below hb)
  clear hb
  go_wp2_with fail
  refine (CE.out W4 _ (bp) HBP.out C.out G.out (room_of (by decide) (by decide))).mono ?_
  rintro e W5 ⟨rfl, g, c, ht⟩
  have C := hid c
  have G := hid g
  clear ht c g
  rw [FA.out]
  have hb := bx_bel W5 EA
  have C := hid (C.out.below hb)
  have G := hid (G.out.below hb)
  have XA := hid (bx_b W5 EA)
  have s6 := bx_s W5 EA
  obtain ⟨aXA, ea⟩ : ∃ a, W5.heap.size = a := ⟨_, rfl⟩
  rw [ea] at XA s6
  clear hb
  have la := ld_blk XA.out
  go_wp2_with fail
  generalize Bx W5 EA = W6 at *
  clear ea s6
  refine (CD.out W6 _ (EA) HA.out C.out G.out (room_of (by decide) (by decide))).mono ?_
  rintro e W7 ⟨rfl, g, c, ht⟩
  have XA := hid (XA.out.kt ht)
  have C := hid c
  have G := hid g
  clear ht c g
  rw [FB.out]
  have hb := bx_bel W7 EB
  have XA := hid (XA.out.below hb)
  have C := hid (C.out.below hb)
  have G := hid (G.out.below hb)
  have XB := hid (bx_b W7 EB)
  have s8 := bx_s W7 EB
  obtain ⟨aXB, ea⟩ : ∃ a, W7.heap.size = a := ⟨_, rfl⟩
  rw [ea] at XB s8
  clear hb
  go_wp2_with fail
  generalize Bx W7 EB = W8 at *
  clear ea s8
  refine (BQ.out W8 G.out.bel).mono ?_
  rintro e W9 ⟨rfl, hb⟩
  have XA := hid (XA.out.below hb)
  have XB := hid (XB.out.below hb)
  have C := hid (C.out.below hb)
  have G := hid (G.out.below hb)
  clear hb
  go_wp2_with fail
  refine (CD.out W9 _ (bq) HBQ.out C.out G.out (room_of (by decide) (by decide))).mono ?_
  rintro e W10 ⟨rfl, g, c, ht⟩
  have XA := hid (XA.out.kt ht)
  have XB := hid (XB.out.kt ht)
  have C := hid c
  have G := hid g
  clear ht c g
  rw [FD.out]
  have hb := bx_bel W10 ED
  have XA := hid (XA.out.below hb)
  have XB := hid (XB.out.below hb)
  have C := hid (C.out.below hb)
  have G := hid (G.out.below hb)
  have XD := hid (bx_b W10 ED)
  have s11 := bx_s W10 ED
  obtain ⟨aXD, ea⟩ : ∃ a, W10.heap.size = a := ⟨_, rfl⟩
  rw [ea] at XD s11
  clear hb
  have ld := ld_blk XD.out
  go_wp2_with fail
  generalize Bx W10 ED = W11 at *
  clear ea s11
  refine (CE.out W11 _ (ED) HD.out C.out G.out (room_of (by decide) (by decide))).mono ?_
  rintro e W12 ⟨rfl, g, c, ht⟩
  have XA := hid (XA.out.kt ht)
  have XB := hid (XB.out.kt ht)
  have XD := hid (XD.out.kt ht)
  have C := hid c
  have G := hid g
  clear ht c g
  rw [FX.out]
  have hb := bx_bel W12 EX
  have XA := hid (XA.out.below hb)
  have XB := hid (XB.out.below hb)
  have XD := hid (XD.out.below hb)
  have C := hid (C.out.below hb)
  have G := hid (G.out.below hb)
  have XX := hid (bx_b W12 EX)
  have s13 := bx_s W12 EX
  obtain ⟨aXX, ea⟩ : ∃ a, W12.heap.size = a := ⟨_, rfl⟩
  rw [ea] at XX s13
  clear hb
  go_wp2_with fail
  generalize Bx W12 EX = W13 at *
  clear ea s13
  refine (BQ.out W13 G.out.bel).mono ?_
  rintro e W14 ⟨rfl, hb⟩
  have XA := hid (XA.out.below hb)
  have XB := hid (XB.out.below hb)
  have XD := hid (XD.out.below hb)
  have XX := hid (XX.out.below hb)
  have C := hid (C.out.below hb)
  have G := hid (G.out.below hb)
  clear hb
  go_wp2_with fail
  refine (CE.out W14 _ (bq) HBQ.out C.out G.out (room_of (by decide) (by decide))).mono ?_
  rintro e W15 ⟨rfl, g, c, ht⟩
  have XA := hid (XA.out.kt ht)
  have XB := hid (XB.out.kt ht)
  have XD := hid (XD.out.kt ht)
  have XX := hid (XX.out.kt ht)
  have C := hid c
  have G := hid g
  clear ht c g
  rw [FY.out]
  have hb := bx_bel W15 EY
  have XA := hid (XA.out.below hb)
  have XB := hid (XB.out.below hb)
  have XD := hid (XD.out.below hb)
  have XX := hid (XX.out.below hb)
  have C := hid (C.out.below hb)
  have G := hid (G.out.below hb)
  have XY := hid (bx_b W15 EY)
  have s16 := bx_s W15 EY
  obtain ⟨aXY, ea⟩ : ∃ a, W15.heap.size = a := ⟨_, rfl⟩
  rw [ea] at XY s16
  clear hb
  go_wp2_with fail
  generalize Bx W15 EY = W16 at *
  clear ea s16
  have HLD : Hid (∀ V, Below W16.heap.size W16 V → (LDb ⟨aXA, 0, none⟩).run Tryd.prog V = .ok (bv EA) V ∧ (LDb ⟨aXB, 0, none⟩).run Tryd.prog V = .ok (bv EB) V ∧ (LDb ⟨aXX, 0, none⟩).run Tryd.prog V = .ok (bv EX) V ∧ (LDb ⟨aXY, 0, none⟩).run Tryd.prog V = .ok (bv EY) V) := fun V h => ⟨ld_blk (XA.out.below h), ld_blk (XB.out.below h), ld_blk (XX.out.below h), ld_blk (XY.out.below h)⟩
  have BPV : Hid (∀ V, Below W16.heap.size W16 V → Calls Tryd.prog 23 #[p] V fun e w' => e = .returned (bv bp) ∧ Below V.heap.size V w') := fun V h => BP.out V (below_next G.out.bel h)
  have BQV : Hid (∀ V, Below W16.heap.size W16 V → Calls Tryd.prog 23 #[q] V fun e w' => e = .returned (bv bq) ∧ Below V.heap.size V w') := fun V h => BQ.out V (below_next G.out.bel h)
  have q1 := Q1.out
  have q2 := Q2.out
  have q3 := Q3.out
  clear la ld
  obtain ⟨tt, ett⟩ : ∃ t, eqb bp bq = t := ⟨_, rfl⟩
  rw [ett] at q3
  refine wp_region_quiet (C := fun V => Below W16.heap.size W16 V) (by kernel_rfl) (by kernel_rfl) (below_drewN W16 1) ?_
  refine BigFrame.wpQuiet_want (by rfl) (fun K hK => ?_)
  refine ⟨.int .i64 0, fun V hV => ?_, hK _ ?_⟩
  · clear hK K
    go_simp
  clear hK K
  simp only [Act.put, List.setIfInBounds_toArray, List.set_cons_zero, List.set_cons_succ]
  refine BigFrame.wpQuiet_want (by rfl) (fun K hK => ?_)
  refine ⟨.bool false, fun V hV => ?_, hK _ ?_⟩
  · clear hK K
    go_simp
  clear hK K
  simp only [Act.put, List.setIfInBounds_toArray, List.set_cons_zero, List.set_cons_succ]
  refine BigFrame.wpQuiet_want (by rfl) (fun K hK => ?_)
  refine ⟨.bool false, fun V hV => ?_, hK _ ?_⟩
  · clear hK K
    go_simp
  clear hK K
  simp only [Act.put, List.setIfInBounds_toArray, List.set_cons_zero, List.set_cons_succ]
  refine BigFrame.wpQuiet_want (by rfl) (fun K hK => ?_)
  refine ⟨.int .i64 0, fun V hV => ?_, hK _ ?_⟩
  · clear hK K
    go_simp
  clear hK K
  simp only [Act.put, List.setIfInBounds_toArray, List.set_cons_zero, List.set_cons_succ]
  refine BigFrame.wpQuiet_want (by rfl) (fun K hK => ?_)
  refine ⟨.bool false, fun V hV => ?_, hK _ ?_⟩
  · clear hK K
    go_simp
  clear hK K
  simp only [Act.put, List.setIfInBounds_toArray, List.set_cons_zero, List.set_cons_succ]
  refine BigFrame.wpQuiet_want (by rfl) (fun K hK => ?_)
  refine ⟨.bool false, fun V hV => ?_, hK _ ?_⟩
  · clear hK K
    go_simp
  clear hK K
  simp only [Act.put, List.setIfInBounds_toArray, List.set_cons_zero, List.set_cons_succ]
  refine BigFrame.wpQuiet_want (by rfl) (fun K hK => ?_)
  refine ⟨.bool false, fun V hV => ?_, hK _ ?_⟩
  · clear hK K
    go_simp
  clear hK K
  simp only [Act.put, List.setIfInBounds_toArray, List.set_cons_zero, List.set_cons_succ]
  refine BigFrame.wpQuiet_want (by rfl) (fun K hK => ?_)
  refine ⟨.int .i64 0, fun V hV => ?_, hK _ ?_⟩
  · clear hK K
    go_simp
  clear hK K
  simp only [Act.put, List.setIfInBounds_toArray, List.set_cons_zero, List.set_cons_succ]
  refine BigFrame.wpQuiet_want (by rfl) (fun K hK => ?_)
  refine ⟨.bool false, fun V hV => ?_, hK _ ?_⟩
  · clear hK K
    go_simp
  clear hK K
  simp only [Act.put, List.setIfInBounds_toArray, List.set_cons_zero, List.set_cons_succ]
  refine BigFrame.wpQuiet_want (by rfl) (fun K hK => ?_)
  refine ⟨.bool false, fun V hV => ?_, hK _ ?_⟩
  · clear hK K
    go_simp
  clear hK K
  simp only [Act.put, List.setIfInBounds_toArray, List.set_cons_zero, List.set_cons_succ]
  refine BigFrame.wpQuiet_want (by rfl) (fun K hK => ?_)
  refine ⟨.bool false, fun V hV => ?_, hK _ ?_⟩
  · clear hK K
    go_simp
  clear hK K
  simp only [Act.put, List.setIfInBounds_toArray, List.set_cons_zero, List.set_cons_succ]
  refine BigFrame.wpQuiet_want (by rfl) (fun K hK => ?_)
  refine ⟨.int .i64 0, fun V hV => ?_, hK _ ?_⟩
  · clear hK K
    go_simp
  clear hK K
  simp only [Act.put, List.setIfInBounds_toArray, List.set_cons_zero, List.set_cons_succ]
  refine BigFrame.wpQuiet_want (by rfl) (fun K hK => ?_)
  refine ⟨.bool false, fun V hV => ?_, hK _ ?_⟩
  · clear hK K
    go_simp
  clear hK K
  simp only [Act.put, List.setIfInBounds_toArray, List.set_cons_zero, List.set_cons_succ]
  refine BigFrame.wpQuiet_want (by rfl) (fun K hK => ?_)
  refine ⟨.bool false, fun V hV => ?_, hK _ ?_⟩
  · clear hK K
    go_simp
  clear hK K
  simp only [Act.put, List.setIfInBounds_toArray, List.set_cons_zero, List.set_cons_succ]
  refine BigFrame.wpQuiet_want (by rfl) (fun K hK => ?_)
  refine ⟨.bool false, fun V hV => ?_, hK _ ?_⟩
  · clear hK K
    go_simp
  clear hK K
  simp only [Act.put, List.setIfInBounds_toArray, List.set_cons_zero, List.set_cons_succ]
  refine BigFrame.wpQuiet_want (by rfl) (fun K hK => ?_)
  refine ⟨.int .i64 0, fun V hV => ?_, hK _ ?_⟩
  · clear hK K
    go_simp
  clear hK K
  simp only [Act.put, List.setIfInBounds_toArray, List.set_cons_zero, List.set_cons_succ]
  refine BigFrame.wpQuiet_want (by rfl) (fun K hK => ?_)
  refine ⟨.bool false, fun V hV => ?_, hK _ ?_⟩
  · clear hK K
    go_simp
  clear hK K
  simp only [Act.put, List.setIfInBounds_toArray, List.set_cons_zero, List.set_cons_succ]
  refine BigFrame.wpQuiet_want (by rfl) (fun K hK => ?_)
  refine ⟨.bool false, fun V hV => ?_, hK _ ?_⟩
  · clear hK K
    go_simp
  clear hK K
  simp only [Act.put, List.setIfInBounds_toArray, List.set_cons_zero, List.set_cons_succ]
  refine BigFrame.wpQuiet_want (by rfl) (fun K hK => ?_)
  refine ⟨.bool false, fun V hV => ?_, hK _ ?_⟩
  · clear hK K
    go_simp
  clear hK K
  simp only [Act.put, List.setIfInBounds_toArray, List.set_cons_zero, List.set_cons_succ]
  refine BigFrame.wpQuiet_want (by rfl) (fun K hK => ?_)
  refine ⟨bv EB, fun V hV => ?_, hK _ ?_⟩
  · clear hK K
    obtain ⟨x1, x2, x3, x4⟩ := HLD.out V hV
    go_simp
  clear hK K
  simp only [Act.put, List.setIfInBounds_toArray, List.set_cons_zero, List.set_cons_succ]
  refine BigFrame.wpQuiet_want (by rfl) (fun K hK => ?_)
  refine ⟨p, fun V hV => ?_, hK _ ?_⟩
  · clear hK K
    go_simp
  clear hK K
  simp only [Act.put, List.setIfInBounds_toArray, List.set_cons_zero, List.set_cons_succ]
  refine BigFrame.wpQuiet_want (by rfl) (fun K hK => ?_)
  refine ⟨bv bp, fun V hV => ?_, hK _ ?_⟩
  · clear hK K
    go_simp
    refine (BPV.out V hV).mono ?_
    rintro e V' ⟨rfl, hb⟩
    exact ⟨rfl, below_next hV hb⟩
  clear hK K
  simp only [Act.put, List.setIfInBounds_toArray, List.set_cons_zero, List.set_cons_succ]
  refine BigFrame.wpQuiet_want (by rfl) (fun K hK => ?_)
  refine ⟨.bool false, fun V hV => ?_, hK _ ?_⟩
  · clear hK K
    go_simp
  clear hK K
  simp only [Act.put, List.setIfInBounds_toArray, List.set_cons_zero, List.set_cons_succ]
  refine BigFrame.wpQuiet_want (by rfl) (fun K hK => ?_)
  refine ⟨.bool false, fun V hV => ?_, hK _ ?_⟩
  · clear hK K
    go_simp
  clear hK K
  simp only [Act.put, List.setIfInBounds_toArray, List.set_cons_zero, List.set_cons_succ]
  refine BigFrame.wpQuiet_want (by rfl) (fun K hK => ?_)
  refine ⟨.bool false, fun V hV => ?_, hK _ ?_⟩
  · clear hK K
    go_simp
  clear hK K
  simp only [Act.put, List.setIfInBounds_toArray, List.set_cons_zero, List.set_cons_succ]
  refine BigFrame.wpQuiet_want (by rfl) (fun K hK => ?_)
  refine ⟨bv EX, fun V hV => ?_, hK _ ?_⟩
  · clear hK K
    obtain ⟨x1, x2, x3, x4⟩ := HLD.out V hV
    go_simp
  clear hK K
  simp only [Act.put, List.setIfInBounds_toArray, List.set_cons_zero, List.set_cons_succ]
  refine BigFrame.wpQuiet_want (by rfl) (fun K hK => ?_)
  refine ⟨q, fun V hV => ?_, hK _ ?_⟩
  · clear hK K
    go_simp
  clear hK K
  simp only [Act.put, List.setIfInBounds_toArray, List.set_cons_zero, List.set_cons_succ]
  refine BigFrame.wpQuiet_want (by rfl) (fun K hK => ?_)
  refine ⟨bv bq, fun V hV => ?_, hK _ ?_⟩
  · clear hK K
    go_simp
    refine (BQV.out V hV).mono ?_
    rintro e V' ⟨rfl, hb⟩
    exact ⟨rfl, below_next hV hb⟩
  clear hK K
  simp only [Act.put, List.setIfInBounds_toArray, List.set_cons_zero, List.set_cons_succ]
  refine BigFrame.wpQuiet_want (by rfl) (fun K hK => ?_)
  refine ⟨.bool false, fun V hV => ?_, hK _ ?_⟩
  · clear hK K
    go_simp
  clear hK K
  simp only [Act.put, List.setIfInBounds_toArray, List.set_cons_zero, List.set_cons_succ]
  refine BigFrame.wpQuiet_want (by rfl) (fun K hK => ?_)
  refine ⟨.bool false, fun V hV => ?_, hK _ ?_⟩
  · clear hK K
    go_simp
  clear hK K
  simp only [Act.put, List.setIfInBounds_toArray, List.set_cons_zero, List.set_cons_succ]
  refine BigFrame.wpQuiet_want (by rfl) (fun K hK => ?_)
  refine ⟨.bool false, fun V hV => ?_, hK _ ?_⟩
  · clear hK K
    go_simp
  clear hK K
  simp only [Act.put, List.setIfInBounds_toArray, List.set_cons_zero, List.set_cons_succ]
  refine BigFrame.wpQuiet_want (by rfl) (fun K hK => ?_)
  refine ⟨bv EA, fun V hV => ?_, hK _ ?_⟩
  · clear hK K
    obtain ⟨x1, x2, x3, x4⟩ := HLD.out V hV
    go_simp
  clear hK K
  simp only [Act.put, List.setIfInBounds_toArray, List.set_cons_zero, List.set_cons_succ]
  refine BigFrame.wpQuiet_want (by rfl) (fun K hK => ?_)
  refine ⟨bv EY, fun V hV => ?_, hK _ ?_⟩
  · clear hK K
    obtain ⟨x1, x2, x3, x4⟩ := HLD.out V hV
    go_simp
  clear hK K
  simp only [Act.put, List.setIfInBounds_toArray, List.set_cons_zero, List.set_cons_succ]
  refine BigFrame.wpQuiet_want (by rfl) (fun K hK => ?_)
  refine ⟨.bool tt, fun V hV => ?_, hK _ ?_⟩
  · clear hK K
    go_simp
  clear hK K
  simp only [Act.put, List.setIfInBounds_toArray, List.set_cons_zero, List.set_cons_succ]
  refine BigFrame.wpQuiet_want (by rfl) (fun K hK => ?_)
  refine ⟨p, fun V hV => ?_, hK _ ?_⟩
  · clear hK K
    go_simp
  clear hK K
  simp only [Act.put, List.setIfInBounds_toArray, List.set_cons_zero, List.set_cons_succ]
  refine BigFrame.wpQuiet_want (by rfl) (fun K hK => ?_)
  refine ⟨bv bp, fun V hV => ?_, hK _ ?_⟩
  · clear hK K
    go_simp
    refine (BPV.out V hV).mono ?_
    rintro e V' ⟨rfl, hb⟩
    exact ⟨rfl, below_next hV hb⟩
  clear hK K
  simp only [Act.put, List.setIfInBounds_toArray, List.set_cons_zero, List.set_cons_succ]
  refine BigFrame.wpQuiet_want (by rfl) (fun K hK => ?_)
  refine ⟨q, fun V hV => ?_, hK _ ?_⟩
  · clear hK K
    go_simp
  clear hK K
  simp only [Act.put, List.setIfInBounds_toArray, List.set_cons_zero, List.set_cons_succ]
  refine BigFrame.wpQuiet_want (by rfl) (fun K hK => ?_)
  refine ⟨bv bq, fun V hV => ?_, hK _ ?_⟩
  · clear hK K
    go_simp
    refine (BQV.out V hV).mono ?_
    rintro e V' ⟨rfl, hb⟩
    exact ⟨rfl, below_next hV hb⟩
  clear hK K
  simp only [Act.put, List.setIfInBounds_toArray, List.set_cons_zero, List.set_cons_succ]
  refine BigFrame.wpQuiet_want (by rfl) (fun K hK => ?_)
  refine ⟨.bool tt, fun V hV => ?_, hK _ ?_⟩
  · clear hK K
    go_simp
  clear hK K
  simp only [Act.put, List.setIfInBounds_toArray, List.set_cons_zero, List.set_cons_succ]
  refine BigFrame.wpQuiet_want (by rfl) (fun K hK => ?_)
  refine ⟨.bool false, fun V hV => ?_, hK _ ?_⟩
  · clear hK K
    go_simp
  clear hK K
  simp only [Act.put, List.setIfInBounds_toArray, List.set_cons_zero, List.set_cons_succ]
  refine BigFrame.wpQuiet_want (by rfl) (fun K hK => ?_)
  refine ⟨.bool false, fun V hV => ?_, hK _ ?_⟩
  · clear hK K
    go_simp
  clear hK K
  simp only [Act.put, List.setIfInBounds_toArray, List.set_cons_zero, List.set_cons_succ]
  refine wpQuiet_nil ?_
  intro W17 hb
  have C := hid (C.out.below hb)
  have G := hid (G.out.below hb)
  clear hb HLD BPV BQV XA XB XX XY XD q1 q2 q3 ett
  have G := hid (show Lg w W17 lb [⟨4, 24, 1⟩, ⟨5, 24, 5⟩] from G.out)
  go_wp2_with fail
  refine (G.out.runs (by decide)).mono ?_
  rintro e W18 ⟨v1, rfl, r1, hb⟩
  have C := hid (C.out.below hb)
  have G := hid (G.out.below hb)
  have R1 := hid r1
  clear r1
  clear hb
  go_wp2_with fail
  refine (runsL 24 5 (by omega) (by omega) (by omega) W18).mono ?_
  rintro e W19 ⟨v2, rfl, o2, hb⟩
  have R1 := hid (R1.out.below hb)
  have C := hid (C.out.below hb)
  have G := hid (G.out.below hb)
  have R2 := hid o2.reads
  clear o2
  clear hb
  go_wp2_with fail
  refine (sameL v1 v2 [⟨4, 24, 1⟩, ⟨5, 24, 5⟩] W19 R1.out R2.out (by decide)).mono ?_
  rintro e W20 ⟨rfl, d, rfl⟩
  have hb := below_drewN W19 d
  have C := hid (C.out.below hb)
  have G := hid (G.out.below hb)
  clear hb
  generalize W19.drewN d = W20 at *
  go_wp2_with fail
  refine (keyLen_ci g 6 W20 C.out.c0 (by omega) (by omega)).mono ?_
  rintro e w' ⟨rfl, hw'⟩
  subst w'
  go_wp2_with fail
  refine (form_ci g 6 ws W20 C.out).mono ?_
  rintro e WE ⟨v, rfl, ov, hb⟩
  have G := hid (G.out.below hb)
  obtain ⟨a, c, rfl⟩ : ∃ a c, v = .slice a (16 * (6 + 7)) c := by
    rcases ov.shape with ⟨_, h0⟩ | ⟨g', cap', rfl, _⟩
    · omega
    · exact ⟨_, _, rfl⟩
  clear hb ov
  go_wp2_with fail
  go_ret
  exact ⟨rfl, G.out.bel⟩
end Go.Proofs.YtbommnigljmfkaaDoor.Ae
