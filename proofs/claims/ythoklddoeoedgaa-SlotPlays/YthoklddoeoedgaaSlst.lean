/- The statement's walk: what was put last, and nothing else. -/
import Derived.Test.YthoklddoeoedgaaSlni
import Derived.Deep.DeepCutAuto
import Derived.Deep.RegionHeld3
namespace Go.Proofs.Ythoklddoeoedgaa.Sl
open Go.ChangeShapes Go.WideShapes Go.ChangeAt Go.RowKit
open Go.Proofs.Ythoklddoeoedgaa.By
/-- A list of lists of bytes in an argument: place i holds the list pv i. -/
structure AL (w : World) (a : Option Addr) (m : Nat) (pv : Nat → Value) (pn : Nat → Nat) (pf : Nat → Nat → Int) : Prop where
  cells : ∀ i, i < m → ∃ b off, a = some ⟨b, off, none⟩ ∧ w.cell? ⟨b, off + i, none⟩ = some (pv i)
  rb : ∀ i, i < m → By.RB w (pv i) (pn i) (pf i)
/-- A list of bools in an argument. -/
def AT (w : World) (a : Option Addr) (m : Nat) (bv : Nat → Bool) : Prop := ∀ i, i < m → ∃ b off, a = some ⟨b, off, none⟩ ∧ w.cell? ⟨b, off + i, none⟩ = some (.bool (bv i))
/-- Between two puts: lv is the list that was put last; the memory has its bytes. -/
def LI (w : World) (p0 p1 : Nat) (lv : Value) (W : World) : Prop := ∃ n f g t, (∀ w', Below w.heap.size w w' → By.RB w' lv n f) ∧ n ≤ 1024 ∧ (∀ i, g i = cut n f i) ∧ GX w w.heap.size t W ∧ t 0 = tM (.pointer (some ⟨p0, 0, none⟩)) (some (n, g)) ∧ t 1 = tM (.pointer (some ⟨p1, 0, none⟩)) (some (0, fun _ => 0))
theorem cut_cut (n : Nat) (f : Nat → Int) (i : Nat) : cut n (cut n f) i = cut n f i := by
  unfold cut; split <;> rfl
set_option maxRecDepth 20000 in
set_option maxHeartbeats 4000000 in
theorem last_w (pa ta oa : Option Addr) (np cp nt ct no co : Nat) (pv : Nat → Value) (pn : Nat → Nat) (pf : Nat → Nat → Int) (tv : Nat → Bool) (og : Nat → Int) (w : World)
    (hp : ∀ w', Below w.heap.size w w' → AL w' pa np pv pn pf) (ht : ∀ w', Below w.heap.size w w' → AT w' ta nt tv) (ho : ∀ w', Below w.heap.size w w' → By.RB w' (.slice oa no co) no og) (hnp : np ≤ 140737488355328) :
    Calls Try.prog 6 #[.slice pa np cp, .slice ta nt ct, .slice oa no co] w fun e w' => e = .returned (.bool true) ∧ Below w.heap.size w w' := by
  have HP := hid hp
  have HT := hid ht
  have HO := hid ho
  clear hp ht ho
  have G0 := hid (GX.start w)
  go_enter Try.func6, Try.ntmps6
  go_wp2_with fail
  refine (gx_new G0.out 0).mono ?_
  rintro e W1 ⟨rfl, t1, hg, h0, hB⟩
  have G := hid hg
  have H0 := hid h0
  clear hg h0 hB G0
  go_wp2_with fail
  refine (gx_new G.out 1).mono ?_
  rintro e W2 ⟨rfl, t2, hg, h1, hB⟩
  replace G := hid hg
  have H1 := hid h1
  replace H0 := hid ((hB 0 (by decide) (by decide)).trans H0.out)
  clear hg h1 hB
  obtain ⟨p0, e0⟩ : ∃ p, w.heap.size = p := ⟨_, rfl⟩
  obtain ⟨p1, e1⟩ : ∃ p, W1.heap.size = p := ⟨_, rfl⟩
  rw [e0] at H0
  rw [e1] at H1
  rw [e1]
  go_wp2_with fail
  refine (awake W2).mono ?_
  rintro e W3 ⟨rfl, hb⟩
  replace G := hid (G.out.below hb)
  clear hb
  go_wp2_with fail
  have INV : Hid (LI w p0 p1 (.slice none 0 0) W3) := ⟨0, fun _ => 0, fun _ => 0, t2, fun w' _ => ⟨fun _ => by show (0 : Int) ≤ 0 ∧ (0 : Int) < 256; decide, none, 0, rfl, Nat.le_refl _, by simp [maxLen], .inl ⟨rfl, fun _ => rfl⟩⟩, by omega, fun i => (cut_out 0 _ i (Nat.zero_le _)).symm, G.out, H0.out, H1.out⟩
  clear G H0 H1
  go_loopw [9, 10] (fun lv i wr => ∃ k : Nat, k ≤ np ∧ i = .int .i64 k ∧ LI w p0 p1 lv wr) (fun _ i _ => np - (intOf i).toNat)
  case atStart => exact ⟨0, Nat.zero_le _, rfl, INV.out⟩
  case round =>
    clear INV
    obtain ⟨k, hk, rfl, hli⟩ := hrel
    by_cases hlt : k < np
    · obtain ⟨n, f, g, t, hrb, hn, hgf, hg, h0, h1⟩ := hli
      obtain ⟨bp, op, rfl, cc⟩ := (HP.out wr hg.bel).cells k hlt
      have RP : Hid (∀ w', Below w.heap.size w w' → By.RB w' (pv k) (pn k) (pf k)) := fun w' hb => (HP.out w' hb).rb k hlt
      have CC : Hid (∀ w', Below w.heap.size w w' → w'.cell? ⟨bp, op + k, none⟩ = some (pv k)) := fun w' hb => by
        obtain ⟨b', o', e', c'⟩ := (HP.out w' hb).cells k hlt
        cases e'; exact c'
      have l0 : (0 : Int) ≤ k := by omega
      have l1 : (k : Int) < np := by omega
      have G := hid hg
      have H0 := hid h0
      have H1 := hid h1
      have RB0 := hid hrb
      have HN := hid hn
      have HGF := hid hgf
      have HK := hid hlt
      clear hg h0 h1 hrb hn hgf hlt
      go_wp2_with fail
      refine (gx_put G.out H0.out (RP.out _ G.out.bel)).mono ?_
      rintro e W4 ⟨rfl, t', hg, h0, hB⟩
      obtain ⟨pl, pcap, hpv⟩ : ∃ a c, pv k = .slice a (pn k) c := by obtain ⟨_, a, c, e, _⟩ := RP.out _ G.out.bel; exact ⟨a, c, e⟩
      replace H1 := hid ((hB 1 (by decide) (by decide)).trans H1.out)
      have cc := CC.out W4 hg.bel
      replace G := hid hg
      replace H0 := hid h0
      clear hg h0 hB
      obtain ⟨pnk, epn⟩ : ∃ x, pn k = x := ⟨_, rfl⟩
      rw [epn] at hpv H0 RP ⊢
      have LX : Hid (LI w p0 p1 (if 1024 < pnk then u9 else pv k) W4) := by
        by_cases hl : 1024 < pnk
        · rw [show pk (some (n, g)) pnk (pf k) = some (n, g) from if_pos hl] at H0
          rw [if_pos hl]
          exact ⟨n, f, g, t', RB0.out, HN.out, HGF.out, G.out, H0.out, H1.out⟩
        · rw [show pk (some (n, g)) pnk (pf k) = some (pnk, cut pnk (pf k)) from if_neg hl] at H0
          rw [if_neg hl]
          exact ⟨pnk, pf k, cut pnk (pf k), t', RP.out, by omega, fun _ => rfl, G.out, H0.out, H1.out⟩
      rw [hpv] at cc LX ⊢
      obtain ⟨E, hE⟩ : ∃ E, pc (some (n, g)) pnk = E := ⟨_, rfl⟩
      rw [hE]
      have HE := hid hE
      clear hE G H0 H1 RB0 HN HGF RP hpv
      go_upto_region 9 with fail
      go_cut [40, 41, 42, 43, 44, 45, 46, 47, 48, 49, 50, 51, 52, 53, 54, 55, 56] (fun x40 x41 x42 x43 x44 x45 x46 x47 x48 x49 x50 x51 x52 x53 x54 x55 t W => t = .bool false ∧ W = W4)
      case first =>
        by_cases hl : 1024 < pnk
        · obtain rfl : 9 = E := by rw [← HE.out]; exact (if_pos hl).symm
          have d1 : decide ((pnk : Int) ≤ 1024) = false := by simp; omega
          clear HE hl
          go_wp2_with fail
          go_meet
          case rel => exact ⟨rfl, rfl⟩
        · obtain rfl : 0 = E := by rw [← HE.out]; exact (if_neg hl).symm
          have d1 : decide ((pnk : Int) ≤ 1024) = true := by simp; omega
          clear HE hl
          go_wp2_with fail
          go_meet
          case rel => exact ⟨rfl, rfl⟩
      case rest =>
      obtain ⟨rfl, rfl⟩ := hcut
      go_upto_if 58 with fail
      go_cut [9, 59, 60, 61, 62] (fun t x59 x60 x61 x62 W => LI w p0 p1 t W)
      case first =>
        by_cases hl : 1024 < pnk
        · obtain rfl : 9 = E := by rw [← HE.out]; exact (if_pos hl).symm
          rw [if_pos hl] at LX
          clear HE hl
          go_wp2_with fail
          go_meet
          case rel => exact LX.out
        · obtain rfl : 0 = E := by rw [← HE.out]; exact (if_neg hl).symm
          rw [if_neg hl] at LX
          clear HE hl
          go_wp2_with fail
          go_meet
          case rel => exact LX.out
      case rest =>
      clear LX HE cc
      have LX := hid hcut
      clear hcut
      obtain ⟨W4, eW4⟩ : ∃ x, wc = x := ⟨_, rfl⟩
      rw [eW4] at LX ⊢
      clear eW4
      go_upto_region 13 with fail
      obtain ⟨cb, ecb⟩ : ∃ b, (decide (k < nt) && tv k) = b := ⟨_, rfl⟩
      have BW : Hid (Below w.heap.size w W4) := by obtain ⟨_, _, _, _, _, _, _, hg, _⟩ := LX.out; exact hg.bel
      go_cut [63, 64, 65, 66, 67, 68, 69, 70, 71, 72] (fun x63 x64 x65 x66 x67 x68 x69 x70 x71 t W => t = .bool cb ∧ W = W4)
      case first =>
        by_cases hk2 : k < nt
        · have l2 : (k : Int) < nt := by omega
          obtain ⟨bt, ot, rfl, ct'⟩ := HT.out W4 BW.out k hk2
          rw [decide_eq_true hk2, Bool.true_and] at ecb
          go_wp2_with fail
          go_meet
          case rel => exact ⟨rfl, rfl⟩
        · have l2 : ¬ (k : Int) < nt := by omega
          rw [decide_eq_false hk2, Bool.false_and] at ecb
          subst ecb
          go_wp2_with fail
          go_meet
          case rel => exact ⟨rfl, rfl⟩
      case rest =>
        clear ecb
        obtain ⟨rfl, rfl⟩ := hcut
        go_upto_if 72 with fail
        go_cut [9, 73, 74, 75] (fun t x73 x74 x75 W => LI w p0 p1 t W)
        case first =>
          cases cb with
          | false =>
            go_wp2_with fail
            go_meet
            case rel => exact LX.out
          | true =>
            obtain ⟨n', f', g', t'', hrb', hn', hgf', hg', h0', h1'⟩ := LX.out
            have G := hid (hg'.drop 9)
            have H0 := hid ((up_ne t'' Th.no (show 0 ≠ 9 by decide)).trans h0')
            have H1 := hid ((up_ne t'' Th.no (show 1 ≠ 9 by decide)).trans h1')
            have H9 : Hid (Lg (up t'' 9 Th.no) 9 none []) := up_at t'' 9 Th.no
            clear hg' h0' h1' hrb' hn' hgf' LX
            go_wp2_with fail
            refine (gx_wipe G.out H0.out H9.out (by decide) (by unfold Room; decide)).mono ?_
            rintro e W5 ⟨rfl, t5, hg, h0, -, hB⟩
            rw [show Sl.wc (some (n', g')) = 0 from rfl]
            have LY : Hid (LI w p0 p1 (.slice none 0 0) W5) := ⟨0, fun _ => 0, fun _ => 0, t5, fun w' _ => ⟨fun _ => by show (0 : Int) ≤ 0 ∧ (0 : Int) < 256; decide, none, 0, rfl, Nat.le_refl _, by simp [maxLen], .inl ⟨rfl, fun _ => rfl⟩⟩, by omega, fun i => (cut_out 0 _ i (Nat.zero_le _)).symm, hg, h0, (hB 1 (by decide) (by decide)).trans H1.out⟩
            clear hg h0 hB G H0 H1 H9
            go_wp2_with fail
            go_meet
            case rel => exact LY.out
        case rest =>
          clear LX BW
          obtain ⟨n2, f2, g2, t6, hrb, hn2, hgf, hg, h0, h1⟩ := hcut
          obtain ⟨la, lc, hlv⟩ : ∃ a c, u9 = .slice a n2 c := by obtain ⟨_, a, c, e, _⟩ := hrb _ hg.bel; exact ⟨a, c, e⟩
          have G := hid hg
          have H0 := hid h0
          have H1 := hid h1
          have HRB := hid hrb
          have HGF := hid hgf
          have HN2 := hid hn2
          clear hg h0 h1 hrb hgf hn2
          rw [hlv] at HRB ⊢
          clear hlv
          obtain ⟨bw, ebw⟩ : ∃ b, wc.heap.size = b := ⟨_, rfl⟩
          obtain ⟨W6, hW6⟩ : ∃ W, wc.alloc (.cells (bl 1024 (fun _ => 0)).toArray 30) = W := ⟨_, rfl⟩
          have INV2 : Hid (∃ t, GX w w.heap.size t W6 ∧ t 0 = tM (.pointer (some ⟨p0, 0, none⟩)) (some (n2, g2)) ∧ t 1 = tM (.pointer (some ⟨p1, 0, none⟩)) (some (0, fun _ => 0)) ∧ ∃ h, (∀ i, h i = cut 0 f2 i) ∧ t 5 = tC bw (bl 1024 h) 30) := by
            obtain ⟨t7, hg7, h5, hB⟩ := gx_alloc G.out 5 (bl 1024 (fun _ => 0)) 30
            rw [hW6] at hg7
            rw [ebw] at h5
            exact ⟨t7, hg7, (hB 0 (by decide) (by decide)).trans H0.out, (hB 1 (by decide) (by decide)).trans H1.out, fun _ => 0, fun i => (cut_out 0 f2 i (Nat.zero_le _)).symm, h5⟩
          clear G H0 H1
          go_wp2_with fail
          go_loopw [13] (fun x wr => ∃ j : Nat, j ≤ n2 ∧ x = .int .i64 j ∧ ∃ t, GX w w.heap.size t wr ∧ t 0 = tM (.pointer (some ⟨p0, 0, none⟩)) (some (n2, g2)) ∧ t 1 = tM (.pointer (some ⟨p1, 0, none⟩)) (some (0, fun _ => 0)) ∧ ∃ h, (∀ i, h i = cut j f2 i) ∧ t 5 = tC bw (bl 1024 h) 30) (fun x _ => n2 - (intOf x).toNat)
          case atStart => exact ⟨0, Nat.zero_le _, rfl, INV2.out⟩
          case round =>
            clear INV2
            obtain ⟨j, hj, rfl, t8, hg, h0, h1, h, hh, h5⟩ := hrel
            have hn2' := HN2.out
            by_cases hjl : j < n2
            · have BL := hg.blk h5
              have c5 := BL.cell j _ (bl_get 1024 h j (by omega))
              have z5 := BL.frozen j
              obtain ⟨bl', ol', ela, c6⟩ := By.RB.cellsAt (HRB.out _ hg.bel) hjl
              cases ela
              have j0 : (0 : Int) ≤ j := by omega
              have j1 : (j : Int) < n2 := by omega
              have j2 : (j : Int) < 1024 := by omega
              have NXT : Hid (∃ t, GX w w.heap.size t (wr.setCell ⟨bw, j, none⟩ (.int .u8 (f2 j))) ∧ t 0 = tM (.pointer (some ⟨p0, 0, none⟩)) (some (n2, g2)) ∧ t 1 = tM (.pointer (some ⟨p1, 0, none⟩)) (some (0, fun _ => 0)) ∧ ∃ h, (∀ i, h i = cut (j + 1) f2 i) ∧ t 5 = tC bw (bl 1024 h) 30) := by
                refine ⟨_, hg.one 5 (tC bw (bl 1024 (fun i => if i = j then f2 j else h i)) 30) (Kp.setCell bw j _) (fun x e _ => by rw [h5]; exact e) (by show Blk _ _ _ _; rw [← bl_set]; exact BL.set j _) (fun x e => .inl (by rw [h5]; exact e)), (up_ne _ _ (by decide)).trans h0, (up_ne _ _ (by decide)).trans h1, _, fun i => ?_, up_at _ _ _⟩
                by_cases e : i = j
                · subst e; rw [if_pos rfl, cut_in _ _ _ (by omega)]
                · rw [if_neg e, hh i]; unfold cut
                  by_cases e2 : i < j
                  · rw [if_pos e2, if_pos (by omega)]
                  · rw [if_neg e2, if_neg (by omega)]
              have HJ := hid hjl
              clear hg h0 h1 h5 hh BL hn2' hjl hj
              go_wp2
              refine ⟨⟨j + 1, by have := HJ.out; omega, by go_num, NXT.out⟩, by have := HJ.out; simp [intOf]; omega⟩
            · obtain ⟨jj, ej⟩ : ∃ x, j = x := ⟨_, rfl⟩
              have EJ : Hid (j = n2) := by show j = n2; omega
              have j1 : ¬ (j : Int) < n2 := by omega
              clear ej jj
              have BL : Hid (Blk wr bw (bl 1024 h) 30) := hg.blk h5
              have G := hid hg
              have H0 := hid h0
              have H1 := hid h1
              have EQ : Hid (∀ i, h i = g2 i) := fun i => by rw [hh i, HGF.out i, EJ.out]
              clear hg h0 h1 h5 hh hn2' hj hjl
              obtain ⟨cs, hcs⟩ : ∃ cs, bl 1024 h = cs := ⟨_, rfl⟩
              have es : eqS (kf (some (n2, g2))) h = true := eqS_true (fun i _ => (EQ.out i).symm)
              have ld : ∀ W, Below wr.heap.size wr W → W.rangeAt bw 0 cs := fun W hb => by rw [← hcs]; exact (BL.out.below hb).range 0 _ (fun _ _ hv => by rw [Nat.zero_add]; exact hv)
              have u30 := Try.underlying30
              have i30 : (Try.prog.info? 30).map (·.size) = some cs.length := by rw [← hcs, bl_length]; exact infos
              have gq : ∀ a b W, (eqGuard .neq 30 a b (sv (kf (some (n2, g2)))) (.agg cs.toArray)).run Try.prog W = .ok () W := fun a b W => by rw [← hcs]; exact guardNe a b _ h W
              have bq : ∀ W, (binOp .neq 30 (sv (kf (some (n2, g2)))) (.agg cs.toArray)).run Try.prog W = .ok (.bool false) W := fun W => by
                have := binNe (kf (some (n2, g2))) h W
                rw [es] at this
                rw [← hcs]; exact this
              have HLD := hid ld
              have ld0 := ld wr (Below.refl _ _)
              have ld1 := ld wr.drew (below_drewN wr 1)
              clear ld BL es hcs
              have en : kn (some (n2, g2)) = n2 := rfl
              go_wp2_with fail
              go_region_held3 (fun W => W.rangeAt bw 0 cs) (with_reducible assumption) (first
                | (go_at_call 19; go_must (refine (gx_look (G.out.drewN 1) H0.out).mono ?_; rintro e W7 ⟨rfl, hg, hb⟩; have ld7 := HLD.out W7 (below_next (below_drewN wr 1) hb); have B7 := hid (below_next (below_drewN wr 1) hb); have G7 := hid hg; clear hg hb))
                | (go_at_call 21; go_must (refine (gx_len G7.out H0.out).mono ?_; rintro e W7 ⟨rfl, rfl⟩; rw [en]))
                | (go_at_call 16; go_must (refine (bytes_m _ _ W7 (G7.out.mem H0.out)).mono ?_; rintro e W8 ⟨vb, rfl, ho, hb⟩; have ld8 := HLD.out W8 (below_next B7.out hb); have B8 := hid (below_next B7.out hb); have R6 := hid (By.Own.reads ho); have G8 := hid (G7.out.below hb); clear ho hb))
                | (go_at_call 18; go_must (refine (same_true vb _ n2 g2 f2 W8 R6.out (HRB.out _ G8.out.bel) (by have := HN2.out; omega) (fun i hi => by rw [HGF.out i, cut_in _ _ _ hi])).mono ?_; rintro e _ ⟨rfl, d, rfl⟩; have ld9 := HLD.out (W8.drewN d) (below_next B8.out (below_drewN W8 d)))))
              have LZ : Hid (LI w p0 p1 (.slice la n2 lc) (W8.drewN d)) := ⟨n2, f2, g2, t8, HRB.out, HN2.out, HGF.out, G8.out.drewN d, H0.out, H1.out⟩
              clear R6 G G7 G8 H0 H1 ld0 ld1 ld7 ld8 ld9 HLD B7 B8
              go_wp2
              go_roundw
              case rel => exact ⟨k + 1, by have := HK.out; omega, by go_num, LZ.out⟩
              case measure => have := HK.out; simp [intOf]; omega
    · have l1 : ¬ (k : Int) < np := by omega
      obtain ⟨n, f, g, t, hrb, hn, hgf, hg, h0, h1⟩ := hli
      have G := hid hg
      have H0 := hid h0
      have H1 := hid h1
      have RB0 := hid hrb
      have HN := hid hn
      have HGF := hid hgf
      clear hg h0 h1 hrb hn hgf hlt hk
      go_wp2_with fail
      refine (gx_put G.out H1.out (HO.out _ G.out.bel)).mono ?_
      rintro e W4 ⟨rfl, t3, hg, h1, hB⟩
      replace G := hid hg
      replace H1 := hid h1
      replace H0 := hid ((hB 0 (by decide) (by decide)).trans H0.out)
      clear hg h1 hB
      obtain ⟨y, hy⟩ : ∃ y : Nat × (Nat → Int), pk (some (0, fun _ => 0)) no og = some y := by
        unfold pk; simp only []; split
        · exact ⟨_, rfl⟩
        · exact ⟨_, rfl⟩
      rw [hy] at H1
      go_wp2_with fail
      refine (gx_put G.out H1.out (RB0.out _ G.out.bel)).mono ?_
      rintro e W5 ⟨rfl, t4, hg, h1, hB⟩
      replace G := hid hg
      replace H1 := hid h1
      replace H0 := hid ((hB 0 (by decide) (by decide)).trans H0.out)
      clear hg h1 hB
      have en : ¬ 1024 < n := by have := HN.out; omega
      have e5 : pc (some y) n = 0 := if_neg en
      have e6 : pk (some y) n f = some (n, cut n f) := if_neg en
      rw [e6] at H1
      rw [e5]
      clear e5 e6 hy en
      go_wp2_with fail
      refine (gx_led G.out 2).mono ?_
      rintro e W6 ⟨rfl, t5, hg, h2, hB⟩
      replace G := hid hg
      have H2 := hid h2
      replace H0 := hid ((hB 0 (by decide) (by decide)).trans H0.out)
      replace H1 := hid ((hB 1 (by decide) (by decide)).trans H1.out)
      clear hg h2 hB
      have e7 : sc (some (n, g)) (some (n, cut n f)) = true := by
        show eqB _ _ 1024 = true
        rw [eqB_S]
        exact eqS_true (fun i _ => HGF.out i)
      have e8 : sc (some (n, g)) (some (n, g)) = true := by
        show eqB _ _ 1024 = true
        rw [eqB_S]
        exact eqS_true (fun i _ => rfl)
      go_wp2_with fail
      refine (gx_same G.out H0.out H1.out H2.out (by decide) (by decide) (by unfold Room; decide)).mono ?_
      rintro e W7 ⟨rfl, t6, hg, h2, hB⟩
      replace G := hid hg
      replace H2 := hid h2
      replace H0 := hid ((hB 0 (by decide) (by decide)).trans H0.out)
      clear hg h2 hB
      rw [e7]
      go_wp2_with fail
      refine (gx_llen G.out H2.out).mono ?_
      rintro e W7 ⟨rfl, rfl⟩
      rw [show tot (sl (some (n, g)) (some (n, cut n f)) []) = 1 from rfl]
      replace H0 := hid ((up_ne t6 Th.no (show 0 ≠ 9 by decide)).trans H0.out)
      have H9 : Hid (Lg (up t6 9 Th.no) 9 none []) := up_at t6 9 Th.no
      replace G := hid (G.out.drop 9)
      go_wp2_with fail
      refine (gx_same G.out H0.out H0.out H9.out (by decide) (by decide) (by unfold Room; decide)).mono ?_
      rintro e W8 ⟨rfl, t7, hg, -, -⟩
      replace G := hid hg
      rw [e8]
      clear hg H0 H9
      go_wp2
      go_ret
      exact ⟨rfl, G.out.bel⟩
end Go.Proofs.Ythoklddoeoedgaa.Sl
