/- OpBack. -/
import Derived.Test.YtnadpglfliiplaaUls
import Derived.Test.YtnadpglfliiplaaUbg
namespace Go.Proofs.Ytnadpglfliiplaa.Ou
open Go.ChangeShapes Go.WideShapes Go.ChangeAt Go.RowKit
open Go.Proofs.Ytnadpglfliiplaa.By
open Go.Proofs.Ytnadpglfliiplaa.Tb (Blk Blk.newAt)
set_option maxRecDepth 8000 in
set_option maxHeartbeats 2000000 in
theorem back_w (A : Option Addr) (L cap : Nat) (y : Nat → OE) (u : Value) (rn : Nat) (r : Nat → Int) (k : Int) (w : World) (ha : ∀ V, Below w.heap.size w V → AO V A L y) (hr : ∀ V, Below w.heap.size w V → By.RB V u rn r) (hn : rn ≤ 140737488351232) :
    Calls Try.prog 6 #[.slice A L cap, u, .int .i64 k] w fun e w' => e = .returned (.bool true) ∧ Below w.heap.size w w' := by
  obtain ⟨iI, hI, hI0, hI1, hI2⟩ := info_parts infoI
  have HA := hid ha
  have HR := hid hr
  clear ha hr
  go_enter Try.func6, Try.ntmps6
  go_wp2_with fail
  refine (lives_ok w).mono ?_
  rintro e W1 ⟨rfl, hb⟩
  have BW := hid hb
  clear hb
  go_wp2
  go_loopw [7, 8, 9] (fun al en i wr => ∃ j : Nat, j ≤ L ∧ i = .int .i64 j ∧ (∀ i, i < j → (y i).dn + (y i).mn ≤ 4000) ∧ (0 < j → L ≤ 20) ∧ By.Own wr W1.heap.size al (off y j) (AF y j) ∧ OwnI wr W1.heap.size en j (evs y j) ∧ Below W1.heap.size W1 wr ∧ W1.heap.size ≤ wr.heap.size) (fun _ _ i _ => L - (intOf i).toNat)
  case atStart => exact ⟨0, Nat.zero_le _, rfl, fun i hi => absurd hi (by omega), fun h => absurd h (by omega), own_nil _ _ _ (fun _ => ⟨Int.le_refl 0, show (0 : Int) < 256 by decide⟩), World.ownsRow_nil _ _ _ _, Below.refl _ _, Nat.le_refl _⟩
  case round =>
    obtain ⟨j, hj, rfl, h4, h20, ho, hi, hb, hz⟩ := hrel
    obtain ⟨va, ca, rfl⟩ := own_lit_slice ho
    obtain ⟨ve, ce, rfl⟩ := ownI_sl hi
    have BR := hid (below_next BW.out hb)
    have H4 := hid h4
    have HO := hid ho
    have HI := hid hi
    have HB := hid hb
    have HZ := hid hz
    clear h4 ho hi hb hz
    by_cases hlt : j < L
    · by_cases hL : 20 < L
      · have g1 : (20 : Int) < L := by omega
        go_wp2
        go_quiet (fail)
        go_wp2
        go_ret
        exact ⟨rfl, below_next BR.out (below_drewN _ _)⟩
      · have g1 : ¬ (20 : Int) < L := by omega
        have AA := HA.out _ BR.out
        obtain ⟨b, o, hA, ok, -, -, -, -, -, c5, c6⟩ := AA j hlt
        subst hA
        have ld : ∀ n, (LDo ⟨b, o + j * 7, none⟩).run Try.prog (wr.drewN n) = .ok (ov (y j).q (.slice (y j).da (y j).dn (y j).dc) (.slice (y j).ma (y j).mn (y j).mc)) (wr.drewN n) := fun n => by
          obtain ⟨b', o', hA', ld⟩ := LDo_at (HA.out (wr.drewN n) (Below.drewN' BR.out n)) hlt
          obtain ⟨rfl, rfl⟩ : b = b' ∧ o = o' := by simpa using hA'
          exact ld
        have OK := hid ok
        clear AA ok
        obtain ⟨x, hx⟩ : ∃ x, y j = x := ⟨_, rfl⟩
        rw [hx] at c5 c6 ld OK
        have HX := hid hx
        obtain ⟨q, da, dn, dc, f, ma, mn, mc, g⟩ := x
        dsimp only at c5 c6 ld OK
        have b1 : dn ≤ 140737488351232 := OK.out.ld
        have b2 : mn ≤ 140737488351232 := OK.out.lm
        have w1 : IntKind.i64.wrap ((dn : Int) + mn) = (dn : Int) + mn := by rw [IntKind.wrap_i64]; omega
        clear hx
        by_cases h40 : 4000 < dn + mn
        · have g2 : (4000 : Int) < (dn : Int) + mn := by omega
          go_wp2
          go_quiet (fail)
          go_wp2
          go_ret
          exact ⟨rfl, below_next BR.out (below_drewN _ _)⟩
        · have g2 : ¬ (4000 : Int) < (dn : Int) + mn := by omega
          have EB : Hid (el dn mn = 32 + dn + mn ∧ ec dn mn = 0) := ⟨if_neg (by unfold big; omega), if_neg (by unfold big; omega)⟩
          go_wp2
          go_quiet (fail)
          go_wp2_with fail
          clear ld c5 c6
          refine (encode_ok q (.slice da dn dc) (.slice ma mn mc) dn mn f g _ OK.out.q (OK.out.rd.drewN _) (OK.out.rm.drewN _)).mono ?_
          rintro e W2 ⟨v, rfl, hv, hb⟩
          rw [EB.out.2]
          rw [EB.out.1] at hv
          obtain ⟨vb, cb, rfl⟩ := own_lit_slice hv
          have hb2 : Below wr.heap.size wr W2 := below_next (below_drewN _ _) hb
          have N2 := hid hb2
          replace BR := hid (below_next BR.out hb2)
          replace HO := hid (own_below HO.out hb2)
          replace HI := hid (ownI_below HI.out hb2)
          have HZ0 := HZ
          replace HZ := hid (Nat.le_trans HZ.out hb2.size)
          have RV := hid hv.reads
          obtain ⟨b2, o2, hA2, ok2, -, -, -, -, -, c5, c6⟩ := HA.out _ BR.out j hlt
          obtain ⟨rfl, rfl⟩ : b = b2 ∧ o = o2 := by simpa using hA2
          rw [HX.out] at c5 c6
          dsimp only at c5 c6
          have w2 : IntKind.i64.wrap (32 + (dn : Int)) = 32 + (dn : Int) := by rw [IntKind.wrap_i64]; omega
          have w3 : IntKind.i64.wrap (32 + (dn : Int) + mn) = 32 + (dn : Int) + mn := by rw [IntKind.wrap_i64]; omega
          clear hv hb hb2 ok2 hA2
          go_wp2
          go_quiet (fail)
          have OB : Hid (off y j ≤ 100000) := by show off y j ≤ _; have := off_le y j H4.out; omega
          have OS : Hid (off y (j + 1) = off y j + (32 + dn + mn)) := by show off y (j + 1) = _; simp only [off]; rw [HX.out]; rfl
          have AS : Hid (AF y (j + 1) = cat (off y j) (AF y j) (en q dn f mn g)) := by show AF y (j + 1) = _; simp only [AF]; rw [HX.out]; rfl
          have h41 : Hid (∀ i, i < j + 1 → (y i).dn + (y i).mn ≤ 4000) := fun i hi => by
            rcases Nat.lt_or_ge i j with h | h
            · exact H4.out i h
            · obtain rfl : i = j := by omega
              rw [HX.out]; show dn + mn ≤ 4000; omega
          go_wp2_with (at_builtin; go_must (refine wpList_cat rfl _ _ rfl W1.heap.size (off y j) (32 + dn + mn) _ _ (AF y j) (en q dn f mn g) rfl (own_drewN HO.out _) rfl (RV.out.drewN _) (by have := OB.out; omega) HZ.out ?_))
          intro v3 W3 ho hg
          rw [← OS.out, ← AS.out] at ho
          have NE := ne_ty HO.out HI.out
          have hk := Kp.of_grown hg
          have HI3 := hid (ownI_kept (ownI_below HI.out (below_drewN _ _)) hk (fun g e h => NE g h e))
          have BL3 := hid ((HB.out.trans (N2.out.mono (HZ0.out))).trans ((below_drewN _ _).mono HZ.out |>.trans (hk.below (by exact HZ.out) (fun g hg' e => by have := own_row HO.out g e; omega))))
          obtain ⟨va3, ca3, rfl⟩ := own_lit_slice ho
          have O3 := hid ho
          have Z3 : Hid (W1.heap.size ≤ W3.heap.size) := BL3.out.size
          have NE3 := hid (ne_ty O3.out HI3.out)
          clear HO HI RV c5 c6 ho hg hk NE w1 w2 w3
          go_wp2_with (at_builtin; go_must (refine wpList_append_own _ rfl _ _ 50 rfl W1.heap.size 3 iI (.int .i64 0) 1 8 Try.underlying50 hI hI0 hI1 hI2 rfl (by decide) _ j (evs y j) rfl (World.ownsRow.alloc (show W3.ownsRow W1.heap.size 3 1 _ j (evs y j) from HI3.out) _) ⟨_, 0, none⟩ 1 1 [.int .i64 ((off y (j + 1) : Nat) : Int)] rfl rfl (cell_one_new _ _ _) ?c2 ?c3 ?c4 ?c5 ?_))
          case c2 => intro u hu; simp at hu; subst hu; rfl
          case c3 => simp [maxLen]; omega
          case c4 => omega
          case c5 => have h9 := Z3.out; simp; omega
          intro v4 W4 hown hgrow _
          have R : Hid (OwnI W4 W1.heap.size v4 (j + 1) (evs y (j + 1))) := by rw [← evs_snoc]; exact hown
          have hk := Kp.of_grown hgrow
          have RO := hid (own_keptB (own_alloc O3.out _) hk (fun g e h => NE3.out g e h))
          have hr3 : ∀ g, (Value.slice ve j ce).ownBlock = some g → W1.heap.size ≤ g := fun g e => by
            rcases HI3.out.2 with ⟨h, _⟩ | ⟨g', c', cur, h, hb, _⟩
            · rw [h] at e; cases e
            · rw [h] at e; cases e; exact hb
          have BL4 := hid (BL3.out.trans ((below_alloc _ _).mono Z3.out |>.trans (hk.below (by have := Z3.out; simp; omega) (fun g hg' e => by have := hr3 g e; omega))))
          clear hown hgrow hk hr3 O3 HI3
          go_wp2
          go_roundw
          case rel => exact ⟨j + 1, by omega, by go_num, h41.out, fun _ => by omega, RO.out, R.out, BL4.out, BL4.out.size⟩
          case measure => simp [intOf]; omega
    · have g1 : ¬ (j : Int) < L := by omega
      obtain rfl : j = L := by omega
      have OB : Hid (off y j ≤ 100000) := by
        show off y j ≤ _
        have := off_le y j H4.out
        by_cases h0 : 0 < j
        · have := h20 h0; omega
        · obtain rfl : j = 0 := by omega
          exact Nat.zero_le _
      go_wp2_with fail
      refine (copy16 _ (off y j) (AF y j) wr HO.out.reads (by have := OB.out; omega)).mono ?_
      rintro e W2 ⟨v, rfl, hv, hb⟩
      obtain ⟨vc, cc, rfl⟩ := own_lit_slice hv
      replace BR := hid (below_next BR.out hb)
      replace HI := hid (ownI_below HI.out hb)
      have O2 := hid hv
      have RR := hid (HR.out _ BR.out)
      have N2 := hid hb
      clear hv hb HO HB
      go_wp2_with (at_builtin; go_must (refine wpList_catB rfl _ _ rfl wr.heap.size (off y j) rn _ _ (AF y j) r rfl O2.out rfl RR.out (by have := OB.out; omega) (by omega) N2.out.size ?_))
      intro v3 W3 ho hg
      obtain ⟨vw, cw, rfl⟩ := own_lit_slice ho
      have hk := Kp.of_grown hg
      have hrow := own_row O2.out
      have BR3 := hid (BR.out.trans (hk.below (B := w.heap.size) BR.out.size (fun g hg' e => by have := hrow g e; have := HZ.out; have := BW.out.size; omega)))
      have HI3 := hid (ownI_kept HI.out hk (fun g e h => ne_ty O2.out HI.out g h e))
      have RW := hid ho.reads
      obtain ⟨G, hG⟩ : ∃ G, cat (off y j) (AF y j) r = G := ⟨_, rfl⟩
      have BG : Hid (∀ i, i < j → Begins (sh (off y i) G) (y i).q (y i).dn (y i).f (y i).mn (y i).g) := fun i hi => by rw [← hG]; exact whole_at y j r hi
      rw [hG] at RW
      clear ho hk hrow hg O2 RR N2 BR HI hG
      go_wp2
      go_loopw [13, 14] (fun at' i wr => ∃ t : Nat, t ≤ j ∧ i = .int .i64 t ∧ at' = .int .i64 ((off y t : Nat) : Int) ∧ Below W3.heap.size W3 wr) (fun _ i _ => j - (intOf i).toNat)
      case atStart => exact ⟨0, Nat.zero_le _, rfl, rfl, Below.refl _ _⟩
      case round =>
        obtain ⟨t, ht, rfl, rfl, hb⟩ := hrel
        have B4 := hid hb
        clear hb
        by_cases hlt2 : t < j
        · have g2 : (t : Int) < j := by omega
          have o1 : Hid (off y (t + 1) = off y t + len (y t)) := rfl
          have o2 : Hid (off y t + len (y t) ≤ off y j) := off_next y hlt2
          have bg := BG.out t hlt2
          have AA := HA.out _ (below_next BR3.out B4.out) t hlt2
          obtain ⟨b, o, hA, ok, -⟩ := AA
          have hL2 : j ≤ 20 := h20 (by omega)
          obtain ⟨x, hx⟩ : ∃ x, y t = x := ⟨_, rfl⟩
          rw [hx] at bg ok o1 o2
          have HX := hid hx
          have h40 : x.dn + x.mn ≤ 4000 := by have := H4.out t hlt2; rw [hx] at this; exact this
          clear hx
          subst hA
          obtain ⟨q, da, dn, dc, f, ma, mn, mc, g⟩ := x
          dsimp only at bg ok h40
          have OK := hid ok
          have o2' : off y t + (32 + dn + mn) ≤ off y j := o2.out
          have o1' : off y (t + 1) = off y t + (32 + dn + mn) := o1.out
          have RW4 := RW.out.below B4.out
          obtain ⟨bw, ow, cw', ew⟩ := rb_some RW4 (by omega)
          obtain ⟨rfl, _, rfl⟩ := (by simpa using ew : vw = some ⟨bw, ow, none⟩ ∧ True ∧ cw = cw')
          obtain ⟨oo, qq, R1⟩ := slice_from RW4 (off y t) (by omega) (rb_cap RW4) (rb_max RW4)
          have cwl := rb_cap RW4
          have g3 : (0 : Int) ≤ ((off y t : Nat) : Int) := by omega
          have g4 : ((off y t : Nat) : Int) ≤ ((off y j + rn : Nat) : Int) := by omega
          have nc : ¬ cw = off y t := by omega
          rw [if_neg nc] at qq
          obtain rfl : ow + off y t = oo := by simpa using qq
          have R1h := hid R1
          have BGh := hid bg
          clear R1 RW4 ew bg ok qq
          obtain ⟨P, hP⟩ : ∃ P, off y t = P := ⟨_, rfl⟩
          obtain ⟨P1, hP1⟩ : ∃ P, off y (t + 1) = P := ⟨_, rfl⟩
          obtain ⟨F, hF⟩ : ∃ F, sh (off y t) G = F := ⟨_, rfl⟩
          obtain ⟨N, hN⟩ : ∃ N, 32 + dn + mn = N := ⟨_, rfl⟩
          rw [hF] at R1h BGh
          have ZL : zl F = N := by rw [BGh.out.zl (by omega) (by omega)]; exact hN
          have TT : Hid (decide (zl F ≤ off y j + rn - off y t) = true) := by show decide _ = true; rw [ZL]; simp; omega
          have D1 : dN true F = dn := BGh.out.dl (by omega)
          have D2 : dM true F = mn := BGh.out.ml (by omega)
          have D3 : dl F = dn := BGh.out.dl (by omega)
          have Q1 : Hid (dq true F = q) := BGh.out.nu OK.out.q
          have E1 : Hid (∀ i, i < dn → sh 32 F i = f i) := BGh.out.data
          have E2 : Hid (∀ i, i < mn → sh (32 + dl F) F i = g i) := by rw [D3]; exact BGh.out.more
          have PP : P + N = P1 := by omega
          have PL : P1 ≤ 100000 := by have := OB.out; omega
          have DD := hid (And.intro D1 (And.intro D2 ZL))
          have CEL := evs_get y t j hlt2
          rw [hP1] at CEL
          have HCEL := hid CEL
          have RWh := hid (RW.out)
          rw [hP] at R1h TT g3 g4 nc ⊢
          have HP1 := hid hP1
          have LN : Hid (32 + dn + mn = N ∧ dn ≤ 4000 ∧ mn ≤ 4000 ∧ P1 ≤ off y j) := by
            refine ⟨hN, by omega, by omega, by omega⟩
          have PC : Hid (P1 ≤ cw ∧ P ≤ P1 ∧ P1 - P = N ∧ P1 - P ≤ off y j + rn - P ∧ decide (P1 - P = zl F) = true) := hid ⟨by omega, by omega, by omega, by omega, by rw [ZL]; simp; omega⟩
          have w1 : IntKind.i64.wrap ((P : Int) + N) = (P1 : Int) := by rw [IntKind.wrap_i64]; omega
          have w2 : (P : Int) + N = (P1 : Int) := by omega
          have w3 : IntKind.i64.wrap (P1 : Int) = (P1 : Int) := by rw [IntKind.wrap_i64]; omega
          clear CEL o1 o2 o1' o2' hF hN hP hP1 D1 D2 D3 ZL BGh cwl
          go_wp2_with fail
          refine (next_big _ (off y j + rn - P) F wr R1h.out (by have := OB.out; omega)).mono ?_
          rintro e W5 ⟨d, m, rfl, ht⟩
          rw [TT.out] at ht ⊢
          rw [Q1.out, show dK true F = N from DD.out.2.2, show dE true = 0 from rfl]
          obtain ⟨t1, t2, t3, hb⟩ := ht
          rw [DD.out.1] at t1
          rw [DD.out.2.1] at t2
          obtain ⟨a1, c1, rfl⟩ := own_lit_slice t1
          obtain ⟨a2, c2, rfl⟩ := own_lit_slice t2
          have RD := hid t1.reads
          have RM := hid t2.reads
          replace B4 := hid (below_next B4.out hb)
          replace R1h := hid (R1h.out.below hb)
          clear t1 t2 t3 hb
          obtain ⟨W6, s1, kk, hb, _⟩ := var_op W5 q (d := .slice a1 dn c1) (m := .slice a2 mn c2) rfl rfl
          have KO := hid kk
          replace B4 := hid (below_next B4.out hb)
          replace RD := hid (RD.out.below hb)
          replace RM := hid (RM.out.below hb)
          replace R1h := hid (R1h.out.below hb)
          clear hb kk
          have SV : Hid (∀ V, Below W6.heap.size W6 V → (∃ be ce', Value.slice ve j ce = .slice (some ⟨be, 0, none⟩) j ce' ∧ V.cell? ⟨be, t, none⟩ = some (.int .i64 (P1 : Int))) ∧ (LDo ⟨W5.heap.size, 0, none⟩).run Try.prog V = .ok (ov q (.slice a1 dn c1) (.slice a2 mn c2)) V ∧ (LDo ⟨b, o + t * 7, none⟩).run Try.prog V = .ok (ov q (.slice da dn dc) (.slice ma mn mc)) V) := fun V hV => by
            have bv := below_next B4.out hV
            refine ⟨ownI_cell (ownI_below HI3.out bv) HCEL.out, LDo_run (KO.out.below hV), ?_⟩
            obtain ⟨b', o', hA', ld⟩ := LDo_at (HA.out V (below_next BR3.out bv)) hlt2
            obtain ⟨rfl, rfl⟩ : b = b' ∧ o = o' := by simpa using hA'
            rw [HX.out] at ld
            exact ld
          obtain ⟨be, ce', hve⟩ : ∃ be c', ve = some ⟨be, 0, none⟩ ∧ ce = c' := by
            obtain ⟨⟨be, c', e, _⟩, _⟩ := SV.out W6 (Below.refl _ _)
            simp only [Value.slice.injEq] at e
            exact ⟨be, c', e.1, e.2.2⟩
          obtain ⟨rfl, rfl⟩ := hve
          have SW : Hid (∀ V, Below W6.heap.size W6 V → V.cell? ⟨be, t, none⟩ = some (.int .i64 (P1 : Int)) ∧ (LDo ⟨W5.heap.size, 0, none⟩).run Try.prog V = .ok (ov q (.slice a1 dn c1) (.slice a2 mn c2)) V ∧ (LDo ⟨b, o + t * 7, none⟩).run Try.prog V = .ok (ov q (.slice da dn dc) (.slice ma mn mc)) V) := fun V hV => by
            obtain ⟨⟨be', c', e, h1⟩, h2⟩ := SV.out V hV
            obtain ⟨rfl, _⟩ : be = be' ∧ ce = c' := by simpa using e
            exact ⟨h1, h2⟩
          clear SV
          obtain ⟨x1, x2, x3⟩ := SW.out W6.drew (below_drewN W6 1)
          have bd : Below W3.heap.size W3 W6.drew := below_next B4.out (below_drewN W6 1)
          obtain ⟨ra, rb⟩ : By.RB W6.drew (.slice da dn dc) dn f ∧ By.RB W6.drew (.slice ma mn mc) mn g := by
            obtain ⟨_, _, _, ok6, _⟩ := HA.out W6.drew (below_next BR3.out bd) t hlt2
            rw [HX.out] at ok6
            exact ⟨ok6.rd, ok6.rm⟩
          have RA := hid ra
          have RB' := hid rb
          have RD6 : Hid (By.RB W6.drew (.slice a1 dn c1) dn (sh 32 F)) := RD.out
          have RM6 : Hid (By.RB W6.drew (.slice a2 mn c2) mn (sh (32 + dl F) F)) := RM.out
          have SO := hid (sameop_ok q _ _ _ _ dn mn (sh 32 F) f (sh (32 + dl F) F) g W6.drew RD6.out ra RM6.out rb (by omega) (by omega) E1.out E2.out)
          have BD := hid bd
          have D6 : Hid (Below W6.heap.size W6 W6.drew) := below_drewN W6 1
          clear bd ra rb
          go_wp2_with fail
          clear s1
          go_region_held3 (fun V => V.cell? ⟨be, t, none⟩ = some (.int .i64 (P1 : Int)) ∧ (LDo ⟨W5.heap.size, 0, none⟩).run Try.prog V = .ok (ov q (.slice a1 dn c1) (.slice a2 mn c2)) V ∧ (LDo ⟨b, o + t * 7, none⟩).run Try.prog V = .ok (ov q (.slice da dn dc) (.slice ma mn mc)) V) (go_keep) (first
            | (go_at_call 16; with_reducible refine SO.out.mono ?_; rintro e W7 ⟨rfl, hb⟩; have tt := SW.out W7 (below_next D6.out hb); have y1 := tt.1; have y2 := tt.2.1; have y3 := tt.2.2; clear tt; have N7 : Hid (Below W6.heap.size W6 W7) := hid (below_next D6.out hb); clear hb))
          clear x1 x2 x3 y1 y2 y3 RA RB' RD6 RM6 BD SO
          replace B4 := hid (below_next B4.out N7.out)
          replace RD := hid (RD.out.below N7.out)
          replace RM := hid (RM.out.below N7.out)
          replace KO := hid (KO.out.below N7.out)
          replace R1h := hid (R1h.out.below N7.out)
          have l1 := LDo_run KO.out
          clear N7 SW
          go_wp2_with fail
          clear l1
          refine (plain_ok q _ _ dn mn (sh 32 F) (sh (32 + dl F) F) W7 RD.out RM.out (by omega) (by omega)).mono ?_
          rintro e W8 ⟨d, m, rfl, ht⟩
          obtain ⟨t1, t2, t3, hb⟩ := ht
          obtain ⟨a3, c3, rfl⟩ := own_lit_slice t1
          obtain ⟨a4, c4, rfl⟩ := own_lit_slice t2
          have RP1 := hid t1.reads
          have RP2 := hid t2.reads
          replace B4 := hid (below_next B4.out hb)
          replace RD := hid (RD.out.below hb)
          replace RM := hid (RM.out.below hb)
          replace KO := hid (KO.out.below hb)
          replace R1h := hid (R1h.out.below hb)
          clear t1 t2 t3 hb
          obtain ⟨W9, s1, kk, hb, _⟩ := var_op W8 (pq q) (d := .slice a3 (pN q dn) c3) (m := .slice a4 (pM q mn) c4) rfl rfl
          have KP := hid kk
          replace B4 := hid (below_next B4.out hb)
          replace RD := hid (RD.out.below hb)
          replace RM := hid (RM.out.below hb)
          replace KO := hid (KO.out.below hb)
          replace RP1 := hid (RP1.out.below hb)
          replace RP2 := hid (RP2.out.below hb)
          replace R1h := hid (R1h.out.below hb)
          clear hb kk
          have pc := PC.out.1
          have pp := PC.out.2.1
          go_wp2_with fail
          clear pc pp s1
          have R9 := hid (R1h.out.first (P1 - P) PC.out.2.2.2.1)
          refine (decode_big _ (P1 - P) F W9 R9.out (by have := PC.out; have := LN.out; omega)).mono ?_
          rintro e W10 ⟨d, m, rfl, ht⟩
          rw [PC.out.2.2.2.2] at ht ⊢
          rw [Q1.out, show dE true = 0 from rfl]
          obtain ⟨t1, t2, t3, hb⟩ := ht
          rw [DD.out.1] at t1
          rw [DD.out.2.1] at t2
          obtain ⟨a5, c5, rfl⟩ := own_lit_slice t1
          obtain ⟨a6, c6, rfl⟩ := own_lit_slice t2
          have RE := hid t1.reads
          have RF := hid t2.reads
          replace B4 := hid (below_next B4.out hb)
          replace RD := hid (RD.out.below hb)
          replace RM := hid (RM.out.below hb)
          replace KO := hid (KO.out.below hb)
          replace RP1 := hid (RP1.out.below hb)
          replace RP2 := hid (RP2.out.below hb)
          replace KP := hid (KP.out.below hb)
          clear t1 t2 t3 hb R9 R1h
          obtain ⟨W11, s1, kk, hb, _⟩ := var_op W10 q (d := .slice a5 dn c5) (m := .slice a6 mn c6) rfl rfl
          have KD := hid kk
          replace B4 := hid (below_next B4.out hb)
          replace RD := hid (RD.out.below hb)
          replace RM := hid (RM.out.below hb)
          replace KO := hid (KO.out.below hb)
          replace RP1 := hid (RP1.out.below hb)
          replace RP2 := hid (RP2.out.below hb)
          replace KP := hid (KP.out.below hb)
          replace RE := hid (RE.out.below hb)
          replace RF := hid (RF.out.below hb)
          clear hb kk
          have SW : Hid (∀ V, Below W11.heap.size W11 V → (LDo ⟨W5.heap.size, 0, none⟩).run Try.prog V = .ok (ov q (.slice a1 dn c1) (.slice a2 mn c2)) V ∧ (LDo ⟨W8.heap.size, 0, none⟩).run Try.prog V = .ok (ov (pq q) (.slice a3 (pN q dn) c3) (.slice a4 (pM q mn) c4)) V ∧ (LDo ⟨W10.heap.size, 0, none⟩).run Try.prog V = .ok (ov q (.slice a5 dn c5) (.slice a6 mn c6)) V) := hid fun V hV => ⟨LDo_run (KO.out.below hV), LDo_run (KP.out.below hV), LDo_run (KD.out.below hV)⟩
          have D6 : Hid (Below W11.heap.size W11 W11.drew) := hid (below_drewN W11 1)
          have PLN : Hid (Calls Try.prog 13 #[ov (pq q) (.slice a3 (pN q dn) c3) (.slice a4 (pM q mn) c4)] W11.drew fun e w' => ∃ p1 p2 p3 p4, e = .returned (ov (pq q) (.slice p1 (pN q dn) p2) (.slice p3 (pM q mn) p4)) ∧ By.RB w' (.slice p1 (pN q dn) p2) (pN q dn) (sh 32 F) ∧ By.RB w' (.slice p3 (pM q mn) p4) (pM q mn) (sh (32 + dl F) F) ∧ Below W11.heap.size W11 w') := by
            refine hid ((plain_ok (pq q) _ _ (pN q dn) (pM q mn) (sh 32 F) (sh (32 + dl F) F) W11.drew (RP1.out.below D6.out) (RP2.out.below D6.out) ?_ ?_).mono ?_)
            · have h1 : pN q dn ≤ dn := by unfold pN; split <;> omega
              have := LN.out; omega
            · have h1 : pM q mn ≤ mn := by unfold pM; split <;> omega
              have := LN.out; omega
            · rintro e V ⟨d, m, rfl, u1, u2, _, hb⟩
              rw [pN_pN] at u1
              rw [pM_pM] at u2
              rw [pq_pq]
              obtain ⟨p1, p2, rfl⟩ := own_lit_slice u1
              obtain ⟨p3, p4, rfl⟩ := own_lit_slice u2
              exact ⟨p1, p2, p3, p4, rfl, u1.reads, u2.reads, below_next D6.out hb⟩
          have SO2 : Hid (∀ V p1 p2 p3 p4, By.RB V (.slice p1 (pN q dn) p2) (pN q dn) (sh 32 F) → By.RB V (.slice p3 (pM q mn) p4) (pM q mn) (sh (32 + dl F) F) → Below W11.heap.size W11 V → Calls Try.prog 16 #[ov (pq q) (.slice p1 (pN q dn) p2) (.slice p3 (pM q mn) p4), ov (pq q) (.slice a3 (pN q dn) c3) (.slice a4 (pM q mn) c4)] V fun e w' => e = .returned (.bool true) ∧ Below W11.heap.size W11 w') := by
            refine hid fun V p1 p2 p3 p4 h1 h2 hV => ?_
            refine (sameop_ok (pq q) _ _ _ _ (pN q dn) (pM q mn) (sh 32 F) (sh 32 F) (sh (32 + dl F) F) (sh (32 + dl F) F) V h1 (RP1.out.below hV) h2 (RP2.out.below hV) ?_ ?_ (fun _ _ => rfl) (fun _ _ => rfl)).mono ?_
            · have h1 : pN q dn ≤ dn := by unfold pN; split <;> omega
              have := LN.out; omega
            · have h1 : pM q mn ≤ mn := by unfold pM; split <;> omega
              have := LN.out; omega
            · rintro e V' ⟨rfl, hb⟩
              exact ⟨rfl, below_next hV hb⟩
          have SAM : Hid (∀ V, Below W11.heap.size W11 V → Calls Try.prog 20 #[ov q (.slice a5 dn c5) (.slice a6 mn c6), ov q (.slice a1 dn c1) (.slice a2 mn c2)] V fun e w' => e = .returned (.bool true) ∧ Below W11.heap.size W11 w') := by
            refine hid fun V hV => ?_
            refine (same_op q q _ _ _ _ dn dn mn mn (sh 32 F) (sh 32 F) (sh (32 + dl F) F) (sh (32 + dl F) F) V (RE.out.below hV) (RD.out.below hV) (RF.out.below hV) (RM.out.below hV) ?_ ?_ ?_ ?_).mono ?_
            iterate 4 (have := LN.out; omega)
            · rintro e V' ⟨rfl, hb⟩
              rw [eqO_refl]
              exact ⟨rfl, below_next hV hb⟩
          obtain ⟨x1, x2, x3⟩ := SW.out W11.drew D6.out
          go_wp2_with fail
          clear s1
          go_region_held3 (fun V => (LDo ⟨W5.heap.size, 0, none⟩).run Try.prog V = .ok (ov q (.slice a1 dn c1) (.slice a2 mn c2)) V ∧ (LDo ⟨W8.heap.size, 0, none⟩).run Try.prog V = .ok (ov (pq q) (.slice a3 (pN q dn) c3) (.slice a4 (pM q mn) c4)) V ∧ (LDo ⟨W10.heap.size, 0, none⟩).run Try.prog V = .ok (ov q (.slice a5 dn c5) (.slice a6 mn c6)) V) (go_keep) (first
            | (go_at_call 13; with_reducible refine PLN.out.mono ?_; rintro e V1 ⟨p1, p2, p3, p4, rfl, r1, r2, hb⟩; have tt := SW.out V1 hb; have y1 := tt.1; have y2 := tt.2.1; have y3 := tt.2.2; clear tt; have NV := hid hb; have Z1 := hid r1; have Z2 := hid r2; clear hb r1 r2)
            | (go_at_call 16; with_reducible refine (SO2.out V1 p1 p2 p3 p4 Z1.out Z2.out NV.out).mono ?_; rintro e V2 ⟨rfl, hb⟩; have tt := SW.out V2 hb; have v1 := tt.1; have v2 := tt.2.1; have v3 := tt.2.2; clear tt; have NW := hid hb; clear hb)
            | (go_at_call 20; with_reducible refine (SAM.out V2 NW.out).mono ?_; rintro e V3 ⟨rfl, hb⟩; have tt := SW.out V3 hb; have k1 := tt.1; have k2 := tt.2.1; have k3 := tt.2.2; clear tt; have NX := hid hb; clear hb))
          replace B4 := hid (below_next B4.out NX.out)
          clear x1 x2 x3 y1 y2 y3 v1 v2 v3 k1 k2 k3 SW D6 PLN SO2 SAM NV NW NX Z1 Z2
          go_wp2
          go_roundw
          case rel => exact ⟨t + 1, by omega, by go_num, by rw [HP1.out], B4.out⟩
          case measure => simp [intOf]; omega
        · have g2 : ¬ (t : Int) < j := by omega
          obtain rfl : j = t := by omega
          by_cases h0 : j = 0
          · have z : ((j : Int) == 0) = true := by simp; omega
            go_wp2
            go_ret
            exact ⟨rfl, below_next BR3.out B4.out⟩
          · have z : ((j : Int) == 0) = false := by simp; omega
            have g3 : (0 : Int) < j := by omega
            have g4 : 0 < j := by omega
            have bg := BG.out 0 g4
            have h40 := H4.out 0 g4
            obtain ⟨N, hN⟩ : ∃ N, off y (0 + 1) = N := ⟨_, rfl⟩
            have CEL := evs_get y 0 j g4
            rw [hN] at CEL
            have hN' : 32 + (y 0).dn + (y 0).mn = N := by rw [← hN]; simp only [off, len]; omega
            have hNj : N ≤ off y j := by rw [← hN]; exact off_mono y g4
            have ZL : Hid (zl G = N) := by
              have := bg.zl (by omega) (by omega)
              rw [hN'] at this
              exact hid this
            have NB : Hid (0 < N ∧ N ≤ 100000 ∧ N ≤ off y j) := hid ⟨by omega, by omega, hNj⟩
            obtain ⟨be, c', e, cell⟩ := ownI_cell (ownI_below HI3.out B4.out) CEL
            obtain ⟨rfl, rfl⟩ : ve = some ⟨be, 0, none⟩ ∧ ce = c' := by simpa using e
            have RW4 := RW.out.below B4.out
            obtain ⟨bw, ow, cw', ew⟩ := rb_some RW4 (by omega)
            obtain ⟨rfl, _, rfl⟩ := (by simpa using ew : vw = some ⟨bw, ow, none⟩ ∧ True ∧ cw = cw')
            have CW : Hid (off y j + rn ≤ cw) := hid (rb_cap RW4)
            have RWh := hid RW4
            clear bg h40 hN hN' hNj CEL e ew RW4
            go_wp2_with fail
            clear cell
            refine (pickN k N NB.out.1 (by have := NB.out; omega) _).mono ?_
            rintro e W5 ⟨⟨p, hp, rfl⟩, rfl⟩
            have p1 : p ≤ cw := by have := NB.out; have := CW.out; omega
            have R5 := hid (RWh.out.first p (by have := NB.out; omega))
            have T1 : Hid (decide (zl G ≤ p) = false) := by rw [ZL.out]; exact hid (by simp; omega)
            have T2 : Hid (decide (p = zl G) = false) := by rw [ZL.out]; exact hid (by simp; omega)
            go_wp2_with fail
            refine (next_big _ p G _ R5.out (by have := NB.out; omega)).mono ?_
            rintro e W6 ⟨d, m, rfl, ht⟩
            rw [T1.out] at ht ⊢
            obtain ⟨t1, t2, t3, hb⟩ := ht
            obtain ⟨a1, c1, rfl⟩ := own_lit_slice t1
            obtain ⟨a2, c2, rfl⟩ := own_lit_slice t2
            replace R5 := hid (R5.out.below hb)
            replace B4 := hid (below_next B4.out hb)
            clear t1 t2 t3 hb
            obtain ⟨W7, s1, _, hb, _⟩ := var_op W6 (dq false G) (d := .slice a1 (dN false G) c1) (m := .slice a2 (dM false G) c2) rfl rfl
            replace R5 := hid (R5.out.below hb)
            replace B4 := hid (below_next B4.out hb)
            clear hb
            go_wp2_with fail
            clear s1
            refine (decode_big _ p G _ R5.out (by have := NB.out; omega)).mono ?_
            rintro e W8 ⟨d, m, rfl, ht⟩
            rw [T2.out] at ht ⊢
            obtain ⟨t1, t2, t3, hb⟩ := ht
            obtain ⟨a3, c3, rfl⟩ := own_lit_slice t1
            obtain ⟨a4, c4, rfl⟩ := own_lit_slice t2
            replace B4 := hid (below_next B4.out hb)
            clear t1 t2 t3 hb
            obtain ⟨W9, s1, _, hb, _⟩ := var_op W8 (dq false G) (d := .slice a3 (dN false G) c3) (m := .slice a4 (dM false G) c4) rfl rfl
            replace B4 := hid (below_next B4.out hb)
            clear hb
            go_wp2
            go_ret
            exact ⟨rfl, below_next BR3.out B4.out⟩
end Go.Proofs.Ytnadpglfliiplaa.Ou
