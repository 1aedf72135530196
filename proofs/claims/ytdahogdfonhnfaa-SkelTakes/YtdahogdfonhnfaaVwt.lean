/- The walk of SkelTakes. -/
import Derived.Test.YtdahogdfonhnfaaVtk
import Derived.Deep.RegionHeld3
namespace Go.Proofs.Ytdahogdfonhnfaa.Ou
open Go.ChangeShapes Go.WideShapes Go.ChangeAt Go.RowKit
open Go.Proofs.Ytdahogdfonhnfaa.By
open Go.Proofs.Ytdahogdfonhnfaa.Tb (Blk Blk.newAt put_all Kp.setCells)
/-- Two lists of skeletons that were told. -/
theorem apart2 (W : World) (B : Nat) (v1 v2 : Value) (n : Nat) (F : Nat → Sk) (h1 : Sx.Own W B v1 n F) (h2 : Sx.Own W B v2 n F) (hab : v1.ownBlock = none ∨ v1.ownBlock ≠ v2.ownBlock) (hB : B ≤ W.heap.size) (hn : (n + 6) * 56 ≤ 140737488355328) :
    Calls Try.prog 18 #[.slice (some ⟨W.heap.size, 0, none⟩) 2 2] (W.alloc (.cells #[v1, v2] 35)) fun e w' => e = .returned (.bool true) ∧ Below B (W.alloc (.cells #[v1, v2] 35)) w' := by
  have e0 : By.lv [v1, v2] 0 = v1 := rfl
  have e1 : By.lv [v1, v2] 1 = v2 := rfl
  have own : ∀ j, j < [v1, v2].length → Sp.Own W B (By.lv [v1, v2] j) n F := fun j hj => by
    have hj2 : j < 2 := hj
    match j, hj2 with
    | 0, _ => rw [e0]; exact Sp.of_sx h1
    | 1, _ => rw [e1]; exact Sp.of_sx h2
  have hA := Sp.ap_of [v1, v2] W.heap.size (fun i j hij hj => by
    have hj2 : j < 2 := hj
    obtain ⟨rfl, rfl⟩ : i = 0 ∧ j = 1 := by omega
    rw [e0, e1]; exact hab) (fun j hj q hq => Sp.own_lt (own j hj) q hq)
  have hI := Sp.inv1_lit W B [v1, v2] #[v1, v2] rfl (fun _ => n) (fun _ => F) own
  exact Sp.apartS B 2 W.heap.size 2 (By.lv [v1, v2]) (fun _ => n) (fun _ => F) _ hA hI (fun _ _ => trivial) (by omega) (by omega) (fun _ _ => hn) (by simp; omega)
set_option maxRecDepth 8000 in
set_option maxHeartbeats 1600000 in
theorem takes_q (v : Value) (n : Nat) (x : Nat → OE) (w : World) (h : Ox.RB w v n x) (ho : ∀ i, i < n → (x i).Ok w) (hn : n * 88 ≤ 140737488355328) :
    Calls Try.prog 3 #[v] w fun e w' => e = .returned (.bool true) ∧ Below w.heap.size w w' := by
  obtain ⟨a, c, rfl⟩ := h.isSl
  have H := hid h
  have HO := hid ho
  clear h ho
  go_enter Try.func3, Try.ntmps3
  have N8 := hid (show ∀ k, k ≤ n → k * 88 ≤ 140737488355328 ∧ k * 48 ≤ 140737488355328 from fun k hk => by
    have := Nat.mul_le_mul_right 88 hk
    have := Nat.mul_le_mul_right 48 hk
    omega)
  have n1 : n ≤ 100000000000000 := by omega
  have N5 := hid (show n * 56 ≤ 140737488355328 ∧ (n + 6) * 56 ≤ 140737488355328 from by omega)
  clear hn
  have S0 := hid (L1.start w x)
  go_wp2
  go_loopw [3, 4, 5] (fun lv fv i wr => ∃ k : Nat, k ≤ n ∧ i = .int .i64 k ∧ ∃ G T, L1 w wr x k lv fv G T) (fun _ _ i _ => n - (intOf i).toNat)
  case atStart => exact ⟨0, Nat.zero_le _, rfl, _, _, S0.out⟩
  case round =>
    obtain ⟨k, hk, rfl, G, T, hl⟩ := hrel
    clear S0
    obtain ⟨la, lc, rfl⟩ := hl.lent.reads.isSl
    obtain ⟨fa, fc, rfl⟩ := hl.full.reads.isSl
    have HL := hid hl
    clear hl
    by_cases hlt : k < n
    · obtain ⟨bb, off, rfl, ld⟩ := H.out.ldB hlt
      have hok := HO.out k hlt
      obtain ⟨X, eX⟩ : ∃ X, x k = X := ⟨_, rfl⟩
      rw [eX] at ld hok
      have EX := hid eX
      clear eX
      have x0 := ld wr HL.out.bel
      have LD := hid ld
      have OKX := hid hok
      have LO := hid (lentop_ok X.q _ _ X.dn X.mn X.f X.g wr (hok.rd.below HL.out.bel) (hok.rm.below HL.out.bel) (by have := hok.ld; omega) (by have := hok.lm; omega))
      clear ld hok
      go_wp2_with fail
      clear x0
      refine LO.out.mono ?_
      rintro e W1 ⟨g1, g2, c1, c2, rfl, o1, o2, ne, hb⟩
      have Lk : Hid (Lo W1 w.heap.size X ⟨g1, c1, g2, c2⟩ (T k) W1.heap.size) := by
        have t0 := HL.out.top
        have b0 := HL.out.bel.size
        have r1 := own_row o1 g1 rfl
        have r2 := own_row o2 g2 rfl
        exact ⟨own_base o1 b0, own_base o2 b0, ne, Nat.le_trans t0 r1, Nat.le_trans t0 r2, own_lt o1 g1 rfl, own_lt o2 g2 rfl⟩
      replace HL := hid (HL.out.below hb)
      clear o1 o2 ne hb LO
      have bo := (Blk.newAt W1 zA zA.toList 28 W1.heap.size rfl rfl).alloc (.cells #[Value.slice none 0 0, Value.slice none 0 0] 29)
      have bf := Blk.newAt (W1.alloc (.cells zA 28)) #[Value.slice none 0 0, Value.slice none 0 0] [Value.slice none 0 0, Value.slice none 0 0] 29 (W1.heap.size + 1) (by simp) rfl
      obtain ⟨W2, s2, k2, hk2⟩ := SVo_run (q := X.q) (d := .slice (some ⟨g1, 0, none⟩) X.dn c1) (m := .slice (some ⟨g2, 0, none⟩) X.mn c2) bo rfl rfl rfl
      obtain ⟨W3, s3, k3, hk3⟩ := SVa_run (d := .slice (some ⟨g1, 0, none⟩) (X.dn + 6) c1) (m := .slice (some ⟨g2, 0, none⟩) (X.mn + 6) c2) (bf.kept hk2 (by omega)) rfl rfl rfl
      have b3 : Below W1.heap.size W1 W3 := by
        have ba : Below W1.heap.size W1 ((W1.alloc (.cells zA 28)).alloc (.cells #[Value.slice none 0 0, Value.slice none 0 0] 29)) := below_next (below_alloc _ _) (below_alloc _ _)
        exact (ba.trans (hk2.below ba.size (fun j hj e => by omega))).trans (hk3.below (Nat.le_trans ba.size hk2.size) (fun j hj e => by omega))
      replace k2 := k2.kept hk3 (by omega)
      have LN : Hid (¬ (Value.slice la k lc).ownBlock = some W1.heap.size ∧ ¬ (Value.slice la k lc).ownBlock = some (W1.heap.size + 1)) := by
        have q := fun g e => Ox.own_lt HL.out.lent g e
        exact ⟨fun e => by have := q _ e; omega, fun e => by have := q _ e; omega⟩
      have LF : Hid (¬ (Value.slice fa k fc).ownBlock = some W1.heap.size) := by
        have q := fun g e => Fx.own_lt HL.out.full g e
        exact fun e => by have := q _ e; omega
      replace HL := hid (HL.out.below b3)
      replace Lk : Hid (Lo W3 w.heap.size X ⟨g1, c1, g2, c2⟩ (T k) W3.heap.size) := by
        have l := Lk.out.below b3
        have z := b3.size
        exact ⟨l.o1, l.o2, l.ne, l.l1, l.l2, Nat.lt_of_lt_of_le l.h1 z, Nat.lt_of_lt_of_le l.h2 z⟩
      have K2 := hid k2
      have K3 := hid k3
      have l2 := LDo_run k2
      have sz := hid b3.size
      have PL : Hid (∀ W4, W3.grownBy W4 (Value.slice la k lc).ownBlock → Blk W4 W1.heap.size (oL X.q (.slice (some ⟨g1, 0, none⟩) X.dn c1) (.slice (some ⟨g2, 0, none⟩) X.mn c2)) 28 ∧ Blk W4 (W1.heap.size + 1) [.slice (some ⟨g1, 0, none⟩) (X.dn + 6) c1, .slice (some ⟨g2, 0, none⟩) (X.mn + 6) c2] 29) := by
        intro W4 g4
        exact ⟨K2.out.kept (Kp.of_grown g4) (fun e => LN.out.1 e), K3.out.kept (Kp.of_grown g4) (fun e => LN.out.2 e)⟩
      have hy := Ox.own_congr HL.out.lent (g := fun j => yO (x j) (addG G k ⟨g1, c1, g2, c2⟩ j)) (fun j hj => by rw [addG_old G _ hj])
      have HY := hid hy
      have EY : Hid ((fun j => yO (x j) (addG G k ⟨g1, c1, g2, c2⟩ j)) k = yO X ⟨g1, c1, g2, c2⟩) := by
        show yO (x k) (addG G k _ k) = _
        rw [addG_new, EX.out]
      have R8 := hid (N8.out (k + 1) hlt).1
      clear hy bo bf hk2 hk3 b3 k2 k3
      go_wp2_with (at_builtin; go_must (refine Ox.wpList_pushK rfl _ _ rfl w.heap.size k _ _ (yO X ⟨g1, c1, g2, c2⟩) HY.out R8.out EY.out HL.out.bel.size rfl rfl ?_))
      intro lv' W4 h4 g4
      obtain ⟨la', lc', rfl⟩ := h4.reads.isSl
      have H4 := hid h4
      have G4 := hid g4
      obtain ⟨k4o, k4f⟩ := PL.out W4 g4
      have l4 := LDa_run k4f
      have K4 := hid k4o
      have K4f := hid k4f
      have HZ := hid (Fx.own_congr (Fx.own_keptK HL.out.full (Kp.of_grown g4) (Rw.ty_ne HL.out.full HL.out.lent (by decide))) (g := fun j => zO (x j) (addG G k ⟨g1, c1, g2, c2⟩ j)) (fun j hj => by rw [addG_old G _ hj]))
      have EZ : Hid ((fun j => zO (x j) (addG G k ⟨g1, c1, g2, c2⟩ j)) k = zO X ⟨g1, c1, g2, c2⟩) := by
        show zO (x k) (addG G k _ k) = _
        rw [addG_new, EX.out]
      have R4 := hid (N8.out (k + 1) hlt).2
      have sz4 := hid (Nat.le_trans HL.out.bel.size g4.size)
      clear h4 g4 k4o k4f l2 s2 s3
      go_wp2_with (at_builtin; go_must (refine Fx.wpList_pushK rfl _ _ rfl w.heap.size k _ _ (zO X ⟨g1, c1, g2, c2⟩) HZ.out R4.out EZ.out sz4.out rfl rfl ?_))
      intro fv' W5 h5 g5
      obtain ⟨fa', fc', rfl⟩ := h5.reads.isSl
      have HP := HL.out.push ⟨g1, c1, g2, c2⟩ (by rw [EX.out]; exact Lk.out) H4.out G4.out h5 g5
      have HN := hid HP
      have K5 : Hid (Blk W5 W1.heap.size (oL X.q (.slice (some ⟨g1, 0, none⟩) X.dn c1) (.slice (some ⟨g2, 0, none⟩) X.mn c2)) 28) := by
        have f4 := HZ.out
        have hne : ¬ (Value.slice fa k fc).ownBlock = some W1.heap.size := LF.out
        exact K4.out.kept (Kp.of_grown g5) hne
      have SW : Hid (∀ V, Below W5.heap.size W5 V → (LDo ⟨W1.heap.size, 0, none⟩).run Try.prog V = .ok (ov X.q (.slice (some ⟨g1, 0, none⟩) X.dn c1) (.slice (some ⟨g2, 0, none⟩) X.mn c2)) V ∧ (LDo ⟨bb, off + k * 7, none⟩).run Try.prog V = .ok (Ox.oev X) V) := fun V hV => ⟨LDo_run (K5.out.below hV), LD.out V (below_next HN.out.bel hV)⟩
      have D1 : Hid (Below W5.heap.size W5 W5.drew) := below_drewN W5 1
      obtain ⟨x1, x2⟩ := SW.out W5.drew D1.out
      have C1 := hid (of_ok X.q (some ⟨g1, 0, none⟩) (some ⟨g2, 0, none⟩) X.dn c1 X.mn c2 W5.drew ⟨OKX.out.q.k0, OKX.out.q.k1⟩)
      obtain ⟨s, es⟩ : ∃ s, ps (sk X.q X.dn X.mn) = s := ⟨_, rfl⟩
      rw [es] at C1
      have ES := hid es
      have qs := Sx.eqS_refl s
      clear HP h5 g5 l4 HY HZ EY EZ R8 R4 PL LN K2 K3 K4 K4f H4 G4 Lk HL es
      go_wp2_with fail
      go_region_held3 (fun V => (LDo ⟨W1.heap.size, 0, none⟩).run Try.prog V = .ok (ov X.q (.slice (some ⟨g1, 0, none⟩) X.dn c1) (.slice (some ⟨g2, 0, none⟩) X.mn c2)) V ∧ (LDo ⟨bb, off + k * 7, none⟩).run Try.prog V = .ok (Ox.oev X) V) (go_keep) (first
        | (go_at_call 10; with_reducible refine C2.out.mono ?_; rintro e V2 ⟨rfl, hb⟩; have N2 : Hid (Below W5.heap.size W5 V2) := hid (below_next N1.out hb); have tt := SW.out V2 N2.out; have y3 := tt.1; have y4 := tt.2; clear tt hb)
        | (go_at_call 9; with_reducible refine C1.out.mono ?_; rintro e V1 ⟨rfl, hb⟩; have N1 : Hid (Below W5.heap.size W5 V1) := hid (below_next D1.out hb); have tt := SW.out V1 N1.out; have y1 := tt.1; have y2 := tt.2; have c2 := rof_ok X.q X.da X.ma X.dn X.dc X.mn X.mc V1; rw [ES.out] at c2; have C2 := hid c2; clear tt hb c2))
      all_goals (
        replace HN := hid (HN.out.below N2.out)
        clear x1 x2 y1 y2 y3 y4 SW D1 C1 C2 N1 N2 qs
        go_wp2
        go_roundw
        case rel => exact ⟨k + 1, by omega, by go_num, _, _, HN.out⟩
        case measure => simp [intOf]; omega)
    · obtain rfl : k = n := by omega
      clear hlt hk
      have A1 := fun V (hV : Below wr.heap.size wr V) => Sx.all_ok _ k (fun j => yO (x j) (G j)) V (HL.out.lent.reads.below hV) (fun i hi => ⟨(HO.out i hi).q.k0, (HO.out i hi).q.k1⟩) N5.out.1
      have A2 := fun V (hV : Below w.heap.size w V) => Sx.rall_ok _ k x V (H.out.below hV) N5.out.1
      obtain ⟨F, hF⟩ : ∃ F : Nat → Sk, (fun i => Sx.skO (x i)) = F := ⟨_, rfl⟩
      have eF : (fun i => Sx.skO ((fun j => yO (x j) (G j)) i)) = F := hF
      simp only [eF] at A1
      simp only [hF] at A2
      have AL := hid A1
      have AR := hid A2
      clear A1 A2 hF eF
      go_wp2_with fail
      refine (AL.out wr (Below.refl _ _)).mono ?_
      rintro e W1 ⟨v1, rfl, a1, b1⟩
      obtain ⟨p1, q1, rfl⟩ := a1.reads.isSl
      have A1 := hid a1
      have B1 := hid b1
      clear a1 b1
      go_wp2_with fail
      refine (AL.out W1 B1.out).mono ?_
      rintro e W2 ⟨v2, rfl, a2, b2⟩
      obtain ⟨p2, q2, rfl⟩ := a2.reads.isSl
      have hab := Sp.own_apart (Sp.of_sx A1.out) (Nat.le_refl _) (Sp.of_sx a2)
      have A2 := hid a2
      have B2 := hid b2
      have AB := hid hab
      clear a2 b2 hab
      have bw2 := hid (below_next HL.out.bel (below_next B1.out B2.out))
      go_wp2_with fail
      refine (AR.out W2 bw2.out).mono ?_
      rintro e W3 ⟨v3, rfl, a3, b3⟩
      obtain ⟨p3, q3, rfl⟩ := a3.reads.isSl
      have L0 : Hid (L2 w W3 x k 0 (.slice la k lc) (.slice fa k fc) (.slice p1 k q1) (.slice p2 k q2) (.slice p3 k q3) G T F) := by
        have bb := below_next (below_next B1.out B2.out) b3
        have l := HL.out.below bb
        have s0 := HL.out.bel.size
        have s1 := B1.out.size
        have s2 := B2.out.size
        exact ⟨fun j _ h2 => l.lo j h2, Ox.own_congr l.lent (fun j _ => by unfold yK; rw [if_neg (by omega)]), l.full, Sx.own_below (Sx.own_below (Sx.own_base A1.out s0) B2.out) b3, Sx.own_below (Sx.own_base A2.out (by omega)) b3, Sx.own_base a3 (by omega), AB.out, l.bel⟩
      clear a3 b3 A1 A2 B1 B2 bw2 AL AR HL AB
      go_wp2
      go_loopw [11] (fun v wq => ∃ i : Nat, i ≤ k ∧ v = .int .i64 i ∧ L2 w wq x k i (.slice la k lc) (.slice fa k fc) (.slice p1 k q1) (.slice p2 k q2) (.slice p3 k q3) G T F) (fun v _ => k - (intOf v).toNat)
      case atStart => exact ⟨0, Nat.zero_le _, rfl, L0.out⟩
      case round =>
        obtain ⟨i, hi, rfl, hl⟩ := hrel
        clear L0
        have HL := hid hl
        clear hl
        by_cases hlt : i < k
        · obtain ⟨gl, cl, el, _⟩ := Ox.own_some HL.out.lent (by omega)
          obtain ⟨gf, cf, ef, _⟩ := Fx.own_some HL.out.full (by omega)
          obtain ⟨rfl, rfl⟩ : la = some ⟨gl, 0, none⟩ ∧ lc = cl := by simpa using el
          obtain ⟨rfl, rfl⟩ : fa = some ⟨gf, 0, none⟩ ∧ fc = cf := by simpa using ef
          clear el ef
          obtain ⟨bb, off, rfl, ld⟩ := H.out.ldB hlt
          have hok := HO.out i hlt
          have lo := HL.out.lo i (Nat.le_refl _) hlt
          obtain ⟨X, eX⟩ : ∃ X, x i = X := ⟨_, rfl⟩
          obtain ⟨Gi, eG⟩ : ∃ g, G i = g := ⟨_, rfl⟩
          rw [eX] at ld hok lo
          rw [eG] at lo
          obtain ⟨Zf, hZ⟩ : ∃ f, (fun j => zO (x j) (G j)) = f := ⟨_, rfl⟩
          obtain ⟨Yf, hY⟩ : ∃ f, yK x G i = f := ⟨_, rfl⟩
          have z1 : Zf i = zO X Gi := by rw [← hZ]; show zO (x i) (G i) = _; rw [eX, eG]
          have y1 : Yf i = yO X Gi := by rw [← hY]; unfold yK; rw [if_neg (by omega), eX, eG]
          have lf : ∀ V, Below wr.heap.size wr V → (LDa ⟨gf, i * 2, none⟩).run Try.prog V = .ok (.agg #[.slice (some ⟨Gi.g1, 0, none⟩) (X.dn + 6) Gi.c1, .slice (some ⟨Gi.g2, 0, none⟩) (X.mn + 6) Gi.c2]) V := fun V hV => by
            have h1 := HL.out.full
            rw [hZ] at h1
            have := Fx.own_ld (Fx.own_below h1 hV) hlt
            rw [z1] at this
            exact this
          have ll : ∀ V, Below wr.heap.size wr V → (LDo ⟨gl, i * 7, none⟩).run Try.prog V = .ok (ov X.q (.slice (some ⟨Gi.g1, 0, none⟩) X.dn Gi.c1) (.slice (some ⟨Gi.g2, 0, none⟩) X.mn Gi.c2)) V := fun V hV => by
            have h1 := HL.out.lent
            rw [hY] at h1
            have := Ox.own_ld (Ox.own_below h1 hV) hlt
            rw [y1] at this
            exact this
          have EX := hid eX
          have EG := hid eG
          clear eX eG hZ hY z1 y1 Zf Yf
          have SW : Hid (∀ V, Below wr.heap.size wr V → (LDa ⟨gf, i * 2, none⟩).run Try.prog V = .ok (.agg #[.slice (some ⟨Gi.g1, 0, none⟩) (X.dn + 6) Gi.c1, .slice (some ⟨Gi.g2, 0, none⟩) (X.mn + 6) Gi.c2]) V ∧ (LDo ⟨bb, off + i * 7, none⟩).run Try.prog V = .ok (ov X.q (.slice X.da X.dn X.dc) (.slice X.ma X.mn X.mc)) V ∧ (LDo ⟨gl, i * 7, none⟩).run Try.prog V = .ok (ov X.q (.slice (some ⟨Gi.g1, 0, none⟩) X.dn Gi.c1) (.slice (some ⟨Gi.g2, 0, none⟩) X.mn Gi.c2)) V) := fun V hV => ⟨lf V hV, ld V (below_next HL.out.bel hV), ll V hV⟩
          have D1 : Hid (Below wr.heap.size wr wr.drew) := below_drewN wr 1
          have b1 := hok.ld
          have b2 := hok.lm
          have rd := fun V (hV : Below wr.heap.size wr V) => hok.rd.below (below_next HL.out.bel hV)
          have rm := fun V (hV : Below wr.heap.size wr V) => hok.rm.below (below_next HL.out.bel hV)
          have lo1 := fun V (hV : Below wr.heap.size wr V) => lo.below hV
          have C1 := hid (keptop_ok X.q _ _ _ _ X.dn X.mn X.f X.g wr.drew (rd _ D1.out) (rm _ D1.out) (lo1 _ D1.out).o1.reads (lo1 _ D1.out).o2.reads (by omega) (by omega))
          have C2 := hid (fun V (hV : Below wr.heap.size wr V) => sameop_ok X.q _ _ _ _ X.dn X.mn X.f X.f X.g X.g V (By.rb_lent (lo1 V hV).o1 hok.rd.1) (rd V hV) (By.rb_lent (lo1 V hV).o2 hok.rm.1) (rm V hV) (by omega) (by omega) (fun _ _ => rfl) (fun _ _ => rfl))
          have LOW := hid lo1
          have BD := hid (And.intro b1 b2)
          obtain ⟨x1, x2, x3⟩ := SW.out wr.drew D1.out
          clear ld lf ll hok lo b1 b2 rd rm lo1
          go_wp2_with fail
          go_region_held3 (fun V => (LDa ⟨gf, i * 2, none⟩).run Try.prog V = .ok (.agg #[.slice (some ⟨Gi.g1, 0, none⟩) (X.dn + 6) Gi.c1, .slice (some ⟨Gi.g2, 0, none⟩) (X.mn + 6) Gi.c2]) V ∧ (LDo ⟨bb, off + i * 7, none⟩).run Try.prog V = .ok (ov X.q (.slice X.da X.dn X.dc) (.slice X.ma X.mn X.mc)) V ∧ (LDo ⟨gl, i * 7, none⟩).run Try.prog V = .ok (ov X.q (.slice (some ⟨Gi.g1, 0, none⟩) X.dn Gi.c1) (.slice (some ⟨Gi.g2, 0, none⟩) X.mn Gi.c2)) V) (go_keep) (first
            | (go_at_call 14; with_reducible refine (C2.out V1 N1.out).mono ?_; rintro e V2 ⟨rfl, hb⟩; have N2 : Hid (Below wr.heap.size wr V2) := hid (below_next N1.out hb); have tt := SW.out V2 N2.out; have y4 := tt.1; have y5 := tt.2.1; have y6 := tt.2.2; clear tt hb)
            | (go_at_call 13; with_reducible refine C1.out.mono ?_; rintro e V1 ⟨rfl, hb⟩; have N1 : Hid (Below wr.heap.size wr V1) := hid (below_next D1.out hb); have tt := SW.out V1 N1.out; have y1 := tt.1; have y2 := tt.2.1; have y3 := tt.2.2; clear tt hb))
          replace HL := hid (HL.out.below N2.out)
          have lo := LOW.out V2 N2.out
          have xf := (SW.out V2 N2.out).1
          have OV := hid (overop_ok Gi.g1 Gi.g2 Gi.c1 Gi.c2 (X.dn + 6) (X.mn + 6) w.heap.size _ _ V2 lo.o1 lo.o2 lo.ne (by have := BD.out.1; omega) (by have := BD.out.2; omega))
          clear x1 x2 x3 y1 y2 y3 y4 y5 y6 SW D1 C1 C2 LOW lo N1 N2 BD
          go_wp2_with fail
          clear xf
          refine OV.out.mono ?_
          rintro e W9 ⟨rfl, _, _, hp⟩
          have ho := HL.out.over hlt (by rw [EG.out]; exact hp)
          obtain ⟨s9, o9, k9⟩ := Ox.own_put ho.2.1 hlt O77
          obtain ⟨W10, hW⟩ : ∃ V, W9.setCells gl (i * 7) (Ox.oE O77) = V := ⟨_, rfl⟩
          rw [hW] at s9 o9 k9
          have s9' : (SVo ⟨gl, i * 7, none⟩ (.agg #[.int .u8 77, .int .i64 0, .int .u8 0, .int .i64 0, .int .i64 0, .slice none 0 0, .slice none 0 0])).run Try.prog W9 = .ok () W10 := s9
          have HN := hid (L2.put ho HL.out.ab o9 k9)
          clear ho s9 o9 k9 hW hp HL OV
          go_wp2
          go_roundw
          case rel => exact ⟨i + 1, by omega, by go_num, HN.out⟩
          case measure => simp [intOf]; omega
        · obtain rfl : i = k := by omega
          have R1 := hid HL.out.a.reads
          have R2 := hid HL.out.b.reads
          have R3 := hid HL.out.c.reads
          have n56 := N5.out.2
          have EM := hid (Sx.eqM_refl i F)
          have i56 : i ≤ 140737488355328 := by omega
          go_wp2_with fail
          refine (Sx.same_ok _ _ i i F F wr R1.out R3.out i56 i56).mono ?_
          rintro e W1 ⟨rfl, d1, hd⟩
          have hb : Below wr.heap.size wr W1 := by rw [hd]; exact below_drewN _ _
          rw [EM.out]
          replace HL := hid (HL.out.below hb)
          clear hd hb R1 R2 R3
          go_wp2_with fail
          refine (Sx.same_ok _ _ i i F F W1 HL.out.b.reads HL.out.c.reads i56 i56).mono ?_
          rintro e W2 ⟨rfl, d2, hd⟩
          have hb : Below W1.heap.size W1 W2 := by rw [hd]; exact below_drewN _ _
          rw [EM.out]
          replace HL := hid (HL.out.below hb)
          clear hd hb
          go_wp2_with fail
          refine (Sx.psame_ok _ _ i i F F W2 HL.out.a.reads HL.out.b.reads i56 i56).mono ?_
          rintro e W3 ⟨rfl, hb⟩
          rw [EM.out]
          replace HL := hid (HL.out.below hb)
          clear hb
          have AP2 := hid (apart2 W3 w.heap.size _ _ i F HL.out.a HL.out.b HL.out.ab HL.out.bel.size n56)
          have B3 := hid HL.out.bel
          clear HL EM
          go_wp2_with fail
          refine AP2.out.mono ?_
          rintro e W4 ⟨rfl, hb⟩
          have BF := hid ((below_next B3.out (below_alloc _ _)).trans hb)
          clear hb B3 AP2
          go_wp2
          go_ret
          exact ⟨rfl, BF.out⟩
theorem takes_w (a : Option Addr) (n c : Nat) (x : Nat → OE) (w : World) (h : Ox.RB w (.slice a n c) n x) (ho : ∀ i, i < n → (x i).Ok w) (hn : n * 88 ≤ 140737488355328) :
    Calls Try.prog 3 #[.slice a n c] w fun e w' => e = .returned (.bool true) ∧ Below w.heap.size w w' := takes_q _ n x w h ho hn
end Go.Proofs.Ytdahogdfonhnfaa.Ou
