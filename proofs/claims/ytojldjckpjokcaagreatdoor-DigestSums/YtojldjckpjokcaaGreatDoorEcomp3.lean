/- The document's compress. -/
import Derived.Test.YtojldjckpjokcaaGreatDoorEcomp2
namespace Go.Proofs.YtojldjckpjokcaaGreatDoor.Sg
open Go.ChangeShapes Go.WideShapes Go.ChangeAt Go.RowKit
open Go.Proofs.YtojldjckpjokcaaGreatDoor.By Go.Proofs.YtojldjckpjokcaaGreatDoor.Wd
/-- What lies there within the rounds. -/
structure CX (w W : World) (h : Nat → Int) (gk gw : Nat) (T : Nat → Int) : Prop where
  ha : Blk W w.heap.size (wl 8 h) 124
  res : Blk W (w.heap.size + 1) (wl 8 (fun _ => 0)) 124
  tk : Blk W gk (wl 80 K) 144
  tw : Blk W gw (wl 80 T) 144
  bel : Below w.heap.size w W
theorem CX.drewN {w W : World} {h : Nat → Int} {gk gw : Nat} {T : Nat → Int} (c : CX w W h gk gw T) (d : Nat) : CX w (W.drewN d) h gk gw T := ⟨c.ha, c.res, c.tk, c.tw, below_drew' c.bel d⟩
theorem CX.cells {w W : World} {h : Nat → Int} {gk gw gx : Nat} {T : Nat → Int} (c : CX w W h gk gw T) (h1 : w.heap.size + 1 < gx) (h2 : gk ≠ gx) (h3 : gw ≠ gx) (vs : List Value) : CX w (W.setCells gx 0 vs) h gk gw T :=
  ⟨c.ha.kept (Kp.setCells _ _ _) (by omega), c.res.kept (Kp.setCells _ _ _) (by omega), c.tk.kept (Kp.setCells _ _ _) h2, c.tw.kept (Kp.setCells _ _ _) h3, below_cells c.bel _ _ _ (by omega) c.bel.size⟩
set_option maxRecDepth 8000 in
set_option maxHeartbeats 4000000 in
theorem compress66 (h f : Nat → Int) (v : Value) (n : Nat) (hh : ∀ i, W64 (h i)) (w : World) (hr : By.RB w v n f) (ha : 128 ≤ n) (hn : n ≤ 281474976710656) :
    Calls Tryz.prog 97 #[.agg (wl 8 h).toArray, v] w fun e w' => e = .returned (.agg (wl 8 (comp h f)).toArray) ∧ Below w.heap.size w w' := by
  have HH := hid hh
  have HR := hid hr
  have HF := hid hr.1
  obtain ⟨hf, a, cap, rfl, h1, h2, hc⟩ := hr
  clear hc hf hh
  go_enter Tryz.func97, Tryz.ntmps97
  go_wp2_with fail
  refine (table80 _).mono ?_
  rintro e w1 ⟨rfl, hb1⟩
  have B0 := hid (((Blk.new w (wl 8 h) 124).alloc (.cells (wl 8 (fun _ => 0)).toArray 124)).below hb1)
  have B1 := hid ((Blk.newAt (w.alloc (.cells (wl 8 h).toArray 124)) _ (wl 8 (fun _ => 0)) 124 (w.heap.size + 1) (by simp) h8).below hb1)
  have b1 := hid (below_next (below_next (below_alloc w _) (below_alloc _ _)) hb1)
  clear hb1
  have nb := Blk.newAt w1 _ (wl 80 (fun _ => 0)) 144 w1.heap.size rfl wz64
  have x1 := SVw_run (cs := wl 80 K) (nb.there 0 80 (by rw [wl_length]; omega)) (wl_length _ _) (wl_one _ _)
  have nb2 := nb.put 0 (wl 80 K)
  rw [put_all _ _ (by rw [wl_length, wl_length])] at nb2
  have NB := hid nb2
  clear nb nb2
  go_wp2_with fail
  obtain ⟨W2, hW2⟩ : ∃ x, World.setCells (w1.alloc (.cells Tryz.zeroCells144 144)) w1.heap.size 0 (wl 80 K) = x := ⟨_, rfl⟩
  have z1 := b1.out.size
  have l0 := B0.out.lt
  have l1 := B1.out.lt
  have p0 := (B0.out.alloc (.cells Tryz.zeroCells144 144)).kept (Kp.setCells w1.heap.size 0 (wl 80 K)) (by omega)
  have p1 := (B1.out.alloc (.cells Tryz.zeroCells144 144)).kept (Kp.setCells w1.heap.size 0 (wl 80 K)) (by omega)
  have p2 := below_cells (below_next b1.out (below_alloc w1 (.cells Tryz.zeroCells144 144))) w1.heap.size 0 (wl 80 K) z1 (by rw [size_alloc]; omega)
  rw [hW2] at p0 p1 p2 NB
  rw [hW2]
  obtain ⟨gk, hgk⟩ : ∃ x, w1.heap.size = x := ⟨_, rfl⟩
  rw [hgk] at NB l1
  rw [hgk]
  have P0 := hid p0
  have P1 := hid p1
  have P2 := hid p2
  clear hW2 p0 p1 p2 x1 hgk z1 l0 B0 B1 b1
  refine (schedule72 f _ n _ (HR.out.below P2.out) ha hn).mono ?_
  rintro e w3 ⟨rfl, hb3⟩
  have Q0 := hid (P0.out.below hb3)
  have Q1 := hid (P1.out.below hb3)
  have Q2 := hid (NB.out.below hb3)
  have Q3 := hid (P2.out.trans (hb3.mono P2.out.size))
  have lk := hid Q2.out.lt
  have lr := hid Q1.out.lt
  clear hb3 P0 P1 P2 NB
  have nb := Blk.newAt w3 _ (wl 80 (fun _ => 0)) 144 w3.heap.size rfl wz64
  have x1 := SVw_run (cs := wl 80 (tab f 80)) (nb.there 0 80 (by rw [wl_length]; omega)) (wl_length _ _) (wl_one _ _)
  have nb2 := nb.put 0 (wl 80 (tab f 80))
  rw [put_all _ _ (by rw [wl_length, wl_length])] at nb2
  have NB := hid nb2
  clear nb nb2
  obtain ⟨T, eT⟩ : ∃ T, tab f 80 = T := ⟨_, rfl⟩
  have HT := hid (tab_w f HF.out 80)
  have hT := hid eT
  rw [eT] at HT NB x1
  rw [eT]
  clear eT
  go_upto_region 3 with fail
  obtain ⟨W4, hW4⟩ : ∃ x, World.setCells (w3.alloc (.cells Tryz.zeroCells144 144)) w3.heap.size 0 (wl 80 T) = x := ⟨_, rfl⟩
  have lk' := lk.out
  have lr' := lr.out
  have d4 : CX w W4 h gk w3.heap.size T := by
    rw [← hW4]
    exact ⟨(Q0.out.alloc _).kept (Kp.setCells _ _ _) (by omega), (Q1.out.alloc _).kept (Kp.setCells _ _ _) (by omega), (Q2.out.alloc _).kept (Kp.setCells _ _ _) (by omega), NB.out, below_cells (below_next Q3.out (below_alloc w3 _)) _ _ _ Q3.out.size (by rw [size_alloc]; have := Q3.out.size; omega)⟩
  rw [hW4]
  obtain ⟨gw, hgw⟩ : ∃ x, w3.heap.size = x := ⟨_, rfl⟩
  rw [hgw] at d4 lk' lr'
  rw [hgw]
  have D4 := hid d4
  have l1' := LDh_run (d4.ha.range 0 _ (fun j v h => by rw [Nat.zero_add]; exact h)) (wl_length _ _)
  have nb := Blk.newAt W4 _ (wl 8 (fun _ => 0)) 124 W4.heap.size rfl h8
  have x2 := SVh_run (cs := wl 8 h) (nb.there 0 8 (by rw [wl_length]; omega)) (wl_length _ _) (wl_one _ _)
  have nb2 := nb.put 0 (wl 8 h)
  rw [put_all _ _ (by rw [wl_length, wl_length])] at nb2
  have lw := hid d4.tw.lt
  have NV := hid nb2
  clear hW4 d4 hgw nb nb2 x1 Q0 Q1 Q2 Q3 NB lk lr
  go_wp2_with fail
  obtain ⟨X0, hX0⟩ : ∃ x, World.setCells (W4.alloc (.cells (wl 8 (fun _ => 0)).toArray 124)) W4.heap.size 0 (wl 8 h) = x := ⟨_, rfl⟩
  obtain ⟨gx, hgx⟩ : ∃ x, W4.heap.size = x := ⟨_, rfl⟩
  have lw' := lw.out
  have hgx1 : w.heap.size + 1 < gx := by omega
  have hgx2 : gk ≠ gx := by omega
  have hgx3 : gw ≠ gx := by omega
  have d5 : CX w X0 h gk gw T := by
    rw [← hX0]
    exact ⟨(D4.out.ha.alloc _).kept (Kp.setCells _ _ _) (by omega), (D4.out.res.alloc _).kept (Kp.setCells _ _ _) (by omega), (D4.out.tk.alloc _).kept (Kp.setCells _ _ _) (by omega), (D4.out.tw.alloc _).kept (Kp.setCells _ _ _) (by omega), below_cells (below_next D4.out.bel (below_alloc W4 _)) _ _ _ D4.out.bel.size (by rw [size_alloc]; have := D4.out.bel.size; omega)⟩
  rw [h8, hX0, hgx] at NV
  rw [h8, hX0, hgx]
  have D := hid d5
  clear hX0 hgx lw' d5 D4 l1' x2 lw lk' lr' l1
  go_loopw [8] (fun i wq => ∃ t : Nat, t ≤ 80 ∧ i = .int .i64 t ∧ CX w wq h gk gw T ∧ Blk wq gx (wl 8 (rnds h T t)) 124) (fun i _ => 80 - (intOf i).toNat)
  case atStart => exact ⟨0, by omega, rfl, D.out, NV.out⟩
  case round =>
    clear D NV
    obtain ⟨t, ht, rfl, hc, hx⟩ := hrel
    have D := hid hc
    have X := hid hx
    have HX := hid (rnds_w h T HH.out t)
    clear hc hx
    by_cases hlt : t < 80
    · have ck := D.out.tk.cell t _ (wl_get 80 K t hlt)
      have ct := D.out.tw.cell t _ (wl_get 80 T t hlt)
      have EX : Hid (rnds h T (t + 1) = stp (rnds h T t) (K t) (T t)) := rfl
      obtain ⟨x, ex⟩ : ∃ x, rnds h T t = x := ⟨_, rfl⟩
      rw [ex] at X HX EX
      obtain ⟨kt, ekt⟩ : ∃ x, K t = x := ⟨_, rfl⟩
      rw [ekt] at ck EX
      obtain ⟨tt, ett⟩ : ∃ x, T t = x := ⟨_, rfl⟩
      rw [ett] at ct EX
      clear ex ekt ett
      have c0 := X.out.cell 0 _ (wl_get 8 x 0 (by omega))
      have c1 := X.out.cell 1 _ (wl_get 8 x 1 (by omega))
      have c2 := X.out.cell 2 _ (wl_get 8 x 2 (by omega))
      have c3 := X.out.cell 3 _ (wl_get 8 x 3 (by omega))
      have c4 := X.out.cell 4 _ (wl_get 8 x 4 (by omega))
      have c5 := X.out.cell 5 _ (wl_get 8 x 5 (by omega))
      have c6 := X.out.cell 6 _ (wl_get 8 x 6 (by omega))
      have c7 := X.out.cell 7 _ (wl_get 8 x 7 (by omega))
      have s1 := fun d => SVh_run (w := wr.drewN d) (cs := [.int .u64 (IntKind.u64.wrap (pp x kt tt + qq x)), .int .u64 (x 0), .int .u64 (x 1), .int .u64 (x 2), .int .u64 (IntKind.u64.wrap (x 3 + pp x kt tt)), .int .u64 (x 4), .int .u64 (x 5), .int .u64 (x 6)]) ((X.out.drewN d).there 0 8 (by rw [wl_length]; omega)) rfl (by intro u hu; simp at hu; rcases hu with rfl | rfl | rfl | rfl | rfl | rfl | rfl | rfl <;> rfl)
      have eP : Hid (IntKind.u64.wrap (IntKind.u64.wrap (IntKind.u64.wrap (IntKind.u64.wrap (x 7 + bits .xor .u64 (bits .xor .u64 (rr (x 4) 14) (rr (x 4) 18)) (rr (x 4) 41)) + bits .xor .u64 (bits .and .u64 (x 4) (x 5)) (bits .and .u64 (bits .xor .u64 (if IntKind.u64.signed = true then -1 else IntKind.u64.max) (x 4)) (x 6))) + kt) + tt) = pp x kt tt) := rfl
      have eQ : Hid (IntKind.u64.wrap (bits .xor .u64 (bits .xor .u64 (rr (x 0) 28) (rr (x 0) 34)) (rr (x 0) 39) + bits .xor .u64 (bits .xor .u64 (bits .and .u64 (x 0) (x 1)) (bits .and .u64 (x 0) (x 2))) (bits .and .u64 (x 1) (x 2))) = qq x) := rfl
      go_wp2_with fail
      go_quiet ((go_at_call 110; (first | with_reducible refine (right81 (x 4) 14 _ (HX.out _) (by omega) (by omega)).mono ?_ | with_reducible refine (right81 (x 4) 18 _ (HX.out _) (by omega) (by omega)).mono ?_ | with_reducible refine (right81 (x 4) 41 _ (HX.out _) (by omega) (by omega)).mono ?_); rintro e w4 ⟨rfl, rfl⟩; exact ⟨rfl, _, rfl⟩))
      rw [eP.out]
      go_wp2_with fail
      go_quiet ((go_at_call 110; (first | with_reducible refine (right81 (x 0) 28 _ (HX.out _) (by omega) (by omega)).mono ?_ | with_reducible refine (right81 (x 0) 34 _ (HX.out _) (by omega) (by omega)).mono ?_ | with_reducible refine (right81 (x 0) 39 _ (HX.out _) (by omega) (by omega)).mono ?_); rintro e w4 ⟨rfl, rfl⟩; exact ⟨rfl, _, rfl⟩))
      rw [eQ.out]
      go_wp2
      refine ⟨⟨t + 1, by omega, by go_num, (D.out.drewN _).cells hgx1 hgx2 hgx3 _, ?_⟩, by simp [intOf]; omega⟩
      have b4 := fun d => (X.out.drewN d).put 0 [.int .u64 (IntKind.u64.wrap (pp x kt tt + qq x)), .int .u64 (x 0), .int .u64 (x 1), .int .u64 (x 2), .int .u64 (IntKind.u64.wrap (x 3 + pp x kt tt)), .int .u64 (x 4), .int .u64 (x 5), .int .u64 (x 6)]
      rw [EX.out, wl8]
      have b5 := b4 (by assumption)
      rw [put_all _ _ (by rw [wl_length]; rfl)] at b5
      exact b5
    · have et : t = 80 := by omega
      subst et
      obtain ⟨Y, eY⟩ : ∃ Y, rnds h T 80 = Y := ⟨_, rfl⟩
      have HC2 : Hid (∀ i, comp h f i = ad (h i) (Y i)) := fun i => by unfold comp; rw [hT.out, eY]
      rw [eY] at X
      clear eY HX
      have E0 := hid D.out.ha
      have E1 := hid D.out.res
      have E2 := hid D.out.bel
      go_wp2_with fail
      go_loopw [13] (fun i wq => ∃ k : Nat, k ≤ 8 ∧ i = .int .i64 k ∧ Blk wq w.heap.size (wl 8 (hI h Y k)) 124 ∧ Blk wq (w.heap.size + 1) (wl 8 (fun _ => 0)) 124 ∧ Blk wq gx (wl 8 Y) 124 ∧ Below w.heap.size w wq) (fun i _ => 8 - (intOf i).toNat)
      case atStart => exact ⟨0, by omega, rfl, E0.out, E1.out, X.out, E2.out⟩
      case round =>
        clear E0 E1 X E2 D
        obtain ⟨k, hk, rfl, h1', h2', h3', h4'⟩ := hrel
        have E0 := hid h1'
        have E1 := hid h2'
        have X := hid h3'
        have E2 := hid h4'
        have z0 := h1'.lt
        clear h1' h2' h3' h4'
        by_cases hlk : k < 8
        · have c1 := E0.out.cell k _ (wl_get 8 _ k hlk)
          have c2 := X.out.cell k _ (wl_get 8 _ k hlk)
          have cf := E0.out.frozen k
          have ev : hI h Y k k = h k := by unfold hI; rw [if_neg (by omega)]
          rw [ev] at c1
          clear ev
          go_wp2_with fail
          go_region
          go_wp2
          refine ⟨⟨k + 1, by omega, by go_num, ?_, (E1.out.other (by omega) _ _).drewN 1, (X.out.other (by omega) _ _).drewN 1, below_drew' (below_set E2.out _ _ _ (Nat.le_refl _) E2.out.size) 1⟩, by simp [intOf]; omega⟩
          rw [← hI_set h Y k _ rfl]
          exact (E0.out.set k _).drewN 1
        · have ek : k = 8 := by omega
          subst ek
          have eh : wl 8 (hI h Y 8) = wl 8 (comp h f) := wl_congr _ _ _ (fun q hq => by unfold hI; rw [if_pos hq, HC2.out])
          rw [eh] at E0
          clear eh
          have l1 := LDh_run (E0.out.range 0 _ (fun j v h => by rw [Nat.zero_add]; exact h)) (wl_length _ _)
          have s1 := SVh_run (cs := wl 8 (comp h f)) (E1.out.there 0 8 (by rw [wl_length]; omega)) (wl_length _ _) (wl_one _ _)
          have b3 := E1.out.put 0 (wl 8 (comp h f))
          rw [put_all _ _ (by rw [wl_length, wl_length])] at b3
          have l2 := hid (LDh_run (b3.range 0 _ (fun j v h => by rw [Nat.zero_add]; exact h)) (wl_length _ _))
          clear b3
          go_wp2
          refine bodyPost_ret (v := .agg (wl 8 (comp h f)).toArray) ?_ rfl ⟨rfl, below_cells E2.out _ _ _ (by omega) E2.out.size⟩
          exact results_cell1 Tryz.results97 rfl l2.out
end Go.Proofs.YtojldjckpjokcaaGreatDoor.Sg
