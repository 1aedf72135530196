/- The document's compress. The document's number and laid: numbers as bytes. Noughts put behind a list of bytes that the call owns: append(b, make([]byte, m)...). -/
import Derived.Test.YtjhhnajgfngbhaaGreatDoorZea
import Derived.Test.YtjhhnajgfngbhaaGreatDoorZjd
import Derived.Lib.AppendZeros
namespace Go.Proofs.YtjhhnajgfngbhaaGreatDoor.Sg
open Go.ChangeShapes Go.WideShapes Go.ChangeAt Go.RowKit
open Go.Proofs.YtjhhnajgfngbhaaGreatDoor.By Go.Proofs.YtjhhnajgfngbhaaGreatDoor.Wd
/-- What lies there within the rounds. -/
structure CX (w W : World) (h : Nat → Int) (gk gw : Nat) (T : Nat → Int) : Prop where
  ha : Blk W w.heap.size (wl 8 h) 120
  res : Blk W (w.heap.size + 1) (wl 8 (fun _ => 0)) 120
  tk : Blk W gk (wl 80 K) 140
  tw : Blk W gw (wl 80 T) 140
  bel : Below w.heap.size w W
theorem CX.drewN {w W : World} {h : Nat → Int} {gk gw : Nat} {T : Nat → Int} (c : CX w W h gk gw T) (d : Nat) : CX w (W.drewN d) h gk gw T := ⟨c.ha, c.res, c.tk, c.tw, below_drew' c.bel d⟩
theorem CX.cells {w W : World} {h : Nat → Int} {gk gw gx : Nat} {T : Nat → Int} (c : CX w W h gk gw T) (h1 : w.heap.size + 1 < gx) (h2 : gk ≠ gx) (h3 : gw ≠ gx) (vs : List Value) : CX w (W.setCells gx 0 vs) h gk gw T :=
  ⟨c.ha.kept (Kp.setCells _ _ _) (by omega), c.res.kept (Kp.setCells _ _ _) (by omega), c.tk.kept (Kp.setCells _ _ _) h2, c.tw.kept (Kp.setCells _ _ _) h3, below_cells c.bel _ _ _ (by omega) c.bel.size⟩
set_option maxRecDepth 8000 in
set_option maxHeartbeats 4000000 in
theorem compress66 (h f : Nat → Int) (v : Value) (n : Nat) (hh : ∀ i, W64 (h i)) (w : World) (hr : By.RB w v n f) (ha : 128 ≤ n) (hn : n ≤ 281474976710656) :
    Calls Tryz.prog 109 #[.agg (wl 8 h).toArray, v] w fun e w' => e = .returned (.agg (wl 8 (comp h f)).toArray) ∧ Below w.heap.size w w' := by
  have HH := hid hh
  have HR := hid hr
  have HF := hid hr.1
  obtain ⟨hf, a, cap, rfl, h1, h2, hc⟩ := hr
  clear hc hf hh
  go_enter Tryz.func109, Tryz.ntmps109
  go_wp2_with fail
  refine (table80 _).mono ?_
  rintro e w1 ⟨rfl, hb1⟩
  have B0 := hid (((Blk.new w (wl 8 h) 120).alloc (.cells (wl 8 (fun _ => 0)).toArray 120)).below hb1)
  have B1 := hid ((Blk.newAt (w.alloc (.cells (wl 8 h).toArray 120)) _ (wl 8 (fun _ => 0)) 120 (w.heap.size + 1) (by simp) h8).below hb1)
  have b1 := hid (below_next (below_next (below_alloc w _) (below_alloc _ _)) hb1)
  clear hb1
  have nb := Blk.newAt w1 _ (wl 80 (fun _ => 0)) 140 w1.heap.size rfl wz64
  have x1 := SVw_run (cs := wl 80 K) (nb.there 0 80 (by rw [wl_length]; omega)) (wl_length _ _) (wl_one _ _)
  have nb2 := nb.put 0 (wl 80 K)
  rw [put_all _ _ (by rw [wl_length, wl_length])] at nb2
  have NB := hid nb2
  clear nb nb2
  go_wp2_with fail
  obtain ⟨W2, hW2⟩ : ∃ x, World.setCells (w1.alloc (.cells Tryz.zeroCells140 140)) w1.heap.size 0 (wl 80 K) = x := ⟨_, rfl⟩
  have z1 := b1.out.size
  have l0 := B0.out.lt
  have l1 := B1.out.lt
  have p0 := (B0.out.alloc (.cells Tryz.zeroCells140 140)).kept (Kp.setCells w1.heap.size 0 (wl 80 K)) (by omega)
  have p1 := (B1.out.alloc (.cells Tryz.zeroCells140 140)).kept (Kp.setCells w1.heap.size 0 (wl 80 K)) (by omega)
  have p2 := below_cells (below_next b1.out (below_alloc w1 (.cells Tryz.zeroCells140 140))) w1.heap.size 0 (wl 80 K) z1 (by rw [size_alloc]; omega)
  rw [hW2] at p0 p1 p2 NB
  rw [hW2]
  obtain ⟨gk, hgk⟩ : ∃ x, w1.heap.size = x := ⟨_, rfl⟩
  rw [hgk] at NB l1
  rw [hgk]
  have P0 := hid p0
  have P1 := hid p1
  have P2 := hid p2
  clear hW2 p0 p1 p2 x1 hgk z1 l0 B0 B1 b1
  refine (schedule72 f _ n _ (HR.out.below P2.out) ha hn).mono ?_
  rintro e w3 ⟨rfl, hb3⟩
  have Q0 := hid (P0.out.below hb3)
  have Q1 := hid (P1.out.below hb3)
  have Q2 := hid (NB.out.below hb3)
  have Q3 := hid (P2.out.trans (hb3.mono P2.out.size))
  have lk := hid Q2.out.lt
  have lr := hid Q1.out.lt
  clear hb3 P0 P1 P2 NB
  have nb := Blk.newAt w3 _ (wl 80 (fun _ => 0)) 140 w3.heap.size rfl wz64
  have x1 := SVw_run (cs := wl 80 (tab f 80)) (nb.there 0 80 (by rw [wl_length]; omega)) (wl_length _ _) (wl_one _ _)
  have nb2 := nb.put 0 (wl 80 (tab f 80))
  rw [put_all _ _ (by rw [wl_length, wl_length])] at nb2
  have NB := hid nb2
  clear nb nb2
  obtain ⟨T, eT⟩ : ∃ T, tab f 80 = T := ⟨_, rfl⟩
  have HT := hid (tab_w f HF.out 80)
  have hT := hid eT
  rw [eT] at HT NB x1
  rw [eT]
  clear eT
  go_upto_region 3 with fail
  obtain ⟨W4, hW4⟩ : ∃ x, World.setCells (w3.alloc (.cells Tryz.zeroCells140 140)) w3.heap.size 0 (wl 80 T) = x := ⟨_, rfl⟩
  have lk' := lk.out
  have lr' := lr.out
  have d4 : CX w W4 h gk w3.heap.size T := by
    rw [← hW4]
    exact ⟨(Q0.out.alloc _).kept (Kp.setCells _ _ _) (by omega), (Q1.out.alloc _).kept (Kp.setCells _ _ _) (by omega), (Q2.out.alloc _).kept (Kp.setCells _ _ _) (by omega), NB.out, below_cells (below_next Q3.out (below_alloc w3 _)) _ _ _ Q3.out.size (by rw [size_alloc]; have := Q3.out.size; omega)⟩
  rw [hW4]
  obtain ⟨gw, hgw⟩ : ∃ x, w3.heap.size = x := ⟨_, rfl⟩
  rw [hgw] at d4 lk' lr'
  rw [hgw]
  have D4 := hid d4
  have l1' := LDh_run (d4.ha.range 0 _ (fun j v h => by rw [Nat.zero_add]; exact h)) (wl_length _ _)
  have nb := Blk.newAt W4 _ (wl 8 (fun _ => 0)) 120 W4.heap.size rfl h8
  have x2 := SVh_run (cs := wl 8 h) (nb.there 0 8 (by rw [wl_length]; omega)) (wl_length _ _) (wl_one _ _)
  have nb2 := nb.put 0 (wl 8 h)
  rw [put_all _ _ (by rw [wl_length, wl_length])] at nb2
  have lw := hid d4.tw.lt
  have NV := hid nb2
  clear hW4 d4 hgw nb nb2 x1 Q0 Q1 Q2 Q3 NB lk lr
  go_wp2_with fail
  obtain ⟨X0, hX0⟩ : ∃ x, World.setCells (W4.alloc (.cells (wl 8 (fun _ => 0)).toArray 120)) W4.heap.size 0 (wl 8 h) = x := ⟨_, rfl⟩
  obtain ⟨gx, hgx⟩ : ∃ x, W4.heap.size = x := ⟨_, rfl⟩
  have lw' := lw.out
  have hgx1 : w.heap.size + 1 < gx := by omega
  have hgx2 : gk ≠ gx := by omega
  have hgx3 : gw ≠ gx := by omega
  have d5 : CX w X0 h gk gw T := by
    rw [← hX0]
    exact ⟨(D4.out.ha.alloc _).kept (Kp.setCells _ _ _) (by omega), (D4.out.res.alloc _).kept (Kp.setCells _ _ _) (by omega), (D4.out.tk.alloc _).kept (Kp.setCells _ _ _) (by omega), (D4.out.tw.alloc _).kept (Kp.setCells _ _ _) (by omega), below_cells (below_next D4.out.bel (below_alloc W4 _)) _ _ _ D4.out.bel.size (by rw [size_alloc]; have := D4.out.bel.size; omega)⟩
  rw [h8, hX0, hgx] at NV
  rw [h8, hX0, hgx]
  have D := hid d5
  clear hX0 hgx lw' d5 D4 l1' x2 lw lk' lr' l1
  go_loopw [8] (fun i wq => ∃ t : Nat, t ≤ 80 ∧ i = .int .i64 t ∧ CX w wq h gk gw T ∧ Blk wq gx (wl 8 (rnds h T t)) 120) (fun i _ => 80 - (intOf i).toNat)
  case atStart => exact ⟨0, by omega, rfl, D.out, NV.out⟩
  case round =>
    clear D NV
    obtain ⟨t, ht, rfl, hc, hx⟩ := hrel
    have D := hid hc
    have X := hid hx
    have HX := hid (rnds_w h T HH.out t)
    clear hc hx
    by_cases hlt : t < 80
    · have ck := D.out.tk.cell t _ (wl_get 80 K t hlt)
      have ct := D.out.tw.cell t _ (wl_get 80 T t hlt)
      have EX : Hid (rnds h T (t + 1) = stp (rnds h T t) (K t) (T t)) := rfl
      obtain ⟨x, ex⟩ : ∃ x, rnds h T t = x := ⟨_, rfl⟩
      rw [ex] at X HX EX
      obtain ⟨kt, ekt⟩ : ∃ x, K t = x := ⟨_, rfl⟩
      rw [ekt] at ck EX
      obtain ⟨tt, ett⟩ : ∃ x, T t = x := ⟨_, rfl⟩
      rw [ett] at ct EX
      clear ex ekt ett
      have c0 := X.out.cell 0 _ (wl_get 8 x 0 (by omega))
      have c1 := X.out.cell 1 _ (wl_get 8 x 1 (by omega))
      have c2 := X.out.cell 2 _ (wl_get 8 x 2 (by omega))
      have c3 := X.out.cell 3 _ (wl_get 8 x 3 (by omega))
      have c4 := X.out.cell 4 _ (wl_get 8 x 4 (by omega))
      have c5 := X.out.cell 5 _ (wl_get 8 x 5 (by omega))
      have c6 := X.out.cell 6 _ (wl_get 8 x 6 (by omega))
      have c7 := X.out.cell 7 _ (wl_get 8 x 7 (by omega))
      have s1 := fun d => SVh_run (w := wr.drewN d) (cs := [.int .u64 (IntKind.u64.wrap (pp x kt tt + qq x)), .int .u64 (x 0), .int .u64 (x 1), .int .u64 (x 2), .int .u64 (IntKind.u64.wrap (x 3 + pp x kt tt)), .int .u64 (x 4), .int .u64 (x 5), .int .u64 (x 6)]) ((X.out.drewN d).there 0 8 (by rw [wl_length]; omega)) rfl (by intro u hu; simp at hu; rcases hu with rfl | rfl | rfl | rfl | rfl | rfl | rfl | rfl <;> rfl)
      have eP : Hid (IntKind.u64.wrap (IntKind.u64.wrap (IntKind.u64.wrap (IntKind.u64.wrap (x 7 + bits .xor .u64 (bits .xor .u64 (rr (x 4) 14) (rr (x 4) 18)) (rr (x 4) 41)) + bits .xor .u64 (bits .and .u64 (x 4) (x 5)) (bits .and .u64 (bits .xor .u64 (if IntKind.u64.signed = true then -1 else IntKind.u64.max) (x 4)) (x 6))) + kt) + tt) = pp x kt tt) := rfl
      have eQ : Hid (IntKind.u64.wrap (bits .xor .u64 (bits .xor .u64 (rr (x 0) 28) (rr (x 0) 34)) (rr (x 0) 39) + bits .xor .u64 (bits .xor .u64 (bits .and .u64 (x 0) (x 1)) (bits .and .u64 (x 0) (x 2))) (bits .and .u64 (x 1) (x 2))) = qq x) := rfl
      go_wp2_with fail
      go_quiet ((go_at_call 119; (first | with_reducible refine (right81 (x 4) 14 _ (HX.out _) (by omega) (by omega)).mono ?_ | with_reducible refine (right81 (x 4) 18 _ (HX.out _) (by omega) (by omega)).mono ?_ | with_reducible refine (right81 (x 4) 41 _ (HX.out _) (by omega) (by omega)).mono ?_); rintro e w4 ⟨rfl, rfl⟩; exact ⟨rfl, _, rfl⟩))
      rw [eP.out]
      go_wp2_with fail
      go_quiet ((go_at_call 119; (first | with_reducible refine (right81 (x 0) 28 _ (HX.out _) (by omega) (by omega)).mono ?_ | with_reducible refine (right81 (x 0) 34 _ (HX.out _) (by omega) (by omega)).mono ?_ | with_reducible refine (right81 (x 0) 39 _ (HX.out _) (by omega) (by omega)).mono ?_); rintro e w4 ⟨rfl, rfl⟩; exact ⟨rfl, _, rfl⟩))
      rw [eQ.out]
      go_wp2
      refine ⟨⟨t + 1, by omega, by go_num, (D.out.drewN _).cells hgx1 hgx2 hgx3 _, ?_⟩, by simp [intOf]; omega⟩
      have b4 := fun d => (X.out.drewN d).put 0 [.int .u64 (IntKind.u64.wrap (pp x kt tt + qq x)), .int .u64 (x 0), .int .u64 (x 1), .int .u64 (x 2), .int .u64 (IntKind.u64.wrap (x 3 + pp x kt tt)), .int .u64 (x 4), .int .u64 (x 5), .int .u64 (x 6)]
      rw [EX.out, wl8]
      have b5 := b4 (by assumption)
      rw [put_all _ _ (by rw [wl_length]; rfl)] at b5
      exact b5
    · have et : t = 80 := by omega
      subst et
      obtain ⟨Y, eY⟩ : ∃ Y, rnds h T 80 = Y := ⟨_, rfl⟩
      have HC2 : Hid (∀ i, comp h f i = ad (h i) (Y i)) := fun i => by unfold comp; rw [hT.out, eY]
      rw [eY] at X
      clear eY HX
      have E0 := hid D.out.ha
      have E1 := hid D.out.res
      have E2 := hid D.out.bel
      go_wp2_with fail
      go_loopw [13] (fun i wq => ∃ k : Nat, k ≤ 8 ∧ i = .int .i64 k ∧ Blk wq w.heap.size (wl 8 (hI h Y k)) 120 ∧ Blk wq (w.heap.size + 1) (wl 8 (fun _ => 0)) 120 ∧ Blk wq gx (wl 8 Y) 120 ∧ Below w.heap.size w wq) (fun i _ => 8 - (intOf i).toNat)
      case atStart => exact ⟨0, by omega, rfl, E0.out, E1.out, X.out, E2.out⟩
      case round =>
        clear E0 E1 X E2 D
        obtain ⟨k, hk, rfl, h1', h2', h3', h4'⟩ := hrel
        have E0 := hid h1'
        have E1 := hid h2'
        have X := hid h3'
        have E2 := hid h4'
        have z0 := h1'.lt
        clear h1' h2' h3' h4'
        by_cases hlk : k < 8
        · have c1 := E0.out.cell k _ (wl_get 8 _ k hlk)
          have c2 := X.out.cell k _ (wl_get 8 _ k hlk)
          have cf := E0.out.frozen k
          have ev : hI h Y k k = h k := by unfold hI; rw [if_neg (by omega)]
          rw [ev] at c1
          clear ev
          go_wp2_with fail
          go_region
          go_wp2
          refine ⟨⟨k + 1, by omega, by go_num, ?_, (E1.out.other (by omega) _ _).drewN 1, (X.out.other (by omega) _ _).drewN 1, below_drew' (below_set E2.out _ _ _ (Nat.le_refl _) E2.out.size) 1⟩, by simp [intOf]; omega⟩
          rw [← hI_set h Y k _ rfl]
          exact (E0.out.set k _).drewN 1
        · have ek : k = 8 := by omega
          subst ek
          have eh : wl 8 (hI h Y 8) = wl 8 (comp h f) := wl_congr _ _ _ (fun q hq => by unfold hI; rw [if_pos hq, HC2.out])
          rw [eh] at E0
          clear eh
          have l1 := LDh_run (E0.out.range 0 _ (fun j v h => by rw [Nat.zero_add]; exact h)) (wl_length _ _)
          have s1 := SVh_run (cs := wl 8 (comp h f)) (E1.out.there 0 8 (by rw [wl_length]; omega)) (wl_length _ _) (wl_one _ _)
          have b3 := E1.out.put 0 (wl 8 (comp h f))
          rw [put_all _ _ (by rw [wl_length, wl_length])] at b3
          have l2 := hid (LDh_run (b3.range 0 _ (fun j v h => by rw [Nat.zero_add]; exact h)) (wl_length _ _))
          clear b3
          go_wp2
          refine bodyPost_ret (v := .agg (wl 8 (comp h f)).toArray) ?_ rfl ⟨rfl, below_cells E2.out _ _ _ (by omega) E2.out.size⟩
          exact results_cell1 Tryz.results109 rfl l2.out
end Go.Proofs.YtjhhnajgfngbhaaGreatDoor.Sg
namespace Go.Proofs.YtjhhnajgfngbhaaGreatDoor.Sg
open Go.ChangeShapes Go.WideShapes Go.ChangeAt Go.RowKit
open Go.Proofs.YtjhhnajgfngbhaaGreatDoor.By Go.Proofs.YtjhhnajgfngbhaaGreatDoor.Wd

theorem rb_one (w : World) (x : Int) (hx : 0 ≤ x ∧ x < 256) : By.RB (w.alloc (.cells #[.int .u8 x] 5)) (.slice (some ⟨w.heap.size, 0, none⟩) 1 1) 1 (fun _ => x) :=
  rb_blk (Blk.newAt w _ (bl 1 (fun _ => x)) 5 _ rfl (by rw [← bl_singleton])) (fun _ => hx) (by decide)
theorem cat_one (n : Nat) (f F : Nat → Int) (x : Int) (h1 : ∀ i, i < n → f i = F i) (h2 : x = F n) (i : Nat) (hi : i < n + 1) : cat n f (fun _ => x) i = F i := by
  unfold cat
  split
  · exact h1 i (by assumption)
  · rw [h2, show i = n from by omega]
theorem p256 (j : Nat) : (2 : Int) ^ (8 * j) = 256 ^ j := by
  have h := congrArg (fun n : Nat => (n : Int)) (pow256 j)
  simp only [Int.natCast_pow] at h
  exact h.symm
theorem be_eq (W : Nat) (x : Int) (k : Nat) : x / 2 ^ (8 * (W - 1 - k)) % 256 = beByte W x k := by unfold beByte; rw [p256]
set_option maxRecDepth 4000 in
set_option maxHeartbeats 2000000 in
theorem number60 (x : Int) (_hx : 0 ≤ x) (w : World) :
    Calls Tryz.prog 94 #[.int .u64 x] w fun e w' => ∃ v, e = .returned v ∧ By.Own w' w.heap.size v 8 (beByte 8 x) ∧ Below w.heap.size w w' := by
  go_enter Tryz.func94, Tryz.ntmps94
  go_wp2_with fail
  go_loopw [3, 4] (fun v i wr => ∃ k : Nat, k ≤ 8 ∧ i = .int .i64 (7 - (k : Int)) ∧ By.Own wr w.heap.size v k (beByte 8 x) ∧ Below w.heap.size w wr) (fun _ i _ => (intOf i + 1).toNat)
  case atStart => exact ⟨0, by omega, rfl, By.own_nil _ _ _ (beByte_bound 8 x), Below.refl _ _⟩
  case round =>
    obtain ⟨k, hk, rfl, hown, hbel⟩ := hrel
    have O := hid hown
    have b := hid hbel
    clear hown hbel
    by_cases hlk : k < 8
    · have e5 : (8 * (7 - (k : Int))).toNat = 8 * (7 - k) := by omega
      have e6 : (0 : Int) ≤ 7 - k := by omega
      have e7 : (0 : Int) ≤ 8 * (7 - k) := by omega
      have hx : Hid (x / 2 ^ (8 * (7 - k)) % 256 = beByte 8 x k) := be_eq 8 x k
      have hxb : Hid (0 ≤ x / 2 ^ (8 * (7 - k)) % 256 ∧ x / 2 ^ (8 * (7 - k)) % 256 < 256) := by
        show 0 ≤ x / 2 ^ (8 * (7 - k)) % 256 ∧ x / 2 ^ (8 * (7 - k)) % 256 < 256; omega
      go_wp2_with (at_builtin; go_must (refine wpList_cat rfl _ _ rfl w.heap.size k 1 _ _ (beByte 8 x) (fun _ => x / 2 ^ (8 * (7 - k)) % 256) rfl (own_below O.out (below_alloc wr _)) rfl (rb_one wr _ hxb.out) (by omega) (Nat.le_trans b.out.size (below_alloc wr _).size) ?_))
      intro v4 w4 hv4 hg4
      have O4 := hid (own_congr hv4 (beByte_bound 8 x) (cat_one _ (beByte 8 x) (beByte 8 x) _ (fun _ _ => rfl) hx.out))
      have b4 := hid (below_grow (below_next b.out (below_alloc wr (.cells #[.int .u8 (x / 2 ^ (8 * (7 - k)) % 256)] 5))) (Nat.le_trans b.out.size (below_alloc wr _).size) (own_below O.out (below_alloc wr (.cells #[.int .u8 (x / 2 ^ (8 * (7 - k)) % 256)] 5))) hg4)
      clear hv4 hg4
      go_wp2
      go_roundw
      case rel => exact ⟨k + 1, by omega, by go_num, O4.out, b4.out⟩
      case measure => simp [intOf]; omega
    · have ek : k = 8 := by omega
      subst ek
      go_wp2
      go_ret
      exact ⟨_, rfl, O.out, b.out⟩

set_option maxRecDepth 4000 in
set_option maxHeartbeats 2000000 in
theorem rlaid58 (h : Nat → Int) (hh : ∀ i, W64 (h i)) (w : World) :
    Calls Tryz.prog 95 #[.agg (wl 8 h).toArray] w fun e w' => ∃ v, e = .returned v ∧ By.Own w' w.heap.size v 64 (lf h) ∧ Below w.heap.size w w' := by
  have HH := hid hh
  clear hh
  go_enter Tryz.func95, Tryz.ntmps95
  go_wp2_with fail
  go_loopw [3, 4] (fun v i wr => ∃ k : Nat, k ≤ 8 ∧ i = .int .i64 k ∧ Blk wr w.heap.size (wl 8 h) 120 ∧ By.Own wr (w.heap.size + 1) v (8 * k) (lf h) ∧ Below w.heap.size w wr) (fun _ i _ => 8 - (intOf i).toNat)
  case atStart => exact ⟨0, by omega, rfl, Blk.new w _ _, By.own_nil _ _ _ (lf_bound h), below_alloc w _⟩
  case round =>
    obtain ⟨k, hk, rfl, b0, hown, hbel⟩ := hrel
    have B0 := hid b0
    have O := hid hown
    have b := hid hbel
    have z0 := hid b0.lt
    clear b0 hown hbel
    by_cases hlt : k < 8
    · have c1 := B0.out.cell k _ (wl_get 8 h k hlt)
      go_wp2_with fail
      refine (number60 (h k) (HH.out k).1 _).mono ?_
      rintro e w1 ⟨u, rfl, hu, hb1⟩
      have HU := hid hu.reads
      have O1 := hid (own_below O.out hb1)
      have b1 := hid (b.out.trans (hb1.mono b.out.size))
      have B1 := hid (B0.out.below hb1)
      have z1 := hid (Nat.lt_of_lt_of_le z0.out hb1.size)
      clear hu hb1 c1
      go_wp2_with (at_builtin; go_must (refine wpList_cat rfl _ _ rfl (w.heap.size + 1) (8 * k) 8 _ _ (lf h) (beByte 8 (h k)) rfl O1.out rfl HU.out (by omega) z1.out ?_))
      intro v4 w4 hv4 hg4
      have O4 := hid (own_congr hv4 (lf_bound h) (fun i hi => by rw [lf_next, if_pos hi]))
      have b4 := hid (b1.out.grown hg4 (by have := z1.out; omega) (fun q hq => by have := own_row O1.out q hq; omega))
      have B4 := hid (B1.out.kept (Kp.of_grown hg4) (fun e => by have := own_row O1.out _ e; omega))
      clear hv4 hg4
      go_wp2
      go_roundw
      case rel => exact ⟨k + 1, by omega, by go_num, B4.out, O4.out, b4.out⟩
      case measure => simp [intOf]; omega
    · have ek : k = 8 := by omega
      subst ek
      go_wp2
      go_ret
      exact ⟨_, rfl, own_mono O.out (by omega), b.out⟩
end Go.Proofs.YtjhhnajgfngbhaaGreatDoor.Sg
namespace Go.Proofs.YtjhhnajgfngbhaaGreatDoor.Sg
open Go.ChangeShapes Go.WideShapes Go.ChangeAt Go.RowKit
open Go.Proofs.YtjhhnajgfngbhaaGreatDoor.By Go.Proofs.YtjhhnajgfngbhaaGreatDoor.Wd

theorem zeroCells_bl (m : Nat) : Builtin.zeroCells #[Value.int .u8 0] m = (bl m (fun _ => 0)).toArray := by
  apply Array.ext'
  apply List.ext_getElem?
  intro i
  by_cases h : i < m
  · rw [bl_get m _ i h]
    simp [Builtin.zeroCells, h, Nat.mod_one]
  · rw [List.getElem?_eq_none (by simp [Builtin.zeroCells]; omega), List.getElem?_eq_none (by rw [bl_length]; omega)]
theorem run_zeros (w : World) (ty : TypeId) (base g n cap m : Nat) (f : Nat → Int) (hown : By.Own w base (.slice (some ⟨g, 0, none⟩) n cap) n f) (h : n + m ≤ 140737488355328) (hb : base ≤ w.heap.size) :
    ∃ v' w', (Builtin.append_ #[22, 3] ty #[.slice (some ⟨g, 0, none⟩) n cap, .int .i64 (m : Int)]).run Tryz.prog w = .ok v' w' ∧ By.Own w' base v' (n + m) (cat n f (fun _ => 0)) ∧ w.grownBy w' (some g) := by
  obtain ⟨i0, hi, hz0, hz1, hz2⟩ := info_parts info5
  have hcat : bl n f ++ bl m (fun _ => 0) = bl (n + m) (cat n f (fun _ => 0)) := bl_append n m f _
  obtain ⟨hf, hl, hc | ⟨g', cap', cur, e, hbg, hg, hnc, hcm, hcs, htake⟩⟩ := hown
  · cases hc.1
  · simp only [Value.slice.injEq, Option.some.injEq, Addr.mk.injEq, and_true, true_and] at e
    obtain ⟨rfl, rfl⟩ := e
    rw [Nat.mul_one] at hcs htake
    have hw : IntKind.i64.wrap (m : Int) = m := by rw [IntKind.wrap_i64]; omega
    have hneg : ¬ ((m : Int) < 0) := by omega
    have hbk : Blk w g cur.toList 5 := by show w.heap[g]? = _; rw [hg]
    have h48i : ¬ (281474976710656 < (m : Int)) := by omega
    have htn : Tryz.prog.underlying 3 = some (.int .i64) := Tryz.underlying3
    by_cases hroom : n + m ≤ cap
    · have hst := run_storeCells_cells (P := Tryz.prog) g n (bl m (fun _ => 0)) 0 w (fun j hj => by rw [bl_length] at hj; exact (hbk.there n m (by simp; omega) j hj).1) (fun j hj => hbk.frozen _) (bl_one m _)
      refine ⟨.slice (some ⟨g, 0, none⟩) (n + m) cap, w.setCells g n (bl m (fun _ => 0)), ?_, ⟨cat_bound hf (fun _ => by decide), by rw [bl_length]; omega, .inr ⟨g, cap, (put cur.toList n (bl m (fun _ => 0))).toArray, rfl, hbg, hbk.put n _, hroom, hcm, ?_, ?_⟩⟩, ?_⟩
      · by_cases hm : m = 0
        · subst hm
          have hw0 : IntKind.i64.wrap 0 = 0 := by rw [IntKind.wrap_i64]; rfl
          simp [Builtin.append_, run_underlying Tryz.underlying22, run_underlying htn, sizeOf, typeInfo, zeroValue, hi, hz0, hz2, asInt, asIntOf, hw0, hnc, storeCells, World.setCells, bl]
        · have hns : ¬ (m * 1 = 0) := by omega
          simp [Builtin.append_, run_underlying Tryz.underlying22, run_underlying htn, sizeOf, typeInfo, zeroValue, hi, hz0, hz1, hz2, asInt, asIntOf, hw, hneg, h48i, hroom, hm, Value.cells, zeroCells_bl, By.add_plain]
          rw [Nat.add_zero] at hst
          rw [hst]
          rfl
      · simp [put_length, hcs]
      · rw [← hcat, Nat.mul_one]
        apply List.ext_getElem?
        intro i
        rw [List.getElem?_take]
        by_cases hi : i < n + m
        · rw [if_pos hi]
          show (put cur.toList n (bl m (fun _ => 0)))[i]? = _
          rw [put_get _ _ _ _ (by rw [bl_length]; simp; omega), bl_length]
          by_cases h2 : i < n
          · rw [if_neg (by omega), List.getElem?_append_left (by rw [bl_length]; omega), ← htake, List.getElem?_take, if_pos h2]
          · rw [if_pos (by omega), List.getElem?_append_right (by rw [bl_length]; omega), bl_length]
        · rw [if_neg hi, List.getElem?_eq_none (by rw [List.length_append, bl_length, bl_length]; omega)]
      · have hk := Kp.setCells (w := w) g n (bl m (fun _ => 0))
        exact ⟨hk.os, hk.tape, hk.output, hk.size, fun k hk' hne => hk.block k hk' (fun e => hne (by rw [show k = g from e]))⟩
    · have hge := grownCap_ge w (n + m) cap 5
      have hcm2 : grownCap w (n + m) cap 5 ≤ maxLen := grownCap_le_maxLen w (n + m) cap 5 (by simp [maxLen]; omega)
      have hfo := run_firstCells_some (P := Tryz.prog) w.drew 1 n ⟨g, 0, none⟩ n cap (bl n f) (by rw [bl_length]; omega) (fun j v hj => by
        obtain ⟨hj1, rfl⟩ := bl_get_inv _ _ _ _ hj
        rw [By.add_plain, Nat.zero_add]
        refine (hbk.drewN 1).cell j _ ?_
        have : (cur.toList.take n)[j]? = some (.int .u8 (f j)) := by rw [htake]; exact bl_get n f j hj1
        rwa [List.getElem?_take, if_pos hj1] at this)
      have h63' : ¬ (9223372036854775807 < ((n : Int) + (m : Int))) := by omega
      have h48' : ¬ (281474976710656 < Builtin.nextslicecap (n + m) cap * 1) := by
        have := growslice_fits (need := n + m) (old := cap) (bytes := 1) (by omega) (by omega); omega
      have hm : m ≠ 0 := by omega
      have hns : ¬ (m * 1 = 0) := by omega
      refine ⟨.slice (some ⟨w.heap.size, 0, none⟩) (n + m) (grownCap w (n + m) cap 5), w.drew.alloc (.cells ((bl n f).toArray ++ (bl m (fun _ => 0)).toArray ++ Builtin.zeroCells #[Value.int .u8 0] (grownCap w (n + m) cap 5 - (n + m))) 5), ?_, ⟨cat_bound hf (fun _ => by decide), by rw [bl_length]; omega, .inr ⟨w.heap.size, _, _, rfl, hb, heap_alloc_last w.drew _, hge, hcm2, ?_, ?_⟩⟩, ?_⟩
      · rw [Nat.mul_one] at h48'
        simp [Builtin.append_, run_underlying Tryz.underlying22, run_underlying htn, sizeOf, typeInfo, zeroValue, hi, hz0, hz1, hz2, asInt, asIntOf, hw, hneg, h48i, hroom, hm, Value.cells, h63', h48', Question.forced, hfo, newRow, grownCap, zeroCells_bl]
      · simp [size_zeroCells, bl_length]; omega
      · rw [← hcat, Nat.mul_one]
        simp only [Array.toList_append, List.append_assoc]
        rw [← List.append_assoc]
        rw [show n + m = (bl n f ++ bl m (fun _ => 0)).length from by rw [List.length_append, bl_length, bl_length]]
        exact List.take_left
      · exact ⟨rfl, rfl, rfl, by simp, fun k hk _ => heap_alloc_old w.drew _ hk⟩
/-- The same within a walk. -/
theorem wpList_zeros {w : World} {ops : Array Oper} {rest : List Oper} {o : Oper} {a : Act} {Q : Exit → Act → World → Prop} (hgd : o.guard = none) (s x : Operand)
    (ho : o.op = .call { callee := .builtin .append, args := #[s, x], argTypes := #[22, 3] })
    (base n m : Nat) (v : Value) (f : Nat → Int) (hs : a.eval s = v) (hv : By.Own w base v n f) (hx : a.eval x = .int .i64 (m : Int)) (h0 : 0 < n) (hn : n + m ≤ 140737488355328) (hb : base ≤ w.heap.size)
    (h : ∀ v' w', By.Own w' base v' (n + m) (cat n f (fun _ => 0)) → w.grownBy w' v.ownBlock → wpList Tryz.prog ops Q rest (a.put o.dst v') w') : wpList Tryz.prog ops Q (o :: rest) a w := by
  obtain ⟨g, cap, rfl, -⟩ := own_cells hv h0
  obtain ⟨v', w', hr, ho', hg'⟩ := run_zeros w o.type base g n cap m f hv hn hb
  exact Lib.wpList_append_run w hgd s x _ _ ho _ _ hs hx v' w' hr (h v' w' ho' hg')
end Go.Proofs.YtjhhnajgfngbhaaGreatDoor.Sg
