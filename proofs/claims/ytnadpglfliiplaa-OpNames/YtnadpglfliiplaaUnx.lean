/- Next and Decode of the document. -/
import Derived.Test.YtnadpglfliiplaaUde
namespace Go.Proofs.Ytnadpglfliiplaa.Ou
open Go.ChangeShapes Go.WideShapes Go.ChangeAt Go.RowKit
open Go.Proofs.Ytnadpglfliiplaa.By
open Go.Proofs.Ytnadpglfliiplaa.Tb (Blk Blk.newAt)
theorem iwrap (x : Int) (h0 : 0 ≤ x) (h1 : x < 18446744073709551616) : IntKind.i64.wrap x = sg x := by
  rw [← wrap_i64 x h0 h1]
  simp [IntKind.wrap, IntKind.bits, IntKind.signed, wrap64]
  split <;> omega
/-- A part of a list, as it is cut out. -/
theorem slice_mid {w : World} {b off n cap : Nat} {f : Nat → Int} (h : By.RB w (.slice (some ⟨b, off, none⟩) n cap) n f) (o k : Nat) (ho : o + k ≤ n) :
    ∃ off', (if cap = o then some (⟨b, off, none⟩ : Addr) else some ⟨b, off + o, none⟩) = some ⟨b, off', none⟩ ∧ By.RB w (.slice (some ⟨b, off', none⟩) k (cap - o)) k (sh o f) := by
  obtain ⟨o', h1, h2⟩ := slice_from h o (by omega) (rb_cap h) (rb_max h)
  exact ⟨o', h1, h2.first k (by omega)⟩
/-- The end of Next. -/
theorem next_end {w W2 V1 V2 : World} {h0 : Nat} {f : Nat → Int} {d m : Value} (kb : Blk W2 w.heap.size zA.toList 26) (bb : Below w.heap.size w W2) (ko : Blk W2 h0 (oL (nu f) (.slice none 0 0) (.slice none 0 0)) 26) (hh : w.heap.size < h0)
    (o1 : By.Own V1 W2.heap.size d (dl f) (sh 32 f)) (n1 : Below W2.heap.size W2 V1) (o2 : By.Own V2 (V1.setCell ⟨h0, 5, none⟩ d).heap.size m (ml f) (sh (32 + dl f) f)) (n2 : Below (V1.setCell ⟨h0, 5, none⟩ d).heap.size (V1.setCell ⟨h0, 5, none⟩ d) V2) :
    Blk (V2.setCell ⟨h0, 6, none⟩ m) h0 (oL (nu f) d m) 26 ∧ ∃ W', (SVo ⟨w.heap.size, 0, none⟩ (ov (nu f) d m)).run Try.prog (V2.setCell ⟨h0, 6, none⟩ m) = .ok () W' ∧ (LDo ⟨w.heap.size, 0, none⟩).run Try.prog W' = .ok (ov (nu f) d m) W' ∧ Told w W' true f d m := by
  have hk1 : Kp (fun j => j = h0) V1 (V1.setCell ⟨h0, 5, none⟩ d) := Kp.setCell h0 5 d
  have hk2 : Kp (fun j => j = h0) V2 (V2.setCell ⟨h0, 6, none⟩ m) := Kp.setCell h0 6 m
  have l0 := ko.lt
  have e1 := n1.size
  have e2 : (V1.setCell ⟨h0, 5, none⟩ d).heap.size = V1.heap.size := by simp [World.setCell]
  have e3 := n2.size
  have e4 : (V2.setCell ⟨h0, 6, none⟩ m).heap.size = V2.heap.size := by simp [World.setCell]
  have k1 : Blk (V1.setCell ⟨h0, 5, none⟩ d) h0 (oL (nu f) d (.slice none 0 0)) 26 := (ko.below n1).set 5 d
  have k2 : Blk (V2.setCell ⟨h0, 6, none⟩ m) h0 (oL (nu f) d m) 26 := (k1.below n2).set 6 m
  have kr : Blk (V2.setCell ⟨h0, 6, none⟩ m) w.heap.size zA.toList 26 := (((kb.below n1).kept hk1 (by omega)).below n2).kept hk2 (by omega)
  obtain ⟨W', hs, hB', hk⟩ := SVo_run kr rfl (q := nu f) (d := d) (m := m) (own_one o1) (own_one o2)
  have b3 : Below w.heap.size w V1 := below_next bb n1
  have b4 : Below w.heap.size w (V1.setCell ⟨h0, 5, none⟩ d) := b3.trans (hk1.below b3.size (fun j hj => by omega))
  have b5 : Below w.heap.size w V2 := below_next b4 n2
  have b6 : Below w.heap.size w (V2.setCell ⟨h0, 6, none⟩ m) := b5.trans (hk2.below b5.size (fun j hj => by omega))
  have b7 : Below w.heap.size w W' := b6.trans (hk.below b6.size (fun j hj => Nat.ne_of_lt hj))
  have q1 := own_row o1
  have q2 := own_row o2
  have q3 := own_lt o1
  have p1 : By.Own W' W2.heap.size d (dl f) (sh 32 f) := own_keptB (own_keptB (own_below (own_keptB o1 hk1 (fun j e h => by have := q1 j e; omega)) n2) hk2 (fun j e h => by have := q1 j e; omega)) hk (fun j e h => by have := q1 j e; omega)
  have p2 : By.Own W' (V1.setCell ⟨h0, 5, none⟩ d).heap.size m (ml f) (sh (32 + dl f) f) := own_keptB (own_keptB o2 hk2 (fun j e h => by have := q2 j e; omega)) hk (fun j e h => by have := q2 j e; omega)
  refine ⟨k2, W', hs, LDo_run hB', own_base p1 (by have := bb.size; omega), own_base p2 (by have := bb.size; omega), ?_, b7⟩
  exact own_apart o1 (by omega) o2
set_option maxRecDepth 4000 in
set_option maxHeartbeats 1600000 in
theorem rnext_big (b off n cap : Nat) (f : Nat → Int) (w : World) (hr : By.RB w (.slice (some ⟨b, off, none⟩) n cap) n f) (hn : n ≤ 140737488355328) (h32 : ¬ (n : Int) < 32) :
    Calls Try.prog 26 #[.slice (some ⟨b, off, none⟩) n cap] w fun e w' => ∃ d m, e = .returned (.tuple #[ov (dq (decide (zl f ≤ n)) f) d m, .int .i64 (dK (decide (zl f ≤ n)) f), .int .i64 (dE (decide (zl f ≤ n)))]) ∧ Told w w' (decide (zl f ≤ n)) f d m := by
  have c1 := rb_cap hr
  have c2 := rb_max hr
  have s1 : (29 : Int) ≤ cap := by omega
  have s2 : (32 : Int) ≤ cap := by omega
  obtain ⟨W0, hW0⟩ : ∃ W, w.alloc (.cells #[Value.int IntKind.u8 0, Value.int IntKind.i64 0, Value.int IntKind.u8 0, Value.int IntKind.i64 0, Value.int IntKind.i64 0, Value.slice none 0 0, Value.slice none 0 0] 26) = W := ⟨_, rfl⟩
  have kb : Hid (Blk W0 w.heap.size zA.toList 26) := by rw [← hW0]; exact Blk.newAt w _ _ 26 w.heap.size rfl rfl
  have b0 : Hid (Below w.heap.size w W0) := by rw [← hW0]; exact below_alloc w _
  have z0 : Hid (w.heap.size < W0.heap.size) := by show w.heap.size < W0.heap.size; rw [← hW0]; simp
  have P1 := hid ((rb_part hr 26 3 (cap - 26) (by omega) (by omega) (by omega)).below b0.out)
  have P2 := hid ((rb_part hr 29 3 (cap - 29) (by omega) (by omega) (by omega)).below b0.out)
  have x1 := dl_lt hr.1
  have y1 := ml_lt hr.1
  obtain ⟨x, hx⟩ : ∃ x, dl f = x := ⟨_, rfl⟩
  obtain ⟨y, hy⟩ : ∃ y, ml f = y := ⟨_, rfl⟩
  rw [hx] at x1
  rw [hy] at y1
  have xl := x1.1
  have yl := y1.1
  have X2 := hid x1.2
  have Y2 := hid y1.2
  have HR := hid hr
  have HX := hid hx
  have HY := hid hy
  clear hr x1 y1
  go_enter Try.func26, Try.ntmps26
  go_wp2_with fail
  refine (taken_ok _ 3 (sh 26 f) W0 P1.out (by omega)).mono ?_
  rintro e W ⟨rfl, hw⟩
  rw [hw, X2.out]
  clear hw
  go_wp2_with fail
  refine (taken_ok _ 3 (sh 29 f) W0 P2.out (by omega)).mono ?_
  rintro e W ⟨rfl, hw⟩
  rw [hw, Y2.out]
  clear hw
  by_cases hle : zl f ≤ n
  · have E : Hid (decide (zl f ≤ n) = true) := by show decide (zl f ≤ n) = true; simpa using hle
    have ZL : Hid ((zl f : Int) = 32 + x + y) := by show (zl f : Int) = _; have : zl f = 32 + dl f + ml f := rfl; omega
    have g1 : ¬ (n : Int) < 32 + x + y := by have := ZL.out; omega
    have g2 : 32 + x + y ≤ n := by omega
    have v7 : (0 : Int) < (n : Int) := by omega
    have v8 : (1 : Int) < (n : Int) := by omega
    have v7' : 0 < n := by omega
    have s3 : (10 : Int) ≤ cap := by omega
    have s4 : (18 : Int) ≤ cap := by omega
    have s5 : (26 : Int) ≤ cap := by omega
    have s6 : (32 : Int) + x ≤ cap := by omega
    have s7 : (32 : Int) + x + y ≤ cap := by omega
    have u2 : ¬ cap = 2 := by omega
    have u10 : ¬ cap = 10 := by omega
    have u18 : ¬ cap = 18 := by omega
    have hr := HR.out
    obtain ⟨o1, q1, L1⟩ := slice_mid hr 32 x (by omega)
    have D1 := hid L1
    have M1 : Hid (cap = 32 + x → By.RB w (.slice (some ⟨b, off, none⟩) y 0) y (sh (32 + x) f)) := fun h => ⟨sh_bound hr.1 _, _, _, rfl, by omega, by omega, .inl ⟨by omega, fun e => by cases e⟩⟩
    have M2 := hid (rb_part hr (32 + x) y (cap - (32 + x)) (by omega) (by omega) (by omega))
    have B8 := fun o => BE_lt8 (sh o f) (sh_bound hr.1 o) 8 (Nat.le_refl _)
    have w1 : IntKind.i64.wrap (BE (sh 2 f) 8) = (nu f).h := (iwrap _ (B8 2).1 (B8 2).2)
    have w2 : IntKind.i64.wrap (BE (sh 10 f) 8) = (nu f).c := (iwrap _ (B8 10).1 (B8 10).2)
    have w3 : IntKind.i64.wrap (BE (sh 18 f) 8) = (nu f).o := (iwrap _ (B8 18).1 (B8 18).2)
    obtain ⟨W1, hW1⟩ : ∃ W, (W0.alloc (.cells zA 26)).drew = W := ⟨_, rfl⟩
    have bd : Below w.heap.size w W0.drew := b0.out.drew
    have b1 : Below w.heap.size w W1 := by rw [← hW1]; exact (below_next b0.out (below_alloc _ _)).drew
    have T := fun o h => rb_part hr o 8 (cap - o) h (by omega) (by omega)
    have T1a := hid ((T 2 (by omega)).below bd)
    have T2a := hid ((T 10 (by omega)).below bd)
    have T3a := hid ((T 18 (by omega)).below bd)
    have T1b := hid ((T 2 (by omega)).below b1)
    have T2b := hid ((T 10 (by omega)).below b1)
    have T3b := hid ((T 18 (by omega)).below b1)
    have CE : Hid (∀ W, Below w.heap.size w W → W.cell? ⟨b, off, none⟩ = some (.int .u8 (f 0)) ∧ W.cell? ⟨b, off + 1, none⟩ = some (.int .u8 (f 1))) := fun W hW => ⟨by
      have := rb_cell (hr.below hW) (k := 0) (by omega); rwa [Nat.add_zero] at this, rb_cell (hr.below hW) (by omega)⟩
    obtain ⟨c00, c01⟩ := CE.out _ bd
    obtain ⟨c10, c11⟩ := CE.out _ b1
    have kb1 : Blk W1 W0.heap.size zA.toList 26 := by rw [← hW1]; exact Blk.newAt W0 _ _ _ _ rfl rfl
    obtain ⟨W2, t2, K2, hk2⟩ := SVo_run kb1 rfl (q := ⟨f 0, (nu f).h, f 1, (nu f).c, (nu f).o⟩) (d := .slice none 0 0) (m := .slice none 0 0) rfl rfl
    have b2 : Below w.heap.size w W2 := b1.trans (hk2.below b1.size (fun j hj e => by have := z0.out; omega))
    obtain ⟨c20, c21⟩ := CE.out _ b2
    have t2' : (SVo ⟨W0.heap.size, 0, none⟩ (.agg #[Value.int IntKind.u8 (f 0), Value.int IntKind.i64 (nu f).h, Value.int IntKind.u8 (f 1), Value.int IntKind.i64 (nu f).c, Value.int IntKind.i64 (nu f).o, .slice none 0 0, .slice none 0 0])).run Try.prog W1 = .ok () W2 := t2
    have KK2 := hid K2
    have BB2 := hid b2
    have KB2 := hid ((kb.out.below (w' := W1) (by rw [← hW1]; exact (below_alloc _ _).drew)).kept hk2 (by have := z0.out; omega))
    clear hr B8 T bd b1 b2 K2 kb1 t2 hk2 L1
    go_wp2_with fail
    go_region_held3 (fun W => W.cell? ⟨b, off, none⟩ = some (.int .u8 (f 0)) ∧ W.cell? ⟨b, off + 1, none⟩ = some (.int .u8 (f 1))) (go_keep) (first
      | (go_at_call 45; with_reducible refine (taken_ok _ 8 (sh 2 f) _ T1a.out (by omega)).mono ?_; rintro e w4 ⟨rfl, rfl⟩)
      | (go_at_call 45; with_reducible refine (taken_ok _ 8 (sh 2 f) _ T1b.out (by omega)).mono ?_; rintro e w4 ⟨rfl, rfl⟩)
      | (go_at_call 45; with_reducible refine (taken_ok _ 8 (sh 10 f) _ T2a.out (by omega)).mono ?_; rintro e w4 ⟨rfl, rfl⟩)
      | (go_at_call 45; with_reducible refine (taken_ok _ 8 (sh 10 f) _ T2b.out (by omega)).mono ?_; rintro e w4 ⟨rfl, rfl⟩)
      | (go_at_call 45; with_reducible refine (taken_ok _ 8 (sh 18 f) _ T3a.out (by omega)).mono ?_; rintro e w4 ⟨rfl, rfl⟩)
      | (go_at_call 45; with_reducible refine (taken_ok _ 8 (sh 18 f) _ T3b.out (by omega)).mono ?_; rintro e w4 ⟨rfl, rfl⟩))
    all_goals (
      clear c00 c01 c10 c11 c20 c21 w1 w2 w3 T1a T2a T3a T1b T2b T3b t2' hW1 CE
      go_wp2_with fail
      refine (rcopied_ok _ x (sh 32 f) W2 (D1.out.below BB2.out) (by omega)).mono ?_
      rintro e V1 ⟨d, rfl, o1, n1⟩
      obtain ⟨a1, k1, rfl⟩ := own_lit_slice o1
      have p5 := (KK2.out.below n1).cell 5 _ rfl
      have f5 := (KK2.out.below n1).frozen 5
      obtain ⟨V1s, hV1⟩ : ∃ V, V1.setCell ⟨W0.heap.size, 5, none⟩ (.slice a1 x k1) = V := ⟨_, rfl⟩
      have KS : Blk V1s W0.heap.size (oL ⟨f 0, (nu f).h, f 1, (nu f).c, (nu f).o⟩ (.slice a1 x k1) (.slice none 0 0)) 26 := by rw [← hV1]; exact (KK2.out.below n1).set 5 _
      have BS : Below w.heap.size w V1s := by rw [← hV1]; exact (below_next BB2.out n1).trans ((Kp.setCell W0.heap.size 5 _).below (below_next BB2.out n1).size (fun j hj => by have := z0.out; omega))
      have O1 := hid o1
      have N1 := hid n1
      have HV1 := hid hV1
      have KSh := hid KS
      have BSh := hid BS
      clear o1 n1 KS BS
      by_cases hc : cap = 32 + x
      · have M3 := hid (M1.out hc)
        clear M1 M2
        subst hc
        go_wp2_with fail
        clear hV1 p5 f5
        refine (rcopied_ok _ y (sh (32 + x) f) V1s (M3.out.below BSh.out) (by omega)).mono ?_
        rintro e V2 ⟨m, rfl, o2, n2⟩
        obtain ⟨a2, k2, rfl⟩ := own_lit_slice o2
        have p6 := (KSh.out.below n2).cell 6 _ rfl
        have f6 := (KSh.out.below n2).frozen 6
        have hx' : dl f = x := HX.out
        have hy' : ml f = y := HY.out
        obtain ⟨kF, W', s', l', t'⟩ := next_end (d := .slice a1 x k1) (m := .slice a2 y k2) (f := f) KB2.out BB2.out KK2.out z0.out (by rw [hx']; exact O1.out) N1.out (by rw [HV1.out, hx', hy']; exact o2) (by rw [HV1.out]; exact n2)
        clear hx' hy'
        obtain ⟨V2s, hV2⟩ : ∃ V, V2.setCell ⟨W0.heap.size, 6, none⟩ (.slice a2 y k2) = V := ⟨_, rfl⟩
        rw [hV2] at kF s'
        have lF : (LDo ⟨W0.heap.size, 0, none⟩).run Try.prog V2s = .ok (.agg #[Value.int IntKind.u8 (f 0), Value.int IntKind.i64 (nu f).h, Value.int IntKind.u8 (f 1), Value.int IntKind.i64 (nu f).c, Value.int IntKind.i64 (nu f).o, .slice a1 x k1, .slice a2 y k2]) V2s := LDo_run kF
        have sF : (SVo ⟨w.heap.size, 0, none⟩ (.agg #[Value.int IntKind.u8 (f 0), Value.int IntKind.i64 (nu f).h, Value.int IntKind.u8 (f 1), Value.int IntKind.i64 (nu f).c, Value.int IntKind.i64 (nu f).o, .slice a1 x k1, .slice a2 y k2])).run Try.prog V2s = .ok () W' := s'
        have L1 := hid l'
        have T1 := hid t'
        clear kF s' l' t' o2 n2 O1 N1 HV1 KSh BSh
        go_wp2_with fail
        refine bodyPost_ret (results_cell3 rfl rfl rfl rfl L1.out) rfl ?_
        exact ⟨_, _, by rw [E.out, show ((dK true f : Nat) : Int) = 32 + x + y from ZL.out]; rfl, by rw [E.out]; exact T1.out⟩
      · go_wp2_with fail
        clear hV1 p5 f5
        refine (rcopied_ok _ y (sh (32 + x) f) V1s (M2.out.below BSh.out) (by omega)).mono ?_
        rintro e V2 ⟨m, rfl, o2, n2⟩
        obtain ⟨a2, k2, rfl⟩ := own_lit_slice o2
        have p6 := (KSh.out.below n2).cell 6 _ rfl
        have f6 := (KSh.out.below n2).frozen 6
        have hx' : dl f = x := HX.out
        have hy' : ml f = y := HY.out
        obtain ⟨kF, W', s', l', t'⟩ := next_end (d := .slice a1 x k1) (m := .slice a2 y k2) (f := f) KB2.out BB2.out KK2.out z0.out (by rw [hx']; exact O1.out) N1.out (by rw [HV1.out, hx', hy']; exact o2) (by rw [HV1.out]; exact n2)
        clear hx' hy'
        obtain ⟨V2s, hV2⟩ : ∃ V, V2.setCell ⟨W0.heap.size, 6, none⟩ (.slice a2 y k2) = V := ⟨_, rfl⟩
        rw [hV2] at kF s'
        have lF : (LDo ⟨W0.heap.size, 0, none⟩).run Try.prog V2s = .ok (.agg #[Value.int IntKind.u8 (f 0), Value.int IntKind.i64 (nu f).h, Value.int IntKind.u8 (f 1), Value.int IntKind.i64 (nu f).c, Value.int IntKind.i64 (nu f).o, .slice a1 x k1, .slice a2 y k2]) V2s := LDo_run kF
        have sF : (SVo ⟨w.heap.size, 0, none⟩ (.agg #[Value.int IntKind.u8 (f 0), Value.int IntKind.i64 (nu f).h, Value.int IntKind.u8 (f 1), Value.int IntKind.i64 (nu f).c, Value.int IntKind.i64 (nu f).o, .slice a1 x k1, .slice a2 y k2])).run Try.prog V2s = .ok () W' := s'
        have L1 := hid l'
        have T1 := hid t'
        clear kF s' l' t' o2 n2 O1 N1 HV1 KSh BSh
        go_wp2_with fail
        refine bodyPost_ret (results_cell3 rfl rfl rfl rfl L1.out) rfl ?_
        exact ⟨_, _, by rw [E.out, show ((dK true f : Nat) : Int) = 32 + x + y from ZL.out]; rfl, by rw [E.out]; exact T1.out⟩)
  · have E : Hid (decide (zl f ≤ n) = false) := by show decide (zl f ≤ n) = false; simpa using hle
    have g1 : (n : Int) < 32 + x + y := by have : zl f = 32 + dl f + ml f := rfl; have := HX.out; have := HY.out; omega
    obtain ⟨W1, s1, l1, t1⟩ := zero_end f HR.out.1 kb.out b0.out 0 rfl
    have s1' : (SVo ⟨w.heap.size, 0, none⟩ (.agg zA)).run Try.prog W0 = .ok () W1 := s1
    have L1 := hid l1
    have T1 := hid t1
    clear l1 t1 hW0 s1
    go_wp2
    refine bodyPost_ret (results_cell3 rfl rfl rfl rfl L1.out) rfl ?_
    exact ⟨_, _, by rw [E.out]; rfl, by rw [E.out]; exact T1.out⟩
set_option maxRecDepth 4000 in
set_option maxHeartbeats 400000 in
theorem rnext_ok (v : Value) (n : Nat) (f : Nat → Int) (w : World) (hr : By.RB w v n f) (hn : n ≤ 140737488355328) :
    Calls Try.prog 26 #[v] w fun e w' => ∃ d m, e = .returned (.tuple #[ov (dq (decide (zl f ≤ n)) f) d m, .int .i64 (dK (decide (zl f ≤ n)) f), .int .i64 (dE (decide (zl f ≤ n)))]) ∧ Told w w' (decide (zl f ≤ n)) f d m := by
  by_cases h : n < 32
  · have E : Hid (decide (zl f ≤ n) = false) := by show decide (zl f ≤ n) = false; unfold zl; simp; omega
    obtain ⟨a, c, rfl⟩ := rb_sl hr
    have g1 : (n : Int) < 32 := by omega
    obtain ⟨W0, hW0⟩ : ∃ W, w.alloc (.cells #[Value.int IntKind.u8 0, Value.int IntKind.i64 0, Value.int IntKind.u8 0, Value.int IntKind.i64 0, Value.int IntKind.i64 0, Value.slice none 0 0, Value.slice none 0 0] 26) = W := ⟨_, rfl⟩
    have kb : Blk W0 w.heap.size zA.toList 26 := by rw [← hW0]; exact Blk.newAt w _ _ 26 w.heap.size rfl rfl
    have b0 : Below w.heap.size w W0 := by rw [← hW0]; exact below_alloc w _
    obtain ⟨W1, s1, l1, t1⟩ := zero_end f hr.1 kb b0 0 rfl
    have s1' : (SVo ⟨w.heap.size, 0, none⟩ (.agg zA)).run Try.prog W0 = .ok () W1 := s1
    have L1 := hid l1
    have T1 := hid t1
    clear l1 t1 s1 h hr kb b0
    go_enter Try.func26, Try.ntmps26
    go_wp2
    refine bodyPost_ret (results_cell3 rfl rfl rfl rfl L1.out) rfl ?_
    exact ⟨_, _, by rw [E.out]; rfl, by rw [E.out]; exact T1.out⟩
  · obtain ⟨b, off, c, rfl⟩ := rb_some hr (by omega)
    exact rnext_big b off n c f w hr hn (by omega)
end Go.Proofs.Ytnadpglfliiplaa.Ou
