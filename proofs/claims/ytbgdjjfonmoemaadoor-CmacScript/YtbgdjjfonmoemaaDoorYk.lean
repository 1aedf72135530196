/- The document's steps on a block: its rows turned, its columns mixed, a round key added, bytes put through the box. The document's round keys: an object of them; a round key added, four bytes through the box. -/
import Derived.Test.YtbgdjjfonmoemaaDoorYg
import Derived.Deep.RegionLaw
namespace Go.Proofs.YtbgdjjfonmoemaaDoor.Ae
open Go.ChangeShapes Go.WideShapes Go.ChangeAt Go.RowKit
open Go.Proofs.YtbgdjjfonmoemaaDoor.By Go.Proofs.YtbgdjjfonmoemaaDoor.Gf
theorem trn_at (y c r : Nat) (b : Nat → Nat) (hr : r < 4) : trn y b (4 * c + r) = b (4 * ((c + r * y) % 4) + r) := by
  unfold trn
  rw [show (4 * c + r) / 4 = c from by omega, show (4 * c + r) % 4 = r from by omega]
theorem fin16 {w W : World} {g q : Nat} {z y : Nat → Nat} (B : Blk W g (bl 16 (cb z)) 82) (Q : Blk W q (bl 16 (cb y)) 82) (hb : Below w.heap.size w W) (hq : w.heap.size ≤ q) :
    (LDb ⟨g, 0, none⟩).run Tryd.prog W = .ok (.agg (bl 16 (cb z)).toArray) W ∧ (SVb ⟨q, 0, none⟩ (.agg (bl 16 (cb z)).toArray)).run Tryd.prog W = .ok () (W.setCells q 0 (bl 16 (cb z))) ∧ (LDb ⟨q, 0, none⟩).run Tryd.prog (W.setCells q 0 (bl 16 (cb z))) = .ok (.agg (bl 16 (cb z)).toArray) (W.setCells q 0 (bl 16 (cb z))) ∧ Below w.heap.size w (W.setCells q 0 (bl 16 (cb z))) := by
  refine ⟨LDb_run (range0 B) (bl_length _ _), SVb_run (Q.there 0 16 (by rw [bl_length]; omega)) (bl_length _ _) (bl_one _ _), ?_, below_cells hb _ _ _ hq hb.size⟩
  have b := Q.put 0 (bl 16 (cb z))
  rw [put_all _ _ (by rw [bl_length, bl_length])] at b
  exact LDb_run (range0 b) (bl_length _ _)
set_option maxRecDepth 8000 in
set_option maxHeartbeats 4000000 in
theorem rturned (y : Nat) (hy : y ≤ 3) (b : Nat → Nat) (w : World) : Calls Tryd.prog 86 #[bv b, .int .i64 y] w fun e w' => e = .returned (bv (trn y b)) ∧ Below w.heap.size w w' := by
  unfold bv
  go_enter Tryd.func86, Tryd.ntmps86
  go_wp2_with fail
  go_loopw [6, 7] (fun i j wr => ∃ c : Nat, c ≤ 4 ∧ i = .int .i64 c ∧ Blk wr w.heap.size (bl 16 (cb b)) 82 ∧ Blk wr (w.heap.size + 1) (bl 16 (cb (upto 0 b))) 82 ∧ Blk wr (w.heap.size + 1 + 1) (bl 16 (cb (upto (4 * c) (trn y b)))) 82 ∧ Below w.heap.size w wr) (fun i _ _ => 4 - (intOf i).toNat)
  case atStart =>
    exact ⟨0, Nat.zero_le _, rfl, ((Blk.newAt _ _ _ _ _ rfl rfl).alloc _).alloc _, (Blk.newAt _ _ _ _ _ (by simp) (zero16 b)).alloc _, Blk.newAt _ _ _ _ _ (by simp) (zero16 _), below3 _ _ _ _⟩
  case round =>
    obtain ⟨c, hc, rfl, b0, b1, b2, hbel⟩ := hrel
    have B0 := hid b0
    have B1 := hid b1
    have B2 := hid b2
    have HB := hid hbel
    clear b0 b1 b2 hbel
    by_cases hlt : c < 4
    · have hd0 : decide ((c : Int) < 4) = true := decide_eq_true (by omega)
      go_wp2_with fail
      go_loopw [7] (fun j wr => ∃ r : Nat, r ≤ 4 ∧ j = .int .i64 r ∧ Blk wr w.heap.size (bl 16 (cb b)) 82 ∧ Blk wr (w.heap.size + 1) (bl 16 (cb (upto 0 b))) 82 ∧ Blk wr (w.heap.size + 1 + 1) (bl 16 (cb (upto (4 * c + r) (trn y b)))) 82 ∧ Below w.heap.size w wr) (fun j _ => 4 - (intOf j).toNat)
      case atStart => exact ⟨0, by omega, rfl, B0.out, B1.out, B2.out, HB.out⟩
      case round =>
        clear B0 B1 B2 HB
        obtain ⟨r, hr, rfl, b0, b1, b2, hbel⟩ := hrel
        have B0 := hid b0
        have B1 := hid b1
        have B2 := hid b2
        have HB := hid hbel
        have HZ := hid b2.lt
        clear b0 b1 b2 hbel
        by_cases hl : r < 4
        · have hd1 : decide ((r : Int) < 4) = true := decide_eq_true (by omega)
          have HS := hid (uptoN_set 16 (trn y b) (4 * c + r))
          rw [trn_at y c r b hl] at HS
          obtain ⟨m, em⟩ : ∃ m, r * y = m := ⟨_, rfl⟩
          have hm9 : m ≤ 9 := by rw [← em]; exact Nat.mul_le_mul (show r ≤ 3 by omega) hy
          have hmi : (r : Int) * (y : Int) = (m : Int) := by rw [← em]; simp
          rw [em] at HS
          clear em
          have hM : ((c : Int) + (m : Int)).tmod 4 = (((c + m) % 4 : Nat) : Int) := by rw [Int.tmod_eq_emod_of_nonneg (by omega)]; omega
          obtain ⟨M, eM⟩ : ∃ M, (c + m) % 4 = M := ⟨_, rfl⟩
          have hM3 : M ≤ 3 := by omega
          rw [eM] at hM HS
          clear eM
          have c0 := B0.out.cell (4 * M + r) _ (bl_get 16 _ _ (by omega))
          change wr.cell? ⟨w.heap.size, 4 * M + r, none⟩ = some (.int .u8 ((b (4 * M + r) : Nat) : Int)) at c0
          obtain ⟨x, ex⟩ : ∃ x, b (4 * M + r) = x := ⟨_, rfl⟩
          rw [ex] at c0 HS
          clear ex
          have c2 := B2.out.cell (4 * c + r) _ (bl_get 16 _ _ (by omega))
          have f2 := B2.out.frozen (4 * c + r)
          generalize cb (upto (4 * c + r) (trn y b)) (4 * c + r) = u at c2
          go_wp2_with fail
          have hz := HZ.out
          refine ⟨⟨r + 1, by omega, by go_num, B0.out.other (by omega) _ _, B1.out.other (by omega) _ _, ?_, below_set HB.out _ _ _ (by omega) (by omega)⟩, by simp [intOf]; omega⟩
          rw [show 4 * c + (r + 1) = 4 * c + r + 1 from rfl, ← HS.out]
          exact B2.out.set _ _
        · have er : r = 4 := by omega
          subst er
          go_wp2_with fail
          exact ⟨⟨c + 1, by omega, by go_num, B0.out, B1.out, B2.out, HB.out⟩, by simp [intOf]; omega⟩
    · have ec : c = 4 := by omega
      subst ec
      rw [show 4 * 4 = 16 from rfl, upto_all] at B2
      have hz := hid B2.out.lt
      obtain ⟨l1, s1, l2, hb2⟩ := fin16 B2.out B1.out HB.out (by omega)
      have L2 := hid l2
      have HB2 := hid hb2
      clear l2 hb2
      go_wp2_with fail
      refine bodyPost_ret ?_ rfl ⟨rfl, HB2.out⟩
      exact results_cell1 Tryd.results86 rfl L2.out
end Go.Proofs.YtbgdjjfonmoemaaDoor.Ae
namespace Go.Proofs.YtbgdjjfonmoemaaDoor.Ae
open Go.ChangeShapes Go.WideShapes Go.ChangeAt Go.RowKit
open Go.Proofs.YtbgdjjfonmoemaaDoor.By Go.Proofs.YtbgdjjfonmoemaaDoor.Gf
/-- The document's object in block g: n words f in the list wv, and the box. -/
structure RA (W : World) (g : Nat) (wv : Value) (n : Nat) (f : Nat → Nat) : Prop where
  here : Blk W g (wv :: bl 256 (cb box)) 126
  own : W.ownsRow 0 100 4 wv n (bl (4 * n) (cb f))
  lt : ∀ i, f i < 256
section
variable {W W' : World} {g n : Nat} {wv : Value} {f : Nat → Nat}
theorem RA.glt (h : RA W g wv n f) : g < W.heap.size := h.here.lt
theorem RA.c0 (h : RA W g wv n f) : W.cell? ⟨g, 0, none⟩ = some wv := h.here.cell 0 _ rfl
theorem RA.cbx (h : RA W g wv n f) (x : Nat) (hx : x < 256) : W.cell? ⟨g, 1 + x, none⟩ = some (.int .u8 ((box x : Nat) : Int)) := by
  refine h.here.cell (1 + x) _ ?_
  rw [Nat.add_comm, List.getElem?_cons_succ]
  exact bl_get 256 _ x hx
theorem RA.shape (h : RA W g wv n f) (hn : 0 < n) : ∃ q cap, wv = .slice (some ⟨q, 0, none⟩) n cap ∧ n ≤ cap ∧ q < W.heap.size ∧ q ≠ g ∧ ∀ i, i < 4 * n → W.cell? ⟨q, i, none⟩ = some (.int .u8 ((f i : Nat) : Int)) := by
  have ho := h.own
  rcases h.own.2 with ⟨_, h0⟩ | ⟨q, cap, cur, rfl, hb, hc, h1, h2, h3, h4⟩
  · omega
  · refine ⟨q, cap, rfl, h1, (Array.getElem?_eq_some_iff.1 hc).1, fun e => ?_, fun i hi => ?_⟩
    · subst e
      have := Option.some.inj (hc.symm.trans h.here)
      simp only [Obj.cells.injEq] at this
      exact absurd this.2.1 (by decide)
    · rw [ho.cellAt i (by omega)]
      exact bl_get (4 * n) _ i hi
theorem RA.kept {S : Nat → Prop} (h : RA W g wv n f) (hk : Kp S W W') (h1 : ¬ S g) (h2 : ∀ q, wv.ownBlock = some q → ¬ S q) : RA W' g wv n f := by
  refine ⟨h.here.kept hk h1, ?_, h.lt⟩
  obtain ⟨hl, h | ⟨q, cap, cur, rfl, hb, hc, r⟩⟩ := h.own
  · exact ⟨hl, .inl h⟩
  · exact ⟨hl, .inr ⟨q, cap, cur, rfl, hb, by rw [hk.block q (Array.getElem?_eq_some_iff.1 hc).1 (h2 q rfl)]; exact hc, r⟩⟩
theorem RA.below (h : RA W g wv n f) (hb : Below W.heap.size W W') : RA W' g wv n f := h.kept (Kp.of_below (fun _ => False) hb) id (fun _ _ e => e)
end
set_option maxRecDepth 8000 in
set_option maxHeartbeats 4000000 in
theorem rbox (g n : Nat) (wv : Value) (f t : Nat → Nat) (ht : ∀ i, i < 4 → t i < 256) (w : World) (h : RA w g wv n f) : Calls Tryd.prog 82 #[.pointer (some ⟨g, 0, none⟩), .agg (bl 4 (cb t)).toArray] w fun e w' => e = .returned (.agg (bl 4 (cb (fun i => box (t i)))).toArray) ∧ Below w.heap.size w w' := by
  have H := hid h
  have HT := hid ht
  have hg := h.glt
  clear h ht
  go_enter Tryd.func82, Tryd.ntmps82
  go_wp2_with fail
  go_loopw [5] (fun i wr => ∃ k : Nat, k ≤ 4 ∧ i = .int .i64 k ∧ Blk wr w.heap.size (bl 4 (cb (thru box t k))) 100 ∧ Blk wr (w.heap.size + 1) (bl 4 (cb (fun _ => 0))) 100 ∧ Below w.heap.size w wr) (fun i _ => 4 - (intOf i).toNat)
  case atStart => exact ⟨0, by omega, rfl, by rw [thru_zero]; exact (Blk.newAt _ _ _ _ _ rfl rfl).alloc _, Blk.newAt _ _ _ _ _ (by simp) zero4, (below_alloc w _).alloc (by simp) _⟩
  case round =>
    obtain ⟨k, hk, rfl, b0, b1, hbel⟩ := hrel
    have B0 := hid b0
    have B1 := hid b1
    have HB := hid hbel
    have HR := hid (H.out.below hbel)
    have HZ := hid b1.lt
    clear b0 b1 hbel
    by_cases hlt : k < 4
    · have hd : decide ((k : Int) < 4) = true := decide_eq_true (by omega)
      have x1 := B0.out.cell k _ (bl_get 4 _ k hlt)
      have f1 := B0.out.frozen k
      have hx := HT.out k hlt
      rw [show cb (thru box t k) k = ((t k : Nat) : Int) from congrArg Nat.cast (thru_at box t k)] at x1
      have HS := hid (thru_set box t 4 k)
      obtain ⟨x, ex⟩ : ∃ x, t k = x := ⟨_, rfl⟩
      rw [ex] at x1 hx HS
      clear ex
      have x2 := HR.out.cbx x hx
      have ix : (x : Int) < 256 := by omega
      go_wp2_with fail
      go_region
      all_goals
        go_simp
        go_wp2_with fail
        have hz := HZ.out
        refine ⟨⟨k + 1, by omega, by go_num, ?_, (B1.out.drewN 1).other (by omega) _ _, below_set (below_dr HB.out) _ _ _ (by omega) (below_dr HB.out).size⟩, by simp [intOf]; omega⟩
        rw [← HS.out]
        exact (B0.out.drewN 1).set _ _
    · have ek : k = 4 := by omega
      subst ek
      rw [thru_all] at B0
      have l1 := LDq_run (range0 B0.out) (bl_length _ _)
      have s1 := SVq_run (cs := bl 4 (cb (fun i => box (t i)))) (B1.out.there 0 4 (by rw [bl_length]; omega)) (bl_length _ _) (bl_one _ _)
      have b4 := B1.out.put 0 (bl 4 (cb (fun i => box (t i))))
      rw [put_all _ _ (by rw [bl_length, bl_length])] at b4
      have l2 := hid (LDq_run (range0 b4) (bl_length _ _))
      clear b4
      go_wp2_with fail
      have hz := HZ.out
      refine bodyPost_ret ?_ rfl ⟨rfl, below_cells HB.out _ _ _ (by omega) HB.out.size⟩
      exact results_cell1 Tryd.results82 rfl l2.out
theorem rrounds (g n : Nat) (wv : Value) (f : Nat → Nat) (w : World) (h : RA w g wv (4 * (n + 1)) f) (hn : n ≤ 14) : Calls Tryd.prog 85 #[.pointer (some ⟨g, 0, none⟩)] w fun e w' => e = .returned (.int .i64 (n : Int)) ∧ w' = w := by
  obtain ⟨q, cap, rfl, _⟩ := h.shape (by omega)
  have c0 := h.c0
  have e1 : (4 * ((n : Int) + 1)).tdiv 4 = (n : Int) + 1 := by rw [Int.tdiv_eq_ediv_of_nonneg (by omega)]; omega
  clear h
  go_enter Tryd.func85, Tryd.ntmps85
  go_wp2
  go_ret
  exact ⟨congrArg (fun z => Ending.returned (Value.int IntKind.i64 z)) (by omega), rfl⟩
theorem wrap_s (T : Nat) (h : T < 1000) : wrap64 (T : Int) = (T : Int) := by unfold wrap64; omega
theorem wr2 (r C D : Nat) (h : 4 * r + C = D) (hD : D < 1000) : wrap64 (4 * (r : Int) + wrap64 (C : Int)) = (D : Int) := by
  rw [wrap_s C (by omega), show 4 * (r : Int) + (C : Int) = (D : Int) from by omega]
  exact wrap_s D hD
/-- The first k bytes have the round key. -/
def adTo (ws : Nat → Nat) (r : Nat) (b : Nat → Nat) (k i : Nat) : Nat := if i < k then b i ^^^ ws (16 * r + i) else b i
theorem adTo_zero (ws : Nat → Nat) (r : Nat) (b : Nat → Nat) : bl 16 (cb (adTo ws r b 0)) = bl 16 (cb b) := bl_congr _ _ _ (fun i _ => by show ((adTo ws r b 0 i : Nat) : Int) = _; unfold adTo; rw [if_neg (by omega)])
theorem adTo_all (ws : Nat → Nat) (r : Nat) (b : Nat → Nat) : bl 16 (cb (adTo ws r b 16)) = bl 16 (cb (adk ws r b)) := bl_congr _ _ _ (fun i hi => by show ((adTo ws r b 16 i : Nat) : Int) = ((adk ws r b i : Nat) : Int); unfold adTo adk; rw [if_pos (by omega)])
theorem adTo_at (ws : Nat → Nat) (r : Nat) (b : Nat → Nat) (k : Nat) : adTo ws r b k k = b k := by unfold adTo; rw [if_neg (by omega)]
theorem adTo_set (ws : Nat → Nat) (r : Nat) (b : Nat → Nat) (k : Nat) : (bl 16 (cb (adTo ws r b k))).set k (.int .u8 ((b k ^^^ ws (16 * r + k) : Nat) : Int)) = bl 16 (cb (adTo ws r b (k + 1))) := by
  rw [bl_set]
  refine bl_congr _ _ _ (fun i _ => ?_)
  show (if i = k then (((b k ^^^ ws (16 * r + k) : Nat)) : Int) else ((adTo ws r b k i : Nat) : Int)) = ((adTo ws r b (k + 1) i : Nat) : Int)
  unfold adTo
  by_cases e : i = k
  · subst e; rw [if_pos rfl, if_pos (by omega)]
  · rw [if_neg e]
    by_cases h : i < k
    · rw [if_pos h, if_pos (by omega)]
    · rw [if_neg h, if_neg (by omega)]
set_option maxRecDepth 8000 in
set_option maxHeartbeats 4000000 in
theorem radd (g n r : Nat) (wv : Value) (f b : Nat → Nat) (hb : B16 b) (w : World) (h : RA w g wv (4 * (n + 1)) f) (hr : r ≤ n) (hn : n ≤ 14) : Calls Tryd.prog 84 #[.pointer (some ⟨g, 0, none⟩), bv b, .int .i64 r] w fun e w' => e = .returned (bv (adk f r b)) ∧ Below w.heap.size w w' := by
  unfold bv
  obtain ⟨q, cap, rfl, hcap, hq, hqg, hcell⟩ := h.shape (by omega)
  have H := hid h
  have HQ := hid hcell
  have HBB := hid hb
  have hg := h.glt
  clear h hcell hb
  go_enter Tryd.func84, Tryd.ntmps84
  go_wp2_with fail
  go_loopw [7] (fun i wr => ∃ k : Nat, k ≤ 16 ∧ i = .int .i64 k ∧ Blk wr w.heap.size (bl 16 (cb (adTo f r b k))) 82 ∧ Blk wr (w.heap.size + 1) (bl 16 (cb (upto 0 b))) 82 ∧ Below w.heap.size w wr) (fun i _ => 16 - (intOf i).toNat)
  case atStart => exact ⟨0, by omega, rfl, by rw [adTo_zero]; exact (Blk.newAt _ _ _ _ _ rfl rfl).alloc _, Blk.newAt _ _ _ _ _ (by simp) (zero16 b), (below_alloc w _).alloc (by simp) _⟩
  case round =>
    obtain ⟨k, hk, rfl, b0, b1, hbel⟩ := hrel
    have B0 := hid b0
    have B1 := hid b1
    have HB := hid hbel
    have HZ := hid b1.lt
    have c0 := (H.out.below hbel).c0
    clear b0 b1
    by_cases hlt : k < 16
    · have hd : decide ((k : Int) < 16) = true := decide_eq_true (by omega)
      have x1 := B0.out.cell k _ (bl_get 16 _ k hlt)
      have f1 := B0.out.frozen k
      rw [show cb (adTo f r b k) k = ((b k : Nat) : Int) from congrArg Nat.cast (adTo_at f r b k)] at x1
      have x2 := (hbel.cell (p := ⟨q, 16 * r + k, none⟩) hq).trans (HQ.out (16 * r + k) (by omega))
      have hx := HBB.out k hlt
      have hy := H.out.lt (16 * r + k)
      have HS := hid (adTo_set f r b k)
      obtain ⟨x, ex⟩ : ∃ x, b k = x := ⟨_, rfl⟩
      obtain ⟨y, ey⟩ : ∃ y, f (16 * r + k) = y := ⟨_, rfl⟩
      rw [ex] at x1 hx HS
      rw [ey] at x2 hy HS
      clear ex ey hbel
      have HX := hid (xor8 x y hx hy)
      obtain ⟨C, eC⟩ : ∃ C, k / 4 = C := ⟨_, rfl⟩
      obtain ⟨R, eR⟩ : ∃ R, k % 4 = R := ⟨_, rfl⟩
      obtain ⟨D, eD⟩ : ∃ D, 4 * r + C = D := ⟨_, rfl⟩
      have e1 : (k : Int).tdiv 4 = (C : Int) := by rw [quo4, eC]
      have e2 : (k : Int).tmod 4 = (R : Int) := by rw [rem4, eR]
      rw [show 16 * r + k = D * 4 + R from by omega] at x2
      have hD : (D : Int) < ((4 * (n + 1) : Nat) : Int) := by omega
      have hD2 : (D : Int) < 4 * ((n : Int) + 1) := by omega
      have hD3 : D < 4 * (n + 1) := by omega
      have hR : (R : Int) < 4 := by omega
      have w3 := wr2 r C D eD (by omega)
      clear eC eR eD hD
      go_wp2_with fail
      go_region
      all_goals
        go_simp
        go_wp2_with fail
        have hz := HZ.out
        refine ⟨⟨k + 1, by omega, by go_num, ?_, (B1.out.drewN 1).other (by omega) _ _, below_set (below_dr HB.out) _ _ _ (by omega) (below_dr HB.out).size⟩, by simp [intOf]; omega⟩
        rw [HX.out, ← HS.out]
        exact (B0.out.drewN 1).set _ _
    · have ek : k = 16 := by omega
      subst ek
      rw [adTo_all] at B0
      obtain ⟨l1, s1, l2, hb2⟩ := fin16 B0.out B1.out HB.out (by omega)
      have L2 := hid l2
      have HB2 := hid hb2
      clear l2 hb2 hbel
      go_wp2_with fail
      refine bodyPost_ret ?_ rfl ⟨rfl, HB2.out⟩
      exact results_cell1 Tryd.results84 rfl L2.out
end Go.Proofs.YtbgdjjfonmoemaaDoor.Ae
