/- The statement's walk: SlotPlays. -/
import Derived.Test.YthoklddoeoedgaaSpl2
import Derived.Deep.DeepCutAuto
import Derived.Deep.RegionHeld3
import Derived.Deep.RegionLaw
namespace Go.Proofs.Ythoklddoeoedgaa.Sl
open Go.ChangeShapes Go.WideShapes Go.ChangeAt Go.RowKit
open Go.Proofs.Ythoklddoeoedgaa.By
/-- The steps, as an argument holds them. -/
structure ST (w : World) (a : Option Addr) (m : Nat) (d : Nat → Int) (wh ot : Nat → Nat) (pv : Nat → Value) (pn : Nat → Nat) (pf : Nat → Nat → Int) : Prop where
  cells : ∀ i, i < m → ∃ b off, a = some ⟨b, off, none⟩ ∧ w.cell? ⟨b, off + i * 4, none⟩ = some (.int .i64 (d i)) ∧ w.cell? ⟨b, off + i * 4 + 1, none⟩ = some (.int .u8 (wh i : Int)) ∧ w.cell? ⟨b, off + i * 4 + 2, none⟩ = some (.int .u8 (ot i : Int)) ∧ w.cell? ⟨b, off + i * 4 + 3, none⟩ = some (pv i)
  rb : ∀ i, i < m → By.RB w (pv i) (pn i) (pf i)
  le : ∀ i, i < m → pn i ≤ 140737488351232
  by_ : ∀ i, i < m → wh i < 256 ∧ ot i < 256
theorem PS.start {w W : World} {lb mb sb rb : Nat} {sp rp : Nat → Value} {x : Nat → Kd} {bv : Nat → Value} {t : Nat → Th} (hG : GX w w.heap.size t W) (h0 : Lg t 0 (some lb) []) (h1 : Rg t 1 mb []) (h2 : t 2 = tC sb (four sp) 27) (h3 : t 3 = tC rb (four rp) 34) (hm : ∀ k, k < 4 → t (4 + k) = tM (sp k) (x k)) (hr : ∀ k, k < 4 → t (8 + k) = tD (rp k) (bv k) (x k)) : PT w lb mb sb rb sp rp 0 (.slice none 0 0) (.slice none 0 0) W := by
  have hT : ∀ u : Nat → Value, (tW (.slice none 0 0) 0 u).P W := fun u => World.ownsRow_nil _ _ _ _
  have hG2 := hG.two 12 13 (tW (.slice none 0 0) 0 (fun _ => .slice none 0 0)) (tW (.slice none 0 0) 0 (fun _ => .slice none 0 0)) (by decide) (Kp.refl (fun _ => False) W) (fun _ e => e.elim) (hT _) (hT _) (fun j hj => by cases hj) (fun j hj => by cases hj) (fun j hj => by cases hj)
  have hB := but_up t 12 13 (tW (.slice none 0 0) 0 (fun _ => .slice none 0 0)) (tW (.slice none 0 0) 0 (fun _ => .slice none 0 0))
  exact ⟨_, x, bv, [], 0, fun _ => .slice none 0 0, fun _ => .slice none 0 0, fun _ => 0, fun _ _ => 0, ⟨hG2, h0.keep (hB 0 (by omega) (by omega)), h1.keep (hB 1 (by omega) (by omega)), (hB 2 (by omega) (by omega)).trans h2, (hB 3 (by omega) (by omega)).trans h3, fun k hk => (hB _ (by omega) (by omega)).trans (hm k hk), fun k hk => (hB _ (by omega) (by omega)).trans (hr k hk), ai (by decide) _ _, ak _ _, fun j hj => absurd hj (by omega), fun j hj => absurd hj (by omega), fun j hj => absurd hj (by omega)⟩, by simp [tot], by simp, Nat.le_refl _⟩
/-- Four pointers, one by one. -/
def qd (a b c d : Value) (k : Nat) : Value := if k = 0 then a else if k = 1 then b else if k = 2 then c else d
def xd : Nat → Kd := fun k => if k < 2 then some (0, fun _ => 0) else none
theorem gx_rnobody {w0 W : World} {B : Nat} {t : Nat → Th} (hG : GX w0 B t W) (m : Nat) : ∃ t', GX w0 B t' (W.alloc (.cells #[.slice none 0 0, .bool false] 38)) ∧ t' m = tD (.pointer (some ⟨W.heap.size, 0, none⟩)) (.slice none 0 0) none ∧ But t t' m m :=
  ⟨_, hG.one m (tD (.pointer (some ⟨W.heap.size, 0, none⟩)) (.slice none 0 0) none) (Kp.of_below (fun _ => False) (below_alloc _ _)) (fun _ e => e.elim) (.inr ⟨_, rfl, Blk.new _ _ _⟩) (fun j hj => .inr (by
    rcases hj with ⟨e, _⟩ | e
    · cases e
    · rw [pb_one e]; exact Nat.le_refl _)), up_at _ _ _, fun m h1 _ => up_ne _ _ h1⟩
theorem gx_rnil {w0 W : World} {B : Nat} {t : Nat → Th} (hG : GX w0 B t W) (m : Nat) : ∃ t', GX w0 B t' W ∧ t' m = tD (.pointer none) (.slice none 0 0) none ∧ But t t' m m :=
  ⟨_, hG.one m (tD (.pointer none) (.slice none 0 0) none) (Kp.refl (fun _ => False) _) (fun _ e => e.elim) (.inl rfl) (fun j hj => by
    rcases hj with ⟨e, _⟩ | e
    · cases e
    · cases e), up_at _ _ _, fun m h1 _ => up_ne _ _ h1⟩
theorem row_slice {W : World} {base n : Nat} {e : TypeId} {v : Value} {T : List Value} (h : W.ownsRow base e 1 v n T) : ∃ a c, v = .slice a n c := by
  rcases h.2 with ⟨rfl, rfl⟩ | ⟨g, cap, cur, rfl, _⟩
  · exact ⟨_, _, rfl⟩
  · exact ⟨_, _, rfl⟩
theorem kn_le {W : World} {p : Value} {x : Kd} (h : IsM W p x) : kn x ≤ 1024 := by
  cases x with
  | none => exact Nat.zero_le _
  | some z => obtain ⟨n, f⟩ := z; obtain ⟨b, _, h⟩ := h; exact h.hn
theorem sl_first (W : World) (g N cap n : Nat) (h : n ≤ cap) : (Instr.sliceAt 36 (.slice (some ⟨g, 0, none⟩) N cap) none (some (.int .i64 (n : Int))) none).run Try.prog W = .ok (.slice (some ⟨g, 0, none⟩) n cap) W := by
  have el : Try.prog.underlying 36 = some (.slice (Try.prog.elem 36)) := by kernel_rfl
  have hs : (sizeOf (Try.prog.elem 36)).run Try.prog W = .ok 1 W := by kernel_rfl
  rw [run_sliceAt_slice W 36 _ _ _ _ el, run_slice_h W 36 (some ⟨g, 0, none⟩) N cap el .i64 (n : Int) (by omega) (by omega), hs]
  simp only [Result.andThen_ok, sliced]
  rw [show ((n : Int)).toNat = n from by omega]
  by_cases e : cap = 0
  · subst e; obtain rfl : n = 0 := by omega
    rfl
  · rw [if_neg e]; simp [Addr.add]
set_option maxRecDepth 20000 in
set_option maxHeartbeats 4000000 in
theorem plays_w (a : Option Addr) (m c : Nat) (d : Nat → Int) (wh ot : Nat → Nat) (pv : Nat → Value) (pn : Nat → Nat) (pf : Nat → Nat → Int) (w : World) (hst : ∀ w', Below w.heap.size w w' → ST w' a m d wh ot pv pn pf) (hm : m ≤ 3600000000000) :
    Calls Try.prog 3 #[.slice a m c] w fun e w' => e = .returned (.bool true) ∧ Below w.heap.size w w' := by
  have HS := hid hst
  clear hst
  have G0 := hid (GX.start w)
  go_enter Try.func3, Try.ntmps3
  go_wp2_with fail
  refine (gx_led G0.out 0).mono ?_
  rintro e W1 ⟨rfl, t1, hg, h0, -⟩
  have G := hid hg
  have H0 := hid h0
  clear hg h0 G0
  go_wp2_with fail
  refine (gx_rled G.out 1).mono ?_
  rintro e W2 ⟨rfl, t2, hg, h1, hB⟩
  replace G := hid hg
  have H1 := hid h1
  replace H0 := hid (H0.out.keep (hB 0 (by decide) (by decide)))
  clear hg h1 hB
  go_wp2_with fail
  refine (gx_new G.out 4).mono ?_
  rintro e W3 ⟨rfl, t3, hg, h4, hB⟩
  replace G := hid hg
  have H4 := hid h4
  replace H0 := hid (H0.out.keep (hB 0 (by decide) (by decide)))
  replace H1 := hid (H1.out.keep (hB 1 (by decide) (by decide)))
  clear hg h4 hB
  go_wp2_with fail
  refine (gx_new G.out 5).mono ?_
  rintro e W4 ⟨rfl, t4, hg, h5, hB⟩
  replace G := hid hg
  have H5 := hid h5
  replace H0 := hid (H0.out.keep (hB 0 (by decide) (by decide)))
  replace H1 := hid (H1.out.keep (hB 1 (by decide) (by decide)))
  replace H4 := hid ((hB 4 (by decide) (by decide)).trans H4.out)
  clear hg h5 hB
  go_wp2_with fail
  obtain ⟨b4, e4⟩ : ∃ b, W2.heap.size = b := ⟨_, rfl⟩
  obtain ⟨b5, e5⟩ : ∃ b, W3.heap.size = b := ⟨_, rfl⟩
  obtain ⟨b7, e7⟩ : ∃ b, W4.heap.size = b := ⟨_, rfl⟩
  obtain ⟨sb, es⟩ : ∃ b, b7 + 1 = b := ⟨_, rfl⟩
  obtain ⟨t5, hg5, h7, hB5⟩ := gx_nobody G.out 7
  obtain ⟨t6, hg6, h2, hB6⟩ := gx_alloc hg5 2 (four (qd (.pointer (some ⟨b4, 0, none⟩)) (.pointer (some ⟨b5, 0, none⟩)) (.pointer none) (.pointer (some ⟨b7, 0, none⟩)))) 27
  obtain ⟨t7, hg7, h6, hB7⟩ := gx_nil hg6 6
  obtain ⟨X, hX⟩ : ∃ X, (W4.alloc (.cells (mc false (fun _ => 0) 0).toArray 32)).alloc (.cells #[.pointer (some ⟨b4, 0, none⟩), .pointer (some ⟨b5, 0, none⟩), .pointer none, .pointer (some ⟨b7, 0, none⟩)] 27) = X := ⟨_, rfl⟩
  have hg7' : GX w w.heap.size t7 X := by rw [← hX]; exact hg7
  rw [e4] at H4
  rw [e5] at H5
  rw [e7] at h7
  rw [size_alloc, e7, es] at h2
  rw [e4, e5, e7, es, hX]
  replace G := hid hg7'
  replace H0 := hid (((H0.out.keep (hB5 0 (by decide) (by decide))).keep (hB6 0 (by decide) (by decide))).keep (hB7 0 (by decide) (by decide)))
  replace H1 := hid (((H1.out.keep (hB5 1 (by decide) (by decide))).keep (hB6 1 (by decide) (by decide))).keep (hB7 1 (by decide) (by decide)))
  have H2 := hid ((hB7 2 (by decide) (by decide)).trans h2)
  replace H4 := hid ((hB7 4 (by decide) (by decide)).trans ((hB6 4 (by decide) (by decide)).trans ((hB5 4 (by decide) (by decide)).trans H4.out)))
  replace H5 := hid ((hB7 5 (by decide) (by decide)).trans ((hB6 5 (by decide) (by decide)).trans ((hB5 5 (by decide) (by decide)).trans H5.out)))
  have H6 := hid h6
  have H7 := hid ((hB7 7 (by decide) (by decide)).trans ((hB6 7 (by decide) (by decide)).trans h7))
  clear hg5 hg6 hg7 hg7' h2 h6 h7 hB5 hB6 hB7 hX
  refine (gx_rnew G.out 8).mono ?_
  rintro e W5 ⟨rfl, t8, hg, h8, hB⟩
  replace G := hid hg
  have H8 := hid h8
  replace H0 := hid (H0.out.keep (hB 0 (by decide) (by decide)))
  replace H1 := hid (H1.out.keep (hB 1 (by decide) (by decide)))
  replace H2 := hid ((hB 2 (by decide) (by decide)).trans H2.out)
  replace H4 := hid ((hB 4 (by decide) (by decide)).trans H4.out)
  replace H5 := hid ((hB 5 (by decide) (by decide)).trans H5.out)
  replace H6 := hid ((hB 6 (by decide) (by decide)).trans H6.out)
  replace H7 := hid ((hB 7 (by decide) (by decide)).trans H7.out)
  clear hg h8 hB
  go_wp2_with fail
  refine (gx_rnew G.out 9).mono ?_
  rintro e W6 ⟨rfl, t9, hg, h9, hB⟩
  replace G := hid hg
  have H9 := hid h9
  replace H0 := hid (H0.out.keep (hB 0 (by decide) (by decide)))
  replace H1 := hid (H1.out.keep (hB 1 (by decide) (by decide)))
  replace H2 := hid ((hB 2 (by decide) (by decide)).trans H2.out)
  replace H4 := hid ((hB 4 (by decide) (by decide)).trans H4.out)
  replace H5 := hid ((hB 5 (by decide) (by decide)).trans H5.out)
  replace H6 := hid ((hB 6 (by decide) (by decide)).trans H6.out)
  replace H7 := hid ((hB 7 (by decide) (by decide)).trans H7.out)
  replace H8 := hid ((hB 8 (by decide) (by decide)).trans H8.out)
  clear hg h9 hB
  go_wp2_with fail
  obtain ⟨c8, f8⟩ : ∃ b, X.heap.size = b := ⟨_, rfl⟩
  obtain ⟨c9, f9⟩ : ∃ b, W5.heap.size = b := ⟨_, rfl⟩
  obtain ⟨cb, fb⟩ : ∃ b, W6.heap.size = b := ⟨_, rfl⟩
  obtain ⟨rb, fr⟩ : ∃ b, cb + 1 = b := ⟨_, rfl⟩
  obtain ⟨t5', hg5, h7, hB5⟩ := gx_rnobody G.out 11
  obtain ⟨t6', hg6, h3, hB6⟩ := gx_alloc hg5 3 (four (qd (.pointer (some ⟨c8, 0, none⟩)) (.pointer (some ⟨c9, 0, none⟩)) (.pointer none) (.pointer (some ⟨cb, 0, none⟩)))) 34
  obtain ⟨t7', hg7, h6, hB7⟩ := gx_rnil hg6 10
  obtain ⟨Y, hY⟩ : ∃ X, (W6.alloc (.cells #[.slice none 0 0, .bool false] 38)).alloc (.cells #[.pointer (some ⟨c8, 0, none⟩), .pointer (some ⟨c9, 0, none⟩), .pointer none, .pointer (some ⟨cb, 0, none⟩)] 34) = X := ⟨_, rfl⟩
  have hg7' : GX w w.heap.size t7' Y := by rw [← hY]; exact hg7
  rw [f8] at H8
  rw [f9] at H9
  rw [fb] at h7
  rw [size_alloc, fb, fr] at h3
  rw [f8, f9, fb, fr, hY]
  obtain ⟨lb, fl⟩ : ∃ b, w.heap.size = b := ⟨_, rfl⟩
  obtain ⟨mb, fm⟩ : ∃ b, W1.heap.size = b := ⟨_, rfl⟩
  rw [fl] at H0
  rw [fm] at H1
  have INV : Hid (PT w lb mb sb rb (qd (.pointer (some ⟨b4, 0, none⟩)) (.pointer (some ⟨b5, 0, none⟩)) (.pointer none) (.pointer (some ⟨b7, 0, none⟩))) (qd (.pointer (some ⟨c8, 0, none⟩)) (.pointer (some ⟨c9, 0, none⟩)) (.pointer none) (.pointer (some ⟨cb, 0, none⟩))) 0 (.slice none 0 0) (.slice none 0 0) Y) := by
    have tr : ∀ m, m ≠ 11 → m ≠ 3 → m ≠ 10 → t7' m = t9 m := fun m h1 h2 h3 => (hB7 m h3 h3).trans ((hB6 m h2 h2).trans (hB5 m h1 h1))
    refine PS.start (x := xd) (bv := fun _ => .slice none 0 0) hg7' (H0.out.keep (tr 0 (by decide) (by decide) (by decide))) (H1.out.keep (tr 1 (by decide) (by decide) (by decide))) ((tr 2 (by decide) (by decide) (by decide)).trans H2.out) ((hB7 3 (by decide) (by decide)).trans h3) (fun k hk => ?_) (fun k hk => ?_)
    · match k, hk with
      | 0, _ => exact (tr 4 (by decide) (by decide) (by decide)).trans H4.out
      | 1, _ => exact (tr 5 (by decide) (by decide) (by decide)).trans H5.out
      | 2, _ => exact (tr 6 (by decide) (by decide) (by decide)).trans H6.out
      | 3, _ => exact (tr 7 (by decide) (by decide) (by decide)).trans H7.out
    · match k, hk with
      | 0, _ => exact (tr 8 (by decide) (by decide) (by decide)).trans H8.out
      | 1, _ => exact (tr 9 (by decide) (by decide) (by decide)).trans H9.out
      | 2, _ => exact h6
      | 3, _ => exact (hB7 11 (by decide) (by decide)).trans ((hB6 11 (by decide) (by decide)).trans h7)
  clear hg5 hg6 hg7 hg7' h3 h6 h7 hB5 hB6 hB7 hY G H0 H1 H2 H4 H5 H6 H7 H8 H9
  rw [fl, fm]
  obtain ⟨sp, hsp⟩ : ∃ x, qd (.pointer (some ⟨b4, 0, none⟩)) (.pointer (some ⟨b5, 0, none⟩)) (.pointer none) (.pointer (some ⟨b7, 0, none⟩)) = x := ⟨_, rfl⟩
  obtain ⟨rp, hrp⟩ : ∃ x, qd (.pointer (some ⟨c8, 0, none⟩)) (.pointer (some ⟨c9, 0, none⟩)) (.pointer none) (.pointer (some ⟨cb, 0, none⟩)) = x := ⟨_, rfl⟩
  rw [hsp, hrp] at INV
  have HLB := hid fl
  clear hsp hrp e4 e5 e7 es f8 f9 fb fr fl fm
  go_wp2_with fail
  obtain ⟨mz, emz⟩ : ∃ v, Value.agg (mc false (fun _ => 0) 0).toArray = v := ⟨_, rfl⟩
  rw [emz]
  clear emz
  go_loopw [7, 8, 9] (fun tv wv i wr => ∃ k : Nat, k ≤ m ∧ i = .int .i64 k ∧ PT w lb mb sb rb sp rp k tv wv wr) (fun _ _ i _ => m - (intOf i).toNat)
  case atStart => exact ⟨0, Nat.zero_le _, rfl, INV.out⟩
  case round =>
    clear INV
    obtain ⟨k, hk, rfl, t0, x, bv, L, n, ev, ew, en, ef, hps, htot, hlen, hnT⟩ := hrel
    by_cases hlt : k < m
    · obtain ⟨ab, ao, rfl, c0, c1, c2, c3⟩ := (HS.out wr hps.G.bel).cells k hlt
      have RP : Hid (∀ w', Below w.heap.size w w' → By.RB w' (pv k) (pn k) (pf k)) := fun w' hb => (HS.out w' hb).rb k hlt
      have LP : Hid (pn k ≤ 140737488351232) := (HS.out wr hps.G.bel).le k hlt
      obtain ⟨hw1, hw2⟩ := (HS.out wr hps.G.bel).by_ k hlt
      obtain ⟨pl, pcap, hpv⟩ : ∃ a c, pv k = .slice a (pn k) c := By.RB.isSlice (RP.out wr hps.G.bel)
      obtain ⟨pnk, epn⟩ : ∃ x, pn k = x := ⟨_, rfl⟩
      obtain ⟨pfk, epf⟩ : ∃ x, pf k = x := ⟨_, rfl⟩
      obtain ⟨dk, edk⟩ : ∃ x, d k = x := ⟨_, rfl⟩
      obtain ⟨wk', ewk⟩ : ∃ x, wh k = x := ⟨_, rfl⟩
      obtain ⟨ok', eok⟩ : ∃ x, ot k = x := ⟨_, rfl⟩
      rw [epn] at LP RP hpv
      rw [epf] at RP
      rw [hpv] at c3 RP
      rw [edk] at c0
      rw [ewk] at c1 hw1
      rw [eok] at c2 hw2
      obtain ⟨kk, hkk, ekk⟩ : ∃ q : Nat, q < 4 ∧ (wk' : Int).tmod 4 = q := ⟨wk' % 4, Nat.mod_lt _ (by decide), by rw [Int.tmod_eq_emod_of_nonneg (by omega)]; omega⟩
      obtain ⟨oo, hoo, eoo⟩ : ∃ q : Nat, q < 4 ∧ (ok' : Int).tmod 4 = q := ⟨ok' % 4, Nat.mod_lt _ (by decide), by rw [Int.tmod_eq_emod_of_nonneg (by omega)]; omega⟩
      have l0 : (0 : Int) ≤ k := by omega
      have l1 : (k : Int) < m := by omega
      have H := hid hps
      have HT := hid (show tot L ≤ (k : Int) ∧ L.length ≤ k ∧ n ≤ k from ⟨htot, hlen, hnT⟩)
      have HK := hid hlt
      clear hps htot hlen hnT epn epf edk ewk eok hpv hlt hk
      go_upto_region 9 with fail
      obtain ⟨cbk, ecb⟩ : ∃ b, wr.heap.size = b := ⟨_, rfl⟩
      obtain ⟨W0, hW0⟩ : ∃ W, wr.alloc (.cells #[.int .i64 dk, .int .u8 (wk' : Int), .int .u8 (ok' : Int), .slice pl pnk pcap] 42) = W := ⟨_, rfl⟩
      obtain ⟨t1, hg1, hc1, hB1⟩ := gx_alloc H.out.G 15 [.int .i64 dk, .int .u8 (wk' : Int), .int .u8 (ok' : Int), .slice pl pnk pcap] 42
      rw [ecb] at hc1
      have hg1' : GX w w.heap.size t1 W0 := by rw [← hW0]; exact hg1
      rw [ecb, hW0]
      replace H := hid (H.out.scr (by decide) hg1' hB1)
      have C := hid hc1
      have BC := hg1'.blk hc1
      have d0 := BC.cell 0 _ rfl
      have d1 := BC.cell 1 _ rfl
      have d2 := BC.cell 2 _ rfl
      have d3 := BC.cell 3 _ rfl
      clear hg1 hg1' hc1 hB1 hW0 ecb BC c0 c1 c2 c3
      by_cases hd1 : dk = 1
      · subst hd1
        as_aux_lemma =>
          have HT2 : Hid (tot L ≤ ((k + 1 : Nat) : Int) ∧ L.length ≤ k + 1 ∧ n ≤ k + 1) := by obtain ⟨h1, h2, h3⟩ := HT.out; exact ⟨by omega, by omega, by omega⟩
          have j0 : (0 : Int) ≤ kk := by omega
          have j1 : (kk : Int) < 4 := by omega
          go_wp2_with fail
          refine (lent14 _ pnk pfk W0 (RP.out W0 H.out.G.bel) (by have := LP.out; omega)).mono ?_
          rintro e W1 ⟨v, rfl, ho, hb⟩
          obtain ⟨g, cap, rfl, hgl, hnc⟩ : ∃ g cap, v = .slice (some ⟨g, 0, none⟩) (pnk + 6) cap ∧ W0.heap.size ≤ g ∧ pnk + 6 ≤ cap := by
            rcases ho.shape with ⟨_, h0⟩ | ⟨g, cap, e, h1, _, h2, _⟩
            · omega
            · exact ⟨g, cap, e, h1, h2⟩
          have slf : ∀ W, (Instr.sliceAt 36 (.slice (some ⟨g, 0, none⟩) (pnk + 6) cap) none (some (.int .i64 (pnk : Int))) none).run Try.prog W = .ok (.slice (some ⟨g, 0, none⟩) pnk cap) W := fun W => sl_first W g (pnk + 6) cap pnk (by omega)
          have hg1 := H.out.G.one 14 (tB (.slice (some ⟨g, 0, none⟩) (pnk + 6) cap) (pnk + 6) (lent pnk pfk)) (Kp.of_below (fun _ => False) hb) (fun _ e => e.elim) (own_mono ho (Nat.zero_le _)) (fun j hj => .inr (own_row ho j hj))
          obtain ⟨t2, et2⟩ : ∃ t, up t1 14 (tB (.slice (some ⟨g, 0, none⟩) (pnk + 6) cap) (pnk + 6) (lent pnk pfk)) = t := ⟨_, rfl⟩
          have hB1 : But t1 t2 14 14 := by rw [← et2]; exact fun m h1 _ => up_ne _ _ h1
          have h14 : t2 14 = tB (.slice (some ⟨g, 0, none⟩) (pnk + 6) cap) (pnk + 6) (lent pnk pfk) := by rw [← et2]; exact up_at _ _ _
          rw [et2] at hg1
          replace H := hid (H.out.scr (by decide) hg1 hB1)
          replace C := hid ((hB1 15 (by decide) (by decide)).trans C.out)
          have F := hid h14
          clear hg1 hB1 h14 et2 ho hb hgl hnc d0 d1 d2 d3
          have HD : Hid (PS w lb mb sb rb sp rp u7 u8 x x bv L L n n ev ew en ef t2 W1.drew) := H.out.below (below_drewN W1 1)
          have hS0 : W1.cell? ⟨sb, kk, none⟩ = some (sp kk) ∧ W1.cell? ⟨cbk, 3, none⟩ = some (.slice pl pnk pcap) := ⟨H.out.cs hkk, (H.out.G.blk C.out).cell 3 _ rfl⟩
          have hS1 : W1.drew.cell? ⟨sb, kk, none⟩ = some (sp kk) ∧ W1.drew.cell? ⟨cbk, 3, none⟩ = some (.slice pl pnk pcap) := ⟨HD.out.cs hkk, (HD.out.G.blk C.out).cell 3 _ rfl⟩
          have RF : Hid (By.RB W1.drew (.slice (some ⟨g, 0, none⟩) pnk cap) pnk pfk) := (RB.first (HD.out.G.rd F.out) pnk (by omega)).congr (RP.out _ HD.out.G.bel).1 (fun i hi => by unfold lent; rw [if_pos hi])
          go_wp2_with fail
          go_region_held3 (fun W => W.cell? ⟨sb, kk, none⟩ = some (sp kk) ∧ W.cell? ⟨cbk, 3, none⟩ = some (.slice pl pnk pcap)) (with_reducible assumption) (first
            | (go_at_call 12; go_must (refine (gx_put HD.out.G (HD.out.ms kk hkk) RF.out).mono ?_; rintro e W2 ⟨rfl, t3, hg, h4, hB⟩; have H2 := hid (HD.out.prog hkk hg h4 (HD.out.l.keep (hB 0 (by omega) (by omega))) (fun m h1 _ => hB m h1 h1)); have C2 := hid ((hB 15 (by omega) (by omega)).trans C.out); have F2 := hid ((hB 14 (by omega) (by omega)).trans F.out); have hS2 : W2.cell? ⟨sb, kk, none⟩ = some (sp kk) ∧ W2.cell? ⟨cbk, 3, none⟩ = some (.slice pl pnk pcap) := ⟨H2.out.cs hkk, (H2.out.G.blk C2.out).cell 3 _ rfl⟩; clear hg h4 hB)))
          obtain ⟨E, hE⟩ : ∃ E, pc (x kk) pnk = E := ⟨_, rfl⟩
          have HE := hid hE
          rw [hE]
          clear hE HD hS0 hS1 hS2 RF H C F slf
          have HD : Hid (PS w lb mb sb rb sp rp u7 u8 (upd x kk (pk (x kk) pnk pfk)) x bv L L n n ev ew en ef t3 W2.drew) := H2.out.below (below_drewN W2 1)
          have hS0 : W2.cell? ⟨rb, kk, none⟩ = some (rp kk) ∧ W2.cell? ⟨cbk, 3, none⟩ = some (.slice pl pnk pcap) := ⟨H2.out.cr hkk, (H2.out.G.blk C2.out).cell 3 _ rfl⟩
          have hS1 : W2.drew.cell? ⟨rb, kk, none⟩ = some (rp kk) ∧ W2.drew.cell? ⟨cbk, 3, none⟩ = some (.slice pl pnk pcap) := ⟨HD.out.cr hkk, (HD.out.G.blk C2.out).cell 3 _ rfl⟩
          go_wp2_with fail
          go_region_held3 (fun W => W.cell? ⟨rb, kk, none⟩ = some (rp kk) ∧ W.cell? ⟨cbk, 3, none⟩ = some (.slice pl pnk pcap)) (with_reducible assumption) (first
            | (go_at_call 13; go_must (refine (kept17 _ _ pnk pfk W2.drew (HD.out.G.rd F2.out) (RP.out _ HD.out.G.bel) (by have := LP.out; omega)).mono ?_; rintro e W3 ⟨rfl, hb⟩; have H3 := hid (HD.out.below hb); have hS3 : W3.cell? ⟨rb, kk, none⟩ = some (rp kk) ∧ W3.cell? ⟨cbk, 3, none⟩ = some (.slice pl pnk pcap) := ⟨H3.out.cr hkk, (H3.out.G.blk C2.out).cell 3 _ rfl⟩; clear hb))
            | (go_at_call 14; go_must (refine (gx_rput H3.out.G (H3.out.rs kk hkk) (RP.out _ H3.out.G.bel)).mono ?_; rintro e W4 ⟨rfl, t4, b', hg, h8, hB⟩; have H4 := hid (H3.out.docm hkk hg h8 (H3.out.m.keep (hB 1 (by omega) (by omega))) (fun m h1 _ => hB m h1 h1)); have C4 := hid ((hB 15 (by omega) (by omega)).trans C2.out); have F4 := hid ((hB 14 (by omega) (by omega)).trans F2.out); have hS4 : W4.cell? ⟨rb, kk, none⟩ = some (rp kk) ∧ W4.cell? ⟨cbk, 3, none⟩ = some (.slice pl pnk pcap) := ⟨H4.out.cr hkk, (H4.out.G.blk C4.out).cell 3 _ rfl⟩; clear hg h8 hB; rw [HE.out])))
          clear HD hS0 hS1 hS3 hS4 H2 H3 C2 F2 C4
          have OF : By.Own W4 0 (.slice (some ⟨g, 0, none⟩) (pnk + 6) cap) (pnk + 6) (lent pnk pfk) := by have := H4.out.G.all 14; rw [F4.out] at this; exact this
          have HOF := hid OF
          clear OF
          go_wp2_with fail
          refine (over18 g cap (pnk + 6) 0 _ W4 HOF.out (by have := LP.out; omega)).mono ?_
          rintro e W5 ⟨rfl, ho5, hg5⟩
          have hgx := H4.out.G.one 14 (tB (.slice (some ⟨g, 0, none⟩) (pnk + 6) cap) (pnk + 6) over) (Kp.of_grown hg5) (fun j hj _ => by rw [F4.out]; exact hj) ho5 (fun j hj => .inl (by rw [F4.out]; exact hj))
          have H := hid (H4.out.scr (i := 14) (by decide) hgx (fun m h1 _ => up_ne _ _ h1))
          clear hgx ho5 hg5 HOF F4 H4 HE
          go_wp2_with fail
          refine (gx_runs H.out.G H.out.l (by obtain ⟨h1, h2, h3⟩ := HT2.out; have := HK.out; omega)).mono ?_
          rintro e Wr1 ⟨vr1, rfl, hr1, hb1⟩
          replace H := hid (H.out.below hb1)
          have R1 := hid hr1
          clear hr1 hb1
          go_wp2_with fail
          refine (gx_rruns H.out.G H.out.m (by obtain ⟨h1, h2, h3⟩ := HT2.out; have := HK.out; omega)).mono ?_
          rintro e Wr2 ⟨vr2, rfl, hr2, hb2⟩
          replace H := hid (H.out.below hb2)
          replace R1 := hid (Go.Proofs.Ythoklddoeoedgaa.RB.below R1.out hb2)
          have R2 := hid hr2
          clear hr2 hb2
          go_wp2_with fail
          refine (same14 vr1 vr2 _ _ Wr2 R1.out R2.out (by obtain ⟨h1, h2, h3⟩ := HT2.out; have := HK.out; omega) (by obtain ⟨h1, h2, h3⟩ := HT2.out; have := HK.out; omega)).mono ?_
          rintro e Wr3 ⟨rfl, dd, hdd⟩
          rw [decide_eq_true rfl]
          have PTn : Hid (PT w lb mb sb rb sp rp (k + 1) (u7) (u8) Wr3) := ⟨_, _, _, _, _, _, _, _, _, by rw [hdd]; exact H.out.below (below_drewN Wr2 dd), HT2.out⟩
          clear hdd R1 R2 H
          go_wp2
          go_roundw
          case rel => exact ⟨k + 1, by have := HK.out; omega, by go_num, PTn.out⟩
          case measure => have := HK.out; simp [intOf]; omega
      · by_cases hd2 : dk = 2
        · subst hd2
          clear hd1
          as_aux_lemma =>
            have HT2 : Hid (tot L ≤ ((k + 1 : Nat) : Int) ∧ L.length ≤ k + 1 ∧ n + 1 ≤ k + 1) := by obtain ⟨h1, h2, h3⟩ := HT.out; exact ⟨by omega, by omega, by omega⟩
            have HNB : Hid ((n + 1) * 24 ≤ 140737488355328) := by obtain ⟨h1, h2, h3⟩ := HT.out; have := HK.out; show (n + 1) * 24 ≤ 140737488355328; omega
            have j0 : (0 : Int) ≤ kk := by omega
            have j1 : (kk : Int) < 4 := by omega
            have cs := H.out.cs hkk
            go_wp2_with fail
            refine (gx_bytes H.out.G (H.out.ms kk hkk) (20 + 2 * n)).mono ?_
            rintro e W1 ⟨v, rfl, t2, hg, h20, hB⟩
            have HKN : Hid (kn (x kk) ≤ 1024) := kn_le (H.out.G.mem (H.out.ms kk hkk))
            have H1 := hid (H.out.free hg (fun m hm => hB m (by rcases hm with e | ⟨j, _, e⟩ | ⟨j, _, e⟩ <;> omega) (by rcases hm with e | ⟨j, _, e⟩ | ⟨j, _, e⟩ <;> omega)))
            have F := hid h20
            obtain ⟨va, vc, rfl⟩ := By.RB.isSlice (hg.rd h20)
            clear hg h20 hB cs d0 d1 d2 d3 H C
            have TW : Hid ((W1.alloc (.cells #[.slice va (kn (x kk)) vc] 36)).ownsRow 0 36 1 u7 n (vals n ev)) := by
              have := (H1.out.G.below (below_alloc W1 (.cells #[.slice va (kn (x kk)) vc] 36))).all 12
              rw [H1.out.told] at this; exact this
            go_wp2_with (at_builtin; go_must (refine wpList_pushV rfl _ _ rfl 0 _ n (vals n ev) _ TW.out rfl ?c1 ?c2 ⟨_, 0, none⟩ rfl rfl (cell_newV _ _ _ rfl) ?_))
            case c1 => exact Nat.zero_le _
            case c2 => exact HNB.out
            intro u' W2 hown hkp hson
            have H2 := hid ((H1.out.below (below_alloc W1 (.cells #[.slice va (kn (x kk)) vc] 36))).tell rfl F.out HKN.out hown hkp hson)
            clear hown hkp hson TW
            have cr := H2.out.cr hkk
            go_wp2_with fail
            refine (gx_rbytes H2.out.G (H2.out.rs kk hkk) (21 + 2 * n)).mono ?_
            rintro e W3 ⟨v2, rfl, t3, hg, h21, hB, -⟩
            have H3 := hid (H2.out.free hg (fun m hm => hB m (by rcases hm with e | ⟨j, _, e⟩ | ⟨j, _, e⟩ <;> omega) (by rcases hm with e | ⟨j, _, e⟩ | ⟨j, _, e⟩ <;> omega)))
            have F3 : Hid (t3 (21 + 2 * n) = tB v2 (upd en n (kn (x kk)) n) (upd ef n (kf (x kk)) n)) := by show _ = _; rw [upd_at, upd_at]; exact h21
            obtain ⟨va2, vc2, rfl⟩ := By.RB.isSlice (hg.rd h21)
            clear hg h21 hB cr H2
            have TW : Hid ((W3.alloc (.cells #[.slice va2 (kn (x kk)) vc2] 36)).ownsRow 0 36 1 u8 n (vals n ew)) := by
              have := (H3.out.G.below (below_alloc W3 (.cells #[.slice va2 (kn (x kk)) vc2] 36))).all 13
              rw [H3.out.want] at this; exact this
            go_wp2_with (at_builtin; go_must (refine wpList_pushV rfl _ _ rfl 0 _ n (vals n ew) _ TW.out rfl ?c1 ?c2 ⟨_, 0, none⟩ rfl rfl (cell_newV _ _ _ rfl) ?_))
            case c1 => exact Nat.zero_le _
            case c2 => exact HNB.out
            intro uw W4 hown hkp hson
            have H4 := hid ((H3.out.below (below_alloc W3 (.cells #[.slice va2 (kn (x kk)) vc2] 36))).rtell F3.out hown hkp hson)
            obtain ⟨gw, cw, rfl, cwn⟩ : ∃ g c, uw = .slice (some ⟨g, 0, none⟩) (n + 1) c ∧ W4.cell? ⟨g, n, none⟩ = some (.slice va2 (kn (x kk)) vc2) := by
              have h2 := hown
              rcases hown.2 with ⟨_, h0⟩ | ⟨g, cap, cur, rfl, _⟩
              · omega
              · exact ⟨g, cap, rfl, by rw [h2.cellAt n (by omega), List.getElem?_append_right (by rw [vals_length]; omega), vals_length, Nat.sub_self]; rfl⟩
            clear hown hkp hson TW H1 H3 F F3
            obtain ⟨t5, H5'⟩ : ∃ t5, Hid (PS w lb mb sb rb sp rp u' (.slice (some ⟨gw, 0, none⟩) (n + 1) cw) x x bv L L (n + 1) (n + 1) (upd ev n (.slice va (kn (x kk)) vc)) (upd ew n (.slice va2 (kn (x kk)) vc2)) (upd en n (kn (x kk))) (upd ef n (kf (x kk))) t5 W4) := ⟨_, H4.out⟩
            clear H4
            have H4 := H5'
            clear H5'
            have n0 : (0 : Int) ≤ n := by omega
            obtain ⟨N1, eN1⟩ : ∃ q, n + 1 = q := ⟨_, rfl⟩
            rw [eN1] at H4 HT2 ⊢
            have HN1 := hid eN1
            have nb : (n : Int) < N1 := by omega
            have wn : IntKind.i64.wrap ((N1 : Int) - 1) = n := by rw [IntKind.wrap_i64]; have := HNB.out; omega
            clear eN1
            have HD : Hid (PS w lb mb sb rb sp rp u' (.slice (some ⟨gw, 0, none⟩) N1 cw) x x bv L L N1 N1 (upd ev n (.slice va (kn (x kk)) vc)) (upd ew n (.slice va2 (kn (x kk)) vc2)) (upd en n (kn (x kk))) (upd ef n (kf (x kk))) t5 W4.drew) := H4.out.below (below_drewN W4 1)
            have CW : Hid (∀ W, PS w lb mb sb rb sp rp u' (.slice (some ⟨gw, 0, none⟩) N1 cw) x x bv L L N1 N1 (upd ev n (.slice va (kn (x kk)) vc)) (upd ew n (.slice va2 (kn (x kk)) vc2)) (upd en n (kn (x kk))) (upd ef n (kf (x kk))) t5 W → W.cell? ⟨gw, n, none⟩ = some (.slice va2 (kn (x kk)) vc2) ∧ W.cell? ⟨sb, kk, none⟩ = some (sp kk) ∧ W.cell? ⟨rb, kk, none⟩ = some (rp kk)) := fun W hp => ⟨by
              have := hp.G.all 13
              rw [hp.want] at this
              have h2 : W.ownsRow 0 36 1 (.slice (some ⟨gw, 0, none⟩) N1 cw) N1 (vals N1 (upd ew n (.slice va2 (kn (x kk)) vc2))) := this
              rw [h2.cellAt n (by have := HN1.out; omega), vals_get _ _ _ (by have := HN1.out; omega), upd_at], hp.cs hkk, hp.cr hkk⟩
            have hS0 := CW.out W4 H4.out
            have hS1 := CW.out W4.drew HD.out
            have R1 : Hid (By.RB W4.drew (.slice va (kn (x kk)) vc) (kn (x kk)) (kf (x kk))) := by have := HD.out.G.rd (HD.out.te n (by have := HN1.out; omega)); rw [upd_at, upd_at, upd_at] at this; exact this
            have R2 : Hid (By.RB W4.drew (.slice va2 (kn (x kk)) vc2) (kn (x kk)) (kf (x kk))) := by have := HD.out.G.rd (HD.out.we n (by have := HN1.out; omega)); rw [upd_at, upd_at, upd_at] at this; exact this
            have es : eqS (kf (x kk)) (kf (x kk)) = true := eqS_true (fun _ _ => rfl)
            clear cwn
            go_wp2_with fail
            go_region_held3 (fun W => W.cell? ⟨gw, n, none⟩ = some (.slice va2 (kn (x kk)) vc2) ∧ W.cell? ⟨sb, kk, none⟩ = some (sp kk) ∧ W.cell? ⟨rb, kk, none⟩ = some (rp kk)) (with_reducible assumption) (first
              | (go_at_call 18; go_must (refine (same_true _ _ (kn (x kk)) _ _ W4.drew R1.out R2.out (by have := HKN.out; omega) (fun _ _ => rfl)).mono ?_; rintro e W5 ⟨rfl, dd, hd⟩; have b5 := below_drewN W4.drew dd; rw [← hd] at b5; have H5 := hid (HD.out.below b5); have hS2 := CW.out _ H5.out; clear hd b5))
              | (go_at_call 19; go_must (refine (gx_look H5.out.G (H5.out.ms kk hkk)).mono ?_; rintro e W6 ⟨rfl, -, hb⟩; have H6 := hid (H5.out.below hb); have hS3 := CW.out _ H6.out; clear hb))
              | (go_at_call 20; go_must (refine (gx_rlook H6.out.G (H6.out.rs kk hkk)).mono ?_; rintro e W7 ⟨rfl, -, hb⟩; have H7 := hid (H6.out.below hb); have hS4 := CW.out _ H7.out; clear hb))
              | (go_at_call 21; go_must (refine (gx_len H7.out.G (H7.out.ms kk hkk)).mono ?_; rintro e W7 ⟨rfl, rfl⟩))
              | (go_at_call 22; go_must (refine (gx_rlen H7.out.G (H7.out.rs kk hkk)).mono ?_; rintro e W7 ⟨rfl, rfl⟩)))
            have H := H7
            clear H4 H5 H6 H7 HD hS0 hS1 hS2 hS3 hS4 R1 R2 CW
            go_wp2_with fail
            refine (gx_runs H.out.G H.out.l (by obtain ⟨h1, h2, h3⟩ := HT2.out; have := HK.out; omega)).mono ?_
            rintro e Wr1 ⟨vr1, rfl, hr1, hb1⟩
            replace H := hid (H.out.below hb1)
            have R1 := hid hr1
            clear hr1 hb1
            go_wp2_with fail
            refine (gx_rruns H.out.G H.out.m (by obtain ⟨h1, h2, h3⟩ := HT2.out; have := HK.out; omega)).mono ?_
            rintro e Wr2 ⟨vr2, rfl, hr2, hb2⟩
            replace H := hid (H.out.below hb2)
            replace R1 := hid (Go.Proofs.Ythoklddoeoedgaa.RB.below R1.out hb2)
            have R2 := hid hr2
            clear hr2 hb2
            go_wp2_with fail
            refine (same14 vr1 vr2 _ _ Wr2 R1.out R2.out (by obtain ⟨h1, h2, h3⟩ := HT2.out; have := HK.out; omega) (by obtain ⟨h1, h2, h3⟩ := HT2.out; have := HK.out; omega)).mono ?_
            rintro e Wr3 ⟨rfl, dd, hdd⟩
            rw [decide_eq_true rfl]
            have PTn : Hid (PT w lb mb sb rb sp rp (k + 1) (u') (.slice (some ⟨gw, 0, none⟩) N1 cw) Wr3) := ⟨_, _, _, _, _, _, _, _, _, by rw [hdd]; exact H.out.below (below_drewN Wr2 dd), HT2.out⟩
            clear hdd R1 R2 H
            go_wp2
            go_roundw
            case rel => exact ⟨k + 1, by have := HK.out; omega, by go_num, PTn.out⟩
            case measure => have := HK.out; simp [intOf]; omega
        · by_cases hd3 : dk = 3
          · subst hd3
            clear hd1 hd2
            as_aux_lemma =>
              have RM : Hid (Room L) := by obtain ⟨h1, h2, h3⟩ := HT.out; have := HK.out; exact ⟨by omega, by omega⟩
              have HT2 : Hid (tot (wl (x kk) L) ≤ ((k + 1 : Nat) : Int) ∧ (wl (x kk) L).length ≤ k + 1 ∧ n ≤ k + 1) := by
                obtain ⟨h1, h2, h3⟩ := HT.out
                obtain ⟨q1, q2⟩ := wl_tot (x kk) H.out.pos RM.out.1
                exact ⟨by omega, by omega, by omega⟩
              have HD : Hid (PS w lb mb sb rb sp rp u7 u8 x x bv L L n n ev ew en ef t1 W0.drew) := H.out.below (below_drewN W0 1)
              have hS0 : W0.cell? ⟨sb, kk, none⟩ = some (sp kk) ∧ W0.cell? ⟨rb, kk, none⟩ = some (rp kk) := ⟨H.out.cs hkk, H.out.cr hkk⟩
              have hS1 : W0.drew.cell? ⟨sb, kk, none⟩ = some (sp kk) ∧ W0.drew.cell? ⟨rb, kk, none⟩ = some (rp kk) := ⟨HD.out.cs hkk, HD.out.cr hkk⟩
              have j0 : (0 : Int) ≤ kk := by omega
              have j1 : (kk : Int) < 4 := by omega
              go_wp2_with fail
              go_region_held3 (fun W => W.cell? ⟨sb, kk, none⟩ = some (sp kk) ∧ W.cell? ⟨rb, kk, none⟩ = some (rp kk)) (with_reducible assumption) (first
                | (go_at_call 23; go_must (refine (gx_wipe HD.out.G (HD.out.ms kk hkk) HD.out.l (by omega) RM.out).mono ?_; rintro e W1 ⟨rfl, t2, hg, h4, h0, hB⟩; have H1 := hid (HD.out.prog hkk hg h4 h0 hB); have hS2 : W1.cell? ⟨sb, kk, none⟩ = some (sp kk) ∧ W1.cell? ⟨rb, kk, none⟩ = some (rp kk) := ⟨H1.out.cs hkk, H1.out.cr hkk⟩; clear hg h4 h0 hB))
                | (go_at_call 24; go_must (refine (gx_rwipe H1.out.G (H1.out.rs kk hkk) H1.out.m (by omega) RM.out).mono ?_; rintro e W2 ⟨rfl, t3, b', hg, h8, h1, hB⟩; have H2 := hid (H1.out.docm hkk hg h8 h1 hB); have hS3 : W2.cell? ⟨sb, kk, none⟩ = some (sp kk) ∧ W2.cell? ⟨rb, kk, none⟩ = some (rp kk) := ⟨H2.out.cs hkk, H2.out.cr hkk⟩; clear hg h8 h1 hB)))
              replace H := H2
              clear H1 H2 HD hS0 hS1 hS2 hS3 RM
              go_wp2_with fail
              refine (gx_runs H.out.G H.out.l (by obtain ⟨h1, h2, h3⟩ := HT2.out; have := HK.out; omega)).mono ?_
              rintro e Wr1 ⟨vr1, rfl, hr1, hb1⟩
              replace H := hid (H.out.below hb1)
              have R1 := hid hr1
              clear hr1 hb1 d0 d1 d2 d3
              go_wp2_with fail
              refine (gx_rruns H.out.G H.out.m (by obtain ⟨h1, h2, h3⟩ := HT2.out; have := HK.out; omega)).mono ?_
              rintro e Wr2 ⟨vr2, rfl, hr2, hb2⟩
              replace H := hid (H.out.below hb2)
              replace R1 := hid (Go.Proofs.Ythoklddoeoedgaa.RB.below R1.out hb2)
              have R2 := hid hr2
              clear hr2 hb2
              go_wp2_with fail
              refine (same14 vr1 vr2 _ _ Wr2 R1.out R2.out (by obtain ⟨h1, h2, h3⟩ := HT2.out; have := HK.out; omega) (by obtain ⟨h1, h2, h3⟩ := HT2.out; have := HK.out; omega)).mono ?_
              rintro e Wr3 ⟨rfl, dd, hdd⟩
              rw [decide_eq_true rfl]
              have PTn : Hid (PT w lb mb sb rb sp rp (k + 1) (u7) (u8) Wr3) := ⟨_, _, _, _, _, _, _, _, _, by rw [hdd]; exact H.out.below (below_drewN Wr2 dd), HT2.out⟩
              clear hdd R1 R2 H
              go_wp2
              go_roundw
              case rel => exact ⟨k + 1, by have := HK.out; omega, by go_num, PTn.out⟩
              case measure => have := HK.out; simp [intOf]; omega
          · by_cases hd4 : dk = 4
            · subst hd4
              clear hd1 hd2 hd3
              as_aux_lemma =>
                have RM : Hid (Room L) := by obtain ⟨h1, h2, h3⟩ := HT.out; have := HK.out; exact ⟨by omega, by omega⟩
                have HT2 : Hid (tot (sl (x kk) (x oo) L) ≤ ((k + 1 : Nat) : Int) ∧ (sl (x kk) (x oo) L).length ≤ k + 1 ∧ n ≤ k + 1) := by
                  obtain ⟨h1, h2, h3⟩ := HT.out
                  obtain ⟨q1, q2⟩ := sl_tot (x kk) (x oo) H.out.pos RM.out.1
                  exact ⟨by omega, by omega, by omega⟩
                have HD : Hid (PS w lb mb sb rb sp rp u7 u8 x x bv L L n n ev ew en ef t1 W0.drew) := H.out.below (below_drewN W0 1)
                have hS0 : W0.cell? ⟨sb, kk, none⟩ = some (sp kk) ∧ W0.cell? ⟨sb, oo, none⟩ = some (sp oo) ∧ W0.cell? ⟨rb, kk, none⟩ = some (rp kk) ∧ W0.cell? ⟨rb, oo, none⟩ = some (rp oo) := ⟨H.out.cs hkk, H.out.cs hoo, H.out.cr hkk, H.out.cr hoo⟩
                have hS1 : W0.drew.cell? ⟨sb, kk, none⟩ = some (sp kk) ∧ W0.drew.cell? ⟨sb, oo, none⟩ = some (sp oo) ∧ W0.drew.cell? ⟨rb, kk, none⟩ = some (rp kk) ∧ W0.drew.cell? ⟨rb, oo, none⟩ = some (rp oo) := ⟨HD.out.cs hkk, HD.out.cs hoo, HD.out.cr hkk, HD.out.cr hoo⟩
                have j0 : (0 : Int) ≤ kk := by omega
                have j1 : (kk : Int) < 4 := by omega
                have j2 : (0 : Int) ≤ oo := by omega
                have j3 : (oo : Int) < 4 := by omega
                go_wp2_with fail
                go_region_held3 (fun W => W.cell? ⟨sb, kk, none⟩ = some (sp kk) ∧ W.cell? ⟨sb, oo, none⟩ = some (sp oo) ∧ W.cell? ⟨rb, kk, none⟩ = some (rp kk) ∧ W.cell? ⟨rb, oo, none⟩ = some (rp oo)) (with_reducible assumption) (first
                  | (go_at_call 25; go_must (refine (gx_same HD.out.G (HD.out.ms kk hkk) (HD.out.ms oo hoo) HD.out.l (by omega) (by omega) RM.out).mono ?_; rintro e W1 ⟨rfl, t2, hg, h0, hB⟩; have H1 := hid (HD.out.led hg h0 hB); have hS2 : W1.cell? ⟨sb, kk, none⟩ = some (sp kk) ∧ W1.cell? ⟨sb, oo, none⟩ = some (sp oo) ∧ W1.cell? ⟨rb, kk, none⟩ = some (rp kk) ∧ W1.cell? ⟨rb, oo, none⟩ = some (rp oo) := ⟨H1.out.cs hkk, H1.out.cs hoo, H1.out.cr hkk, H1.out.cr hoo⟩; clear hg h0 hB))
                  | (go_at_call 26; go_must (refine (gx_rsame H1.out.G (H1.out.rs kk hkk) (H1.out.rs oo hoo) H1.out.m (by omega) (by omega) RM.out).mono ?_; rintro e W2 ⟨rfl, t3, hg, h1, hB⟩; have H2 := hid (H1.out.rled hg h1 hB); have hS3 : W2.cell? ⟨sb, kk, none⟩ = some (sp kk) ∧ W2.cell? ⟨sb, oo, none⟩ = some (sp oo) ∧ W2.cell? ⟨rb, kk, none⟩ = some (rp kk) ∧ W2.cell? ⟨rb, oo, none⟩ = some (rp oo) := ⟨H2.out.cs hkk, H2.out.cs hoo, H2.out.cr hkk, H2.out.cr hoo⟩; clear hg h1 hB)))
                replace H := H2
                clear H1 H2 HD hS0 hS1 hS2 hS3 RM
                go_wp2_with fail
                refine (gx_runs H.out.G H.out.l (by obtain ⟨h1, h2, h3⟩ := HT2.out; have := HK.out; omega)).mono ?_
                rintro e Wr1 ⟨vr1, rfl, hr1, hb1⟩
                replace H := hid (H.out.below hb1)
                have R1 := hid hr1
                clear hr1 hb1 d0 d1 d2 d3
                go_wp2_with fail
                refine (gx_rruns H.out.G H.out.m (by obtain ⟨h1, h2, h3⟩ := HT2.out; have := HK.out; omega)).mono ?_
                rintro e Wr2 ⟨vr2, rfl, hr2, hb2⟩
                replace H := hid (H.out.below hb2)
                replace R1 := hid (Go.Proofs.Ythoklddoeoedgaa.RB.below R1.out hb2)
                have R2 := hid hr2
                clear hr2 hb2
                go_wp2_with fail
                refine (same14 vr1 vr2 _ _ Wr2 R1.out R2.out (by obtain ⟨h1, h2, h3⟩ := HT2.out; have := HK.out; omega) (by obtain ⟨h1, h2, h3⟩ := HT2.out; have := HK.out; omega)).mono ?_
                rintro e Wr3 ⟨rfl, dd, hdd⟩
                rw [decide_eq_true rfl]
                have PTn : Hid (PT w lb mb sb rb sp rp (k + 1) (u7) (u8) Wr3) := ⟨_, _, _, _, _, _, _, _, _, by rw [hdd]; exact H.out.below (below_drewN Wr2 dd), HT2.out⟩
                clear hdd R1 R2 H
                go_wp2
                go_roundw
                case rel => exact ⟨k + 1, by have := HK.out; omega, by go_num, PTn.out⟩
                case measure => have := HK.out; simp [intOf]; omega
            · have q1 : (dk == 1) = false := by simp [hd1]
              have q2 : (dk == 2) = false := by simp [hd2]
              have q3 : (dk == 3) = false := by simp [hd3]
              have q4 : (dk == 4) = false := by simp [hd4]
              have HT2 : Hid (tot L ≤ ((k + 1 : Nat) : Int) ∧ L.length ≤ k + 1 ∧ n ≤ k + 1) := by obtain ⟨h1, h2, h3⟩ := HT.out; exact ⟨by omega, by omega, by omega⟩
              as_aux_lemma =>
                go_wp2_with fail
                refine (gx_runs H.out.G H.out.l (by obtain ⟨h1, h2, h3⟩ := HT2.out; have := HK.out; omega)).mono ?_
                rintro e Wr1 ⟨vr1, rfl, hr1, hb1⟩
                replace H := hid (H.out.below hb1)
                have R1 := hid hr1
                clear hr1 hb1 d0 d1 d2 d3
                go_wp2_with fail
                refine (gx_rruns H.out.G H.out.m (by obtain ⟨h1, h2, h3⟩ := HT2.out; have := HK.out; omega)).mono ?_
                rintro e Wr2 ⟨vr2, rfl, hr2, hb2⟩
                replace H := hid (H.out.below hb2)
                replace R1 := hid (Go.Proofs.Ythoklddoeoedgaa.RB.below R1.out hb2)
                have R2 := hid hr2
                clear hr2 hb2
                go_wp2_with fail
                refine (same14 vr1 vr2 _ _ Wr2 R1.out R2.out (by obtain ⟨h1, h2, h3⟩ := HT2.out; have := HK.out; omega) (by obtain ⟨h1, h2, h3⟩ := HT2.out; have := HK.out; omega)).mono ?_
                rintro e Wr3 ⟨rfl, dd, hdd⟩
                rw [decide_eq_true rfl]
                have PTn : Hid (PT w lb mb sb rb sp rp (k + 1) (u7) (u8) Wr3) := ⟨_, _, _, _, _, _, _, _, _, by rw [hdd]; exact H.out.below (below_drewN Wr2 dd), HT2.out⟩
                clear hdd R1 R2 H
                go_wp2
                go_roundw
                case rel => exact ⟨k + 1, by have := HK.out; omega, by go_num, PTn.out⟩
                case measure => have := HK.out; simp [intOf]; omega
    · have l1 : ¬ (k : Int) < m := by omega
      clear hlt
      as_aux_lemma =>
        have H := hid hps
        have HKM : Hid (k ≤ 3600000000000) := by show k ≤ 3600000000000; omega
        have HT := hid (show n ≤ k from hnT)
        clear hps htot hlen hnT hk
        obtain ⟨ta, tc, rfl⟩ : ∃ a c, u7 = .slice a n c := row_slice (by have := H.out.G.all 12; rw [H.out.told] at this; exact this)
        obtain ⟨wa, wcap, rfl⟩ : ∃ a c, u8 = .slice a n c := row_slice (by have := H.out.G.all 13; rw [H.out.want] at this; exact this)
        go_wp2_with fail
        go_loopw [17] (fun z w2 => ∃ q : Nat, q ≤ 4 ∧ z = .int .i64 q ∧ PS w lb mb sb rb sp rp (.slice ta n tc) (.slice wa n wcap) x x bv L L n n ev ew en ef t0 w2) (fun z _ => 4 - (intOf z).toNat)
        case atStart => exact ⟨0, by omega, rfl, H.out⟩
        case round =>
          clear H
          rename_i w2
          obtain ⟨q, hq, rfl, hps⟩ := hrel
          by_cases hq4 : q < 4
          · as_aux_lemma =>
              have H := hid hps
              clear hps
              have HD : Hid (PS w lb mb sb rb sp rp (.slice ta n tc) (.slice wa n wcap) x x bv L L n n ev ew en ef t0 wr.drew) := H.out.below (below_drewN wr 1)
              have hS0 : wr.cell? ⟨sb, q, none⟩ = some (sp q) ∧ wr.cell? ⟨rb, q, none⟩ = some (rp q) := ⟨H.out.cs hq4, H.out.cr hq4⟩
              have hS1 : wr.drew.cell? ⟨sb, q, none⟩ = some (sp q) ∧ wr.drew.cell? ⟨rb, q, none⟩ = some (rp q) := ⟨HD.out.cs hq4, HD.out.cr hq4⟩
              have j0 : (0 : Int) ≤ q := by omega
              have j1 : (q : Int) < 4 := by omega
              have es : eqS (kf (x q)) (kf (x q)) = true := eqS_true (fun _ _ => rfl)
              have HQ := hid hq4
              clear hq
              go_wp2_with fail
              go_region_held3 (fun W => W.cell? ⟨sb, q, none⟩ = some (sp q) ∧ W.cell? ⟨rb, q, none⟩ = some (rp q)) (with_reducible assumption) (first
                | (go_at_call 19; go_must (refine (gx_look HD.out.G (HD.out.ms q hq4)).mono ?_; rintro e W6 ⟨rfl, -, hb⟩; have H6 := hid (HD.out.below hb); have hS3 : W6.cell? ⟨sb, q, none⟩ = some (sp q) ∧ W6.cell? ⟨rb, q, none⟩ = some (rp q) := ⟨H6.out.cs hq4, H6.out.cr hq4⟩; clear hb))
                | (go_at_call 20; go_must (refine (gx_rlook H6.out.G (H6.out.rs q hq4)).mono ?_; rintro e W7 ⟨rfl, -, hb⟩; have H7 := hid (H6.out.below hb); have hS4 : W7.cell? ⟨sb, q, none⟩ = some (sp q) ∧ W7.cell? ⟨rb, q, none⟩ = some (rp q) := ⟨H7.out.cs hq4, H7.out.cr hq4⟩; clear hb))
                | (go_at_call 21; go_must (refine (gx_len H7.out.G (H7.out.ms q hq4)).mono ?_; rintro e W7 ⟨rfl, rfl⟩))
                | (go_at_call 22; go_must (refine (gx_rlen H7.out.G (H7.out.rs q hq4)).mono ?_; rintro e W7 ⟨rfl, rfl⟩)))
              clear HD hS0 hS1 hS3 hS4 H6 H
              go_wp2
              go_roundw
              case rel => exact ⟨q + 1, by have := HQ.out; omega, by go_num, H7.out⟩
              case measure => have := HQ.out; simp [intOf]; omega
          · have H := hid hps
            have l2 : ¬ (q : Int) < 4 := by omega
            clear hps hq hq4
            go_wp2_with fail
            go_loopw [18] (fun z w3 => ∃ j : Nat, j ≤ n ∧ z = .int .i64 j ∧ PS w lb mb sb rb sp rp (.slice ta n tc) (.slice wa n wcap) x x bv L L n n ev ew en ef t0 w3) (fun z _ => n - (intOf z).toNat)
            case atStart => exact ⟨0, Nat.zero_le _, rfl, H.out⟩
            case round =>
              clear H
              obtain ⟨j, hj, rfl, hps⟩ := hrel
              by_cases hjn : j < n
              · as_aux_lemma =>
                  obtain ⟨gt, rfl, ct⟩ := row_cell (by have := hps.G.all 12; rw [hps.told] at this; exact this) hjn
                  obtain ⟨gw, rfl, cw⟩ := row_cell (by have := hps.G.all 13; rw [hps.want] at this; exact this) hjn
                  have H := hid hps
                  have HD := hid (hps.below (below_drewN wr 1))
                  have CW : Hid (∀ W, PS w lb mb sb rb sp rp (.slice (some ⟨gt, 0, none⟩) n tc) (.slice (some ⟨gw, 0, none⟩) n wcap) x x bv L L n n ev ew en ef t0 W → W.cell? ⟨gt, j, none⟩ = some (ev j) ∧ W.cell? ⟨gw, j, none⟩ = some (ew j)) := fun W hp => ⟨by
                    obtain ⟨g', e, c'⟩ := row_cell (by have := hp.G.all 12; rw [hp.told] at this; exact this) hjn
                    cases e; exact c', by
                    obtain ⟨g', e, c'⟩ := row_cell (by have := hp.G.all 13; rw [hp.want] at this; exact this) hjn
                    cases e; exact c'⟩
                  have hS0 := CW.out wr H.out
                  have hS1 := CW.out wr.drew HD.out
                  have R1 := hid (HD.out.G.rd (HD.out.te j hjn))
                  have R2 := hid (HD.out.G.rd (HD.out.we j hjn))
                  have LE := hid (hps.le j hjn)
                  have j0 : (0 : Int) ≤ j := by omega
                  have j1 : (j : Int) < n := by omega
                  have jb : (j : Int) ≤ 3600000000000 := by have := HT.out; have := HKM.out; omega
                  have HJ := hid hjn
                  clear hps ct cw hj hjn
                  go_wp2_with fail
                  go_region_held3 (fun W => W.cell? ⟨gt, j, none⟩ = some (ev j) ∧ W.cell? ⟨gw, j, none⟩ = some (ew j)) (with_reducible assumption) (first
                    | (go_at_call 18; go_must (refine (same_true _ _ (en j) (ef j) (ef j) wr.drew R1.out R2.out (by have := LE.out; omega) (fun _ _ => rfl)).mono ?_; rintro e W5 ⟨rfl, dd, hd⟩; have b5 := below_drewN wr.drew dd; rw [← hd] at b5; have H5 := hid (HD.out.below b5); have hS2 := CW.out _ H5.out; clear hd b5)))
                  clear HD hS0 hS1 hS2 H CW R1 R2
                  go_wp2
                  go_roundw
                  case rel => exact ⟨j + 1, by have := HJ.out; omega, by go_num, H5.out⟩
                  case measure => have := HJ.out; simp [intOf]; omega
              · as_aux_lemma =>
                  have H := hid hps
                  have l3 : ¬ (j : Int) < n := by omega
                  have HNN : Hid (n ≤ 5000000000000) := by have := HT.out; have := HKM.out; show n ≤ 5000000000000; omega
                  clear hps hj hjn
                  have E0 : eqS (kf (x 0)) (kf (x 0)) = true := eqS_true (fun _ _ => rfl)
                  have E1 : eqS (kf (x 1)) (kf (x 1)) = true := eqS_true (fun _ _ => rfl)
                  have HD := hid (H.out.below (below_drewN wr 1))
                  have hS0 : wr.cell? ⟨sb, 0, none⟩ = some (sp 0) ∧ wr.cell? ⟨rb, 0, none⟩ = some (rp 0) ∧ wr.cell? ⟨sb, 1, none⟩ = some (sp 1) ∧ wr.cell? ⟨rb, 1, none⟩ = some (rp 1) := ⟨H.out.cs (by decide), H.out.cr (by decide), H.out.cs (by decide), H.out.cr (by decide)⟩
                  have hS1 : wr.drew.cell? ⟨sb, 0, none⟩ = some (sp 0) ∧ wr.drew.cell? ⟨rb, 0, none⟩ = some (rp 0) ∧ wr.drew.cell? ⟨sb, 1, none⟩ = some (sp 1) ∧ wr.drew.cell? ⟨rb, 1, none⟩ = some (rp 1) := ⟨HD.out.cs (by decide), HD.out.cr (by decide), HD.out.cs (by decide), HD.out.cr (by decide)⟩
                  have T2 := hid ((rest_lt t0 n (by omega : 2 < 20)).trans H.out.s)
                  have T3 := hid ((rest_lt t0 n (by omega : 3 < 20)).trans H.out.r)
                  have T4 := hid ((rest_lt t0 n (by omega : 4 < 20)).trans (H.out.ms 0 (by decide)))
                  have T5 := hid ((rest_lt t0 n (by omega : 5 < 20)).trans (H.out.ms 1 (by decide)))
                  have T8 := hid ((rest_lt t0 n (by omega : 8 < 20)).trans (H.out.rs 0 (by decide)))
                  have T9 := hid ((rest_lt t0 n (by omega : 9 < 20)).trans (H.out.rs 1 (by decide)))
                  have CW : Hid (∀ W, GX w w.heap.size (rest t0 n) W → W.cell? ⟨sb, 0, none⟩ = some (sp 0) ∧ W.cell? ⟨rb, 0, none⟩ = some (rp 0) ∧ W.cell? ⟨sb, 1, none⟩ = some (sp 1) ∧ W.cell? ⟨rb, 1, none⟩ = some (rp 1)) := fun W g => ⟨(g.blk T2.out).cell 0 _ (four_get sp 0 (by decide)), (g.blk T3.out).cell 0 _ (four_get rp 0 (by decide)), (g.blk T2.out).cell 1 _ (four_get sp 1 (by decide)), (g.blk T3.out).cell 1 _ (four_get rp 1 (by decide))⟩
                  go_wp2_with fail
                  go_region_held3 (fun W => W.cell? ⟨sb, 0, none⟩ = some (sp 0) ∧ W.cell? ⟨rb, 0, none⟩ = some (rp 0) ∧ W.cell? ⟨sb, 1, none⟩ = some (sp 1) ∧ W.cell? ⟨rb, 1, none⟩ = some (rp 1)) (with_reducible assumption) (first
                    | (go_at_call 30; go_must (refine (gx_apart HD.out HNN.out).mono ?_; rintro e Wa ⟨rfl, hg⟩; have Ga := hid hg; have hSa := CW.out _ hg; clear hg))
                    | (go_at_call 19; first
                        | (have tagD := Gc; go_must (refine (gx_look Gc.out T5.out).mono ?_; rintro e Wd ⟨rfl, hg, -⟩; have Gd := hid hg; have hSd := CW.out _ hg; clear hg tagD))
                        | (go_must (refine (gx_look Ga.out T4.out).mono ?_; rintro e Wb ⟨rfl, hg, -⟩; have Gb := hid hg; have hSb := CW.out _ hg; clear hg)))
                    | (go_at_call 20; first
                        | (have tagE := Gd; go_must (refine (gx_rlook Gd.out T9.out).mono ?_; rintro e We ⟨rfl, hg, -⟩; have Ge := hid hg; have hSe := CW.out _ hg; clear hg tagE))
                        | (go_must (refine (gx_rlook Gb.out T8.out).mono ?_; rintro e Wc ⟨rfl, hg, -⟩; have Gc := hid hg; have hSc := CW.out _ hg; clear hg))))
                  have G := Ge
                  clear Ga Gb Gc Gd Ge hS0 hS1 hSa hSb hSc hSd hSe CW HD H
                  go_wp2
                  go_ret
                  exact ⟨rfl, G.out.bel⟩
  
end Go.Proofs.Ythoklddoeoedgaa.Sl

