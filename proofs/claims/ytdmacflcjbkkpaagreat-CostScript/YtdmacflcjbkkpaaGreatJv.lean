/- What a beginning, more of a message and its end record, of the document. What more of a message and its end record, of the document. What a beginning of CMAC records, of the document; of any. -/
import Derived.Test.YtdmacflcjbkkpaaGreatCpt
import Derived.Test.YtdmacflcjbkkpaaGreatJd
import Derived.Deep.RegionHeld3
import Derived.Deep.RegionWith
namespace Go.Proofs.YtdmacflcjbkkpaaGreat.Cd
open Go.Proofs.YtdmacflcjbkkpaaGreat.Co
open Go.ChangeShapes Go.WideShapes Go.ChangeAt Go.RowKit
open Go.Proofs.YtdmacflcjbkkpaaGreat (Rn Own sm putL SameOrNew wpList_push)
open Go.Proofs.YtdmacflcjbkkpaaGreat.Ou (Sk sv)
open Go.Proofs.YtdmacflcjbkkpaaGreat.Tb (Blk Blk.newAt put_all Kp.setCells)
/-- A list that a call may go on with. -/
structure Go1 (base : Nat) (w w' : World) (u u' : Value) (L M : List Rn) : Prop where
  own : Own w' base u' (L ++ M)
  kp : Kp (fun k => u.ownBlock = some k) w w'
  son : SameOrNew w u u'
theorem rput_any (base : Nat) (u : Value) (L : List Rn) (k s c : Int) (w : World) (hu : Own w base u L) (hr : (⟨k, s, c⟩ : Rn).Ok) (hl : ∀ q, L.getLast? = some q → Ul q ⟨k, s, c⟩) (hb0 : base ≤ w.heap.size) (hN : L.length ≤ 1000000) :
    Calls Tryz.prog 31 #[u, .int .u8 k, .int .i64 s, .int .i64 c] w fun e w' => ∃ u', e = .returned u' ∧ Go1 base w w' u u' L (flt [⟨k, s, c⟩]) := by
  by_cases h : c < 1
  · refine (rput_0 u k s c w h).mono ?_
    rintro e w' ⟨rfl, hb⟩
    have e : flt [(⟨k, s, c⟩ : Rn)] = [] := by unfold flt; rw [List.filter_cons_of_neg (by simp; omega)]; rfl
    refine ⟨u, rfl, ?_, Kp.of_below _ hb, .inl rfl⟩
    rw [e, List.append_nil]
    exact hu.below hb
  · refine (rput_new base u L k s c w hu hr (by omega) hl hb0 (by omega)).mono ?_
    rintro e w' ⟨u', rfl, h1, h2, h3⟩
    have e : flt [(⟨k, s, c⟩ : Rn)] = [⟨k, s, c⟩] := by unfold flt; rw [List.filter_cons_of_pos (by simp; omega)]; rfl
    exact ⟨u', rfl, by rw [e]; exact h1, h2, h3⟩
theorem Go1.of_below {base : Nat} {w w0 w' : World} {u u' : Value} {L M : List Rn} (b : Below w.heap.size w w0) (g : Go1 base w0 w' u u' L M) : Go1 base w w' u u' L M :=
  ⟨g.own, (Kp.of_below _ b).trans g.kp (fun _ _ e => e), g.son.imp id (fun h x hx => Nat.le_trans b.size (h x hx))⟩
theorem Go1.off {base b : Nat} {w w1 : World} {u u1 : Value} {L M : List Rn} (g : Go1 base w w1 u u1 L M) (o : ∀ k, u.ownBlock = some k → k ≠ b) (hb : b < w.heap.size) : ∀ k, u1.ownBlock = some k → k ≠ b := fun k e => by
  rcases g.son with s | s
  · exact o k (s ▸ e)
  · have := s k e; omega
theorem Go1.trans {base : Nat} {w w1 w2 : World} {u u1 u2 : Value} {L M N : List Rn} (g : Go1 base w w1 u u1 L M) (h : Go1 base w1 w2 u1 u2 (L ++ M) N) : Go1 base w w2 u u2 L (M ++ N) := by
  refine ⟨by rw [← List.append_assoc]; exact h.own, g.kp.trans h.kp (fun k hk e => ?_), ?_⟩
  · rcases g.son with s | s
    · rw [← s]; exact e
    · exact absurd (s k e) (by omega)
  · rcases h.son with s | s
    · rw [SameOrNew, s]; exact g.son
    · exact .inr fun k e => Nat.le_trans g.kp.size (s k e)
set_option maxRecDepth 100000 in
set_option maxHeartbeats 1600000 in
theorem begun_hash (base : Nat) (u : Value) (L : List Rn) (h : He) (w : World) (ho : h.Ok) (h1 : sz h.alg ≠ 0) (hu : Own w base u L) (hl : ∀ q, L.getLast? = some q → 5 < q.k) (hb0 : base ≤ w.heap.size) (hN : L.length ≤ 1000) :
    Calls Tryz.prog 69 #[u, dv h] w fun e w' => ∃ u', e = .returned u' ∧ Go1 base w w' u u' L (flt (bgE h)) := by
  obtain ⟨key, alg, out, cus, msg⟩ := h
  have k0 : 0 ≤ key := ho.k0
  have k1 : key ≤ 512 := ho.k1
  have OU : Hid (∀ g, u.ownBlock = some g → g ≠ w.heap.size) := hid (fun g e e2 => by have := (hu.lt g e).2; omega)
  have h1 : sz alg ≠ 0 := h1
  have s1 : 0 < sz alg := by rcases sz_cases h1 with ⟨_, h⟩ | ⟨_, h⟩ <;> omega
  have CS := hid (Size_ok alg)
  have CE := hid (Event_ok alg)
  have CB := hid (Block_ok alg)
  have eb := ek_b alg
  have bb := bk_le alg
  have CK := hid (keyed_ok (k := key) h1 (by omega))
  have kb := kyd_b h1 k0
  have E : Hid (bgE ⟨key, alg, out, cus, msg⟩ = [⟨ek alg, bk alg, kyd alg key⟩]) := hid (by unfold bgE; rw [if_pos h1])
  have PU := hid (fun w1 (b : Below w.heap.size w w1) => rput_any base u L (ek alg) (bk alg) (kyd alg key) w1 (hu.below b) ⟨by show 0 ≤ ek alg ∧ ek alg < 256; omega, by show -9223372036854775808 ≤ bk alg ∧ bk alg ≤ 9223372036854775807; omega, by show -9223372036854775808 ≤ kyd alg key ∧ kyd alg key ≤ 9223372036854775807; omega⟩ (fun q hq e => by have := hl q hq; have : q.k = ek alg := e.1; omega) (Nat.le_trans hb0 b.size) (by omega))
  go_enter Tryz.func69, Tryz.ntmps69
  go_wp2_with fail
  refine (CS.out _).mono ?_
  rintro e w' ⟨rfl, d1, rfl⟩
  go_wp2_with fail
  have B0 : Blk (w.alloc (.cells (dL ⟨key, alg, out, cus, msg⟩).toArray 64)) w.heap.size (dL ⟨key, alg, out, cus, msg⟩) 64 := Blk.newAt w _ _ _ w.heap.size rfl rfl
  have N0 : Below w.heap.size w ((w.alloc (.cells (dL ⟨key, alg, out, cus, msg⟩).toArray 64)).drewN (d1)) := below_next (below_alloc _ _) (below_drewN _ _)
  have B1 : Blk ((w.alloc (.cells (dL ⟨key, alg, out, cus, msg⟩).toArray 64)).drewN (d1)) w.heap.size (dL ⟨key, alg, out, cus, msg⟩) 64 := B0.below (below_drewN _ _)
  obtain ⟨W, hW⟩ : ∃ W, (w.alloc (.cells (dL ⟨key, alg, out, cus, msg⟩).toArray 64)).drewN (d1) = W := ⟨_, rfl⟩
  rw [hW] at N0 B1
  have hW' : (w.alloc (.cells #[.int .i64 key, .int .u8 alg, .int .i64 out, .int .i64 cus, .int .i64 msg] 64)).drewN (d1) = W := hW
  rw [hW']
  clear hW hW' B0
  have NN := hid N0
  have cx0 := B1.cell 0 _ rfl
  have cx1 := B1.cell 1 _ rfl
  have cx2 := B1.cell 2 _ rfl
  have cx3 := B1.cell 3 _ rfl
  have cx4 := B1.cell 4 _ rfl
  have BB := hid B1
  clear N0 B1
  go_region_held3 (fun V => V.cell? ⟨w.heap.size, 0, none⟩ = some (.int .i64 key) ∧ V.cell? ⟨w.heap.size, 1, none⟩ = some (.int .u8 alg) ∧ V.cell? ⟨w.heap.size, 2, none⟩ = some (.int .i64 out) ∧ V.cell? ⟨w.heap.size, 3, none⟩ = some (.int .i64 cus) ∧ V.cell? ⟨w.heap.size, 4, none⟩ = some (.int .i64 msg)) (go_keep) (first
    | (go_at_call 72; with_reducible refine (CE.out _).mono ?_; rintro e w' ⟨rfl, d2, rfl⟩; have y := BB.out.below (below_drewN W (1 + d2)); have cy0 := y.cell 0 _ rfl; have cy1 := y.cell 1 _ rfl; have cy2 := y.cell 2 _ rfl; have cy3 := y.cell 3 _ rfl; have cy4 := y.cell 4 _ rfl; clear y)
    | (go_at_call 73; with_reducible refine (CB.out _).mono ?_; rintro e w' ⟨rfl, d3, rfl⟩)
    | (go_at_call 91; with_reducible refine (CK.out _).mono ?_; rintro e w' ⟨rfl, d4, rfl⟩)
    | (go_at_call 31; with_reducible refine (PU.out _ (below_next NN.out (below_drewN _ _))).mono ?_; rintro e w' ⟨u', rfl, g⟩; have y := (BB.out.below (below_drewN W _)).kept g.kp (fun e => absurd rfl (OU.out _ e)); have cy0 := y.cell 0 _ rfl; have cy1 := y.cell 1 _ rfl; have cy2 := y.cell 2 _ rfl; have cy3 := y.cell 3 _ rfl; have cy4 := y.cell 4 _ rfl; clear y; have G := hid (Go1.of_below (below_next NN.out (below_drewN _ _)) g); clear g))
  go_wp2
  go_ret
  exact ⟨_, rfl, by rw [E.out]; exact G.out⟩
set_option maxRecDepth 100000 in
set_option maxHeartbeats 1600000 in
theorem begun_kmac (base : Nat) (u : Value) (L : List Rn) (h : He) (w : World) (ho : h.Ok) (h1 : sz h.alg = 0) (h3 : h.alg ≠ 3) (hu : Own w base u L) (hl : ∀ q, L.getLast? = some q → 5 < q.k) (hb0 : base ≤ w.heap.size) (hN : L.length ≤ 1000) :
    Calls Tryz.prog 69 #[u, dv h] w fun e w' => ∃ u', e = .returned u' ∧ Go1 base w w' u u' L (flt (bgE h)) := by
  obtain ⟨key, alg, out, cus, msg⟩ := h
  have k0 : 0 ≤ key := ho.k0
  have k1 : key ≤ 512 := ho.k1
  have c0 : 0 ≤ cus := ho.c0
  have c1 : cus ≤ 64 := ho.c1
  have h3 : alg ≠ 3 := h3
  have h1 : sz alg = 0 := h1
  have OU : Hid (∀ g, u.ownBlock = some g → g ≠ w.heap.size) := hid (fun g e e2 => by have := (hu.lt g e).2; omega)
  have CS := hid (Size_ok alg)
  rw [h1] at CS
  have t4 := txt_b (n := 4) (by omega)
  have t1 := txt_b (n := cus) (by omega)
  have t2 := txt_b (n := key) (by omega)
  have C4 := hid (text_ok (n := 4) (by omega))
  have C1 := hid (text_ok (n := cus) (by omega))
  have C2 := hid (text_ok (n := key) (by omega))
  have P1 := hid (padded_ok (a := alg) (n := txt 4 + txt cus) (by omega))
  have P2 := hid (padded_ok (a := alg) (n := txt key) (by omega))
  have p1 := pad_b (a := alg) (n := txt 4 + txt cus) (by omega)
  have p2 := pad_b (a := alg) (n := txt key) (by omega)
  have E : Hid (bgE ⟨key, alg, out, cus, msg⟩ = [⟨3, 200, pad alg (txt 4 + txt cus) + pad alg (txt key)⟩]) := hid (by unfold bgE; simp only; rw [if_neg (by omega), if_neg h3])
  have PU := hid (fun w1 (b : Below w.heap.size w w1) => rput_any base u L 3 200 (pad alg (txt 4 + txt cus) + pad alg (txt key)) w1 (hu.below b) ⟨by show (0 : Int) ≤ 3 ∧ (3 : Int) < 256; decide, by show (-9223372036854775808 : Int) ≤ 200 ∧ (200 : Int) ≤ 9223372036854775807; decide, by show -9223372036854775808 ≤ pad alg (txt 4 + txt cus) + pad alg (txt key) ∧ pad alg (txt 4 + txt cus) + pad alg (txt key) ≤ 9223372036854775807; omega⟩ (fun q hq e => by have := hl q hq; have : q.k = 3 := e.1; omega) (Nat.le_trans hb0 b.size) (by omega))
  obtain ⟨p, hp⟩ : ∃ x, pad alg (txt 4 + txt cus) = x := ⟨_, rfl⟩
  obtain ⟨q, hq⟩ : ∃ x, pad alg (txt key) = x := ⟨_, rfl⟩
  rw [hp] at P1 p1 E PU
  rw [hq] at P2 p2 E PU
  obtain ⟨x4, hx4⟩ : ∃ x, txt 4 = x := ⟨_, rfl⟩
  obtain ⟨xc, hxc⟩ : ∃ x, txt cus = x := ⟨_, rfl⟩
  obtain ⟨xk, hxk⟩ : ∃ x, txt key = x := ⟨_, rfl⟩
  rw [hx4] at t4 C4 P1
  rw [hxc] at t1 C1 P1
  rw [hxk] at t2 C2 P2
  have b4 : 0 ≤ x4 + xc ∧ x4 + xc ≤ 1000 := by omega
  have bp : 0 ≤ p + q ∧ p + q ≤ 1000 := by omega
  have hw4 : IntKind.i64.wrap (x4 + xc) = x4 + xc := by rw [IntKind.wrap_i64]; omega
  have hwp : IntKind.i64.wrap (p + q) = p + q := by rw [IntKind.wrap_i64]; omega
  clear hu hl hp hq hx4 hxc hxk h1
  go_enter Tryz.func69, Tryz.ntmps69
  go_wp2_with fail
  refine (CS.out _).mono ?_
  rintro e w' ⟨rfl, d1, rfl⟩
  go_wp2_with fail
  have B0 : Blk (w.alloc (.cells (dL ⟨key, alg, out, cus, msg⟩).toArray 64)) w.heap.size (dL ⟨key, alg, out, cus, msg⟩) 64 := Blk.newAt w _ _ _ w.heap.size rfl rfl
  have N0 : Below w.heap.size w ((w.alloc (.cells (dL ⟨key, alg, out, cus, msg⟩).toArray 64)).drewN (d1)) := below_next (below_alloc _ _) (below_drewN _ _)
  have B1 : Blk ((w.alloc (.cells (dL ⟨key, alg, out, cus, msg⟩).toArray 64)).drewN (d1)) w.heap.size (dL ⟨key, alg, out, cus, msg⟩) 64 := B0.below (below_drewN _ _)
  obtain ⟨W, hW⟩ : ∃ W, (w.alloc (.cells (dL ⟨key, alg, out, cus, msg⟩).toArray 64)).drewN (d1) = W := ⟨_, rfl⟩
  rw [hW] at N0 B1
  have hW' : (w.alloc (.cells #[.int .i64 key, .int .u8 alg, .int .i64 out, .int .i64 cus, .int .i64 msg] 64)).drewN (d1) = W := hW
  rw [hW']
  clear hW hW' B0
  have NN := hid N0
  have cx0 := B1.cell 0 _ rfl
  have cx1 := B1.cell 1 _ rfl
  have cx2 := B1.cell 2 _ rfl
  have cx3 := B1.cell 3 _ rfl
  have cx4 := B1.cell 4 _ rfl
  have BB := hid B1
  clear N0 B1
  go_region_held3 (fun V => V.cell? ⟨w.heap.size, 0, none⟩ = some (.int .i64 key) ∧ V.cell? ⟨w.heap.size, 1, none⟩ = some (.int .u8 alg) ∧ V.cell? ⟨w.heap.size, 2, none⟩ = some (.int .i64 out) ∧ V.cell? ⟨w.heap.size, 3, none⟩ = some (.int .i64 cus) ∧ V.cell? ⟨w.heap.size, 4, none⟩ = some (.int .i64 msg)) (go_keep) (first
    | (go_at_call 93; with_reducible refine (C4.out _).mono ?_; rintro e w' ⟨rfl, d2, rfl⟩; have y := BB.out.below (below_drewN W (1 + d2)); have cy0 := y.cell 0 _ rfl; have cy1 := y.cell 1 _ rfl; have cy2 := y.cell 2 _ rfl; have cy3 := y.cell 3 _ rfl; have cy4 := y.cell 4 _ rfl; clear y)
    | (go_at_call 93; with_reducible refine (C1.out _).mono ?_; rintro e w' ⟨rfl, d3, rfl⟩)
    | (go_at_call 92; with_reducible refine (P1.out _).mono ?_; rintro e w' ⟨rfl, d4, rfl⟩)
    | (go_at_call 93; with_reducible refine (C2.out _).mono ?_; rintro e w' ⟨rfl, d5, rfl⟩)
    | (go_at_call 92; with_reducible refine (P2.out _).mono ?_; rintro e w' ⟨rfl, d6, rfl⟩)
    | (go_at_call 31; with_reducible refine (PU.out _ (below_next NN.out (below_drewN _ _))).mono ?_; rintro e w' ⟨u', rfl, g⟩; have y := (BB.out.below (below_drewN W _)).kept g.kp (fun e => absurd rfl (OU.out _ e)); have cy0 := y.cell 0 _ rfl; have cy1 := y.cell 1 _ rfl; have cy2 := y.cell 2 _ rfl; have cy3 := y.cell 3 _ rfl; have cy4 := y.cell 4 _ rfl; clear y; have G := hid (Go1.of_below (below_next NN.out (below_drewN _ _)) g); clear g))
  go_wp2
  go_ret
  exact ⟨_, rfl, by rw [E.out]; exact G.out⟩
end Go.Proofs.YtdmacflcjbkkpaaGreat.Cd
namespace Go.Proofs.YtdmacflcjbkkpaaGreat.Cd
open Go.Proofs.YtdmacflcjbkkpaaGreat.Co
open Go.ChangeShapes Go.WideShapes Go.ChangeAt Go.RowKit
open Go.Proofs.YtdmacflcjbkkpaaGreat (Rn Own sm putL SameOrNew wpList_push)
open Go.Proofs.YtdmacflcjbkkpaaGreat.Ou (Sk sv)
open Go.Proofs.YtdmacflcjbkkpaaGreat.Tb (Blk Blk.newAt put_all Kp.setCells)

set_option maxRecDepth 100000 in
set_option maxHeartbeats 1600000 in
theorem told_hash (base : Nat) (u : Value) (L : List Rn) (h : He) (n : Int) (w : World) (ho : h.Ok) (hm : h.msg ≤ 1000000000000) (hn : 0 ≤ n ∧ n ≤ 65536) (h1 : sz h.alg ≠ 0) (hu : Own w base u L) (hl : ∀ q, L.getLast? = some q → 5 < q.k) (hb0 : base ≤ w.heap.size) (hN : L.length ≤ 1000) :
    Calls Tryz.prog 70 #[u, dv h, .int .i64 n] w fun e w' => ∃ u', e = .returned u' ∧ Go1 base w w' u u' L (flt (tlE h n)) := by
  obtain ⟨key, alg, out, cus, msg⟩ := h
  have k0 : 0 ≤ key := ho.k0
  have k1 : key ≤ 512 := ho.k1
  have o0 : 0 ≤ out := ho.o0
  have o1 : out ≤ 64 := ho.o1
  have m0 : 0 ≤ msg := ho.m0
  have m1 : msg ≤ 1000000000000 := hm
  have OU : Hid (∀ g, u.ownBlock = some g → g ≠ w.heap.size) := hid (fun g e e2 => by have := (hu.lt g e).2; omega)
  have h1 : sz alg ≠ 0 := h1
  have s1 : 0 < sz alg := by rcases sz_cases h1 with ⟨_, h⟩ | ⟨_, h⟩ <;> omega
  have CS := hid (Size_ok alg)
  have CE := hid (Event_ok alg)
  have CB := hid (Block_ok alg)
  have eb := ek_b alg
  have bb := bk_le alg
  have b64 : 64 ≤ bk alg := by unfold bk; rcases sz_cases h1 with ⟨_, h⟩ | ⟨_, h⟩ <;> omega
  have CF := hid (full_ok (b := bk alg) (n := msg) (m := n) (by omega) (by omega) (by omega))
  have fb := ful_b (b := bk alg) (n := msg) (m := n) b64 m0 hn.1
  have E : Hid (tlE ⟨key, alg, out, cus, msg⟩ n = [⟨ek alg, bk alg, ful (bk alg) msg n⟩]) := hid (by unfold tlE; rw [if_pos h1])
  have PU := hid (fun w1 (b : Below w.heap.size w w1) => rput_any base u L (ek alg) (bk alg) (ful (bk alg) msg n) w1 (hu.below b) ⟨by show (0 : Int) ≤ ek alg ∧ (ek alg : Int) < 256; omega, by show (-9223372036854775808 : Int) ≤ bk alg ∧ (bk alg : Int) ≤ 9223372036854775807; omega, by show (-9223372036854775808 : Int) ≤ ful (bk alg) msg n ∧ (ful (bk alg) msg n : Int) ≤ 9223372036854775807; omega⟩ (fun q hq e => by have := hl q hq; have : q.k = ek alg := e.1; omega) (Nat.le_trans hb0 b.size) (by omega))
  clear hu hl
  go_enter Tryz.func70, Tryz.ntmps70
  go_wp2_with fail
  refine (CS.out _).mono ?_
  rintro e W ⟨rfl, d1, hd1⟩
  have NN : Hid (Below w.heap.size w W) := hid (by rw [hd1]; exact below_next (below_alloc _ _) (below_drewN _ _))
  have BB : Hid (Blk W w.heap.size (dL ⟨key, alg, out, cus, msg⟩) 64) := hid (by rw [hd1]; exact (Blk.newAt w _ _ _ w.heap.size rfl rfl : Blk (w.alloc (.cells (dL ⟨key, alg, out, cus, msg⟩).toArray 64)) w.heap.size (dL ⟨key, alg, out, cus, msg⟩) 64).below (below_drewN _ _))
  clear hd1
  have cx0 := BB.out.cell 0 _ rfl
  have cx1 := BB.out.cell 1 _ rfl
  have cx2 := BB.out.cell 2 _ rfl
  have cx3 := BB.out.cell 3 _ rfl
  have cx4 := BB.out.cell 4 _ rfl
  go_wp2_with fail
  go_region_held3 (fun V => V.cell? ⟨w.heap.size, 0, none⟩ = some (.int .i64 key) ∧ V.cell? ⟨w.heap.size, 1, none⟩ = some (.int .u8 alg) ∧ V.cell? ⟨w.heap.size, 2, none⟩ = some (.int .i64 out) ∧ V.cell? ⟨w.heap.size, 3, none⟩ = some (.int .i64 cus) ∧ V.cell? ⟨w.heap.size, 4, none⟩ = some (.int .i64 msg)) (go_keep) (first
    | (go_at_call 72; with_reducible refine (CE.out _).mono ?_; rintro e w' ⟨rfl, d2, rfl⟩; have y := BB.out.below (below_drewN W (1 + d2)); have cy0 := y.cell 0 _ rfl; have cy1 := y.cell 1 _ rfl; have cy2 := y.cell 2 _ rfl; have cy3 := y.cell 3 _ rfl; have cy4 := y.cell 4 _ rfl; clear y)
    | (go_at_call 73; with_reducible refine (CB.out _).mono ?_; rintro e w' ⟨rfl, d3, rfl⟩)
    | (go_at_call 94; with_reducible refine (CF.out _).mono ?_; rintro e w' ⟨rfl, d4, rfl⟩)
    | (go_at_call 31; with_reducible refine (PU.out _ (below_next NN.out (below_drewN _ _))).mono ?_; rintro e w' ⟨u', rfl, g⟩; have y := (BB.out.below (below_drewN W _)).kept g.kp (fun e => absurd rfl (OU.out _ e)); have cy0 := y.cell 0 _ rfl; have cy1 := y.cell 1 _ rfl; have cy2 := y.cell 2 _ rfl; have cy3 := y.cell 3 _ rfl; have cy4 := y.cell 4 _ rfl; clear y; have G := hid (Go1.of_below (below_next NN.out (below_drewN _ _)) g); clear g))
  go_wp2
  go_ret
  exact ⟨_, rfl, by rw [E.out]; exact G.out⟩
set_option maxRecDepth 100000 in
set_option maxHeartbeats 1600000 in
theorem told_cmac (base : Nat) (u : Value) (L : List Rn) (h : He) (n : Int) (w : World) (ho : h.Ok) (hm : h.msg ≤ 1000000000000) (hn : 0 ≤ n ∧ n ≤ 65536) (h3 : h.alg = 3) (hu : Own w base u L) (hl : ∀ q, L.getLast? = some q → 5 < q.k) (hb0 : base ≤ w.heap.size) (hN : L.length ≤ 1000) :
    Calls Tryz.prog 70 #[u, dv h, .int .i64 n] w fun e w' => ∃ u', e = .returned u' ∧ Go1 base w w' u u' L (flt (tlE h n)) := by
  obtain ⟨key, alg, out, cus, msg⟩ := h
  have k0 : 0 ≤ key := ho.k0
  have k1 : key ≤ 512 := ho.k1
  have o0 : 0 ≤ out := ho.o0
  have o1 : out ≤ 64 := ho.o1
  have m0 : 0 ≤ msg := ho.m0
  have m1 : msg ≤ 1000000000000 := hm
  have OU : Hid (∀ g, u.ownBlock = some g → g ≠ w.heap.size) := hid (fun g e e2 => by have := (hu.lt g e).2; omega)
  have h3 : alg = 3 := h3
  subst h3
  have CS : Hid (∀ w : World, Calls Tryz.prog 90 #[.int .u8 3] w fun e w' => e = .returned (.int .i64 0) ∧ ∃ d, w' = w.drewN d) := hid (fun w => Size_ok 3 w)
  have C1 := hid (chained_ok (n := msg + n) (by omega))
  have C2 := hid (chained_ok (n := msg) (by omega))
  have cb := chn_b (m := msg) (n := n) hn.1
  have E : Hid (tlE ⟨key, 3, out, cus, msg⟩ n = [⟨5, key, chn (msg + n) - chn msg⟩]) := hid rfl
  have PU := hid (fun w1 (b : Below w.heap.size w w1) => rput_any base u L (5) (key) (chn (msg + n) - chn msg) w1 (hu.below b) ⟨by show (0 : Int) ≤ 5 ∧ (5 : Int) < 256; omega, by show (-9223372036854775808 : Int) ≤ key ∧ (key : Int) ≤ 9223372036854775807; omega, by show (-9223372036854775808 : Int) ≤ chn (msg + n) - chn msg ∧ (chn (msg + n) - chn msg : Int) ≤ 9223372036854775807; omega⟩ (fun q hq e => by have := hl q hq; have : q.k = 5 := e.1; omega) (Nat.le_trans hb0 b.size) (by omega))
  have cp : 0 ≤ chn msg ∧ chn msg ≤ 1000000000000 := by unfold chn; omega
  obtain ⟨p, hp⟩ : ∃ x, chn (msg + n) = x := ⟨_, rfl⟩
  obtain ⟨q, hq⟩ : ∃ x, chn msg = x := ⟨_, rfl⟩
  rw [hp] at C1 cb E PU
  rw [hq] at C2 cb cp E PU
  have hw1 : IntKind.i64.wrap (msg + n) = msg + n := by rw [IntKind.wrap_i64]; omega
  have hw2 : IntKind.i64.wrap (p - q) = p - q := by rw [IntKind.wrap_i64]; omega
  clear hu hl hp hq
  go_enter Tryz.func70, Tryz.ntmps70
  go_wp2_with fail
  refine (CS.out _).mono ?_
  rintro e W ⟨rfl, d1, hd1⟩
  have NN : Hid (Below w.heap.size w W) := hid (by rw [hd1]; exact below_next (below_alloc _ _) (below_drewN _ _))
  have BB : Hid (Blk W w.heap.size (dL ⟨key, 3, out, cus, msg⟩) 64) := hid (by rw [hd1]; exact (Blk.newAt w _ _ _ w.heap.size rfl rfl : Blk (w.alloc (.cells (dL ⟨key, 3, out, cus, msg⟩).toArray 64)) w.heap.size (dL ⟨key, 3, out, cus, msg⟩) 64).below (below_drewN _ _))
  clear hd1
  have cx0 := BB.out.cell 0 _ rfl
  have cx1 := BB.out.cell 1 _ rfl
  have cx2 := BB.out.cell 2 _ rfl
  have cx3 := BB.out.cell 3 _ rfl
  have cx4 := BB.out.cell 4 _ rfl
  go_wp2_with fail
  go_region_held3 (fun V => V.cell? ⟨w.heap.size, 0, none⟩ = some (.int .i64 key) ∧ V.cell? ⟨w.heap.size, 1, none⟩ = some (.int .u8 3) ∧ V.cell? ⟨w.heap.size, 2, none⟩ = some (.int .i64 out) ∧ V.cell? ⟨w.heap.size, 3, none⟩ = some (.int .i64 cus) ∧ V.cell? ⟨w.heap.size, 4, none⟩ = some (.int .i64 msg)) (go_keep) (first
    | (go_at_call 95; with_reducible refine (C1.out _).mono ?_; rintro e w' ⟨rfl, d2, rfl⟩; have y := BB.out.below (below_drewN W (1 + d2)); have cy0 := y.cell 0 _ rfl; have cy1 := y.cell 1 _ rfl; have cy2 := y.cell 2 _ rfl; have cy3 := y.cell 3 _ rfl; have cy4 := y.cell 4 _ rfl; clear y)
    | (go_at_call 95; with_reducible refine (C2.out _).mono ?_; rintro e w' ⟨rfl, d3, rfl⟩)
    | (go_at_call 31; with_reducible refine (PU.out _ (below_next NN.out (below_drewN _ _))).mono ?_; rintro e w' ⟨u', rfl, g⟩; have y := (BB.out.below (below_drewN W _)).kept g.kp (fun e => absurd rfl (OU.out _ e)); have cy0 := y.cell 0 _ rfl; have cy1 := y.cell 1 _ rfl; have cy2 := y.cell 2 _ rfl; have cy3 := y.cell 3 _ rfl; have cy4 := y.cell 4 _ rfl; clear y; have G := hid (Go1.of_below (below_next NN.out (below_drewN _ _)) g); clear g))
  go_wp2
  go_ret
  exact ⟨_, rfl, by rw [E.out]; exact G.out⟩
set_option maxRecDepth 100000 in
set_option maxHeartbeats 1600000 in
theorem told_kmac (base : Nat) (u : Value) (L : List Rn) (h : He) (n : Int) (w : World) (ho : h.Ok) (hm : h.msg ≤ 1000000000000) (hn : 0 ≤ n ∧ n ≤ 65536) (h1 : sz h.alg = 0) (h3 : h.alg ≠ 3) (hu : Own w base u L) (hl : ∀ q, L.getLast? = some q → 5 < q.k) (hb0 : base ≤ w.heap.size) (hN : L.length ≤ 1000) :
    Calls Tryz.prog 70 #[u, dv h, .int .i64 n] w fun e w' => ∃ u', e = .returned u' ∧ Go1 base w w' u u' L (flt (tlE h n)) := by
  obtain ⟨key, alg, out, cus, msg⟩ := h
  have k0 : 0 ≤ key := ho.k0
  have k1 : key ≤ 512 := ho.k1
  have o0 : 0 ≤ out := ho.o0
  have o1 : out ≤ 64 := ho.o1
  have m0 : 0 ≤ msg := ho.m0
  have m1 : msg ≤ 1000000000000 := hm
  have OU : Hid (∀ g, u.ownBlock = some g → g ≠ w.heap.size) := hid (fun g e e2 => by have := (hu.lt g e).2; omega)
  have h3 : alg ≠ 3 := h3
  have h1 : sz alg = 0 := h1
  have CS := hid (Size_ok alg)
  rw [h1] at CS
  have CR := hid (rate_ok alg)
  have rb := rte_b alg
  have CF := hid (full_ok (b := rte alg) (n := msg) (m := n) (by omega) (by omega) (by omega))
  have fb := ful_b (b := rte alg) (n := msg) (m := n) (by omega) m0 hn.1
  have E : Hid (tlE ⟨key, alg, out, cus, msg⟩ n = [⟨3, 200, ful (rte alg) msg n⟩]) := hid (by unfold tlE; simp only; rw [if_neg (by omega), if_neg h3])
  have PU := hid (fun w1 (b : Below w.heap.size w w1) => rput_any base u L (3) (200) (ful (rte alg) msg n) w1 (hu.below b) ⟨by show (0 : Int) ≤ 3 ∧ (3 : Int) < 256; omega, by show (-9223372036854775808 : Int) ≤ 200 ∧ (200 : Int) ≤ 9223372036854775807; omega, by show (-9223372036854775808 : Int) ≤ ful (rte alg) msg n ∧ (ful (rte alg) msg n : Int) ≤ 9223372036854775807; omega⟩ (fun q hq e => by have := hl q hq; have : q.k = 3 := e.1; omega) (Nat.le_trans hb0 b.size) (by omega))
  clear hu hl h1
  go_enter Tryz.func70, Tryz.ntmps70
  go_wp2_with fail
  refine (CS.out _).mono ?_
  rintro e W ⟨rfl, d1, hd1⟩
  have NN : Hid (Below w.heap.size w W) := hid (by rw [hd1]; exact below_next (below_alloc _ _) (below_drewN _ _))
  have BB : Hid (Blk W w.heap.size (dL ⟨key, alg, out, cus, msg⟩) 64) := hid (by rw [hd1]; exact (Blk.newAt w _ _ _ w.heap.size rfl rfl : Blk (w.alloc (.cells (dL ⟨key, alg, out, cus, msg⟩).toArray 64)) w.heap.size (dL ⟨key, alg, out, cus, msg⟩) 64).below (below_drewN _ _))
  clear hd1
  have cx0 := BB.out.cell 0 _ rfl
  have cx1 := BB.out.cell 1 _ rfl
  have cx2 := BB.out.cell 2 _ rfl
  have cx3 := BB.out.cell 3 _ rfl
  have cx4 := BB.out.cell 4 _ rfl
  go_wp2_with fail
  go_region_held3 (fun V => V.cell? ⟨w.heap.size, 0, none⟩ = some (.int .i64 key) ∧ V.cell? ⟨w.heap.size, 1, none⟩ = some (.int .u8 alg) ∧ V.cell? ⟨w.heap.size, 2, none⟩ = some (.int .i64 out) ∧ V.cell? ⟨w.heap.size, 3, none⟩ = some (.int .i64 cus) ∧ V.cell? ⟨w.heap.size, 4, none⟩ = some (.int .i64 msg)) (go_keep) (first
    | (go_at_call 96; with_reducible refine (CR.out _).mono ?_; rintro e w' ⟨rfl, d2, rfl⟩; have y := BB.out.below (below_drewN W (1 + d2)); have cy0 := y.cell 0 _ rfl; have cy1 := y.cell 1 _ rfl; have cy2 := y.cell 2 _ rfl; have cy3 := y.cell 3 _ rfl; have cy4 := y.cell 4 _ rfl; clear y)
    | (go_at_call 94; with_reducible refine (CF.out _).mono ?_; rintro e w' ⟨rfl, d4, rfl⟩)
    | (go_at_call 31; with_reducible refine (PU.out _ (below_next NN.out (below_drewN _ _))).mono ?_; rintro e w' ⟨u', rfl, g⟩; have y := (BB.out.below (below_drewN W _)).kept g.kp (fun e => absurd rfl (OU.out _ e)); have cy0 := y.cell 0 _ rfl; have cy1 := y.cell 1 _ rfl; have cy2 := y.cell 2 _ rfl; have cy3 := y.cell 3 _ rfl; have cy4 := y.cell 4 _ rfl; clear y; have G := hid (Go1.of_below (below_next NN.out (below_drewN _ _)) g); clear g))
  go_wp2
  go_ret
  exact ⟨_, rfl, by rw [E.out]; exact G.out⟩
theorem told_ok (base : Nat) (u : Value) (L : List Rn) (h : He) (n : Int) (w : World) (ho : h.Ok) (hm : h.msg ≤ 1000000000000) (hn : 0 ≤ n ∧ n ≤ 65536) (hu : Own w base u L) (hl : ∀ q, L.getLast? = some q → 5 < q.k) (hb0 : base ≤ w.heap.size) (hN : L.length ≤ 1000) :
    Calls Tryz.prog 70 #[u, dv h, .int .i64 n] w fun e w' => ∃ u', e = .returned u' ∧ Go1 base w w' u u' L (flt (tlE h n)) := by
  by_cases h1 : sz h.alg = 0
  · by_cases h3 : h.alg = 3
    · exact told_cmac base u L h n w ho hm hn h3 hu hl hb0 hN
    · exact told_kmac base u L h n w ho hm hn h1 h3 hu hl hb0 hN
  · exact told_hash base u L h n w ho hm hn h1 hu hl hb0 hN
set_option maxRecDepth 100000 in
set_option maxHeartbeats 1600000 in
theorem summed_hash (base : Nat) (u : Value) (L : List Rn) (h : He) (w : World) (ho : h.Ok) (hm : h.msg ≤ 1000000000000) (h1 : sz h.alg ≠ 0) (hu : Own w base u L) (hl : ∀ q, L.getLast? = some q → 5 < q.k) (hb0 : base ≤ w.heap.size) (hN : L.length ≤ 1000) :
    Calls Tryz.prog 71 #[u, dv h] w fun e w' => ∃ u', e = .returned u' ∧ Go1 base w w' u u' L (flt (smE h)) := by
  obtain ⟨key, alg, out, cus, msg⟩ := h
  have k0 : 0 ≤ key := ho.k0
  have k1 : key ≤ 512 := ho.k1
  have o0 : 0 ≤ out := ho.o0
  have o1 : out ≤ 64 := ho.o1
  have m0 : 0 ≤ msg := ho.m0
  have m1 : msg ≤ 1000000000000 := hm
  have OU : Hid (∀ g, u.ownBlock = some g → g ≠ w.heap.size) := hid (fun g e e2 => by have := (hu.lt g e).2; omega)
  have h1 : sz alg ≠ 0 := h1
  have s1 : 0 < sz alg := by rcases sz_cases h1 with ⟨_, h⟩ | ⟨_, h⟩ <;> omega
  have CS := hid (Size_ok alg)
  have CE := hid (Event_ok alg)
  have CB := hid (Block_ok alg)
  have eb := ek_b alg
  have bb := bk_le alg
  have b64 : 64 ≤ bk alg := by unfold bk; rcases sz_cases h1 with ⟨_, h⟩ | ⟨_, h⟩ <;> omega
  have CT := hid (tagged_ok (a := alg) (n := msg) h1 (by omega))
  have tb := tgd_b alg msg
  have E : Hid (smE ⟨key, alg, out, cus, msg⟩ = [⟨ek alg, bk alg, tgd alg msg⟩]) := hid (by unfold smE; rw [if_pos h1])
  have PU := hid (fun w1 (b : Below w.heap.size w w1) => rput_any base u L (ek alg) (bk alg) (tgd alg msg) w1 (hu.below b) ⟨by show (0 : Int) ≤ ek alg ∧ (ek alg : Int) < 256; omega, by show (-9223372036854775808 : Int) ≤ bk alg ∧ (bk alg : Int) ≤ 9223372036854775807; omega, by show (-9223372036854775808 : Int) ≤ tgd alg msg ∧ (tgd alg msg : Int) ≤ 9223372036854775807; omega⟩ (fun q hq e => by have := hl q hq; have : q.k = ek alg := e.1; omega) (Nat.le_trans hb0 b.size) (by omega))
  clear hu hl
  go_enter Tryz.func71, Tryz.ntmps71
  go_wp2_with fail
  refine (CS.out _).mono ?_
  rintro e W ⟨rfl, d1, hd1⟩
  have NN : Hid (Below w.heap.size w W) := hid (by rw [hd1]; exact below_next (below_alloc _ _) (below_drewN _ _))
  have BB : Hid (Blk W w.heap.size (dL ⟨key, alg, out, cus, msg⟩) 64) := hid (by rw [hd1]; exact (Blk.newAt w _ _ _ w.heap.size rfl rfl : Blk (w.alloc (.cells (dL ⟨key, alg, out, cus, msg⟩).toArray 64)) w.heap.size (dL ⟨key, alg, out, cus, msg⟩) 64).below (below_drewN _ _))
  clear hd1
  have cx0 := BB.out.cell 0 _ rfl
  have cx1 := BB.out.cell 1 _ rfl
  have cx2 := BB.out.cell 2 _ rfl
  have cx3 := BB.out.cell 3 _ rfl
  have cx4 := BB.out.cell 4 _ rfl
  go_wp2_with fail
  go_region_held3 (fun V => V.cell? ⟨w.heap.size, 0, none⟩ = some (.int .i64 key) ∧ V.cell? ⟨w.heap.size, 1, none⟩ = some (.int .u8 alg) ∧ V.cell? ⟨w.heap.size, 2, none⟩ = some (.int .i64 out) ∧ V.cell? ⟨w.heap.size, 3, none⟩ = some (.int .i64 cus) ∧ V.cell? ⟨w.heap.size, 4, none⟩ = some (.int .i64 msg)) (go_keep) (first
    | (go_at_call 72; with_reducible refine (CE.out _).mono ?_; rintro e w' ⟨rfl, d2, rfl⟩; have y := BB.out.below (below_drewN W (1 + d2)); have cy0 := y.cell 0 _ rfl; have cy1 := y.cell 1 _ rfl; have cy2 := y.cell 2 _ rfl; have cy3 := y.cell 3 _ rfl; have cy4 := y.cell 4 _ rfl; clear y)
    | (go_at_call 73; with_reducible refine (CB.out _).mono ?_; rintro e w' ⟨rfl, d3, rfl⟩)
    | (go_at_call 97; with_reducible refine (CT.out _).mono ?_; rintro e w' ⟨rfl, d4, rfl⟩)
    | (go_at_call 31; with_reducible refine (PU.out _ (below_next NN.out (below_drewN _ _))).mono ?_; rintro e w' ⟨u', rfl, g⟩; have y := (BB.out.below (below_drewN W _)).kept g.kp (fun e => absurd rfl (OU.out _ e)); have cy0 := y.cell 0 _ rfl; have cy1 := y.cell 1 _ rfl; have cy2 := y.cell 2 _ rfl; have cy3 := y.cell 3 _ rfl; have cy4 := y.cell 4 _ rfl; clear y; have G := hid (Go1.of_below (below_next NN.out (below_drewN _ _)) g); clear g))
  go_wp2
  go_ret
  exact ⟨_, rfl, by rw [E.out]; exact G.out⟩
set_option maxRecDepth 100000 in
set_option maxHeartbeats 1600000 in
theorem summed_cmac (base : Nat) (u : Value) (L : List Rn) (h : He) (w : World) (ho : h.Ok) (hm : h.msg ≤ 1000000000000) (h3 : h.alg = 3) (hu : Own w base u L) (hl : ∀ q, L.getLast? = some q → 5 < q.k) (hb0 : base ≤ w.heap.size) (hN : L.length ≤ 1000) :
    Calls Tryz.prog 71 #[u, dv h] w fun e w' => ∃ u', e = .returned u' ∧ Go1 base w w' u u' L (flt (smE h)) := by
  obtain ⟨key, alg, out, cus, msg⟩ := h
  have k0 : 0 ≤ key := ho.k0
  have k1 : key ≤ 512 := ho.k1
  have o0 : 0 ≤ out := ho.o0
  have o1 : out ≤ 64 := ho.o1
  have m0 : 0 ≤ msg := ho.m0
  have m1 : msg ≤ 1000000000000 := hm
  have OU : Hid (∀ g, u.ownBlock = some g → g ≠ w.heap.size) := hid (fun g e e2 => by have := (hu.lt g e).2; omega)
  have h3 : alg = 3 := h3
  subst h3
  have CS : Hid (∀ w : World, Calls Tryz.prog 90 #[.int .u8 3] w fun e w' => e = .returned (.int .i64 0) ∧ ∃ d, w' = w.drewN d) := hid (fun w => Size_ok 3 w)
  have E : Hid (smE ⟨key, 3, out, cus, msg⟩ = [⟨5, key, 1⟩]) := hid rfl
  have PU := hid (fun w1 (b : Below w.heap.size w w1) => rput_any base u L (5) (key) (1) w1 (hu.below b) ⟨by show (0 : Int) ≤ 5 ∧ (5 : Int) < 256; omega, by show (-9223372036854775808 : Int) ≤ key ∧ (key : Int) ≤ 9223372036854775807; omega, by show (-9223372036854775808 : Int) ≤ 1 ∧ (1 : Int) ≤ 9223372036854775807; omega⟩ (fun q hq e => by have := hl q hq; have : q.k = 5 := e.1; omega) (Nat.le_trans hb0 b.size) (by omega))
  clear hu hl
  go_enter Tryz.func71, Tryz.ntmps71
  go_wp2_with fail
  refine (CS.out _).mono ?_
  rintro e W ⟨rfl, d1, hd1⟩
  have NN : Hid (Below w.heap.size w W) := hid (by rw [hd1]; exact below_next (below_alloc _ _) (below_drewN _ _))
  have BB : Hid (Blk W w.heap.size (dL ⟨key, 3, out, cus, msg⟩) 64) := hid (by rw [hd1]; exact (Blk.newAt w _ _ _ w.heap.size rfl rfl : Blk (w.alloc (.cells (dL ⟨key, 3, out, cus, msg⟩).toArray 64)) w.heap.size (dL ⟨key, 3, out, cus, msg⟩) 64).below (below_drewN _ _))
  clear hd1
  have cx0 := BB.out.cell 0 _ rfl
  have cx1 := BB.out.cell 1 _ rfl
  have cx2 := BB.out.cell 2 _ rfl
  have cx3 := BB.out.cell 3 _ rfl
  have cx4 := BB.out.cell 4 _ rfl
  go_wp2_with fail
  refine (PU.out _ NN.out).mono ?_
  rintro e w2 ⟨u', rfl, g⟩
  have G := hid (Go1.of_below NN.out g)
  clear g
  go_wp2
  go_ret
  exact ⟨_, rfl, by rw [E.out]; exact G.out⟩
set_option maxRecDepth 100000 in
set_option maxHeartbeats 1600000 in
theorem summed_kmac (base : Nat) (u : Value) (L : List Rn) (h : He) (w : World) (ho : h.Ok) (hm : h.msg ≤ 1000000000000) (h1 : sz h.alg = 0) (h3 : h.alg ≠ 3) (hu : Own w base u L) (hl : ∀ q, L.getLast? = some q → 5 < q.k) (hb0 : base ≤ w.heap.size) (hN : L.length ≤ 1000) :
    Calls Tryz.prog 71 #[u, dv h] w fun e w' => ∃ u', e = .returned u' ∧ Go1 base w w' u u' L (flt (smE h)) := by
  obtain ⟨key, alg, out, cus, msg⟩ := h
  have k0 : 0 ≤ key := ho.k0
  have k1 : key ≤ 512 := ho.k1
  have o0 : 0 ≤ out := ho.o0
  have o1 : out ≤ 64 := ho.o1
  have m0 : 0 ≤ msg := ho.m0
  have m1 : msg ≤ 1000000000000 := hm
  have OU : Hid (∀ g, u.ownBlock = some g → g ≠ w.heap.size) := hid (fun g e e2 => by have := (hu.lt g e).2; omega)
  have h3 : alg ≠ 3 := h3
  have h1 : sz alg = 0 := h1
  have CS := hid (Size_ok alg)
  rw [h1] at CS
  have CR := hid (rate_ok alg)
  have rb := rte_b alg
  have CN := hid (number_ok (n := 8 * out) (by omega))
  have CX := hid (xof_ok alg)
  have C0 := hid (number_ok (n := 0) (by omega))
  have nb := nbr_le (n := 8 * out) (by omega) (by omega)
  have n0 := nbr_le (n := 0) (by omega) (by omega)
  have hw8 : IntKind.i64.wrap (8 * out) = 8 * out := by rw [IntKind.wrap_i64]; omega
  obtain ⟨z, hz⟩ : ∃ z, (if xof alg then nbr 0 else nbr (8 * out)) = z := ⟨_, rfl⟩
  have zb : 2 ≤ z ∧ z ≤ 4 := by rw [← hz]; split <;> omega
  have CF := hid (full_ok (b := rte alg) (n := msg) (m := z) (by omega) (by omega) (by omega))
  have fb := ful_b (b := rte alg) (n := msg) (m := z) (by omega) m0 (by omega)
  have E : Hid (smE ⟨key, alg, out, cus, msg⟩ = [⟨3, 200, ful (rte alg) msg z + 1⟩]) := hid (by unfold smE; simp only; rw [if_neg (by omega), if_neg h3, hz])
  have PU := hid (fun w1 (b : Below w.heap.size w w1) => rput_any base u L (3) (200) (ful (rte alg) msg z + 1) w1 (hu.below b) ⟨by show (0 : Int) ≤ 3 ∧ (3 : Int) < 256; omega, by show (-9223372036854775808 : Int) ≤ 200 ∧ (200 : Int) ≤ 9223372036854775807; omega, by show (-9223372036854775808 : Int) ≤ ful (rte alg) msg z + 1 ∧ (ful (rte alg) msg z + 1 : Int) ≤ 9223372036854775807; omega⟩ (fun q hq e => by have := hl q hq; have : q.k = 3 := e.1; omega) (Nat.le_trans hb0 b.size) (by omega))
  obtain ⟨f, hf⟩ : ∃ f, ful (rte alg) msg z = f := ⟨_, rfl⟩
  rw [hf] at CF fb E PU
  have hwf : IntKind.i64.wrap (f + 1) = f + 1 := by rw [IntKind.wrap_i64]; omega
  have HZ := hid hz
  clear hu hl h1 hz hf nb n0
  go_enter Tryz.func71, Tryz.ntmps71
  go_wp2_with fail
  refine (CS.out _).mono ?_
  rintro e W ⟨rfl, d1, hd1⟩
  have NN : Hid (Below w.heap.size w W) := hid (by rw [hd1]; exact below_next (below_alloc _ _) (below_drewN _ _))
  have BB : Hid (Blk W w.heap.size (dL ⟨key, alg, out, cus, msg⟩) 64) := hid (by rw [hd1]; exact (Blk.newAt w _ _ _ w.heap.size rfl rfl : Blk (w.alloc (.cells (dL ⟨key, alg, out, cus, msg⟩).toArray 64)) w.heap.size (dL ⟨key, alg, out, cus, msg⟩) 64).below (below_drewN _ _))
  clear hd1
  have cx0 := BB.out.cell 0 _ rfl
  have cx1 := BB.out.cell 1 _ rfl
  have cx2 := BB.out.cell 2 _ rfl
  have cx3 := BB.out.cell 3 _ rfl
  have cx4 := BB.out.cell 4 _ rfl
  go_wp2_with fail
  refine (CN.out _).mono ?_
  rintro e W2 ⟨rfl, d2, hd2⟩
  replace NN := hid (below_next NN.out (show Below W.heap.size W W2 by rw [hd2]; exact below_drewN _ _))
  replace BB : Hid (Blk W2 w.heap.size (dL ⟨key, alg, out, cus, msg⟩) 64) := hid (by rw [hd2]; exact BB.out.below (below_drewN _ _))
  clear hd2 cx0 cx1 cx2 cx3 cx4
  have cx0 := BB.out.cell 0 _ rfl
  have cx1 := BB.out.cell 1 _ rfl
  have cx2 := BB.out.cell 2 _ rfl
  have cx3 := BB.out.cell 3 _ rfl
  have cx4 := BB.out.cell 4 _ rfl
  go_wp2_with fail
  refine (CX.out _).mono ?_
  rintro e W3 ⟨rfl, d3, hd3⟩
  replace NN := hid (below_next NN.out (show Below W2.heap.size W2 W3 by rw [hd3]; exact below_drewN _ _))
  replace BB : Hid (Blk W3 w.heap.size (dL ⟨key, alg, out, cus, msg⟩) 64) := hid (by rw [hd3]; exact BB.out.below (below_drewN _ _))
  clear hd3 cx0 cx1 cx2 cx3 cx4
  have cx0 := BB.out.cell 0 _ rfl
  have cx1 := BB.out.cell 1 _ rfl
  have cx2 := BB.out.cell 2 _ rfl
  have cx3 := BB.out.cell 3 _ rfl
  have cx4 := BB.out.cell 4 _ rfl
  cases hx : xof alg with
  | true =>
    have ez : nbr 0 = z := by rw [← HZ.out, hx]; rfl
    rw [ez] at C0
    clear ez hx
    go_wp2_with fail
    refine (C0.out _).mono ?_
    rintro e W ⟨rfl, d4, hd4⟩
    replace NN := hid (below_next NN.out (show Below W3.heap.size W3 W by rw [hd4]; exact below_drewN _ _))
    replace BB : Hid (Blk W w.heap.size (dL ⟨key, alg, out, cus, msg⟩) 64) := hid (by rw [hd4]; exact BB.out.below (below_drewN _ _))
    clear hd4 cx0 cx1 cx2 cx3 cx4
    have cx0 := BB.out.cell 0 _ rfl
    have cx1 := BB.out.cell 1 _ rfl
    have cx2 := BB.out.cell 2 _ rfl
    have cx3 := BB.out.cell 3 _ rfl
    have cx4 := BB.out.cell 4 _ rfl
    go_wp2_with fail
    go_region_held3 (fun V => V.cell? ⟨w.heap.size, 0, none⟩ = some (.int .i64 key) ∧ V.cell? ⟨w.heap.size, 1, none⟩ = some (.int .u8 alg) ∧ V.cell? ⟨w.heap.size, 2, none⟩ = some (.int .i64 out) ∧ V.cell? ⟨w.heap.size, 3, none⟩ = some (.int .i64 cus) ∧ V.cell? ⟨w.heap.size, 4, none⟩ = some (.int .i64 msg)) (go_keep) (first
      | (go_at_call 96; with_reducible refine (CR.out _).mono ?_; rintro e w' ⟨rfl, d2, rfl⟩; have y := BB.out.below (below_drewN W (1 + d2)); have cy0 := y.cell 0 _ rfl; have cy1 := y.cell 1 _ rfl; have cy2 := y.cell 2 _ rfl; have cy3 := y.cell 3 _ rfl; have cy4 := y.cell 4 _ rfl; clear y)
      | (go_at_call 94; with_reducible refine (CF.out _).mono ?_; rintro e w' ⟨rfl, d5, rfl⟩)
      | (go_at_call 31; with_reducible refine (PU.out _ (below_next NN.out (below_drewN _ _))).mono ?_; rintro e w' ⟨u', rfl, g⟩; have y := (BB.out.below (below_drewN W _)).kept g.kp (fun e => absurd rfl (OU.out _ e)); have cy0 := y.cell 0 _ rfl; have cy1 := y.cell 1 _ rfl; have cy2 := y.cell 2 _ rfl; have cy3 := y.cell 3 _ rfl; have cy4 := y.cell 4 _ rfl; clear y; have G := hid (Go1.of_below (below_next NN.out (below_drewN _ _)) g); clear g))
    go_wp2
    go_ret
    exact ⟨_, rfl, by rw [E.out]; exact G.out⟩
  | false =>
    have ez : nbr (8 * out) = z := by rw [← HZ.out, hx]; rfl
    obtain ⟨W, hW⟩ : ∃ W, W3 = W := ⟨_, rfl⟩
    subst hW
    rw [ez]
    clear ez hx
    go_wp2_with fail
    go_region_held3 (fun V => V.cell? ⟨w.heap.size, 0, none⟩ = some (.int .i64 key) ∧ V.cell? ⟨w.heap.size, 1, none⟩ = some (.int .u8 alg) ∧ V.cell? ⟨w.heap.size, 2, none⟩ = some (.int .i64 out) ∧ V.cell? ⟨w.heap.size, 3, none⟩ = some (.int .i64 cus) ∧ V.cell? ⟨w.heap.size, 4, none⟩ = some (.int .i64 msg)) (go_keep) (first
      | (go_at_call 96; with_reducible refine (CR.out _).mono ?_; rintro e w' ⟨rfl, d2, rfl⟩; have y := BB.out.below (below_drewN W3 (1 + d2)); have cy0 := y.cell 0 _ rfl; have cy1 := y.cell 1 _ rfl; have cy2 := y.cell 2 _ rfl; have cy3 := y.cell 3 _ rfl; have cy4 := y.cell 4 _ rfl; clear y)
      | (go_at_call 94; with_reducible refine (CF.out _).mono ?_; rintro e w' ⟨rfl, d5, rfl⟩)
      | (go_at_call 31; with_reducible refine (PU.out _ (below_next NN.out (below_drewN _ _))).mono ?_; rintro e w' ⟨u', rfl, g⟩; have y := (BB.out.below (below_drewN W3 _)).kept g.kp (fun e => absurd rfl (OU.out _ e)); have cy0 := y.cell 0 _ rfl; have cy1 := y.cell 1 _ rfl; have cy2 := y.cell 2 _ rfl; have cy3 := y.cell 3 _ rfl; have cy4 := y.cell 4 _ rfl; clear y; have G := hid (Go1.of_below (below_next NN.out (below_drewN _ _)) g); clear g))
    go_wp2
    go_ret
    exact ⟨_, rfl, by rw [E.out]; exact G.out⟩
theorem summed_ok (base : Nat) (u : Value) (L : List Rn) (h : He) (w : World) (ho : h.Ok) (hm : h.msg ≤ 1000000000000) (hu : Own w base u L) (hl : ∀ q, L.getLast? = some q → 5 < q.k) (hb0 : base ≤ w.heap.size) (hN : L.length ≤ 1000) :
    Calls Tryz.prog 71 #[u, dv h] w fun e w' => ∃ u', e = .returned u' ∧ Go1 base w w' u u' L (flt (smE h)) := by
  by_cases h1 : sz h.alg = 0
  · by_cases h3 : h.alg = 3
    · exact summed_cmac base u L h w ho hm h3 hu hl hb0 hN
    · exact summed_kmac base u L h w ho hm h1 h3 hu hl hb0 hN
  · exact summed_hash base u L h w ho hm h1 hu hl hb0 hN
end Go.Proofs.YtdmacflcjbkkpaaGreat.Cd
namespace Go.Proofs.YtdmacflcjbkkpaaGreat.Cd
open Go.Proofs.YtdmacflcjbkkpaaGreat.Co
open Go.ChangeShapes Go.WideShapes Go.ChangeAt Go.RowKit
open Go.Proofs.YtdmacflcjbkkpaaGreat (Rn Own sm putL SameOrNew wpList_push)
open Go.Proofs.YtdmacflcjbkkpaaGreat.Ou (Sk sv)
open Go.Proofs.YtdmacflcjbkkpaaGreat.Tb (Blk Blk.newAt put_all Kp.setCells)
set_option maxRecDepth 100000 in
set_option maxHeartbeats 1600000 in
theorem begun_cmac (base : Nat) (u : Value) (L : List Rn) (h : He) (w : World) (ho : h.Ok) (h3 : h.alg = 3) (hu : Own w base u L) (hl : ∀ q, L.getLast? = some q → 5 < q.k) (hb0 : base ≤ w.heap.size) (hN : L.length ≤ 1000) :
    Calls Tryz.prog 69 #[u, dv h] w fun e w' => ∃ u', e = .returned u' ∧ Go1 base w w' u u' L (flt (bgE h)) := by
  obtain ⟨key, alg, out, cus, msg⟩ := h
  have k0 : 0 ≤ key := ho.k0
  have k1 : key ≤ 512 := ho.k1
  have h3 : alg = 3 := h3
  subst h3
  have OU : Hid (∀ g, u.ownBlock = some g → g ≠ w.heap.size) := hid (fun g e e2 => by have := (hu.lt g e).2; omega)
  have CS : Hid (∀ w : World, Calls Tryz.prog 90 #[.int .u8 3] w fun e w' => e = .returned (.int .i64 0) ∧ ∃ d, w' = w.drewN d) := hid (fun w => Size_ok 3 w)
  have E : Hid (flt (bgE ⟨key, 3, out, cus, msg⟩) = flt [⟨4, key, 1⟩] ++ flt [⟨5, key, 1⟩]) := hid (by unfold bgE; simp only; rw [if_neg (by decide), if_pos trivial]; simp [flt])
  have PU := hid (fun w1 (b : Below w.heap.size w w1) => rput_any base u L 4 key 1 w1 (hu.below b) ⟨by show (0 : Int) ≤ 4 ∧ (4 : Int) < 256; decide, by show -9223372036854775808 ≤ key ∧ key ≤ 9223372036854775807; omega, by show (-9223372036854775808 : Int) ≤ 1 ∧ (1 : Int) ≤ 9223372036854775807; decide⟩ (fun q hq e => by have := hl q hq; have : q.k = 4 := e.1; omega) (Nat.le_trans hb0 b.size) (by omega))
  have PU2 := hid (fun w1 u1 (g : Go1 base w w1 u u1 L (flt [⟨4, key, 1⟩])) => rput_any base u1 (L ++ flt [⟨4, key, 1⟩]) 5 key 1 w1 g.own ⟨by show (0 : Int) ≤ 5 ∧ (5 : Int) < 256; decide, by show -9223372036854775808 ≤ key ∧ key ≤ 9223372036854775807; omega, by show (-9223372036854775808 : Int) ≤ 1 ∧ (1 : Int) ≤ 9223372036854775807; decide⟩ (fun q hq e => by
    rw [show flt [(⟨4, key, 1⟩ : Rn)] = [⟨4, key, 1⟩] by simp [flt], List.getLast?_append] at hq
    simp only [List.getLast?_singleton, Option.some_or, Option.some.injEq] at hq
    subst hq
    have : (4 : Int) = 5 := e.1
    exact absurd this (by decide)) (Nat.le_trans hb0 g.kp.size) (by rw [show flt [(⟨4, key, 1⟩ : Rn)] = [⟨4, key, 1⟩] by simp [flt]]; simp; omega))
  have PA : Hid (∀ w1, Below w.heap.size w w1 → Blk w1 w.heap.size (dL ⟨key, 3, out, cus, msg⟩) 64 → Calls Tryz.prog 31 #[u, .int .u8 4, .int .i64 key, .int .i64 1] w1 fun e w2 => ∃ u1, e = .returned u1 ∧ Hid (Go1 base w w2 u u1 L (flt [⟨4, key, 1⟩]) ∧ Blk w2 w.heap.size (dL ⟨key, 3, out, cus, msg⟩) 64 ∧ ∀ k, u1.ownBlock = some k → k ≠ w.heap.size)) := hid fun w1 b bl => (PU.out w1 b).mono fun e w2 ⟨u1, he, g⟩ => ⟨u1, he, hid ⟨Go1.of_below b g, bl.kept g.kp (fun e => absurd rfl (OU.out _ e)), fun k e => Go1.off g (fun k e => OU.out k e) bl.lt k e⟩⟩
  have PB : Hid (∀ w1 u1, Hid (Go1 base w w1 u u1 L (flt [⟨4, key, 1⟩]) ∧ Blk w1 w.heap.size (dL ⟨key, 3, out, cus, msg⟩) 64 ∧ ∀ k, u1.ownBlock = some k → k ≠ w.heap.size) → Calls Tryz.prog 31 #[u1, .int .u8 5, .int .i64 key, .int .i64 1] w1 fun e w2 => ∃ u2, e = .returned u2 ∧ Hid (Go1 base w w2 u u2 L (flt [⟨4, key, 1⟩] ++ flt [⟨5, key, 1⟩]) ∧ Blk w2 w.heap.size (dL ⟨key, 3, out, cus, msg⟩) 64)) := hid fun w1 u1 h => (PU2.out w1 u1 h.out.1).mono fun e w2 ⟨u2, he, g⟩ => ⟨u2, he, hid ⟨Go1.trans h.out.1 g, h.out.2.1.kept g.kp (fun e => absurd rfl (h.out.2.2 _ e))⟩⟩
  clear hu hl
  go_enter Tryz.func69, Tryz.ntmps69
  go_wp2_with fail
  refine (CS.out _).mono ?_
  rintro e W ⟨rfl, d1, hd1⟩
  have NN : Hid (Below w.heap.size w W) := hid (by rw [hd1]; exact below_next (below_alloc _ _) (below_drewN _ _))
  have BB : Hid (Blk W w.heap.size (dL ⟨key, 3, out, cus, msg⟩) 64) := hid (by rw [hd1]; exact (Blk.newAt w _ _ _ w.heap.size rfl rfl : Blk (w.alloc (.cells (dL ⟨key, 3, out, cus, msg⟩).toArray 64)) w.heap.size (dL ⟨key, 3, out, cus, msg⟩) 64).below (below_drewN _ _))
  clear hd1
  have cx0 := BB.out.cell 0 _ rfl
  have cx1 := BB.out.cell 1 _ rfl
  have cx2 := BB.out.cell 2 _ rfl
  have cx3 := BB.out.cell 3 _ rfl
  have cx4 := BB.out.cell 4 _ rfl
  go_wp2_with fail
  have hsz := NN.out.size
  go_region_held3 (fun V => V.cell? ⟨w.heap.size, 0, none⟩ = some (.int .i64 key) ∧ V.cell? ⟨w.heap.size, 1, none⟩ = some (.int .u8 3) ∧ V.cell? ⟨w.heap.size, 2, none⟩ = some (.int .i64 out) ∧ V.cell? ⟨w.heap.size, 3, none⟩ = some (.int .i64 cus) ∧ V.cell? ⟨w.heap.size, 4, none⟩ = some (.int .i64 msg)) (go_keep) (first
    | (go_at_call 31; refine (PB.out _ _ h1).mono ?_; rintro e w2 ⟨u2, rfl, h2⟩; have cz0 := h2.out.2.cell 0 _ rfl; have cz1 := h2.out.2.cell 1 _ rfl; have cz2 := h2.out.2.cell 2 _ rfl; have cz3 := h2.out.2.cell 3 _ rfl; have cz4 := h2.out.2.cell 4 _ rfl)
    | (go_at_call 31; refine (PA.out _ (below_next NN.out (below_drewN _ 1)) (BB.out.below (below_drewN _ 1))).mono ?_; rintro e w1 ⟨u1, rfl, h1⟩; have cy0 := h1.out.2.1.cell 0 _ rfl; have cy1 := h1.out.2.1.cell 1 _ rfl; have cy2 := h1.out.2.1.cell 2 _ rfl; have cy3 := h1.out.2.1.cell 3 _ rfl; have cy4 := h1.out.2.1.cell 4 _ rfl))
  go_wp2
  go_ret
  exact ⟨_, rfl, by rw [E.out]; exact h2.out.1⟩
theorem begun_ok (base : Nat) (u : Value) (L : List Rn) (h : He) (w : World) (ho : h.Ok) (hu : Own w base u L) (hl : ∀ q, L.getLast? = some q → 5 < q.k) (hb0 : base ≤ w.heap.size) (hN : L.length ≤ 1000) :
    Calls Tryz.prog 69 #[u, dv h] w fun e w' => ∃ u', e = .returned u' ∧ Go1 base w w' u u' L (flt (bgE h)) := by
  by_cases h1 : sz h.alg = 0
  · by_cases h3 : h.alg = 3
    · exact begun_cmac base u L h w ho h3 hu hl hb0 hN
    · exact begun_kmac base u L h w ho h1 h3 hu hl hb0 hN
  · exact begun_hash base u L h w ho h1 hu hl hb0 hN
end Go.Proofs.YtdmacflcjbkkpaaGreat.Cd
