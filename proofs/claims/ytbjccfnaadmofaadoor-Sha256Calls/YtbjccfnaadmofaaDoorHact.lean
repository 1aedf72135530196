/- The helper act, call by call: Wipe, Reset. -/
import Derived.Test.YtbjccfnaadmofaaDoorHkp
import Derived.Test.YtbjccfnaadmofaaDoorHgw2
namespace Go.Proofs.YtbjccfnaadmofaaDoor.Sh
open Go.ChangeShapes Go.WideShapes Go.ChangeAt Go.RowKit
open Go.Proofs.YtbjccfnaadmofaaDoor.By Go.Proofs.YtbjccfnaadmofaaDoor.Wd
/-- What was told: both answers, how many bytes, which. -/
structure TE where
  a : Value
  b : Value
  n : Nat
  f : Nat → Int
structure TL (W : World) (B : Nat) (tl : List TE) : Prop where
  own : ∀ q ∈ tl, By.Own W B q.a q.n q.f ∧ By.Own W B q.b q.n q.f
  ap : tl.Pairwise (fun p q => p.a.ownBlock = none ∨ p.a.ownBlock ≠ q.a.ownBlock)
  sz : ∀ q ∈ tl, q.n ≤ 65536
/-- The record's first eight cells. -/
def x8 (KP KQ : Nat → KD) (pb qb : Nat → Nat) (lb mb : Nat) : List Value :=
  [ptr (pb 0) (KP 0), ptr (pb 1) (KP 1), ptr (pb 2) (KP 2), ptr (qb 0) (KQ 0), ptr (qb 1) (KQ 1), ptr (qb 2) (KQ 2), .pointer (some ⟨lb, 0, none⟩), .pointer (some ⟨mb, 0, none⟩)]
/-- The rows of what was told. -/
structure RW (W : World) (B : Nat) (tv wv : Value) (tl : List TE) : Prop where
  r3 : W.ownsRow B 40 1 tv (tl.map (·.a)).length (tl.map (·.a))
  r4 : W.ownsRow B 40 1 wv (tl.map (·.b)).length (tl.map (·.b))
  dis : ∀ g, tv.ownBlock = some g → wv.ownBlock ≠ some g
  tl : TL W B tl
theorem TL.kx {W W' : World} {B : Nat} {tl : List TE} (h : TL W B tl) (hk : Kx W W') : TL W' B tl := ⟨fun q hq => ⟨hk.own (h.own q hq).1, hk.own (h.own q hq).2⟩, h.ap, h.sz⟩
theorem RW.kx {W W' : World} {B : Nat} {tv wv : Value} {tl : List TE} (h : RW W B tv wv tl) (hk : Kx W W') : RW W' B tv wv tl := ⟨hk.row h.r3, hk.row h.r4, h.dis, h.tl.kx hk⟩
/-- All that both sides hold, between two calls. -/
structure PW (w0 : World) (B : Nat) (K : Nat → KD) (pb qb : Nat → Nat) (lb : Nat) (lv : Value) (mb : Nat) (mv : Value) (L : List Rn) (xb : Nat) (tv wv : Value) (tl : List TE) (W : World) : Prop where
  gw : GW w0 B K K pb qb lb lv L mb mv L xb tv wv W
  rw : RW W B tv wv tl
theorem xc_p (KP KQ : Nat → KD) (pb qb : Nat → Nat) (lb mb : Nat) (tv wv : Value) (k : Nat) (h : k < 3) : (xc KP KQ pb qb lb mb tv wv)[k]? = some (ptr (pb k) (KP k)) := by
  match k, h with
  | 0, _ | 1, _ | 2, _ => rfl
theorem xc_q (KP KQ : Nat → KD) (pb qb : Nat → Nat) (lb mb : Nat) (tv wv : Value) (k : Nat) (h : k < 3) : (xc KP KQ pb qb lb mb tv wv)[3 + k]? = some (ptr (qb k) (KQ k)) := by
  match k, h with
  | 0, _ | 1, _ | 2, _ => rfl
theorem sel_sel (sil : Bool) (L A : List Rn) : sel sil L A = sel sil L A := rfl
theorem pickN (i : Int) (N : Nat) (h0 : 0 < N) (h1 : N ≤ 1000000) (w : World) :
    Calls Tryd.prog 20 #[.int .i64 i, .int .i64 N] w fun e w' => (∃ p : Nat, p < N ∧ e = .returned (.int .i64 p)) ∧ w' = w := by
  have hN : (0 : Int) < N := by omega
  have a1 := Int.tmod_lt_of_pos i hN
  have a2 : - (N : Int) < i.tmod N := by
    have := Int.lt_tmod_of_pos i hN
    omega
  have nz : ¬ (N : Int) = 0 := by omega
  have nz2 : ¬ N = 0 := by omega
  obtain ⟨q, hq⟩ : ∃ q, i.tmod N = q := ⟨_, rfl⟩
  rw [hq] at a1 a2
  have w1 : IntKind.i64.wrap q = q := by rw [IntKind.wrap_i64]; omega
  by_cases hlt : q < 0
  · have w2 : IntKind.i64.wrap (q + N) = q + N := by rw [IntKind.wrap_i64]; omega
    go_enter Tryd.func20, Tryd.ntmps20
    go_wp2
    go_ret
    exact ⟨⟨(q + N).toNat, by omega, by rw [show (((q + N).toNat : Nat) : Int) = q + N by omega]; rfl⟩, rfl⟩
  · go_enter Tryd.func20, Tryd.ntmps20
    go_wp2
    go_ret
    exact ⟨⟨q.toNat, by omega, by rw [show ((q.toNat : Nat) : Int) = q by omega]; rfl⟩, rfl⟩
section
variable {w0 W : World} {B : Nat} {K : Nat → KD} {pb qb : Nat → Nat} {lb mb xb : Nat} {lv mv tv wv : Value} {L : List Rn} {tl : List TE}
set_option maxRecDepth 4000 in
set_option maxHeartbeats 4000000 in
theorem PW.wipe (h : PW w0 B K pb qb lb lv mb mv L xb tv wv tl W) (on to : Int) (pv : Value) (sil : Bool) (hroom : tot L ≤ 100000) :
    Calls Tryd.prog 10 #[.pointer (some ⟨xb, 0, none⟩), .agg #[.int .i64 on, .int .i64 4, .int .i64 to, pv, .bool sil]] W fun e w' => e = .returned (.bool true) ∧ ∃ k lv' mv', k < 3 ∧ PW w0 B (upd K k (wiK (K k))) pb qb lb lv' mb mv' (sel sil L (wiL L (K k))) xb tv wv tl w' := by
  have HX := hid (Blk.new W [.int .i64 on, .int .i64 4, .int .i64 to, pv, .bool sil] 42)
  have G0 := hid (h.gw.below (below_alloc W (.cells #[.int .i64 on, .int .i64 4, .int .i64 to, pv, .bool sil] 42)))
  have R0 := hid (h.rw.kx (Kx.below (below_alloc W (.cells #[.int .i64 on, .int .i64 4, .int .i64 to, pv, .bool sil] 42))))
  have HM := hid hroom
  clear h hroom
  go_enter Tryd.func10, Tryd.ntmps10
  go_wp2_with fail
  obtain ⟨W1, hW1⟩ : ∃ x, W.alloc (.cells #[.int .i64 on, .int .i64 4, .int .i64 to, pv, .bool sil] 42) = x := ⟨_, rfl⟩
  obtain ⟨ob, hob⟩ : ∃ x, W.heap.size = x := ⟨_, rfl⟩
  have HX1 : Hid (Blk W1 ob [.int .i64 on, .int .i64 4, .int .i64 to, pv, .bool sil] 42) := by rw [← hW1, ← hob]; exact HX.out
  rw [hW1] at G0 R0
  rw [hW1, hob]
  clear hW1 hob HX
  have o0 := HX1.out.cell 0 _ rfl
  have o1 := HX1.out.cell 1 _ rfl
  have o6 := HX1.out.cell 4 _ rfl
  refine (pickN on 3 (by omega) (by omega) W1).mono ?_
  rintro e w1 ⟨⟨k, hk3, rfl⟩, rfl⟩
  have cp := G0.out.x.cell k _ (xc_p _ _ _ _ _ _ _ _ k hk3)
  have cq := G0.out.x.cell (3 + k) _ (xc_q _ _ _ _ _ _ _ _ k hk3)
  have cl := G0.out.x.cell 6 _ rfl
  have cm := G0.out.x.cell 7 _ rfl
  have hk3' : (k : Int) < 3 := by omega
  have SIL : ∀ s : Bool, s = sil → True := fun _ _ => trivial
  cases hs : sil with
  | true =>
    subst hs
    go_wp2_with fail
    refine (G0.out.wipeP hk3 true HM.out).mono ?_
    rintro e w2 ⟨lv', rfl, hG2, hK2, -⟩
    have G2 := hid hG2
    have R2 := hid (R0.out.kx hK2)
    clear hG2 hK2
    go_wp2_with fail
    refine (G2.out.wipeQ hk3 true HM.out).mono ?_
    rintro e w3 ⟨mv', rfl, hG3, hK3⟩
    have G3 := hid hG3
    have R3 := hid (R2.out.kx hK3)
    clear hG3 hK3
    go_wp2
    go_ret
    exact ⟨by simp, k, lv', mv', hk3, G3.out, R3.out⟩
  | false =>
    subst hs
    go_wp2_with fail
    refine (G0.out.wipeP hk3 false HM.out).mono ?_
    rintro e w2 ⟨lv', rfl, hG2, hK2, -⟩
    have G2 := hid hG2
    have R2 := hid (R0.out.kx hK2)
    clear hG2 hK2
    go_wp2_with fail
    refine (G2.out.wipeQ hk3 false HM.out).mono ?_
    rintro e w3 ⟨mv', rfl, hG3, hK3⟩
    have G3 := hid hG3
    have R3 := hid (R2.out.kx hK3)
    clear hG3 hK3
    go_wp2
    go_ret
    exact ⟨by simp, k, lv', mv', hk3, G3.out, R3.out⟩

set_option maxRecDepth 4000 in
set_option maxHeartbeats 4000000 in
theorem PW.reset (h : PW w0 B K pb qb lb lv mb mv L xb tv wv tl W) (on to : Int) (pv : Value) (sil : Bool) :
    Calls Tryd.prog 10 #[.pointer (some ⟨xb, 0, none⟩), .agg #[.int .i64 on, .int .i64 3, .int .i64 to, pv, .bool sil]] W fun e w' => e = .returned (.bool true) ∧ ∃ k lv' mv', k < 3 ∧ PW w0 B (upd K k (reK (K k))) pb qb lb lv' mb mv' L xb tv wv tl w' := by
  have HX := hid (Blk.new W [.int .i64 on, .int .i64 3, .int .i64 to, pv, .bool sil] 42)
  have G0 := hid (h.gw.below (below_alloc W (.cells #[.int .i64 on, .int .i64 3, .int .i64 to, pv, .bool sil] 42)))
  have R0 := hid (h.rw.kx (Kx.below (below_alloc W (.cells #[.int .i64 on, .int .i64 3, .int .i64 to, pv, .bool sil] 42))))
  clear h
  go_enter Tryd.func10, Tryd.ntmps10
  go_wp2_with fail
  obtain ⟨W1, hW1⟩ : ∃ x, W.alloc (.cells #[.int .i64 on, .int .i64 3, .int .i64 to, pv, .bool sil] 42) = x := ⟨_, rfl⟩
  obtain ⟨ob, hob⟩ : ∃ x, W.heap.size = x := ⟨_, rfl⟩
  have HX1 : Hid (Blk W1 ob [.int .i64 on, .int .i64 3, .int .i64 to, pv, .bool sil] 42) := by rw [← hW1, ← hob]; exact HX.out
  rw [hW1] at G0 R0
  rw [hW1, hob]
  clear hW1 hob HX
  have o0 := HX1.out.cell 0 _ rfl
  have o1 := HX1.out.cell 1 _ rfl
  have o6 := HX1.out.cell 4 _ rfl
  refine (pickN on 3 (by omega) (by omega) W1).mono ?_
  rintro e w1 ⟨⟨k, hk3, rfl⟩, rfl⟩
  have cp := G0.out.x.cell k _ (xc_p _ _ _ _ _ _ _ _ k hk3)
  have cq := G0.out.x.cell (3 + k) _ (xc_q _ _ _ _ _ _ _ _ k hk3)
  have cl := G0.out.x.cell 6 _ rfl
  have cm := G0.out.x.cell 7 _ rfl
  have hk3' : (k : Int) < 3 := by omega
  have SIL : ∀ s : Bool, s = sil → True := fun _ _ => trivial
  cases hs : sil with
  | true =>
    subst hs
    go_wp2_with fail
    refine (G0.out.resetP hk3).mono ?_
    rintro e w2 ⟨lv', rfl, hG2, hK2, -⟩
    have G2 := hid hG2
    have R2 := hid (R0.out.kx hK2)
    clear hG2 hK2
    go_wp2_with fail
    refine (G2.out.resetQ hk3).mono ?_
    rintro e w3 ⟨mv', rfl, hG3, hK3⟩
    have G3 := hid hG3
    have R3 := hid (R2.out.kx hK3)
    clear hG3 hK3
    go_wp2
    go_ret
    exact ⟨by simp, k, lv', mv', hk3, G3.out, R3.out⟩
  | false =>
    subst hs
    go_wp2_with fail
    refine (G0.out.resetP hk3).mono ?_
    rintro e w2 ⟨lv', rfl, hG2, hK2, -⟩
    have G2 := hid hG2
    have R2 := hid (R0.out.kx hK2)
    clear hG2 hK2
    go_wp2_with fail
    refine (G2.out.resetQ hk3).mono ?_
    rintro e w3 ⟨mv', rfl, hG3, hK3⟩
    have G3 := hid hG3
    have R3 := hid (R2.out.kx hK3)
    clear hG3 hK3
    go_wp2
    go_ret
    exact ⟨by simp, k, lv', mv', hk3, G3.out, R3.out⟩

end
end Go.Proofs.YtbjccfnaadmofaaDoor.Sh
