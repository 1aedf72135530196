/- The statement Calls, walked. -/
import Derived.Test.YtbjccfnaadmofaaDoorHsm
import Derived.Test.YtbjccfnaadmofaaDoorRlen
import Derived.Test.YtbjccfnaadmofaaDoorHact5
import Derived.Test.YtbjccfnaadmofaaDoorHlives
import Derived.Test.YtbjccfnaadmofaaDoorRrlen
import Derived.Test.YtbjccfnaadmofaaDoorSapx
namespace Go.Proofs.YtbjccfnaadmofaaDoor.Sh
open Go.ChangeShapes Go.WideShapes Go.ChangeAt Go.RowKit
open Go.Proofs.YtbjccfnaadmofaaDoor.By Go.Proofs.YtbjccfnaadmofaaDoor.Wd
theorem rowL_cell {w : World} {base n i : Nat} {v x : Value} {xs : List Value} (h : w.ownsRow base 40 1 v n xs) (hi : xs[i]? = some x) : ∃ g cap, v = .slice (some ⟨g, 0, none⟩) n cap ∧ w.cell? ⟨g, 0 + i, none⟩ = some x := by
  obtain ⟨hl, h | ⟨g, cap, cur, e, hb, hc, h1, h2, h3, h4⟩⟩ := h
  · have := h.2
    simp_all
  · refine ⟨g, cap, e, ?_⟩
    rw [Nat.zero_add, cell_of_row w g i cur 40 (0, 0) hc]
    rw [← h4, List.getElem?_take] at hi
    split at hi
    · simpa using hi
    · cases hi

/-- What was told lies apart. -/
theorem RW.apart {W : World} {B g m c xk : Nat} {wv : Value} {tl : List TE} {cx : List Value} {t : TypeId} (hx : Blk W xk cx t) (ht : t ≠ 5) (h : RW W B (.slice (some ⟨g, 0, none⟩) m c) wv tl) (hB : B ≤ W.heap.size) (hm : m = tl.length) (h0 : 0 < m) (h80 : m ≤ 80) :
    Calls Tryd.prog 17 #[.slice (some ⟨g, 0, none⟩) m c] W fun e w' => e = .returned (.bool true) ∧ By.BX B xk W w' := by
  subst hm
  have gt : ∀ j, j < tl.length → ∃ x ∈ tl, tl[j]? = some x ∧ tl.getD j ⟨.slice none 0 0, .slice none 0 0, 0, fun _ => 0⟩ = x := fun j hj => by
    refine ⟨tl[j], List.getElem_mem hj, List.getElem?_eq_getElem hj, ?_⟩
    rw [List.getD_eq_getElem?_getD, List.getElem?_eq_getElem hj]; rfl
  have hrow := h.r3
  have cellAt : ∀ j, j < tl.length → W.cell? ⟨g, j, none⟩ = some (tl.getD j ⟨.slice none 0 0, .slice none 0 0, 0, fun _ => 0⟩).a := fun j hj => by
    obtain ⟨x, _, hx, ex⟩ := gt j hj
    obtain ⟨g', c', e, hc⟩ := rowL_cell hrow (show (tl.map (·.a))[j]? = some x.a from by rw [List.getElem?_map, hx]; rfl)
    simp only [Value.slice.injEq, Option.some.injEq, Addr.mk.injEq, and_true] at e
    rw [ex]
    rw [← e.1, Nat.zero_add] at hc
    exact hc
  have symm : ∀ i j, i < j → j < tl.length → (tl.getD i ⟨.slice none 0 0, .slice none 0 0, 0, fun _ => 0⟩).a.ownBlock = none ∨ (tl.getD i ⟨.slice none 0 0, .slice none 0 0, 0, fun _ => 0⟩).a.ownBlock ≠ (tl.getD j ⟨.slice none 0 0, .slice none 0 0, 0, fun _ => 0⟩).a.ownBlock := fun i j hij hj => by
    have hp := List.pairwise_iff_getElem.1 h.tl.ap i j (by omega) hj hij
    obtain ⟨x, _, hx, ex⟩ := gt i (by omega)
    obtain ⟨y, _, hy, ey⟩ := gt j hj
    rw [ex, ey]
    rw [List.getElem?_eq_getElem (by omega)] at hx hy
    rw [Option.some.inj hx, Option.some.inj hy] at hp
    exact hp
  refine By.apart30x xk B tl.length g c (fun j => (tl.getD j ⟨.slice none 0 0, .slice none 0 0, 0, fun _ => 0⟩).a) (fun j => (tl.getD j ⟨.slice none 0 0, .slice none 0 0, 0, fun _ => 0⟩).n) (fun j => (tl.getD j ⟨.slice none 0 0, .slice none 0 0, 0, fun _ => 0⟩).f) W ⟨fun i j hi hj hne => ?_, fun j hj e => ?_⟩ ⟨fun j hj => ?_, cellAt⟩ (fun j i => ?_) h80 h0 (fun j hj => ?_) hB hx.lt (fun j hj e => ?_)
  · rcases Nat.lt_or_gt_of_ne hne with h1 | h1
    · exact symm i j h1 hj
    · exact apart_symm (symm j i h1 hi)
  · obtain ⟨x, hm, _, ex⟩ := gt j hj
    have e' : x.a.ownBlock = some g := by rw [← ex]; exact e
    obtain ⟨cs, hc⟩ := own8_type (h.tl.own x hm).1 e'
    obtain ⟨_, hn | ⟨g', cap', cur, e2, _, hc2, _⟩⟩ := hrow
    · have := hn.1; cases this
    · simp only [Value.slice.injEq, Option.some.injEq, Addr.mk.injEq, and_true] at e2
      rw [← e2.1, hc] at hc2
      simp only [Option.some.injEq, Obj.cells.injEq] at hc2
      exact absurd hc2.2.1 (by decide)
  · obtain ⟨x, hm, _, ex⟩ := gt j hj
    show By.Own W B (tl.getD j _).a (tl.getD j _).n (tl.getD j _).f
    rw [ex]; exact (h.tl.own x hm).1
  · show 0 ≤ (tl.getD j _).f i ∧ (tl.getD j _).f i < 256
    by_cases hj : j < tl.length
    · obtain ⟨x, hm, _, ex⟩ := gt j hj
      rw [ex]; exact (h.tl.own x hm).1.1 i
    · rw [List.getD_eq_getElem?_getD, List.getElem?_eq_none (by omega)]
      show (0 : Int) ≤ 0 ∧ (0 : Int) < 256
      decide
  · obtain ⟨x, hm, _, ex⟩ := gt j hj
    show (tl.getD j _).n ≤ _
    rw [ex]; exact Nat.le_trans (h.tl.sz x hm) (by omega)
  · obtain ⟨x, hm, _, ex⟩ := gt j hj
    have e' : x.a.ownBlock = some xk := by rw [← ex]; exact e
    obtain ⟨cs, hc⟩ := own8_type (h.tl.own x hm).1 e'
    have := Option.some.inj (hx.symm.trans hc)
    simp only [Obj.cells.injEq] at this
    exact ht this.2.1
/-- Both sides at the start: two states each. -/
def K0 : Nat → KD := fun i => if i < 2 then some (some (0, fun _ => 0)) else none
def pf (x y : Nat) : Nat → Nat := fun i => if i = 0 then x else y
theorem PW.start {w W : World} {lb mb xb p0 p1 q0 q1 : Nat} (hk : KT w) (hb : Below w.heap.size w W) (hl : Led W lb (.slice none 0 0) []) (hm : RLed W mb (.slice none 0 0) []) (hx : Blk W xb (xc K0 K0 (pf p0 p1) (pf q0 q1) lb mb (.slice none 0 0) (.slice none 0 0)) 36) (h1 : w.heap.size ≤ lb) (h2 : w.heap.size ≤ mb) (h3 : w.heap.size ≤ xb)
    (s0 : St W p0 0 (fun _ => 0)) (s1 : St W p1 0 (fun _ => 0)) (r0 : IsR W q0 (some (0, fun _ => 0))) (r1 : IsR W q1 (some (0, fun _ => 0))) (b0 : w.heap.size ≤ p0) (b1 : w.heap.size ≤ p1) (c0 : w.heap.size ≤ q0) (c1 : w.heap.size ≤ q1) (hp : p0 ≠ p1) (hq : q0 ≠ q1) :
    PW w w.heap.size K0 (pf p0 p1) (pf q0 q1) lb (.slice none 0 0) mb (.slice none 0 0) [] xb (.slice none 0 0) (.slice none 0 0) [] W := by
  refine ⟨⟨fun i hi => ?_, fun i hi => ?_, fun i j hi hj hij h h' => ?_, fun i j hi hj hij h h' => ?_, hl, h1, fun g hg => by simp [Value.ownBlock] at hg, hm, h2, fun g hg => by simp [Value.ownBlock] at hg, fun g hg => by simp [Value.ownBlock] at hg, hx, h3, hb, hk.below hb, hk.lt, hb.size⟩, ⟨World.ownsRow_nil _ _ _ _, World.ownsRow_nil _ _ _ _, fun g hg => by simp [Value.ownBlock] at hg, ⟨fun q hq => by simp at hq, List.Pairwise.nil, fun q hq => by simp at hq⟩⟩⟩
  · match i, hi with
    | 0, _ => exact ⟨s0, fun _ => b0⟩
    | 1, _ => exact ⟨s1, fun _ => b1⟩
    | 2, _ => exact ⟨trivial, fun h => absurd rfl h⟩
  · match i, hi with
    | 0, _ => exact ⟨r0, fun _ => c0⟩
    | 1, _ => exact ⟨r1, fun _ => c1⟩
    | 2, _ => exact ⟨trivial, fun h => absurd rfl h⟩
  · match i, hi, j, hj with
    | 0, _, 1, _ => exact hp
    | 1, _, 0, _ => exact fun e => hp e.symm
    | 0, _, 0, _ | 1, _, 1, _ | 2, _, 2, _ => exact absurd rfl hij
    | 2, _, 0, _ | 2, _, 1, _ => exact absurd rfl h
    | 0, _, 2, _ | 1, _, 2, _ => exact absurd rfl h'
  · match i, hi, j, hj with
    | 0, _, 1, _ => exact hq
    | 1, _, 0, _ => exact fun e => hq e.symm
    | 0, _, 0, _ | 1, _, 1, _ | 2, _, 2, _ => exact absurd rfl hij
    | 2, _, 0, _ | 2, _, 1, _ => exact absurd rfl h
    | 0, _, 2, _ | 1, _, 2, _ => exact absurd rfl h'
set_option maxRecDepth 4000 in
set_option maxHeartbeats 8000000 in
theorem calls_walk (A : Option Addr) (bb off m cap : Nat) (hA : 0 < m → A = some ⟨bb, off, none⟩) (a : Nat → AE) (w : World) (hk : KT w) (hs : ∀ W, Below w.heap.size w W → Scr W bb off m a) (hm : m ≤ cap) (hcap : cap ≤ maxLen) (hpn : ∀ i, i < m → (a i).pn ≤ 140737488355328) (hp : ∀ i, i < m → ∀ W, Below w.heap.size w W → By.RB W (.slice (a i).pa (a i).pn (a i).pc) (a i).pn (a i).g) :
    Calls Tryd.prog 3 #[.slice A m cap] w fun e w' => e = .returned (.bool true) ∧ Below w.heap.size w w' := by
  have HS := hid hs
  have HAA := hid hA
  have HK := hid hk
  have HPN := hid hpn
  have HP := hid hp
  have HC := hid hcap
  clear hs hA hk hpn hp hcap
  go_enter Tryd.func3, Tryd.ntmps3
  go_wp2_with fail
  refine (lives8 w HK.out).mono ?_
  rintro e w1 ⟨rfl, hb1⟩
  have B1 := hid hb1
  clear hb1
  go_wp2_with fail
  refine (small1 A bb off m cap HAA.out a w1 (HS.out w1 B1.out) hm HC.out HPN.out).mono ?_
  rintro e w1' ⟨⟨y, rfl, hy⟩, rfl⟩
  cases y with
  | false =>
    go_wp2
    go_ret
    exact ⟨rfl, B1.out⟩
  | true =>
    obtain ⟨hm60, hp6⟩ := hy rfl
    have HP6 := hid hp6
    clear hy hp6
    go_wp2_with fail
    refine (new9 _).mono ?_
    rintro e w2 ⟨rfl, hl2, hb2⟩
    have L2 := hid hl2
    have B2 := hid (below_next B1.out hb2)
    clear hl2 hb2
    go_wp2_with fail
    refine (refNew10 w2).mono ?_
    rintro e w3 ⟨rfl, hm3, hb3⟩
    have L3 := hid (L2.out.below hb3)
    have M3 := hid hm3
    have B3 := hid (below_next B2.out hb3)
    clear hm3 hb3
    go_wp2_with fail
    have X4 := hid (Blk.new w3 [.pointer none, .pointer none, .pointer none, .pointer none, .pointer none, .pointer none, .pointer (some ⟨w1'.heap.size, 0, none⟩), .pointer (some ⟨w2.heap.size, 0, none⟩), .slice none 0 0, .slice none 0 0] 36)
    have L4 := hid (L3.out.below (below_alloc w3 (.cells #[.pointer none, .pointer none, .pointer none, .pointer none, .pointer none, .pointer none, .pointer (some ⟨w1'.heap.size, 0, none⟩), .pointer (some ⟨w2.heap.size, 0, none⟩), .slice none 0 0, .slice none 0 0] 36)))
    have M4 := hid (M3.out.below (below_alloc w3 (.cells #[.pointer none, .pointer none, .pointer none, .pointer none, .pointer none, .pointer none, .pointer (some ⟨w1'.heap.size, 0, none⟩), .pointer (some ⟨w2.heap.size, 0, none⟩), .slice none 0 0, .slice none 0 0] 36)))
    have B4 := hid (below_next B3.out (below_alloc w3 (.cells #[.pointer none, .pointer none, .pointer none, .pointer none, .pointer none, .pointer none, .pointer (some ⟨w1'.heap.size, 0, none⟩), .pointer (some ⟨w2.heap.size, 0, none⟩), .slice none 0 0, .slice none 0 0] 36)))
    have Z1 : Hid (w.heap.size ≤ w1'.heap.size ∧ w.heap.size ≤ w2.heap.size ∧ w.heap.size ≤ w3.heap.size) := ⟨B1.out.size, B2.out.size, B3.out.size⟩
    obtain ⟨lb, hlb⟩ : ∃ x, w1'.heap.size = x := ⟨_, rfl⟩
    obtain ⟨mb, hmb⟩ : ∃ x, w2.heap.size = x := ⟨_, rfl⟩
    obtain ⟨w4, hw4⟩ : ∃ x, w3.alloc (.cells #[.pointer none, .pointer none, .pointer none, .pointer none, .pointer none, .pointer none, .pointer (some ⟨lb, 0, none⟩), .pointer (some ⟨mb, 0, none⟩), .slice none 0 0, .slice none 0 0] 36) = x := ⟨_, rfl⟩
    obtain ⟨xb, hxb⟩ : ∃ x, w3.heap.size = x := ⟨_, rfl⟩
    rw [hlb, hmb, hw4] at B4 L4 M4
    rw [hlb, hmb] at X4
    have X4 : Hid (Blk w4 xb [.pointer none, .pointer none, .pointer none, .pointer none, .pointer none, .pointer none, .pointer (some ⟨lb, 0, none⟩), .pointer (some ⟨mb, 0, none⟩), .slice none 0 0, .slice none 0 0] 36) := by rw [← hw4, ← hxb]; exact X4.out
    rw [hlb, hmb, hxb] at Z1
    rw [hlb, hmb, hw4, hxb]
    clear hlb hmb hw4 hxb L3 M3 B3 B2 L2
    refine (new12 _).mono ?_
    rintro e w5 ⟨rfl, hs5, hb5⟩
    have S5 := hid hs5
    have B5 := hid hb5
    clear hs5 hb5
    go_wp2_with fail
    refine (new12 _).mono ?_
    rintro e w6 ⟨rfl, hs6, hb6⟩
    have S6 := hid hs6
    have B6 := hid hb6
    have S56 := hid (S5.out.below hb6)
    have X6 := hid ((X4.out.below B5.out).below hb6)
    have L6 := hid ((L4.out.below B5.out).below hb6)
    have M6 := hid ((M4.out.below B5.out).below hb6)
    have E6 := hid (below_next (below_next B4.out B5.out) hb6)
    have Z2 : Hid (w4.heap.size < w5.heap.size ∧ w.heap.size ≤ w4.heap.size) := ⟨S5.out.here.lt, B4.out.size⟩
    obtain ⟨p0, hp0⟩ : ∃ x, w4.heap.size = x := ⟨_, rfl⟩
    obtain ⟨p1, hp1⟩ : ∃ x, w5.heap.size = x := ⟨_, rfl⟩
    rw [hp0] at S56
    rw [hp1] at S6
    rw [hp0, hp1] at Z2
    rw [hp0, hp1]
    clear hs6 hb6 hp0 hp1 S5 X4 L4 M4 B4 B5 B6
    have c0 := X6.out.cell 0 _ rfl
    have c1 := X6.out.cell 1 _ rfl
    have c2 := X6.out.cell 2 _ rfl
    have f0 := X6.out.frozen 0
    have f1 := X6.out.frozen 1
    have f2 := X6.out.frozen 2
    go_wp2_with fail
    obtain ⟨w7, hw7⟩ : ∃ x, ((w6.setCell ⟨xb, 0, none⟩ (.pointer (some ⟨p0, 0, none⟩))).setCell ⟨xb, 1, none⟩ (.pointer (some ⟨p1, 0, none⟩))).setCell ⟨xb, 2, none⟩ (.pointer none) = x := ⟨_, rfl⟩
    have X7 : Hid (Blk w7 xb [.pointer (some ⟨p0, 0, none⟩), .pointer (some ⟨p1, 0, none⟩), .pointer none, .pointer none, .pointer none, .pointer none, .pointer (some ⟨lb, 0, none⟩), .pointer (some ⟨mb, 0, none⟩), .slice none 0 0, .slice none 0 0] 36) := by rw [← hw7]; exact ((X6.out.set 0 _).set 1 _).set 2 _
    have K7 : Hid (Kp (fun j => j = xb) w6 w7) := by rw [← hw7]; exact ((Kp.setCell _ _ _).trans (Kp.setCell _ _ _) (fun _ _ e => e)).trans (Kp.setCell _ _ _) (fun _ _ e => e)
    rw [hw7]
    clear hw7 c0 c1 c2 f0 f1 f2
    have L7 := hid (L6.out.kept K7.out (fun e => Blk.ne L6.out.blk X6.out (by decide) e) (fun g hg => by simp [Value.ownBlock] at hg))
    have M7 := hid (M6.out.kept K7.out (fun e => Blk.ne M6.out.blk X6.out (by decide) e) (fun g hg => by simp [Value.ownBlock] at hg))
    have S07 := hid (S56.out.kept K7.out (Blk.ne S56.out.here X6.out (by decide)))
    have S17 := hid (S6.out.kept K7.out (Blk.ne S6.out.here X6.out (by decide)))
    have E7 := hid (E6.out.trans (K7.out.below E6.out.size (fun j hj e => by have := Z1.out.2.2; have e' : j = xb := e; omega)))
    clear L6 M6 S56 S6 E6 X6 K7
    refine (rnew11 _).mono ?_
    rintro e w8 ⟨rfl, hr8, hb8⟩
    have R8 := hid hr8
    have B8 := hid hb8
    clear hr8 hb8
    go_wp2_with fail
    refine (rnew11 _).mono ?_
    rintro e w9 ⟨rfl, hr9, hb9⟩
    have R9 := hid hr9
    have R89 := hid (R8.out.below hb9)
    have X9 := hid ((X7.out.below B8.out).below hb9)
    have L9 := hid ((L7.out.below B8.out).below hb9)
    have M9 := hid ((M7.out.below B8.out).below hb9)
    have S09 := hid ((S07.out.below B8.out).below hb9)
    have S19 := hid ((S17.out.below B8.out).below hb9)
    have E9 := hid (below_next (below_next E7.out B8.out) hb9)
    have Z3 : Hid (w7.heap.size < w8.heap.size ∧ w.heap.size ≤ w7.heap.size) := ⟨by obtain ⟨_, v, h, _⟩ := R8.out; exact h.lt, E7.out.size⟩
    obtain ⟨q0, hq0⟩ : ∃ x, w7.heap.size = x := ⟨_, rfl⟩
    obtain ⟨q1, hq1⟩ : ∃ x, w8.heap.size = x := ⟨_, rfl⟩
    rw [hq0] at R89
    rw [hq1] at R9
    rw [hq0, hq1] at Z3
    rw [hq0, hq1]
    clear hr9 hb9 hq0 hq1 R8 X7 L7 M7 S07 S17 E7 B8
    have c3 := X9.out.cell 3 _ rfl
    have c4 := X9.out.cell 4 _ rfl
    have c5 := X9.out.cell 5 _ rfl
    have f3 := X9.out.frozen 3
    have f4 := X9.out.frozen 4
    have f5 := X9.out.frozen 5
    go_wp2_with fail
    obtain ⟨w10, hw10⟩ : ∃ x, ((w9.setCell ⟨xb, 3, none⟩ (.pointer (some ⟨q0, 0, none⟩))).setCell ⟨xb, 4, none⟩ (.pointer (some ⟨q1, 0, none⟩))).setCell ⟨xb, 5, none⟩ (.pointer none) = x := ⟨_, rfl⟩
    have X10 : Hid (Blk w10 xb (xc K0 K0 (pf p0 p1) (pf q0 q1) lb mb (.slice none 0 0) (.slice none 0 0)) 36) := by rw [← hw10]; exact ((X9.out.set 3 _).set 4 _).set 5 _
    have K10 : Hid (Kp (fun j => j = xb) w9 w10) := by rw [← hw10]; exact ((Kp.setCell _ _ _).trans (Kp.setCell _ _ _) (fun _ _ e => e)).trans (Kp.setCell _ _ _) (fun _ _ e => e)
    rw [hw10]
    clear hw10 c3 c4 c5 f3 f4 f5
    have n9 : ∀ {y : Nat} {c : List Value} {t : TypeId}, Blk w9 y c t → t ≠ 36 → ¬ (y = xb) := fun hy ht e => Blk.ne hy X9.out ht e
    have P6 := hid (PW.start (w := w) (W := w10) (lb := lb) (mb := mb) (xb := xb) (p0 := p0) (p1 := p1) (q0 := q0) (q1 := q1) HK.out (E9.out.trans (K10.out.below E9.out.size (fun j hj e => by have := Z1.out.2.2; have e' : j = xb := e; omega))) (L9.out.kept K10.out (fun e => n9 L9.out.blk (by decide) e) (fun g hg => by simp [Value.ownBlock] at hg)) (M9.out.kept K10.out (fun e => n9 M9.out.blk (by decide) e) (fun g hg => by simp [Value.ownBlock] at hg)) X10.out Z1.out.1 Z1.out.2.1 Z1.out.2.2 (S09.out.kept K10.out (n9 S09.out.here (by decide))) (S19.out.kept K10.out (n9 S19.out.here (by decide))) (R89.out.kept K10.out (by obtain ⟨_, v, h, _⟩ := R89.out; exact n9 h (by decide)) (fun _ _ hg => n9 hg (by decide))) (R9.out.kept K10.out (by obtain ⟨_, v, h, _⟩ := R9.out; exact n9 h (by decide)) (fun _ _ hg => n9 hg (by decide))) (by have := Z2.out; omega) (by have := Z2.out; omega) (by have := Z3.out; omega) (by have := Z3.out; omega) (by have := Z2.out; omega) (by have := Z3.out; omega))
    clear n9 X9 L9 M9 S09 S19 E9 R89 R9 X10 K10 Z1 Z2 Z3
    go_loopw [5] (fun i wr => ∃ (k : Nat) (K : Nat → KD) (pb qb : Nat → Nat) (lv mv : Value) (L : List Rn) (tv wv : Value) (tl : List TE), k ≤ m ∧ i = .int .i64 k ∧ PW w w.heap.size K pb qb lb lv mb mv L xb tv wv tl wr ∧ Mx K (sm a k) ∧ tot L ≤ k * 300 ∧ tl.length ≤ k) (fun i _ => m - (intOf i).toNat)
    case atStart => exact ⟨0, _, _, _, _, _, _, _, _, _, Nat.zero_le _, rfl, P6.out, (fun i hi => by match i, hi with | 0, _ | 1, _ | 2, _ => exact Nat.le_refl _), Int.le_refl _, Nat.le_refl _⟩
    case round =>
      clear P6
      obtain ⟨k, K, pb, qb, lv, mv, L, tv, wv, tl, hk, rfl, hP, hX, hM, htl⟩ := hrel
      have P := hid hP
      have HX := hid hX
      have HM := hid hM
      have HT := hid htl
      clear hP hX hM htl
      have HBig : Hid (tot L ≤ 100000) := by have := HM.out; show tot L ≤ 100000; omega
      by_cases hlt : k < m
      · obtain rfl := HAA.out (by omega)
        obtain ⟨d0, d1, d2, d3, d4⟩ := HS.out wr P.out.gw.bel k hlt
        have hpk := hid (HP.out k hlt)
        have hpb : sm a k + (a k).pn ≤ 16384 := Nat.le_trans (sm_mono a (k + 1) m hlt) HP6.out
        have hsx : Hid (sm a (k + 1) = sm a k + (a k).pn) := rfl
        obtain ⟨q, hq⟩ : ∃ q, a k = q := ⟨_, rfl⟩
        rw [hq] at d0 d1 d2 d3 d4 hpk hpb hsx
        clear hq
        go_wp2_with fail
        refine (P.out.act q.on q.cc q.to _ q.sil q.pn (sm a k) q.g (hpk.out _ (Below.refl _ _)).1 hpk.out (by omega) HX.out (by omega) (by have := HT.out; omega) HBig.out).mono ?_
        rintro e w7 ⟨rfl, K', pb', qb', lv', mv', L', tv', wv', tl', hP', hX', hM', ht'⟩
        have P' := hid hP'
        have M' : Hid (tot L' ≤ ((k + 1 : Nat) : Int) * 300) := by have := HM.out; show tot L' ≤ _; omega
        have X' : Hid (Mx K' (sm a (k + 1))) := by show Mx K' _; rw [hsx.out]; exact hX'
        have T' : Hid (tl'.length ≤ k + 1) := by have := HT.out; exact Nat.le_trans ht' (by omega)
        have c6 := hP'.gw.x.cell 6 _ rfl
        have c7 := hP'.gw.x.cell 7 _ rfl
        have LL := hid hP'.gw.l
        have MM := hid hP'.gw.m
        have HLn : Hid (L'.length < 1000000000000000000) := by have := M'.out; have := (rlen_tot hP'.gw.m).1; show L'.length < _; omega
        clear hP' hX' hM' ht' P HX HM HT d0 d1 d2 d3 d4 HBig hsx hpb
        go_wp2_with fail
        go_region_held3 (fun W' => W'.cell? ⟨xb, 6, none⟩ = some (.pointer (some ⟨lb, 0, none⟩)) ∧ W'.cell? ⟨xb, 7, none⟩ = some (.pointer (some ⟨mb, 0, none⟩))) (go_keep) (first
          | (go_at_call 11; go_must (refine (len20 lb lv' L' _ (LL.out.below (below_drewN _ 1))).mono ?_; rintro e wz ⟨rfl, rfl⟩))
          | (go_at_call 12; go_must (refine (refLen mb mv' L' _ (MM.out.below (below_drewN _ 1)) HLn.out).mono ?_; rintro e wz ⟨rfl, rfl⟩)))
        go_wp2_with fail
        exact ⟨⟨k + 1, K', pb', qb', lv', mv', L', tv', wv', tl', by omega, by go_num, P'.out.below (below_drewN _ 1), X'.out, by have := M'.out; omega, T'.out⟩, by simp [intOf]; omega⟩
      · have ek : k = m := by omega
        subst ek
        obtain ⟨tn, htn⟩ : ∃ x, tl.length = x := ⟨_, rfl⟩
        have R3 : Hid (wr.ownsRow w.heap.size 40 1 tv tn (tl.map (·.a))) := by have := P.out.rw.r3; rw [List.length_map, htn] at this; exact this
        have R4 : Hid (wr.ownsRow w.heap.size 40 1 wv tn (tl.map (·.b))) := by have := P.out.rw.r4; rw [List.length_map, htn] at this; exact this
        obtain ⟨ta, tc, rfl⟩ := rowG_slice R3.out
        obtain ⟨wa, wc, rfl⟩ := rowG_slice R4.out
        have HTN := hid htn
        have htk : tn ≤ 60 := by rw [← htn]; exact Nat.le_trans HT.out hm60
        clear R3 R4 htn
        go_wp2_with fail
        go_loopw [7] (fun i wq => ∃ j : Nat, j ≤ tn ∧ i = .int .i64 j ∧ PW w w.heap.size K pb qb lb lv mb mv L xb (.slice ta tn tc) (.slice wa tn wc) tl wq) (fun i _ => tn - (intOf i).toNat)
        case atStart => exact ⟨0, Nat.zero_le _, rfl, P.out⟩
        case round =>
          clear P
          obtain ⟨j, hj, rfl, hP⟩ := hrel
          have P := hid hP
          have c8 := hP.gw.x.cell 8 _ rfl
          have c9 := hP.gw.x.cell 9 _ rfl
          clear hP
          by_cases hjt : j < tn
          · obtain ⟨q, hq⟩ : ∃ q, tl[j]? = some q := ⟨_, List.getElem?_eq_getElem (by have := HTN.out; omega)⟩
            have hqm := P.out.rw.tl.own q (List.mem_of_getElem? hq)
            obtain ⟨ga, gc, e1, hc1⟩ := rowL_cell P.out.rw.r3 (show (tl.map (·.a))[j]? = some q.a from by rw [List.getElem?_map, hq]; rfl)
            obtain ⟨gb, gd, e2, hc2⟩ := rowL_cell P.out.rw.r4 (show (tl.map (·.b))[j]? = some q.b from by rw [List.getElem?_map, hq]; rfl)
            simp only [Value.slice.injEq] at e1 e2
            obtain ⟨rfl, -, rfl⟩ := e1
            obtain ⟨rfl, -, rfl⟩ := e2
            rw [Nat.zero_add] at hc1 hc2
            have OA := hid hqm.1
            have OB := hid hqm.2
            have HN : Hid (q.n ≤ 140737488355999) := Nat.le_trans (P.out.rw.tl.sz q (List.mem_of_getElem? hq)) (by omega)
            clear hqm hq
            go_wp2_with fail
            go_region_held3 (fun W' => W'.cell? ⟨xb, 8, none⟩ = some (.slice (some ⟨ga, 0, none⟩) tn tc) ∧ W'.cell? ⟨xb, 9, none⟩ = some (.slice (some ⟨gb, 0, none⟩) tn wc) ∧ W'.cell? ⟨ga, j, none⟩ = some q.a ∧ W'.cell? ⟨gb, j, none⟩ = some q.b) (go_keep) (first | (go_at_call 13; go_must (refine (same_true _ _ q.n q.f q.f _ (OA.out.reads.drewN 1) (OB.out.reads.drewN 1) HN.out (fun _ _ => rfl)).mono ?_; rintro e wz ⟨rfl, dz, rfl⟩)))
            go_wp2_with fail
            exact ⟨⟨j + 1, by omega, by go_num, P.out.below (below_drewN _ _)⟩, by simp [intOf]; omega⟩
          · have ej : j = tn := by omega
            subst ej
            clear hjt
            go_wp2_with fail
            go_loopw [9] (fun i wq => ∃ (u : Nat) (tv wv : Value) (tl' : List TE) (K' : Nat → KD) (pb' qb' : Nat → Nat) (lv' mv' : Value) (L' : List Rn), u ≤ 3 ∧ i = .int .i64 u ∧ PW w w.heap.size K' pb' qb' lb lv' mb mv' L' xb tv wv tl' wq ∧ tot L' ≤ 100000 ∧ tl'.length ≤ 60 + u ∧ u ≤ tl'.length) (fun i _ => 3 - (intOf i).toNat)
            case atStart => exact ⟨0, _, _, _, _, _, _, _, _, _, by omega, rfl, P.out, HBig.out, by have := HT.out; omega, Nat.zero_le _⟩
            case round =>
              clear P HX HM HT HBig HTN c8 c9
              obtain ⟨u, tv, wv, tl', K', pb', qb', lv', mv', L', hu, rfl, hP, hM, hT, hU⟩ := hrel
              have P := hid hP
              have HM := hid hM
              have HT := hid hT
              have HU := hid hU
              clear hP hM hT hU
              by_cases hu3 : u < 3
              · have hu4 : (u : Int) < 3 := by omega
                go_wp2_with fail
                refine (P.out.form u 0 (.slice none 0 0) false (by have := HT.out; omega) HM.out).mono ?_
                rintro e w8 ⟨rfl, k2, tv2, wv2, va, vb, hk2, hP2⟩
                have P2 := hid hP2
                clear hP2
                go_wp2_with fail
                exact ⟨⟨u + 1, tv2, wv2, _, K', pb', qb', lv', mv', L', by omega, by go_num, P2.out, HM.out, by have := HT.out; simp; omega, by have := HU.out; simp; omega⟩, by simp [intOf]; omega⟩
              · have hu4 : ¬ (u : Int) < 3 := by omega
                have c6 := P.out.gw.x.cell 6 _ rfl
                have c7 := P.out.gw.x.cell 7 _ rfl
                have c8 := P.out.gw.x.cell 8 _ rfl
                have hl3 : 3 ≤ tl'.length := by have := HU.out; omega
                obtain ⟨q0, hq0⟩ : ∃ q, tl'[0]? = some q := ⟨_, List.getElem?_eq_getElem (by omega)⟩
                obtain ⟨gt, gtc, et, _⟩ := rowL_cell P.out.rw.r3 (show (tl'.map (·.a))[0]? = some q0.a from by rw [List.getElem?_map, hq0]; rfl)
                subst et
                rw [List.length_map] at c8
                obtain ⟨mm, hmm⟩ : ∃ x, tl'.length = x := ⟨_, rfl⟩
                have HMM := hid hmm
                rw [hmm] at c8
                have HLn : Hid (L'.length * 24 ≤ 140737488355328) := by have := HM.out; have := (rlen_tot P.out.gw.m).1; show L'.length * 24 ≤ _; omega
                have HM0 : Hid (0 < mm) := by show 0 < mm; omega
                have HM8 : Hid (mm ≤ 80) := by have := HT.out; show mm ≤ 80; omega
                clear hq0 hl3 hmm
                go_wp2_with fail
                go_region_held3 (fun W' => W'.cell? ⟨xb, 6, none⟩ = some (.pointer (some ⟨lb, 0, none⟩)) ∧ W'.cell? ⟨xb, 7, none⟩ = some (.pointer (some ⟨mb, 0, none⟩)) ∧ W'.cell? ⟨xb, 8, none⟩ = some (.slice (some ⟨gt, 0, none⟩) mm gtc)) (go_keep) (first
                  | (go_at_call 15; go_must (refine (runs22 lb lv' L' _ (P.out.gw.l.below (below_drewN _ 1)) HLn.out).mono ?_; rintro e wa ⟨ua, rfl, hua, hba⟩; have PA := hid ((P.out.below (below_drewN _ 1)).below hba); have UA := hid hua; have a6 := PA.out.gw.x.cell 6 _ rfl; have a7 := PA.out.gw.x.cell 7 _ rfl; have a8 := PA.out.gw.x.cell 8 _ rfl; rw [List.length_map, HMM.out] at a8; clear hua hba))
                  | (go_at_call 16; go_must (refine (refRuns20 mb mv' L' _ PA.out.gw.m HLn.out).mono ?_; rintro e wb ⟨ub, rfl, hub, hbb⟩; have PB := hid (PA.out.below hbb); have UB := hid hub; have UA2 := hid (UA.out.below hbb); have b6 := PB.out.gw.x.cell 6 _ rfl; have b7 := PB.out.gw.x.cell 7 _ rfl; have b8 := PB.out.gw.x.cell 8 _ rfl; rw [List.length_map, HMM.out] at b8; clear hub hbb))
                  | (go_at_call 14; go_must (refine (same14 _ _ L' L' _ UA2.out.reads UB.out.reads (by have := HLn.out; omega) (by have := HLn.out; omega)).mono ?_; rw [decide_eq_true rfl]; rintro e wc ⟨rfl, dc, rfl⟩; have PC := hid (PB.out.below (below_drewN wb dc))))
                  | (go_at_call 17; go_must (refine (RW.apart (wv := wv) (tl := tl') PC.out.gw.x (by decide) (by have h := PC.out.rw; rw [List.length_map, HMM.out] at h; exact h) PC.out.gw.hB HMM.out.symm HM0.out HM8.out).mono ?_; rintro e wd ⟨rfl, hbd⟩; have BD := hid (PC.out.gw.bel.trans hbd.bel); have XD := hid (show Blk wd xb _ 36 from hbd.same.trans PC.out.gw.x); have d6 := XD.out.cell 6 _ rfl; have d7 := XD.out.cell 7 _ rfl; have d8 := XD.out.cell 8 _ rfl; rw [List.length_map, HMM.out] at d8; clear hbd)))
                go_wp2_with fail
                go_ret
                exact ⟨rfl, BD.out⟩
end Go.Proofs.YtbjccfnaadmofaaDoor.Sh
