/- LedgerCalls' walk: whatever two ledgers are told and asked in turns, call by call. -/
import Derived.Test.YtadcindaafjckaaLboth
import Derived.Test.YtadcindaafjckaaRapart
namespace Go.Proofs.Ytadcindaafjckaa
open Go.ChangeShapes Go.WideShapes Go.ChangeAt Go.RowKit
/-- An act's numbers. -/
structure Ac where
  on : Int
  c : Int
  k : Int
  s : Int
  n : Int
def Ac.Ok (r : Ac) : Prop := (0 ≤ r.k ∧ r.k < 256) ∧ (-9223372036854775808 ≤ r.s ∧ r.s ≤ 9223372036854775807) ∧ (-9223372036854775808 ≤ r.n ∧ r.n ≤ 9223372036854775807)
/-- The slice v reads as the acts X. -/
def AB (w : World) (v : Value) (X : List Ac) : Prop := (∀ r ∈ X, r.Ok) ∧ ∃ a cap, v = .slice a X.length cap ∧ (a = none → X = []) ∧
  ∀ (i : Nat) (r : Ac), X[i]? = some r → ∃ b off, a = some ⟨b, off, none⟩ ∧ w.cell? ⟨b, off + i * 5, none⟩ = some (.int .i64 r.on) ∧ w.cell? ⟨b, off + i * 5 + 1, none⟩ = some (.int .i64 r.c) ∧ w.cell? ⟨b, off + i * 5 + 2, none⟩ = some (.int .u8 r.k) ∧ w.cell? ⟨b, off + i * 5 + 3, none⟩ = some (.int .i64 r.s) ∧ w.cell? ⟨b, off + i * 5 + 4, none⟩ = some (.int .i64 r.n)
theorem AB.below {w w' : World} {v : Value} {X : List Ac} (h : AB w v X) (hb : Below w.heap.size w w') : AB w' v X := by
  obtain ⟨h1, a, cap, rfl, h3, h4⟩ := h
  refine ⟨h1, a, cap, rfl, h3, fun i r hi => ?_⟩
  obtain ⟨b, off, e, c1, c2, c3, c4, c5⟩ := h4 i r hi
  exact ⟨b, off, e, (hb.cell (p := ⟨b, off + i * 5, none⟩) (block_lt_of_cell c1)).trans c1, (hb.cell (p := ⟨b, off + i * 5 + 1, none⟩) (block_lt_of_cell c2)).trans c2, (hb.cell (p := ⟨b, off + i * 5 + 2, none⟩) (block_lt_of_cell c3)).trans c3, (hb.cell (p := ⟨b, off + i * 5 + 3, none⟩) (block_lt_of_cell c4)).trans c4, (hb.cell (p := ⟨b, off + i * 5 + 4, none⟩) (block_lt_of_cell c5)).trans c5⟩
/-- The two pairs' places. -/
def Arr (W : World) (PA p0 p1 : Nat) : Prop := W.heap[PA]? = some (.cells #[.pointer (some ⟨p0, 0, none⟩), .pointer (some ⟨p1, 0, none⟩)] 35 (0, 0))
theorem Arr.lt {W : World} {PA p0 p1 : Nat} (h : Arr W PA p0 p1) : PA < W.heap.size := (Array.getElem?_eq_some_iff.1 h).1
theorem Arr.cells {W : World} {PA p0 p1 : Nat} (h : Arr W PA p0 p1) : W.cell? ⟨PA, 0, none⟩ = some (.pointer (some ⟨p0, 0, none⟩)) ∧ W.cell? ⟨PA, 1, none⟩ = some (.pointer (some ⟨p1, 0, none⟩)) := by
  refine ⟨?_, ?_⟩
  · rw [cell_of_row W PA 0 _ 35 (0, 0) h]; rfl
  · rw [cell_of_row W PA 1 _ 35 (0, 0) h]; rfl
theorem Arr.kept {W W' : World} {PA p0 p1 : Nat} {S : Nat → Prop} (h : Arr W PA p0 p1) (hk : Kp S W W') (hn : ¬ S PA) : Arr W' PA p0 p1 := (hk.block PA h.lt hn).trans h
theorem Arr.below {W W' : World} {PA p0 p1 : Nat} (h : Arr W PA p0 p1) (hb : Below W.heap.size W W') : Arr W' PA p0 p1 := h.kept (Kp.of_below (fun _ => False) hb) id
theorem Arr.free {W : World} {PA p0 p1 base pb b rb n m : Nat} {rv rrv tv wv : Value} {L : List Rn} {T V : List Value} (h : Arr W PA p0 p1) (hd : Duo W b rb rv rrv L) (ht : Tw W base pb b rb tv wv n m T V) : ¬ PS pb b rb rv rrv tv wv PA := by
  have h' : W.heap[PA]? = _ := h
  rintro ((e | e | e | e) | (e | e | e))
  · rw [e, hd.led.here] at h'; simp at h'
  · obtain ⟨cs, fr, k⟩ := own_here hd.led.own e
    rw [h'] at k; simp at k
  · rw [e, hd.ref.here] at h'; simp at h'
  · obtain ⟨cs, fr, k⟩ := own_here hd.ref.own e
    rw [h'] at k; simp at k
  · have k : W.heap[pb]? = _ := ht.pr
    rw [e, k] at h'; simp at h'
  · obtain ⟨cs, fr, k⟩ := row_here ht.rt e
    rw [h'] at k; simp at k
  · obtain ⟨cs, fr, k⟩ := row_here ht.rw_ e
    rw [h'] at k; simp at k
/-- A pair that nothing was told to yet. -/
def p00 (pb b rb : Nat) : PD := ⟨pb, b, rb, .slice none 0 0, .slice none 0 0, .slice none 0 0, .slice none 0 0, [], 0, [], [], []⟩
theorem p00_S {pb b rb g : Nat} (h : (p00 pb b rb).S g) : g = b ∨ g = rb ∨ g = pb := by
  rcases h with (e | e | e | e) | (e | e | e)
  · exact .inl e
  · simp [p00, Value.ownBlock] at e
  · exact .inr (.inl e)
  · simp [p00, Value.ownBlock] at e
  · exact .inr (.inr e)
  · simp [p00, Value.ownBlock] at e
  · simp [p00, Value.ownBlock] at e
theorem ons00 {w W : World} {pb b rb : Nat} (hd : Duo W b rb (.slice none 0 0) (.slice none 0 0) []) (hp : Pr W pb b rb (.slice none 0 0) (.slice none 0 0)) (h1 : w.heap.size ≤ b) (h2 : w.heap.size ≤ rb) (h3 : w.heap.size ≤ pb) : Ons w W 0 (p00 pb b rb) :=
  ⟨hd, ⟨hp, World.ownsRow_nil _ _ _ _, World.ownsRow_nil _ _ _ _, fun g hg => by simp [p00, Value.ownBlock] at hg⟩, fun q hq => by rcases p00_S hq with rfl | rfl | rfl <;> assumption, Nat.le_refl _, by show (0 : Int) ≤ _; decide, Nat.le_refl _, rfl, fun j F hF => by simp [p00] at hF⟩
theorem both00 {w w2 w5 : World} {s0 s1 b1 r1 q1 : Nat} (hB : Below w.heap.size w w2) (hD : Duo w2 s0 s1 (.slice none 0 0) (.slice none 0 0) []) (h0 : w.heap.size ≤ s0) (h1 : w.heap.size ≤ s1)
    (hb1 : b1 = w2.heap.size + 1) (hr1 : r1 = w2.heap.size + 1 + 1) (hq1 : q1 = w5.heap.size)
    (hr : RLed w5 r1 (.slice none 0 0) []) (hb : Below (w2.heap.size + 1 + 1) ((w2.alloc (.cells #[.pointer (some ⟨s0, 0, none⟩), .pointer (some ⟨s1, 0, none⟩), .slice none 0 0, .slice none 0 0] 31)).alloc (.cells #[.slice none 0 0, .int .i64 0] 34)) w5) :
    Both w ((w5.alloc (.cells #[.pointer (some ⟨b1, 0, none⟩), .pointer (some ⟨r1, 0, none⟩), .slice none 0 0, .slice none 0 0] 31)).alloc (.cells #[.pointer (some ⟨w2.heap.size, 0, none⟩), .pointer (some ⟨q1, 0, none⟩)] 35)) 0 (p00 w2.heap.size s0 s1) (p00 q1 b1 r1) ∧
      Arr ((w5.alloc (.cells #[.pointer (some ⟨b1, 0, none⟩), .pointer (some ⟨r1, 0, none⟩), .slice none 0 0, .slice none 0 0] 31)).alloc (.cells #[.pointer (some ⟨w2.heap.size, 0, none⟩), .pointer (some ⟨q1, 0, none⟩)] 35)) (w5.heap.size + 1) w2.heap.size q1 := by
  subst hb1 hr1 hq1
  have hz := hB.size
  have hz5 : w2.heap.size + 1 + 1 ≤ w5.heap.size := by have := hb.size; simp at this; omega
  have a0 := below_alloc w2 (.cells #[.pointer (some ⟨s0, 0, none⟩), .pointer (some ⟨s1, 0, none⟩), .slice none 0 0, .slice none 0 0] 31)
  have a1 := below_alloc (w2.alloc (.cells #[.pointer (some ⟨s0, 0, none⟩), .pointer (some ⟨s1, 0, none⟩), .slice none 0 0, .slice none 0 0] 31)) (.cells #[.slice none 0 0, .int .i64 0] 34)
  have hb' : Below ((w2.alloc (.cells #[.pointer (some ⟨s0, 0, none⟩), .pointer (some ⟨s1, 0, none⟩), .slice none 0 0, .slice none 0 0] 31)).alloc (.cells #[.slice none 0 0, .int .i64 0] 34)).heap.size ((w2.alloc (.cells #[.pointer (some ⟨s0, 0, none⟩), .pointer (some ⟨s1, 0, none⟩), .slice none 0 0, .slice none 0 0] 31)).alloc (.cells #[.slice none 0 0, .int .i64 0] 34)) w5 := by simpa using hb
  have p0 : Pr w5 w2.heap.size s0 s1 (.slice none 0 0) (.slice none 0 0) := Pr.below (Pr.below (W := w2.alloc (.cells #[.pointer (some ⟨s0, 0, none⟩), .pointer (some ⟨s1, 0, none⟩), .slice none 0 0, .slice none 0 0] 31)) (heap_alloc_new w2 _) a1) hb'
  have d0 := ((hD.below a0).below a1).below hb'
  have l1 : Led ((w2.alloc (.cells #[.pointer (some ⟨s0, 0, none⟩), .pointer (some ⟨s1, 0, none⟩), .slice none 0 0, .slice none 0 0] 31)).alloc (.cells #[.slice none 0 0, .int .i64 0] 34)) (w2.heap.size + 1) (.slice none 0 0) [] := by
    refine ⟨?_, Own.nil _ _, fun q hq => by simp at hq, by simp [tot]⟩
    have := heap_alloc_new (w2.alloc (.cells #[.pointer (some ⟨s0, 0, none⟩), .pointer (some ⟨s1, 0, none⟩), .slice none 0 0, .slice none 0 0] 31)) (.cells #[.slice none 0 0, .int .i64 0] 34)
    simpa [tot] using this
  have d1 : Duo w5 (w2.heap.size + 1) (w2.heap.size + 1 + 1) (.slice none 0 0) (.slice none 0 0) [] := ⟨l1.below hb', hr, fun g hg => by simp [Value.ownBlock] at hg⟩
  have a2 := below_alloc w5 (.cells #[.pointer (some ⟨w2.heap.size + 1, 0, none⟩), .pointer (some ⟨w2.heap.size + 1 + 1, 0, none⟩), .slice none 0 0, .slice none 0 0] 31)
  have a3 := below_alloc (w5.alloc (.cells #[.pointer (some ⟨w2.heap.size + 1, 0, none⟩), .pointer (some ⟨w2.heap.size + 1 + 1, 0, none⟩), .slice none 0 0, .slice none 0 0] 31)) (.cells #[.pointer (some ⟨w2.heap.size, 0, none⟩), .pointer (some ⟨w5.heap.size, 0, none⟩)] 35)
  have a23 := below_next a2 a3
  have p1 : Pr (w5.alloc (.cells #[.pointer (some ⟨w2.heap.size + 1, 0, none⟩), .pointer (some ⟨w2.heap.size + 1 + 1, 0, none⟩), .slice none 0 0, .slice none 0 0] 31)) w5.heap.size (w2.heap.size + 1) (w2.heap.size + 1 + 1) (.slice none 0 0) (.slice none 0 0) := heap_alloc_new w5 _
  have hls := hD.led.lt
  have hlr := hD.ref.lt
  refine ⟨⟨ons00 (d0.below a23) (p0.below a23) h0 h1 hz, ons00 (d1.below a23) (p1.below a3) (by omega) (by omega) (by omega), ?_, ?_, List.Pairwise.nil, ?_⟩, ?_⟩
  · intro g hg hq
    have e1 := p00_S hg
    have e2 := p00_S hq
    omega
  · rintro x ((hx | hx) | (hx | hx)) <;> simp [p00] at hx
  · exact below_next (below_next (below_next (below_next hB a0) a1) hb') a23
  · have := heap_alloc_new (w5.alloc (.cells #[.pointer (some ⟨w2.heap.size + 1, 0, none⟩), .pointer (some ⟨w2.heap.size + 1 + 1, 0, none⟩), .slice none 0 0, .slice none 0 0] 31)) (.cells #[.pointer (some ⟨w2.heap.size, 0, none⟩), .pointer (some ⟨w5.heap.size, 0, none⟩)] 35)
    simpa [Arr] using this
theorem sameT (v v' : Value) (L : List Rn) (w : World) (hv : RB w v L) (hv' : RB w v' L) (hL : L.length < 1000000000000000000) :
    Calls Try.prog 10 #[v, v'] w fun e w' => e = .returned (.bool true) ∧ ∃ d, w' = w.drewN d := by
  refine (same14 v v' L L w hv hv' hL hL).mono ?_
  rintro e w' ⟨rfl, h⟩
  exact ⟨by simp, h⟩
theorem Both.all {w W : World} {i : Nat} {p q : PD} (h : Both w W i p q) {j : Nat} {x : Value} (hx : (p.T ++ q.T)[j]? = some x) : ∃ F, (p.Fs ++ q.Fs)[j]? = some F ∧ Own W w.heap.size x F ∧ F.length ≤ 1000 := by
  have a1 := h.one.lens.1
  have a2 := h.two.lens.1
  have a3 := h.one.lf
  have a4 := h.two.lf
  have hj := (List.getElem?_eq_some_iff.1 hx).1
  rw [List.length_append] at hj
  by_cases hlt : j < p.T.length
  · rw [List.getElem?_append_left hlt] at hx
    obtain ⟨F, hF⟩ : ∃ F, p.Fs[j]? = some F := ⟨_, List.getElem?_eq_getElem (by omega)⟩
    obtain ⟨x', y', h1, _, h3, _, h5⟩ := h.one.told j F hF
    rw [hx] at h1; cases h1
    exact ⟨F, (List.getElem?_append_left (by omega)).trans hF, h3, h5⟩
  · rw [List.getElem?_append_right (by omega)] at hx
    obtain ⟨F, hF⟩ : ∃ F, q.Fs[j - p.T.length]? = some F := ⟨_, List.getElem?_eq_getElem (by omega)⟩
    obtain ⟨x', y', h1, _, h3, _, h5⟩ := h.two.told _ F hF
    rw [hx] at h1; cases h1
    refine ⟨F, ?_, h3, h5⟩
    rw [List.getElem?_append_right (by omega), show j - p.Fs.length = j - p.T.length by omega]
    exact hF
theorem aps_at {l : List Value} (h : Aps l) {i j : Nat} {x y : Value} (hx : l[i]? = some x) (hy : l[j]? = some y) (hne : i ≠ j) : ∀ g, x.ownBlock = some g → y.ownBlock ≠ some g := by
  obtain ⟨hi, rfl⟩ := List.getElem?_eq_some_iff.1 hx
  obtain ⟨hj, rfl⟩ := List.getElem?_eq_some_iff.1 hy
  have hp := List.pairwise_iff_getElem.1 h
  rcases Nat.lt_or_gt_of_ne hne with hlt | hlt
  · exact hp i j hi hj hlt
  · exact fun g hg e => hp j i hj hi hlt g e hg
set_option maxHeartbeats 1200000 in
theorem apart0 (w : World) : Calls Try.prog 11 #[.slice none 0 0] w fun e w' => e = .returned (.bool true) ∧ w' = w := by
  go_enter Try.func11, Try.ntmps11
  go_wp2
  go_loopw [3] (fun x wr => x = .int .i64 0 ∧ wr = w) (fun _ _ => 0)
  case atStart => exact ⟨rfl, rfl⟩
  case round =>
    obtain ⟨rfl, rfl⟩ := hrel
    go_wp2
    go_loopw [5, 6] (fun y x wq => y = .slice none 0 0 ∧ x = .int .i64 0 ∧ wq = wr) (fun _ _ _ => 0)
    case atStart => exact ⟨rfl, rfl, rfl⟩
    case round =>
      obtain ⟨rfl, rfl, rfl⟩ := hrel
      go_wp2
      go_loopw [9] (fun x wq => x = .int .i64 0 ∧ wq = wr) (fun _ _ => 0)
      case atStart => exact ⟨rfl, rfl⟩
      case round =>
        obtain ⟨rfl, rfl⟩ := hrel
        go_wp2
        go_ret
        exact ⟨rfl, rfl⟩
theorem apartAll {w W : World} {i : Nat} {p q : PD} (h : Both w W i p q) (hi : i ≤ 300) (base2 : Nat) (u : Value) (hu : W.ownsRow base2 32 1 u (p.T ++ q.T).length (p.T ++ q.T)) :
    Calls Try.prog 11 #[u] W fun e W' => e = .returned (.bool true) ∧ Kp (fun g => ∃ x, x ∈ p.T ++ q.T ∧ x.ownBlock = some g) W W' := by
  have a1 := h.one.lens.1
  have a2 := h.two.lens.1
  have a3 := h.one.nn
  have a4 := h.two.nn
  have hgd : ∀ j, j < (p.T ++ q.T).length → ∃ x, (p.T ++ q.T)[j]? = some x := fun j hj => ⟨_, List.getElem?_eq_getElem hj⟩
  rcases hu.2 with ⟨rfl, _⟩ | ⟨g, cap, cur, rfl, _, hg, _⟩
  · refine (apart0 W).mono ?_
    rintro e W' ⟨rfl, rfl⟩
    exact ⟨rfl, Kp.refl _ _⟩
  · refine apart15 _ w.heap.size (p.T ++ q.T).length g cap (fun j => ((p.T ++ q.T)[j]?).getD (.slice none 0 0)) (fun j => (((p.Fs ++ q.Fs)[j]?).getD []).length) (fun j => ((p.Fs ++ q.Fs)[j]?).getD []) W ⟨?_, ?_⟩ ⟨?_, ?_⟩ (fun j _ => rfl) ?_ ?_ h.bel.size ?_ ?_
    · intro i' j' hi' hj' hne g' hg' e
      obtain ⟨x, hx⟩ := hgd i' hi'
      obtain ⟨y, hy⟩ := hgd j' hj'
      try dsimp only at hg' e
      rw [hx] at hg'
      rw [hy] at e
      exact aps_at h.aps hx hy hne g' hg' e
    · intro j hj e
      obtain ⟨x, hx⟩ := hgd j hj
      try dsimp only at e
      rw [hx] at e
      obtain ⟨F, _, hF, _⟩ := h.all hx
      exact types_ne hu hF g e rfl
    · intro j hj
      obtain ⟨x, hx⟩ := hgd j hj
      obtain ⟨F, hf, hF, _⟩ := h.all hx
      try dsimp only
      rw [hx, hf]
      exact hF
    · intro j hj
      obtain ⟨x, hx⟩ := hgd j hj
      try dsimp only
      rw [hx]
      exact (hu.cellAt j (by omega)).trans hx
    · rw [List.length_append]; omega
    · intro j hj
      obtain ⟨x, hx⟩ := hgd j hj
      obtain ⟨F, hf, _, hl⟩ := h.all hx
      try dsimp only
      rw [hf]
      show (F.length + 7) * 24 ≤ _
      omega
    · exact (Array.getElem?_eq_some_iff.1 hg).1
    · intro j hj g' hg'
      obtain ⟨x, hx⟩ := hgd j hj
      try dsimp only at hg'
      rw [hx] at hg'
      exact ⟨x, List.mem_of_getElem? hx, hg'⟩
/-- What was told by the pairs ahead of pair k. -/
def preL (p q : PD) (k : Nat) : List Value := if k = 0 then [] else if k = 1 then p.T else p.T ++ q.T
theorem sel_pair {w W : World} {i PA k : Nat} {p q : PD} (h : Both w W i p q) (ha : Arr W PA p.pb q.pb) (hk : k < 2) : ∃ r : PD, Ons w W i r ∧ W.cell? ⟨PA, k, none⟩ = some (.pointer (some ⟨r.pb, 0, none⟩)) ∧ preL p q (k + 1) = preL p q k ++ r.T := by
  obtain ⟨e0, e1⟩ := ha.cells
  have hz : k = 0 ∨ k = 1 := by omega
  rcases hz with rfl | rfl
  · exact ⟨p, h.one, e0, rfl⟩
  · exact ⟨q, h.two, e1, rfl⟩
theorem Ons.below {w W W' : World} {i : Nat} {p : PD} (h : Ons w W i p) (hb : Below W.heap.size W W') : Ons w W' i p := h.kept (Kp.of_below (fun _ => False) hb) (fun _ _ e => e) (fun _ _ _ _ e => e) (Nat.le_refl _)
/-- Element j of a list of lists. -/
theorem row_at {W : World} {base n j : Nat} {v x : Value} {T : List Value} (h : W.ownsRow base 32 1 v n T) (hx : T[j]? = some x) : ∃ g cap, v = .slice (some ⟨g, 0, none⟩) n cap ∧ W.cell? ⟨g, j, none⟩ = some x := by
  have hl := h.1
  have hj := (List.getElem?_eq_some_iff.1 hx).1
  rcases h.2 with ⟨_, h0⟩ | ⟨g, cap, cur, rfl, _⟩
  · omega
  · exact ⟨g, cap, rfl, (h.cellAt j (by omega)).trans hx⟩
set_option maxRecDepth 100000 in
set_option maxHeartbeats 4000000 in
theorem callsWalk (v : Value) (X : List Ac) (w : World) (hX : AB w v X) (hN : X.length < 1000000000000000000) :
    Calls Try.prog 3 #[v] w fun e w' => e = .returned (.bool true) ∧ Below w.heap.size w w' := by
  obtain ⟨m, hm⟩ : ∃ m, X.length = m := ⟨_, rfl⟩
  obtain ⟨a, cap, rfl⟩ : ∃ a cap, v = .slice a m cap := by
    obtain ⟨_, a, cap, e, _⟩ := hX
    exact ⟨a, cap, by rw [← hm]; exact e⟩
  rw [hm] at hN
  have HL := hid hm
  have HX := hid hX
  clear hX hm
  go_enter Try.func3, Try.ntmps3
  go_wp2_with fail
  refine (lives8 _).mono ?_
  rintro e w0 ⟨rfl, hb0⟩
  have B0 := hid hb0
  clear hb0
  by_cases h300 : 300 < (m : Int)
  · go_wp2
    go_ret
    exact ⟨rfl, B0.out⟩
  · go_wp2_with fail
    refine (new9 _).mono ?_
    rintro e w1 ⟨rfl, hl1, hb1⟩
    have L1 := hid hl1
    have hn1 := hid hb1
    have B1 := hid (below_next B0.out hb1)
    clear hl1 hb1
    go_wp2_with fail
    refine (refNew10 _).mono ?_
    rintro e w2 ⟨rfl, hr2, hb2⟩
    have D2 := hid (show Duo w2 w0.heap.size w1.heap.size (.slice none 0 0) (.slice none 0 0) [] from ⟨L1.out.below hb2, hr2, fun g hg => by simp [Value.ownBlock] at hg⟩)
    have B2 := hid (below_next B1.out hb2)
    clear hr2 hb2
    have hs0 : w.heap.size ≤ w0.heap.size := B0.out.size
    have hs1 : w.heap.size ≤ w1.heap.size := B1.out.size
    go_wp2_with fail
    refine (refNew10 _).mono ?_
    rintro e w5 ⟨rfl, hr5, hb5⟩
    have R5 := hid (both00 (b1 := w2.heap.size + 1) (r1 := w2.heap.size + 1 + 1) (q1 := w5.heap.size) B2.out D2.out hs0 hs1 rfl rfl rfl (by simpa using hr5) (by simpa using hb5))
    clear hr5 hb5
    have hm3 : m ≤ 300 := by omega
    go_wp2
    go_loopw [4] (fun x wr => ∃ k : Nat, k ≤ m ∧ x = .int .i64 k ∧ ∃ p q : PD, p.pb = w2.heap.size ∧ q.pb = w5.heap.size ∧ Both w wr k p q ∧ Arr wr (w5.heap.size + 1) w2.heap.size w5.heap.size) (fun x _ => m - (intOf x).toNat)
    case atStart => exact ⟨0, Nat.zero_le _, rfl, _, _, rfl, rfl, R5.out.1, R5.out.2⟩
    case round =>
      obtain ⟨k, hk, rfl, p, q, hp, hq, hboth, harr⟩ := hrel
      have HB := hid hboth
      have HA := hid harr
      have hbw := hboth.bel.size
      have hPA := harr.lt
      clear hboth harr
      by_cases hlt : k < m
      · obtain ⟨r, hr⟩ : ∃ r, X[k]? = some r := ⟨_, List.getElem?_eq_getElem (by rw [HL.out]; exact hlt)⟩
        have HOK := hid (HX.out.1 r (List.mem_of_getElem? hr))
        have hAB := HX.out.below HB.out.bel
        obtain ⟨_, a', cap', he, _, hcl⟩ := hAB
        obtain ⟨bb, off, ha, c1, c2, c3, c4, c5⟩ := hcl k r hr
        simp only [Value.slice.injEq] at he
        obtain ⟨rfl, -, -⟩ := he
        subst ha
        have hbl : bb < w.heap.size := by
          obtain ⟨_, a', cap', he, _, hcl⟩ := HX.out
          obtain ⟨bb', off', ha', d1, _⟩ := hcl k r hr
          simp only [Value.slice.injEq] at he
          obtain ⟨h1, -, -⟩ := he
          rw [ha'] at h1
          simp only [Option.some.injEq, Addr.mk.injEq, and_true] at h1
          rw [h1.1]
          exact block_lt_of_cell d1
        have l1 : (k : Int) < m := by omega
        have HAB : Hid (∀ W', Below w.heap.size w W' → W'.cell? ⟨bb, off + k * 5, none⟩ = some (.int .i64 r.on) ∧ W'.cell? ⟨bb, off + k * 5 + 1, none⟩ = some (.int .i64 r.c) ∧ W'.cell? ⟨bb, off + k * 5 + 2, none⟩ = some (.int .u8 r.k) ∧ W'.cell? ⟨bb, off + k * 5 + 3, none⟩ = some (.int .i64 r.s) ∧ W'.cell? ⟨bb, off + k * 5 + 4, none⟩ = some (.int .i64 r.n)) := by
          intro W' hW'
          obtain ⟨_, a', cap', he, _, hcl⟩ := HX.out.below hW'
          obtain ⟨bb', off', ha', d1, d2, d3, d4, d5⟩ := hcl k r hr
          simp only [Value.slice.injEq] at he
          obtain ⟨h1, -, -⟩ := he
          rw [ha'] at h1
          simp only [Option.some.injEq, Addr.mk.injEq, and_true] at h1
          obtain ⟨rfl, rfl⟩ := h1
          exact ⟨d1, d2, d3, d4, d5⟩
        clear hcl hr hbl
        go_wp2_with fail
        refine (pick7 r.on 2 _ (by decide) (by decide)).mono ?_
        rintro e w' ⟨⟨z, rfl, hz0, hz2⟩, rfl⟩
        obtain ⟨zn, rfl⟩ : ∃ zn : Nat, z = zn := ⟨z.toNat, by omega⟩
        have hsel : ∃ x y : PD, Both w w' k x y ∧ w'.cell? ⟨w5.heap.size + 1, zn, none⟩ = some (.pointer (some ⟨x.pb, 0, none⟩)) ∧ ∀ W' x', x'.pb = x.pb → Both w W' (k + 1) x' y → ∃ p q : PD, p.pb = w2.heap.size ∧ q.pb = w5.heap.size ∧ Both w W' (k + 1) p q := by
          obtain ⟨e0, e1⟩ := HA.out.cells
          have hz : zn = 0 ∨ zn = 1 := by omega
          rcases hz with rfl | rfl
          · exact ⟨p, q, HB.out, by rw [hp]; exact e0, fun W' x' hx hB => ⟨x', q, by rw [hx, hp], hq, hB⟩⟩
          · exact ⟨q, p, HB.out.swap, by rw [hq]; exact e1, fun W' x' hx hB => ⟨p, x', hp, by rw [hx, hq], hB.swap⟩⟩
        obtain ⟨x, y, hXY, hce, hback⟩ := hsel
        have HXY := hid hXY
        have HBK := hid hback
        have l2 : (zn : Int) < 2 := by omega
        clear hXY hback hz0 hz2
        go_wp2_with fail
        have hk3 : k ≤ 300 := by omega
        have hlen : Hid (x.L.length ≤ 1000) := by have := HXY.out.one.len; show _ ≤ _; omega
        have hlen2 : Hid (x.L.length < 1000000000000000000) := by have := hlen.out; show _ < _; omega
        have hmost : Hid (tot x.L ≤ 4611686018427388000) := by have := HXY.out.one.most; show _ ≤ _; omega
        have hn9 : Hid (x.n < 1000) := by have := HXY.out.one.nn; show _ < _; omega
        refine (near8 w.heap.size x.pb x.b x.rb x.n x.n x.tv x.wv x.rrv x.T x.V x.L r.on r.c r.k r.s r.n _ HXY.out.one.tw HXY.out.one.duo.ref hlen2.out).mono ?_
        rintro e W1 ⟨rfl, hb1⟩
        have B1 := hid hb1
        have X1 := hid (HXY.out.below hb1)
        have A1 := hid (HA.out.below hb1)
        clear hb1
        by_cases hnb : nearB r.c r.n (tot x.L) = true
        · go_wp2
          go_ret
          exact ⟨rfl, X1.out.bel⟩
        · have hnf : nearB r.c r.n (tot x.L) = false := by simpa using hnb
          have HNF := hid hnf
          obtain ⟨c1, c2, c3, c4, c5⟩ := HAB.out W1 X1.out.bel
          clear hnb
          go_wp2_with fail
          have hbase : Hid (w.heap.size ≤ W1.heap.size) := X1.out.bel.size
          refine (act9 w.heap.size x.pb x.b x.rb x.n x.rv x.rrv x.tv x.wv x.L x.T x.V r.on r.c r.k r.s r.n _ X1.out.one.duo X1.out.one.tw HOK.out.1 HOK.out.2.1 HOK.out.2.2 hlen.out hmost.out hbase.out hn9.out HNF.out).mono ?_
          rintro e W2 ⟨rfl, hact⟩
          have R2 := hid (X1.out.act (by omega) hact)
          have A2 : Hid (Arr W2 (w5.heap.size + 1) w2.heap.size w5.heap.size) := by
            obtain ⟨rv', rrv', tv', wv', L', n', T', V', _, _, hk, _⟩ := hact
            exact A1.out.kept hk (A1.out.free X1.out.one.duo X1.out.one.tw)
          clear hact
          go_wp2
          go_roundw
          case rel =>
            obtain ⟨x', ⟨e1, _, _⟩, hB⟩ := R2.out
            obtain ⟨p', q', h1, h2, h3⟩ := HBK.out W2 x' e1 hB
            exact ⟨k + 1, by omega, by go_num, p', q', h1, h2, h3, A2.out⟩
          case measure => simp [intOf]; omega
      · have e : k = m := by omega
        subst e
        clear hlt hk
        have hk3 : k ≤ 300 := by omega
        obtain ⟨wA, hwA⟩ : ∃ x, x = wr := ⟨_, rfl⟩
        subst hwA
        have HA2 : Hid (Arr wA (w5.heap.size + 1) p.pb q.pb) := by rw [hp, hq]; exact HA.out
        go_wp2
        go_loopw [8, 9] (fun u x wr => ∃ kk : Nat, kk ≤ 2 ∧ x = .int .i64 kk ∧ wr.ownsRow wA.heap.size 32 1 u (preL p q kk).length (preL p q kk) ∧ Below wA.heap.size wA wr) (fun _ x _ => 2 - (intOf x).toNat)
        case atStart => exact ⟨0, by decide, rfl, World.ownsRow_nil _ _ _ _, Below.refl _ _⟩
        case round =>
          obtain ⟨kk, hkk, rfl, hrow, hbel⟩ := hrel
          have HROW := hid hrow
          have HBEL := hid hbel
          clear hrow hbel
          by_cases hlt : kk < 2
          · obtain ⟨pp, hone, hcell, hpre⟩ := sel_pair HB.out HA2.out hlt
            have HONE := hid hone
            have HCELL := hid hcell
            have HPRE := hid hpre
            have lk : (kk : Int) < 2 := by omega
            obtain ⟨nn, hnn⟩ : ∃ nn, pp.n = nn := ⟨_, rfl⟩
            have HNN := hid hnn
            have hn3 : nn ≤ 300 := by have := hone.nn; omega
            obtain ⟨PL, hPL⟩ : ∃ PL, (preL p q kk).length = PL := ⟨_, rfl⟩
            have HPL := hid hPL
            have hPb : PL ≤ 600 := by
              rw [← hPL]
              have h1 := HB.out.one.lens.1
              have h2 := HB.out.two.lens.1
              have h3 := HB.out.one.nn
              have h4 := HB.out.two.nn
              unfold preL
              split
              · simp
              · split
                · omega
                · rw [List.length_append]; omega
            clear hone hcell hpre hnn hPL
            obtain ⟨wo, hwo⟩ : ∃ x, x = wr := ⟨_, rfl⟩
            subst hwo
            go_wp2
            go_loopw [8, 10] (fun u y w3 => ∃ j : Nat, j ≤ nn ∧ y = .int .i64 j ∧ w3.ownsRow wA.heap.size 32 1 u (PL + j) (preL p q kk ++ pp.T.take j) ∧ Below wA.heap.size wA w3) (fun _ y _ => nn - (intOf y).toNat)
            case atStart => exact ⟨0, Nat.zero_le _, rfl, by rw [List.take_zero, List.append_nil, Nat.add_zero, ← HPL.out]; exact HROW.out, HBEL.out⟩
            case round =>
              obtain ⟨j, hj, rfl, hrow, hbel⟩ := hrel
              have HR3 := hid hrow
              have HB3 := hid hbel
              have O3 := hid (HONE.out.below hbel)
              have pc := (hbel.cell (p := ⟨w5.heap.size + 1, kk, none⟩) (HA.out.lt)).trans HCELL.out
              obtain ⟨y0, y1, y2, y3⟩ := O3.out.tw.pr.cells
              obtain ⟨ta, tc, htv⟩ := row_slice O3.out.tw.rt
              rw [HNN.out] at htv
              clear hrow hbel
              by_cases hjl : j < nn
              · have hjl2 : (j : Int) < nn := by omega
                obtain ⟨F, hF⟩ : ∃ F, pp.Fs[j]? = some F := ⟨_, List.getElem?_eq_getElem (by rw [O3.out.lf, HNN.out]; exact hjl)⟩
                obtain ⟨x, y, hx, hy, ox, oy, hFl⟩ := O3.out.told j F hF
                obtain ⟨g1, cap1, e1, d1⟩ := row_at O3.out.tw.rt hx
                obtain ⟨g2, cap2, e2, d2⟩ := row_at O3.out.tw.rw_ hy
                rw [HNN.out] at e1 e2
                rw [e1] at y2
                rw [e2] at y3
                obtain ⟨xa, xc, hxv⟩ := ox.reads.isSlice
                obtain ⟨ya, yc, hyv⟩ := oy.reads.isSlice
                obtain ⟨fl, hfl⟩ : ∃ fl, F.length = fl := ⟨_, rfl⟩
                rw [hfl] at hxv hyv
                subst hxv hyv
                have OX := hid ox
                have OY := hid oy
                have HX3 := hid hx
                have hF9 : Hid (F.length < 1000000000000000000) := by show _ < _; omega
                have htk : Hid (pp.T.take (j + 1) = pp.T.take j ++ [.slice xa fl xc]) := by show _ = _; rw [List.take_add_one, hx]; rfl
                have hz3 : Hid (wA.heap.size ≤ wr.heap.size) := HB3.out.size
                clear ox oy hx hy hF hFl htv e1 e2 hfl
                go_wp2
                go_quiet ((go_at_call 10; refine (sameT _ _ F _ (OX.out.reads.below (below_drewN _ _)) (OY.out.reads.below (below_drewN _ _)) hF9.out).mono ?_; rintro e w4 ⟨rfl, d, rfl⟩; exact ⟨rfl, _, drewN_two _ _ _⟩))
                go_wp2_with (at_builtin; go_must (refine wpList_pushV rfl _ _ rfl wA.heap.size _ (PL + j) (preL p q kk ++ pp.T.take j) _ (row_below (row_below HR3.out (below_drewN _ _)) (below_alloc _ _)) rfl ?c1 ?c2 ⟨_, 0, none⟩ rfl rfl (cell_newV _ _ _ rfl) ?_))
                case c1 => have := hz3.out; simp; omega
                case c2 => omega
                intro u' W4 hown hkp hson
                have R4 : Hid (W4.ownsRow wA.heap.size 32 1 u' (PL + (j + 1)) (preL p q kk ++ pp.T.take (j + 1))) := by show World.ownsRow _ _ _ _ _ _ _; rw [htk.out, ← Nat.add_assoc]; exact hown
                have B4 : Hid (Below wA.heap.size wA W4) := ((HB3.out.trans ((below_drewN wr _).mono hz3.out)).alloc hz3.out _).trans (hkp.below (by have := hz3.out; simp; omega) (fun q hq e => by have := (HR3.out.lt q e).1; omega))
                clear hown hkp hson
                go_wp2
                go_roundw
                case rel => exact ⟨j + 1, by omega, by go_num, R4.out, B4.out⟩
                case measure => simp [intOf]; omega
              · have e : j = nn := by omega
                subst e
                rw [htv] at y2
                have R4 : Hid (wr.ownsRow wA.heap.size 32 1 u8 (preL p q (kk + 1)).length (preL p q (kk + 1))) := by
                  have h := HR3.out
                  rw [List.take_of_length_le (by rw [O3.out.lens.1, HNN.out]; exact Nat.le_refl _), ← HPRE.out] at h
                  have hl : (preL p q (kk + 1)).length = PL + j := by rw [HPRE.out, List.length_append, HPL.out, O3.out.lens.1, HNN.out]
                  rw [hl]; exact h
                go_wp2
                go_roundw
                case rel => exact ⟨kk + 1, by omega, by go_num, R4.out, HB3.out⟩
                case measure => simp [intOf]; omega
          · have e : kk = 2 := by omega
            subst e
            have BA : Hid (Both w wr k p q) := HB.out.below HBEL.out
            have AA := hid (HA2.out.below HBEL.out)
            go_wp2_with fail
            refine (apartAll BA.out hk3 wA.heap.size u8 HROW.out).mono ?_
            rintro e W6 ⟨rfl, hk6⟩
            have fro : Hid (∀ g, (∃ x, x ∈ p.T ++ q.T ∧ x.ownBlock = some g) → ¬ p.S g ∧ ¬ q.S g) := by
              rintro g ⟨x, hx, hg⟩
              exact BA.out.froz x ((List.mem_append.1 hx).imp .inl .inl) g hg
            have D6 := hid (BA.out.one.duo.kept hk6 (fun j hj e => (fro.out j e).1 (.inl hj)))
            have T6 := hid (BA.out.one.tw.kept hk6 (fun j hj e => (fro.out j e).1 (.inr hj)))
            have D7 := hid (BA.out.two.duo.kept hk6 (fun j hj e => (fro.out j e).2 (.inl hj)))
            have T7 := hid (BA.out.two.tw.kept hk6 (fun j hj e => (fro.out j e).2 (.inr hj)))
            have low6 : Hid (Below w.heap.size w W6) := BA.out.bel.trans (hk6.below BA.out.bel.size (by
              rintro g hg ⟨x, hx, hgx⟩
              rcases List.mem_append.1 hx with hx | hx
              · obtain ⟨F, hF⟩ := BA.out.one.mem (.inl hx); have := (hF.lt g hgx).1; omega
              · obtain ⟨F, hF⟩ := BA.out.two.mem (.inl hx); have := (hF.lt g hgx).1; omega))
            have A6 : Hid (Arr W6 (w5.heap.size + 1) p.pb q.pb) := AA.out.kept hk6 (by
              rintro ⟨x, hx, hgx⟩
              have hF : ∃ F, Own wr w.heap.size x F := (List.mem_append.1 hx).elim (fun hx => BA.out.one.mem (.inl hx)) (fun hx => BA.out.two.mem (.inl hx))
              obtain ⟨F, hF⟩ := hF
              obtain ⟨cs, fr, kk⟩ := own_here hF hgx
              have h' : wr.heap[w5.heap.size + 1]? = _ := AA.out
              rw [h'] at kk
              simp at kk)
            obtain ⟨e0, e1⟩ := A6.out.cells
            have hl1 : Hid (p.L.length ≤ 1000) := by have := BA.out.one.len; show _ ≤ _; omega
            have hl2 : Hid (q.L.length ≤ 1000) := by have := BA.out.two.len; show _ ≤ _; omega
            have hn1' : Hid (p.n < 1000) := by have := BA.out.one.nn; show _ < _; omega
            have hn2' : Hid (q.n < 1000) := by have := BA.out.two.nn; show _ < _; omega
            have dis6 := hid BA.out.dis
            have lowp := hid BA.out.one.low
            have lowq := hid BA.out.two.low
            have hb6 : Hid (w.heap.size ≤ W6.heap.size) := low6.out.size
            clear hk6
            rw [hp] at e0
            rw [hq] at e1
            go_wp2_with fail
            have T6' := T6.out
            rw [hp] at T6'
            have T6h := hid T6'
            clear T6'
            refine (act2 w.heap.size w2.heap.size p.b p.rb p.n p.rv p.rrv p.tv p.wv p.L p.T p.V 0 0 0 0 W6 D6.out T6h.out hl1.out hb6.out hn1'.out).mono ?_
            rintro e W7 ⟨rfl, rv', rrv', tv', wv', L', n', T', V', _, _, hk7, _⟩
            rw [← hp] at hk7
            have D8 := hid (D7.out.kept hk7 (fun j hj e => dis6.out j e (.inl hj)))
            have T8 := hid (T7.out.kept hk7 (fun j hj e => dis6.out j e (.inr hj)))
            have A7 := A6.out.kept hk7 (A6.out.free D6.out T6.out)
            have low7 : Hid (Below w.heap.size w W7) := low6.out.trans (hk7.below hb6.out (fun g hg e => by have := lowp.out g e; omega))
            obtain ⟨e0, e1⟩ := A7.cells
            rw [hq] at e1
            clear hk7 A7
            go_wp2_with fail
            have T8' := T8.out
            rw [hq] at T8'
            have T8h := hid T8'
            clear T8'
            have hb7 : Hid (w.heap.size ≤ W7.heap.size) := low7.out.size
            refine (act2 w.heap.size w5.heap.size q.b q.rb q.n q.rv q.rrv q.tv q.wv q.L q.T q.V 0 0 0 0 W7 D8.out T8h.out hl2.out hb7.out hn2'.out).mono ?_
            rintro e W8 ⟨rfl, rv', rrv', tv', wv', L', n', T', V', _, _, hk8, _⟩
            rw [← hq] at hk8
            have low8 : Hid (Below w.heap.size w W8) := low7.out.trans (hk8.below hb7.out (fun g hg e => by have := lowq.out g e; omega))
            clear hk8
            go_wp2
            go_ret
            exact ⟨rfl, low8.out⟩
end Go.Proofs.Ytadcindaafjckaa
