/- A pair of ledgers as the statement holds it (both ledgers, what was told, what it must stay), and what its helpers keep and near answer. -/
import Derived.Test.YtadcindaafjckaaLwalk
import Derived.Test.YtadcindaafjckaaRlists
namespace Go.Proofs.Ytadcindaafjckaa
open Go.ChangeShapes Go.WideShapes Go.ChangeAt Go.RowKit
theorem kp_drewN {S : Nat → Prop} {a b : World} (h : Kp S a b) (k : Nat) : Kp S a (b.drewN k) := ⟨h.os, h.tape, h.output, h.size, h.block⟩
/-- A list of lists gone on with by one list that lies in a block of its own. -/
theorem wpList_pushV {w : World} {ops : Array Oper} {rest : List Oper} {o : Oper} {a : Act} {Q : Exit → Act → World → Prop} (hgd : o.guard = none) (s x : Operand)
    (ho : o.op = .call { callee := .builtin .append, args := #[s, x], argTypes := #[29, 29] })
    (base : Nat) (u : Value) (n : Nat) (T : List Value) (v : Value) (hu : w.ownsRow base 32 1 u n T) (hv : v.oneCell' = true) (hb0 : base ≤ w.heap.size) (hN : (n + 1) * 24 ≤ 140737488355328) (ad : Addr)
    (hs : a.eval s = u) (hx : a.eval x = .slice (some ad) 1 1) (hc : ∀ j u, [v][j]? = some u → w.cell? (ad.add j) = some u)
    (h : ∀ u' w', w'.ownsRow base 32 1 u' (n + 1) (T ++ [v]) → Kp (fun k => u.ownBlock = some k) w w' → SameOrNew w u u' → wpList Try.prog ops Q rest (a.put o.dst u') w') : wpList Try.prog ops Q (o :: rest) a w := by
  obtain ⟨i0, hi, hz0, hz1, hz2⟩ := info_parts info32
  have h1 : ∀ u ∈ [v], u.oneCell' = true := fun u hu => by simp at hu; subst hu; exact hv
  have grows : ∀ (ao : Option Addr) (cap : Nat), u = .slice ao n cap → (ao = none → n = 0 ∧ cap = 0) → (∀ b, ao = some b → ∀ j v, T[j]? = some v → w.cell? (b.add j) = some v) → cap < n + 1 →
      wpList Try.prog ops Q (o :: rest) a w := by
    intro ao cap hu' hnone hcells hcap
    refine wpList_append_grows _ hgd s x 29 ho 32 i0 (.slice none 0 0) 1 24 Try.underlying29 hi hz0 hz1 hz2 rfl (by decide) ao n cap T (hs.trans hu') hnone hu.1 hcells ad 1 1 [v] hx rfl hc h1 hcap (by simp [maxLen]; omega) hN ?_
    intro u' w' hown hgr
    refine h u' w' ⟨hown.1, ?_⟩ ((Kp.of_grown hgr).mono fun k _ e => by cases e) (.inr fun g hg => (hown.lt g hg).1)
    rcases hown.2 with h' | ⟨g, c, cur, e1, e2, e3⟩
    · exact .inl h'
    · exact .inr ⟨g, c, cur, e1, by omega, e3⟩
  rcases hu.2 with ⟨hun, hn0⟩ | ⟨g, cap, cur, hun, hgb, hg, hnc, hcm, hcs, ht⟩
  · subst hn0
    exact grows none 0 hun (fun _ => ⟨rfl, rfl⟩) (fun b hb => by cases hb) (by simp)
  · by_cases hcap : n + 1 ≤ cap
    · subst hun
      refine wpList_append_fits _ hgd s x 29 ho base 32 i0 1 Try.underlying29 hi hz1 g n cap T hs hu ad 1 1 [v] hx rfl hc h1 hcap ?_
      intro w' hown hgr
      exact h _ w' hown (Kp.of_grown hgr) (.inl rfl)
    · subst hun
      refine grows (some ⟨g, 0, none⟩) cap rfl (fun h => by cases h) (fun b hb => ?_) (by omega)
      cases hb
      exact hu.cells rfl
theorem cell_newV (w : World) (v : Value) (g : Nat) (hg : g = w.heap.size) : ∀ j u, [v][j]? = some u → (w.alloc (.cells #[v] 32)).cell? ((⟨g, 0, none⟩ : Addr).add j) = some u := by
  subst hg
  have h := World.ownsRow_lit (base := 0) (e := 32) (size := 1) w #[v] 1 (Nat.zero_le _) (by simp [maxLen]) rfl
  exact h.cells rfl
/-- The pair in block pb. -/
def Pr (W : World) (pb b rb : Nat) (tv wv : Value) : Prop := W.heap[pb]? = some (.cells #[.pointer (some ⟨b, 0, none⟩), .pointer (some ⟨rb, 0, none⟩), tv, wv] 31 (0, 0))
theorem Pr.lt {W : World} {pb b rb : Nat} {tv wv : Value} (h : Pr W pb b rb tv wv) : pb < W.heap.size := (Array.getElem?_eq_some_iff.1 h).1
theorem Pr.cells {W : World} {pb b rb : Nat} {tv wv : Value} (h : Pr W pb b rb tv wv) : W.cell? ⟨pb, 0, none⟩ = some (.pointer (some ⟨b, 0, none⟩)) ∧ W.cell? ⟨pb, 1, none⟩ = some (.pointer (some ⟨rb, 0, none⟩)) ∧ W.cell? ⟨pb, 2, none⟩ = some tv ∧ W.cell? ⟨pb, 3, none⟩ = some wv := by
  refine ⟨?_, ?_, ?_, ?_⟩
  · rw [cell_of_row W pb 0 _ 31 (0, 0) h]; rfl
  · rw [cell_of_row W pb 1 _ 31 (0, 0) h]; rfl
  · rw [cell_of_row W pb 2 _ 31 (0, 0) h]; rfl
  · rw [cell_of_row W pb 3 _ 31 (0, 0) h]; rfl
theorem Pr.frozen {W : World} {pb b rb : Nat} {tv wv : Value} (h : Pr W pb b rb tv wv) (j : Nat) : W.frozen? ⟨pb, j, none⟩ = false := frozen_of_row W pb j _ 31 h
theorem Pr.kept {W W' : World} {pb b rb : Nat} {tv wv : Value} {S : Nat → Prop} (h : Pr W pb b rb tv wv) (hk : Kp S W W') (hn : ¬ S pb) : Pr W' pb b rb tv wv := (hk.block pb h.lt hn).trans h
theorem Pr.below {W W' : World} {pb b rb : Nat} {tv wv : Value} (h : Pr W pb b rb tv wv) (hb : Below W.heap.size W W') : Pr W' pb b rb tv wv := h.kept (Kp.of_below (fun _ => False) hb) id
theorem Pr.set2 {W : World} {pb b rb : Nat} {tv wv : Value} (h : Pr W pb b rb tv wv) (u : Value) : Pr (W.setCell ⟨pb, 2, none⟩ u) pb b rb u wv := by
  show (W.setCell ⟨pb, 2, none⟩ u).heap[pb]? = _
  rw [heap_setCell_same W pb 2 _ 31 u h]; rfl
theorem Pr.set3 {W : World} {pb b rb : Nat} {tv wv : Value} (h : Pr W pb b rb tv wv) (u : Value) : Pr (W.setCell ⟨pb, 3, none⟩ u) pb b rb tv u := by
  show (W.setCell ⟨pb, 3, none⟩ u).heap[pb]? = _
  rw [heap_setCell_same W pb 3 _ 31 u h]; rfl
theorem row_here {W : World} {base n : Nat} {v : Value} {T : List Value} {g : Nat} (h : W.ownsRow base 32 1 v n T) (hg : v.ownBlock = some g) : ∃ cs fr, W.heap[g]? = some (.cells cs 32 fr) := by
  rcases h.2 with ⟨rfl, _⟩ | ⟨g', cap, cur, rfl, _, hc, _⟩
  · simp [Value.ownBlock] at hg
  · simp [Value.ownBlock] at hg
    subst hg
    exact ⟨_, _, hc⟩
theorem Pr.row {W : World} {pb b rb base n : Nat} {tv wv v : Value} {T : List Value} (h : Pr W pb b rb tv wv) (hr : W.ownsRow base 32 1 v n T) : v.ownBlock ≠ some pb := by
  intro e
  obtain ⟨cs, fr, k⟩ := row_here hr e
  have h' : W.heap[pb]? = _ := h
  rw [h'] at k
  simp at k
theorem row_slice {W : World} {base n : Nat} {v : Value} {T : List Value} (h : W.ownsRow base 32 1 v n T) : ∃ a c, v = .slice a n c := by
  rcases h.2 with ⟨rfl, rfl⟩ | ⟨g', cap, cur, rfl, _⟩
  · exact ⟨_, _, rfl⟩
  · exact ⟨_, _, rfl⟩
theorem row_below {W W' : World} {base n : Nat} {v : Value} {T : List Value} (h : W.ownsRow base 32 1 v n T) (hb : Below W.heap.size W W') : W'.ownsRow base 32 1 v n T := row_kept h (Kp.of_below (fun _ => False) hb) (fun _ _ e => e)
/-- The lists of what was told and of what it must stay. -/
structure Tw (W : World) (base pb b rb : Nat) (tv wv : Value) (n m : Nat) (T V : List Value) : Prop where
  pr : Pr W pb b rb tv wv
  rt : W.ownsRow base 32 1 tv n T
  rw_ : W.ownsRow base 32 1 wv m V
  dis : ∀ g, tv.ownBlock = some g → wv.ownBlock ≠ some g
def TS (pb : Nat) (tv wv : Value) : Nat → Prop := fun q => q = pb ∨ tv.ownBlock = some q ∨ wv.ownBlock = some q
theorem Tw.below {W W' : World} {base pb b rb n m : Nat} {tv wv : Value} {T V : List Value} (h : Tw W base pb b rb tv wv n m T V) (hb : Below W.heap.size W W') : Tw W' base pb b rb tv wv n m T V := ⟨h.pr.below hb, row_below h.rt hb, row_below h.rw_ hb, h.dis⟩
theorem Tw.kept {W W' : World} {base pb b rb n m : Nat} {tv wv : Value} {T V : List Value} {S : Nat → Prop} (h : Tw W base pb b rb tv wv n m T V) (hk : Kp S W W') (hn : ∀ q, TS pb tv wv q → ¬ S q) : Tw W' base pb b rb tv wv n m T V :=
  ⟨h.pr.kept hk (hn pb (.inl rfl)), row_kept h.rt hk (fun g hg => hn g (.inr (.inl hg))), row_kept h.rw_ hk (fun g hg => hn g (.inr (.inr hg))), h.dis⟩
theorem Tw.lt {W : World} {base pb b rb n m : Nat} {tv wv : Value} {T V : List Value} (h : Tw W base pb b rb tv wv n m T V) : ∀ q, TS pb tv wv q → q < W.heap.size := by
  rintro q (rfl | e | e)
  · exact h.pr.lt
  · exact (h.rt.lt q e).2
  · exact (h.rw_.lt q e).2
theorem Tw.push1 {w w0 w1 : World} {base pb b rb n m : Nat} {tv wv u : Value} {T V : List Value} {x : Value} (h : Tw w base pb b rb tv wv n m T V) (hw : Below w.heap.size w w0) (ho : w1.ownsRow base 32 1 u (n + 1) (T ++ [x])) (hk : Kp (fun k => tv.ownBlock = some k) w0 w1) (hs : SameOrNew w0 tv u) :
    Pr w1 pb b rb tv wv ∧ Tw (w1.setCell ⟨pb, 2, none⟩ u) base pb b rb u wv (n + 1) m (T ++ [x]) V ∧ Kp (TS pb tv wv) w (w1.setCell ⟨pb, 2, none⟩ u) ∧ SameOrNew w tv u := by
  have h0 := h.below hw
  have p1 : Pr w1 pb b rb tv wv := h0.pr.kept hk (fun e => h0.pr.row h0.rt e)
  have k1 : Kp (fun q => q = pb) w1 (w1.setCell ⟨pb, 2, none⟩ u) := Kp.setCell _ _ _
  have r1 : w1.ownsRow base 32 1 wv m V := row_kept h0.rw_ hk (fun g hg e => h.dis g e hg)
  have hsz := hw.size
  refine ⟨p1, ⟨p1.set2 u, row_kept ho k1 (fun g hg e => p1.row ho (by rw [hg, e])), row_kept r1 k1 (fun g hg e => p1.row r1 (by rw [hg, e])), ?_⟩, ?_, hs.imp id (fun h g hg => by have := h g hg; omega)⟩
  · intro g hg e
    rcases hs with hs | hs
    · rw [hs] at hg; exact h.dis g hg e
    · have := hs g hg; have := (h0.rw_.lt g e).2; omega
  · exact ((Kp.of_below _ hw).trans (hk.mono (fun k _ e => .inr (.inl e))) (fun _ _ e => e)).trans k1 (fun k _ e => .inl e)
theorem Tw.push2 {w w0 w1 : World} {base pb b rb n m : Nat} {tv wv u : Value} {T V : List Value} {x : Value} (h : Tw w base pb b rb tv wv n m T V) (hw : Below w.heap.size w w0) (ho : w1.ownsRow base 32 1 u (m + 1) (V ++ [x])) (hk : Kp (fun k => wv.ownBlock = some k) w0 w1) (hs : SameOrNew w0 wv u) :
    Pr w1 pb b rb tv wv ∧ Tw (w1.setCell ⟨pb, 3, none⟩ u) base pb b rb tv u n (m + 1) T (V ++ [x]) ∧ Kp (TS pb tv wv) w (w1.setCell ⟨pb, 3, none⟩ u) ∧ SameOrNew w wv u := by
  have h0 := h.below hw
  have p1 : Pr w1 pb b rb tv wv := h0.pr.kept hk (fun e => h0.pr.row h0.rw_ e)
  have k1 : Kp (fun q => q = pb) w1 (w1.setCell ⟨pb, 3, none⟩ u) := Kp.setCell _ _ _
  have r1 : w1.ownsRow base 32 1 tv n T := row_kept h0.rt hk (fun g hg e => h.dis g hg e)
  have hsz := hw.size
  refine ⟨p1, ⟨p1.set3 u, row_kept r1 k1 (fun g hg e => p1.row r1 (by rw [hg, e])), row_kept ho k1 (fun g hg e => p1.row ho (by rw [hg, e])), ?_⟩, ?_, hs.imp id (fun h g hg => by have := h g hg; omega)⟩
  · intro g hg e
    rcases hs with hs | hs
    · rw [hs] at e; exact h.dis g hg e
    · have := hs g e; have := (h0.rt.lt g hg).2; omega
  · exact ((Kp.of_below _ hw).trans (hk.mono (fun k _ e => .inr (.inr e))) (fun _ _ e => e)).trans k1 (fun k _ e => .inl e)
/-- Two steps, one behind the other. -/
theorem Tw.two {w w1 w2 : World} {pb : Nat} {tv wv tv' wv' : Value} (k1 : Kp (TS pb tv wv) w w1) (s1 : SameOrNew w tv tv') (k2 : Kp (TS pb tv' wv) w1 w2) (s2 : SameOrNew w1 wv wv') : Kp (TS pb tv wv) w w2 ∧ SameOrNew w wv wv' := by
  have hsz := k1.size
  refine ⟨k1.trans k2 ?_, s2.imp id (fun h g hg => by have := h g hg; omega)⟩
  rintro q hq (e | e | e)
  · exact .inl e
  · rcases s1 with s1 | s1
    · rw [s1] at e; exact .inr (.inl e)
    · have := s1 q e; omega
  · exact .inr (.inr e)
/-- A list of runs is in none of the pair's own blocks. -/
theorem Tw.runs {W : World} {base base' pb b rb n m : Nat} {tv wv v : Value} {T V : List Value} {L : List Rn} (h : Tw W base pb b rb tv wv n m T V) (ho : Own W base' v L) : ∀ g, v.ownBlock = some g → ¬ TS pb tv wv g := by
  intro g hg
  obtain ⟨cs, fr, k⟩ := own_here ho hg
  rintro (rfl | e | e)
  · have h' : W.heap[g]? = _ := h.pr
    rw [h'] at k; simp at k
  · obtain ⟨cs', fr', k'⟩ := row_here h.rt e
    rw [k] at k'; simp at k'
  · obtain ⟨cs', fr', k'⟩ := row_here h.rw_ e
    rw [k] at k'; simp at k'

set_option maxRecDepth 100000 in
set_option maxHeartbeats 1200000 in
theorem keep20 (base pb b rb n : Nat) (tv wv x y : Value) (T V : List Value) (F : List Rn) (w : World) (h : Tw w base pb b rb tv wv n n T V) (hx : Own w 0 x F) (hy : Own w 0 y F) (hF : F.length < 1000000000000000000) (hb0 : base ≤ w.heap.size) (hN : n < 1000) :
    Calls Try.prog 20 #[.pointer (some ⟨pb, 0, none⟩), x, y] w fun e w' => e = .returned (.bool true) ∧ ∃ tv' wv', Tw w' base pb b rb tv' wv' (n + 1) (n + 1) (T ++ [x]) (V ++ [y]) ∧ Kp (TS pb tv wv) w w' ∧ SameOrNew w tv tv' ∧ SameOrNew w wv wv' := by
  obtain ⟨xa, xc, rfl⟩ := hx.reads.isSlice
  obtain ⟨ya, yc, rfl⟩ := hy.reads.isSlice
  obtain ⟨fl, hfl⟩ : ∃ m, F.length = m := ⟨_, rfl⟩
  have HF : Hid (F.length < 1000000000000000000) := hF
  have NX := hid (h.runs hx)
  have NY := hid (h.runs hy)
  rw [hfl] at hx hy NX NY ⊢
  have HX := hid hx
  have HY := hid hy
  have H := hid h
  have P0 := h.pr
  obtain ⟨c0, c1, c2, c3⟩ := h.pr.cells
  have f2 := h.pr.frozen 2
  have f3 := h.pr.frozen 3
  obtain ⟨ta, tc, rfl⟩ := row_slice h.rt
  obtain ⟨wa, wc, rfl⟩ := row_slice h.rw_
  have hlt := h.pr.lt
  have HB0 := hid hb0
  clear hx hy h hfl hF P0
  go_enter Try.func20, Try.ntmps20
  go_wp2_with (at_builtin; go_must (refine wpList_pushV rfl _ _ rfl base _ n T _ (row_below H.out.rt (below_alloc _ _)) rfl ?c1 ?c2 ⟨_, 0, none⟩ rfl rfl (cell_newV _ _ _ rfl) ?_))
  case c1 => simp; omega
  case c2 => omega
  intro u' w1 hown hkp hson
  obtain ⟨p1, t1, k1, s1⟩ := H.out.push1 (below_alloc w _) hown hkp hson
  obtain ⟨ua, uc, rfl⟩ := row_slice hown
  have hsz1 := hkp.size
  have hz1 : w.heap.size ≤ w1.heap.size := by simp at hsz1; omega
  obtain ⟨d0, d1, d2, d3⟩ := p1.cells
  have g2 := p1.frozen 2
  have g3 := p1.frozen 3
  have hlt1 := p1.lt
  have T1 := hid t1
  have K1 := hid k1
  have S1 := hid s1
  have hset : (w1.setCell ⟨pb, 2, none⟩ (.slice ua (n + 1) uc)).heap.size = w1.heap.size := by simp [World.setCell]
  clear hown hkp hson p1 t1 k1 s1 hsz1
  go_wp2_with (at_builtin; go_must (refine wpList_pushV rfl _ _ rfl base _ n V _ (row_below T1.out.rw_ (below_alloc _ _)) rfl ?c1 ?c2 ⟨_, 0, none⟩ rfl rfl (cell_newV _ _ _ (by simp)) ?_))
  case c1 => simp; omega
  case c2 => omega
  intro u2 w2 hown hkp hson
  obtain ⟨p2, t2, k2, s2⟩ := T1.out.push2 (below_alloc _ _) hown hkp hson
  obtain ⟨ub, ud, rfl⟩ := row_slice hown
  obtain ⟨e0, e1, e2, e3⟩ := p2.cells
  have i2 := p2.frozen 2
  have i3 := p2.frozen 3
  have T2 := hid t2
  have E2 := hid (Tw.two K1.out S1.out k2 s2)
  clear hown hkp hson p2 t2 k2 s2
  go_wp2_with fail
  have RX : Hid (RB (w2.setCell ⟨pb, 3, none⟩ (.slice ub (n + 1) ud)) (.slice xa fl xc) F) := (HX.out.kept E2.out.1 NX.out).reads
  have RY : Hid (RB (w2.setCell ⟨pb, 3, none⟩ (.slice ub (n + 1) ud)) (.slice ya fl yc) F) := (HY.out.kept E2.out.1 NY.out).reads
  refine (same14 _ _ F F _ RX.out RY.out HF.out HF.out).mono ?_
  rintro e w3 ⟨rfl, d, rfl⟩
  go_wp2
  go_ret
  exact ⟨by simp, _, _, T2.out.below (below_drewN _ _), kp_drewN E2.out.1 _, S1.out, E2.out.2⟩
/-- Would the act go beyond the bound? -/
def nearB (c n t : Int) : Bool := decide (c = 1 ∧ 0 < n ∧ 4611686018427387904 - t - 400 < n)
set_option maxRecDepth 100000 in
set_option maxHeartbeats 1200000 in
theorem near8 (base pb b rb n m : Nat) (tv wv rrv : Value) (T V : List Value) (L : List Rn) (on c k s nn : Int) (w : World) (h : Tw w base pb b rb tv wv n m T V) (hr : RLed w rb rrv L) (hN : L.length < 1000000000000000000) :
    Calls Try.prog 8 #[.pointer (some ⟨pb, 0, none⟩), .agg #[.int .i64 on, .int .i64 c, .int .u8 k, .int .i64 s, .int .i64 nn]] w fun e w' => e = .returned (.bool (nearB c nn (tot L))) ∧ Below w.heap.size w w' := by
  have H := hid h
  have HR := hid hr
  obtain ⟨c0, c1, c2, c3⟩ := h.pr.cells
  have hlt := h.pr.lt
  have HB := hid (below_alloc w (.cells #[.int .i64 on, .int .i64 c, .int .u8 k, .int .i64 s, .int .i64 nn] 41))
  have ht := tot_pos hr.pos
  have hmo := hr.most
  clear h hr
  by_cases hc : c = 1
  · subst hc
    by_cases hn : 0 < nn
    · have hw1 : IntKind.i64.wrap (4611686018427387904 - tot L) = 4611686018427387904 - tot L := by rw [IntKind.wrap_i64]; omega
      have hw2 : IntKind.i64.wrap (4611686018427387904 - tot L - 400) = 4611686018427387904 - tot L - 400 := by rw [IntKind.wrap_i64]; omega
      have E : Hid (nearB 1 nn (tot L) = decide (4611686018427387904 - tot L - 400 < nn)) := by show _ = _; unfold nearB; simp [hn]
      rw [E.out]
      clear E ht hmo
      generalize hT : tot L = t at *
      have HT := hid hT
      clear hT
      go_enter Try.func8, Try.ntmps8
      go_wp2
      go_quiet ((go_at_call 17; refine (refLen rb rrv L _ ((HR.out.below HB.out).below (below_drewN _ _)) hN).mono ?_; rintro e w4 ⟨rfl, rfl⟩; rw [HT.out]; exact ⟨rfl, _, rfl⟩))
      go_wp2
      go_ret
      exact ⟨rfl, below_drew' HB.out _⟩
    · have E : nearB 1 nn (tot L) = false := by unfold nearB; simp [hn]
      have hd : decide (0 < nn) = false := decide_eq_false hn
      clear hn
      rw [E]
      clear E ht hmo
      go_enter Try.func8, Try.ntmps8
      go_wp2
      go_quiet (fail)
      go_wp2
      go_ret
      exact ⟨rfl, below_drew' HB.out _⟩
  · have E : nearB c nn (tot L) = false := by unfold nearB; simp [hc]
    have hd : (c == 1) = false := by simpa using hc
    clear hc
    rw [E]
    clear E ht hmo
    go_enter Try.func8, Try.ntmps8
    go_wp2
    go_quiet (fail)
    go_wp2
    go_ret
    exact ⟨rfl, below_drew' HB.out _⟩
end Go.Proofs.Ytadcindaafjckaa
