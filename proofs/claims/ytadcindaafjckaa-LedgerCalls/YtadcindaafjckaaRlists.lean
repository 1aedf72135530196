/- Several lists of runs that the call owns, each in memory of its own, and the list of them: what stays and what turns when one of them is written or gone on with. No function of the program in it. -/
import Derived.Test.YtadcindaafjckaaRmarks
namespace Go.Proofs.Ytadcindaafjckaa
open Go.ChangeShapes Go.WideShapes Go.ChangeAt Go.RowKit

theorem room_le {a b X : Nat} (hb : b * 24 ≤ X) (h : a ≤ b) : a * 24 ≤ X := Nat.le_trans (Nat.mul_le_mul_right 24 h) hb
theorem own_prefix {w : World} {base g n m cap : Nat} {L M : List Rn} (h : Own w base (.slice (some ⟨g, 0, none⟩) m cap) (L ++ M)) (hm : (L ++ M).length = m) (hn : L.length = n) : Own w base (.slice (some ⟨g, 0, none⟩) n cap) L := by
  subst hm hn
  refine ⟨fun r hr => h.1 r (List.mem_append_left _ hr), rl_length L, .inr ?_⟩
  rcases h.2.2 with ⟨h', _⟩ | ⟨g', cap', cur, h', hb, hg, hnc, hcm, hcs, ht⟩
  · simp at h'
  · simp only [Value.slice.injEq, Option.some.injEq, Addr.mk.injEq, and_true, true_and] at h'
    obtain ⟨rfl, rfl⟩ := h'
    refine ⟨g, cap, cur, rfl, hb, hg, by rw [List.length_append] at hnc; omega, hcm, hcs, ?_⟩
    have e : (rl (L ++ M)).take (L.length * 3) = rl L := by
      rw [rl_append, ← rl_length L, List.take_left]
    rw [← e, ← ht, List.take_take, Nat.min_eq_left (by rw [List.length_append]; omega)]

/-- A list gone on with by one run: where the longer one lies. -/
theorem wpList_pushAt {w : World} {ops : Array Oper} {rest : List Oper} {o : Oper} {a : Act} {Q : Exit → Act → World → Prop} (hgd : o.guard = none) (s x : Operand)
    (ho : o.op = .call { callee := .builtin .append, args := #[s, x], argTypes := #[32, 32] })
    (base : Nat) (u : Value) (L : List Rn) (r : Rn) (hu : Own w base u L) (hr : r.Ok) (hb0 : base ≤ w.heap.size) (hN : (L.length + 1) * 24 ≤ 140737488355328) (ad : Addr)
    (hs : a.eval s = u) (hx : a.eval x = .slice (some ad) 1 1) (hc : ∀ j u, (rl [r])[j]? = some u → w.cell? (ad.add j) = some u)
    (h : ∀ u' w', Own w' base u' (L ++ [r]) → Kp (fun k => u.ownBlock = some k) w w' → ((∃ g cap, u = .slice (some ⟨g, 0, none⟩) L.length cap ∧ u' = .slice (some ⟨g, 0, none⟩) (L.length + 1) cap) ∨ (∀ g, u'.ownBlock = some g → w.heap.size ≤ g) ∧ Kp (fun _ => False) w w') → wpList Try.prog ops Q rest (a.put o.dst u') w') : wpList Try.prog ops Q (o :: rest) a w := by
  obtain ⟨i0, hi, hz0, hz1, hz2⟩ := info_parts info70
  have hok : ∀ q ∈ L ++ [r], q.Ok := by
    intro q hq
    rcases List.mem_append.1 hq with hq | hq
    · exact hu.1 q hq
    · simp at hq; subst hq; exact hr
  have grows : ∀ (ao : Option Addr) (cap : Nat), u = .slice ao L.length cap → (ao = none → L.length = 0 ∧ cap = 0) → (∀ b, ao = some b → ∀ j v, (rl L)[j]? = some v → w.cell? (b.add j) = some v) → cap < L.length + 1 →
      wpList Try.prog ops Q (o :: rest) a w := by
    intro ao cap hu' hnone hcells hcap
    refine wpList_append_grows _ hgd s x 32 ho 51 i0 (.agg #[.int .u8 0, .int .i64 0, .int .i64 0]) 3 24 Try.underlying32 hi hz0 hz1 hz2 rfl (by decide) ao L.length cap (rl L) (hs.trans hu') hnone (rl_length L) hcells ad 1 1 (rl [r]) hx rfl hc (rl_oneCell [r]) hcap (by simp [maxLen]; omega) hN ?_
    intro u' w' hown hgr
    rw [← rl_append] at hown
    have hO : Own w' w.heap.size u' (L ++ [r]) := ⟨hok, by rw [List.length_append]; exact hown⟩
    exact h u' w' (hO.base hb0) ((Kp.of_grown hgr).mono fun k _ e => by cases e) (.inr ⟨fun g hg => (hO.lt g hg).1, (Kp.of_grown hgr).mono fun k _ e => by cases e⟩)
  rcases hu.shape with ⟨hun, hn0⟩ | ⟨g, cap, hun, hgb, hgl, hnc, hcm, hcc, _⟩
  · subst hn0
    exact grows none 0 hun (fun _ => ⟨rfl, rfl⟩) (fun b hb => by cases hb) (by simp)
  · by_cases hcap : L.length + 1 ≤ cap
    · subst hun
      refine wpList_append_fits _ hgd s x 32 ho base 51 i0 3 Try.underlying32 hi hz1 g L.length cap (rl L) hs hu.2 ad 1 1 (rl [r]) hx rfl hc (rl_oneCell [r]) hcap ?_
      intro w' hown hgr
      rw [← rl_append] at hown
      exact h _ w' ⟨hok, by rw [List.length_append]; exact hown⟩ (Kp.of_grown hgr) (.inl ⟨g, cap, rfl, rfl⟩)
    · subst hun
      refine grows (some ⟨g, 0, none⟩) cap rfl (fun h => by cases h) (fun b hb => ?_) (by omega)
      cases hb
      exact rb_cells hu.reads

/-- The state while list Vk of n marks is gone on with: u is what it has become. -/
def Going (w0 w : World) (base : Nat) (Vk u : Value) (n c i : Nat) : Prop :=
  Kp (fun q => Vk.ownBlock = some q) w0 w ∧ Own w base Vk (mks c n) ∧ Own w base u (mks c (n + i)) ∧
    ((∃ g cap, Vk = .slice (some ⟨g, 0, none⟩) n cap ∧ u = .slice (some ⟨g, 0, none⟩) (n + i) cap) ∨ (∀ q, u.ownBlock = some q → w0.heap.size ≤ q))

theorem Going.alloc {w0 w : World} {base : Nat} {Vk u : Value} {n c i : Nat} (h : Going w0 w base Vk u n c i) (o : Obj) : Going w0 (w.alloc o) base Vk u n c i :=
  ⟨h.1.trans (Kp.of_below (fun _ => False) (below_alloc _ _)) (fun _ _ e => e.elim), h.2.1.alloc o, h.2.2.1.alloc o, h.2.2.2⟩

theorem going_next {w0 w w' : World} {base : Nat} {Vk u u' : Value} {n c i : Nat} (hG : Going w0 w base Vk u n c i) (hlt : ∀ q, Vk.ownBlock = some q → q < w0.heap.size)
    (ho : Own w' base u' (mks c (n + i) ++ [Mk c (n + i : Nat)])) (hk : Kp (fun k => u.ownBlock = some k) w w')
    (hs : (∃ g cap, u = .slice (some ⟨g, 0, none⟩) (mks c (n + i)).length cap ∧ u' = .slice (some ⟨g, 0, none⟩) ((mks c (n + i)).length + 1) cap) ∨ (∀ g, u'.ownBlock = some g → w.heap.size ≤ g) ∧ Kp (fun _ => False) w w') : Going w0 w' base Vk u' n c (i + 1) := by
  obtain ⟨g1, g2, g3, g4⟩ := hG
  have ho' : Own w' base u' (mks c (n + (i + 1))) := by rw [← Nat.add_assoc, mks_succ]; exact ho
  rcases hs with ⟨g, cap, hu, hu'⟩ | ⟨hs, hk0⟩
  · rw [mks_length] at hu hu'
    rcases g4 with ⟨g', cap', hV, hu2⟩ | hnew
    · rw [hu] at hu2
      simp only [Value.slice.injEq, Option.some.injEq, Addr.mk.injEq, and_true, true_and] at hu2
      obtain ⟨rfl, rfl⟩ := hu2
      have hpre : Own w' base Vk (mks c n) := by
        rw [hV]
        rw [hu'] at ho'
        have e : mks c (n + (i + 1)) = mks c n ++ (mks c (n + (i + 1))).drop n := by
          have : (mks c (n + (i + 1))).take n = mks c n := by
            simp [mks, ← List.map_take, List.take_range]
          rw [← this, List.take_append_drop]
        rw [e] at ho'
        exact own_prefix ho' (by rw [← e, mks_length]; omega) (mks_length _ _)
      refine ⟨g1.trans hk (fun q _ e => by rw [hV]; rw [hu] at e; exact e), hpre, ho', .inl ⟨g, cap, hV, by rw [hu', Nat.add_assoc]⟩⟩
    · refine ⟨g1.trans hk (fun q hq e => by have := hnew q e; omega), g2.kept hk (fun q hq e => by have := hnew q e; have := hlt q hq; omega), ho', .inr (fun q hq => ?_)⟩
      rw [hu'] at hq
      exact hnew q (by rw [hu]; exact hq)
  · refine ⟨g1.trans hk0 (fun _ _ e => e.elim), g2.kept hk0 (fun _ _ e => e), ho', .inr (fun q hq => ?_)⟩
    have := hs q hq
    have := g1.size
    omega

/-- The m lists V lie apart, and apart from the block L of their list. -/
structure AP (m L : Nat) (V : Nat → Value) : Prop where
  dis : ∀ i j, i < m → j < m → i ≠ j → ∀ g, (V i).ownBlock = some g → (V j).ownBlock ≠ some g
  dl : ∀ j, j < m → (V j).ownBlock ≠ some L

/-- List j holds the runs F j, and stands at place j of block L. -/
def Inv1 (w : World) (base m L : Nat) (V : Nat → Value) (F : Nat → List Rn) : Prop :=
  (∀ j, j < m → Own w base (V j) (F j)) ∧ ∀ j, j < m → w.cell? ⟨L, j, none⟩ = some (V j)

theorem kp_cell {S : Nat → Prop} {w w' : World} (hk : Kp S w w') {b off : Nat} {v : Value} (h : w.cell? ⟨b, off, none⟩ = some v) (hn : ¬ S b) : w'.cell? ⟨b, off, none⟩ = some v := by
  rw [World.cell?_of_block (w := w) (a := ⟨b, off, none⟩) (hk.block b (block_lt_of_cell h) hn)]; exact h

/-- Behind list k's first i runs. -/
def G1 (F : Nat → List Rn) (N : Nat → Nat) (k i j : Nat) : List Rn := if j < k then mks (j + 10) (N j) else if j = k then mks (k + 10) i ++ (F k).drop i else F j
theorem G1_start (F : Nat → List Rn) (N : Nat → Nat) (k : Nat) : G1 F N k 0 = fun j => if j < k then mks (j + 10) (N j) else F j := by
  funext j
  unfold G1
  by_cases h : j < k
  · rw [if_pos h, if_pos h]
  · rw [if_neg h, if_neg h]
    by_cases e : j = k
    · subst e; rw [if_pos rfl]; rfl
    · rw [if_neg e]
theorem G1_next (F : Nat → List Rn) (N : Nat → Nat) (k j : Nat) (hN : (F k).length = N k) : G1 F N k (N k) j = G1 F N (k + 1) 0 j := by
  rw [G1_start]
  unfold G1
  by_cases h : j < k
  · rw [if_pos h]; show _ = if j < k + 1 then _ else _; rw [if_pos (by omega)]
  · rw [if_neg h]
    by_cases e : j = k
    · subst e; rw [if_pos rfl]; show _ = if j < j + 1 then _ else _; rw [if_pos (by omega), List.drop_eq_nil_of_le (by omega), List.append_nil]
    · rw [if_neg e]; show _ = if j < k + 1 then _ else _; rw [if_neg (by omega)]

theorem inv1_store0 {w : World} {base m L : Nat} {V : Nat → Value} {N : Nat → Nat} {F : Nat → List Rn} (hA : AP m L V) (k i g n cap : Nat) (h : Inv1 w base m L V (G1 F N k i)) (hk : k < m) (hV : V k = .slice (some ⟨g, 0, none⟩) n cap) (hN : (F k).length = n) (hi : i < n) (hk2 : k < 1000) (hn : n < 10000000000000) :
    Inv1 (((w.setCell ⟨g, i * 3, none⟩ (.int .u8 0)).setCell ⟨g, i * 3 + 1, none⟩ (.int .i64 0)).setCell ⟨g, i * 3 + 2, none⟩ (.int .i64 (Mk ((k + 10 : Nat) : Int) i).c)) base m L V (G1 F N k (i + 1)) ∧
      Kp (fun q => q = g) w (((w.setCell ⟨g, i * 3, none⟩ (.int .u8 0)).setCell ⟨g, i * 3 + 1, none⟩ (.int .i64 0)).setCell ⟨g, i * 3 + 2, none⟩ (.int .i64 (Mk ((k + 10 : Nat) : Int) i).c)) := by
  have hk1 := h.1 k hk
  have eG : G1 F N k i k = mks (k + 10) i ++ (F k).drop i := by unfold G1; rw [if_neg (by omega), if_pos rfl]
  have eG' : G1 F N k (i + 1) k = mks (k + 10) (i + 1) ++ (F k).drop (i + 1) := by unfold G1; rw [if_neg (by omega), if_pos rfl]
  have hlen : (mks (k + 10) i ++ (F k).drop i).length = n := by rw [List.length_append, mks_length, List.length_drop]; omega
  rw [hV, eG] at hk1
  have S := Own.setR (i := i) (Mk ((k + 10 : Nat) : Int) i) (L := mks (k + 10) i ++ (F k).drop i) (cap := cap) (g := g) (base := base) (w := w) (by rw [hlen]; exact hk1) (by omega) (Mk_ok _ _ (by omega) (by omega))
  rw [hlen, mks_set (k + 10) i (F k) (by omega)] at S
  have S2 : Kp (fun q => q = g) w (((w.setCell ⟨g, i * 3, none⟩ (.int .u8 0)).setCell ⟨g, i * 3 + 1, none⟩ (.int .i64 0)).setCell ⟨g, i * 3 + 2, none⟩ (.int .i64 (Mk ((k + 10 : Nat) : Int) i).c)) := S.2
  refine ⟨⟨fun j hj => ?_, fun j hj => kp_cell S2 (h.2 j hj) (fun e => hA.dl k hk (by rw [hV]; exact congrArg some e.symm))⟩, S2⟩
  by_cases e : j = k
  · subst e; rw [hV, eG']; exact S.1
  · have ej : G1 F N k (i + 1) j = G1 F N k i j := by unfold G1; rw [if_neg e, if_neg e]
    rw [ej]
    exact (h.1 j hj).kept S2 (fun q hq e2 => hA.dis j k hj hk e q hq (by rw [hV, e2]; rfl))

theorem inv1_store {w : World} {base m L : Nat} {V : Nat → Value} {N : Nat → Nat} {F : Nat → List Rn} (hA : AP m L V) (k i g n cap : Nat) (h : Inv1 w base m L V (G1 F N k i)) (hk : k < m) (hV : V k = .slice (some ⟨g, 0, none⟩) n cap) (hN : (F k).length = n) (hi : i < n) (hk2 : k < 1000) (hn : n < 10000000000000) :
    Inv1 (((w.setCell ⟨g, i * 3, none⟩ (.int .u8 0)).setCell ⟨g, i * 3 + 1, none⟩ (.int .i64 0)).setCell ⟨g, i * 3 + 2, none⟩ (.int .i64 (Mk ((k : Int) + 10) i).c)) base m L V (G1 F N k (i + 1)) ∧
      Kp (fun q => q = g) w (((w.setCell ⟨g, i * 3, none⟩ (.int .u8 0)).setCell ⟨g, i * 3 + 1, none⟩ (.int .i64 0)).setCell ⟨g, i * 3 + 2, none⟩ (.int .i64 (Mk ((k : Int) + 10) i).c)) := by
  have h1 := inv1_store0 hA k i g n cap h hk hV hN hi hk2 hn
  rwa [show ((k + 10 : Nat) : Int) = (k : Int) + 10 by omega] at h1

theorem info32 : (Try.prog.info? 32).map (fun i => (i.zero, i.size, i.bytes)) = some (some (.slice none 0 0), 1, 24) := by kernel_rfl

/-- Lists of lists and lists of runs lie in blocks of other types. -/
theorem types_ne {w : World} {S base : Nat} {v v' : Value} {n : Nat} {xs : List Value} {F : List Rn} (h : w.ownsRow S 32 1 v n xs) (h' : Own w base v' F) (g : Nat) (hg : v'.ownBlock = some g) : v.ownBlock ≠ some g := by
  rcases h'.2.2 with ⟨rfl, _⟩ | ⟨g', cap', cur', rfl, _, hg', _⟩
  · simp [Value.ownBlock] at hg
  · simp [Value.ownBlock] at hg
    subst hg
    intro e
    rcases h.2 with ⟨rfl, _⟩ | ⟨q, cap, cur, rfl, _, hq, _⟩
    · simp [Value.ownBlock] at e
    · simp [Value.ownBlock] at e
      subst e
      rw [hq] at hg'
      simp at hg'
theorem row_kept {w w' : World} {S : Nat → Prop} {base : Nat} {v : Value} {n : Nat} {xs : List Value} (h : w.ownsRow base 32 1 v n xs) (hk : Kp S w w') (hne : ∀ g, v.ownBlock = some g → ¬ S g) : w'.ownsRow base 32 1 v n xs := by
  refine ⟨h.1, ?_⟩
  rcases h.2 with hn | ⟨g, cap, cur, rfl, hb, hgg, rest⟩
  · exact .inl hn
  · refine .inr ⟨g, cap, cur, rfl, hb, ?_, rest⟩
    rw [hk.block g (Array.getElem?_eq_some_iff.1 hgg).1 (hne g rfl)]
    exact hgg

/-- k lists have been gone on with: list j has become Wv j, and stands in the list gsv. -/
structure Inv2 (w : World) (base m L : Nat) (V : Nat → Value) (N : Nat → Nat) (S2 k : Nat) (Wv : Nat → Value) (gsv : Value) : Prop where
  olds : ∀ j, j < m → Own w base (V j) (mks (j + 10) (N j))
  news : ∀ j, j < k → Own w base (Wv j) (mks (j + 10) (N j + 6))
  cell : ∀ j, j < m → w.cell? ⟨L, j, none⟩ = some (V j)
  far : ∀ j, j < k → ∀ i, k ≤ i → i < m → ∀ g, (Wv j).ownBlock = some g → (V i).ownBlock ≠ some g
  row : w.ownsRow S2 32 1 gsv k ((List.range k).map Wv)

theorem inv2_going {w0 w1 : World} {base m L : Nat} {V : Nat → Value} {N : Nat → Nat} {S2 k : Nat} {Wv : Nat → Value} {gsv u : Value} (hA : AP m L V) (hk : k < m) (h : Inv2 w0 base m L V N S2 k Wv gsv) (hG : Going w0 w1 base (V k) u (N k) (k + 10) 6) :
    Inv2 w1 base m L V N S2 k Wv gsv := by
  obtain ⟨hg, hV, hu, _⟩ := hG
  refine ⟨fun j hj => ?_, fun j hj => (h.news j hj).kept hg (fun q hq e => h.far j hj k (Nat.le_refl _) hk q hq e), fun j hj => kp_cell hg (h.cell j hj) (hA.dl k hk), h.far, row_kept h.row hg (fun q hq e => types_ne h.row (h.olds k hk) q e hq)⟩
  by_cases e : j = k
  · subst e; exact hV
  · exact (h.olds j hj).kept hg (fun q hq e2 => hA.dis j k hj hk e q hq e2)

theorem inv2_step {w0 w1 w2 : World} {base m L : Nat} {V : Nat → Value} {N : Nat → Nat} {S2 k : Nat} {Wv : Nat → Value} {gsv gsv' u : Value} (hA : AP m L V) (hk : k < m) (hL : L < S2) (h : Inv2 w0 base m L V N S2 k Wv gsv) (hG : Going w0 w1 base (V k) u (N k) (k + 10) 6)
    (hr : w2.ownsRow S2 32 1 gsv' (k + 1) ((List.range k).map Wv ++ [u])) (hg2 : Kp (fun q => gsv.ownBlock = some q) w1 w2) :
    Inv2 w2 base m L V N S2 (k + 1) (fun j => if j = k then u else Wv j) gsv' := by
  have h1 := inv2_going hA hk h hG
  have stay : ∀ {v : Value} {F : List Rn}, Own w1 base v F → Own w2 base v F := fun ho => ho.kept hg2 (fun q hq e => types_ne h1.row ho q hq e)
  refine ⟨fun j hj => stay (h1.olds j hj), fun j hj => ?_, fun j hj => kp_cell hg2 (h1.cell j hj) ?_, fun j hj i hi hm => ?_, ?_⟩
  · by_cases e : j = k
    · subst e
      simp only [if_true]
      exact stay hG.2.2.1
    · rw [if_neg e]
      exact stay (h1.news j (by omega))
  · intro e
    have := (h1.row.lt L e).1
    omega
  · by_cases e : j = k
    · subst e
      simp only [if_true]
      intro g hg e2
      rcases hG.2.2.2 with ⟨g', cap, e1, e3⟩ | hnew
      · rw [e3] at hg
        exact hA.dis i j hm hk (by omega) g e2 (by rw [e1]; exact hg)
      · have := hnew g hg
        have := ((h.olds i hm).lt g e2).2
        omega
    · rw [if_neg e]
      exact h1.far j (by omega) i (by omega) hm
  · have e : (List.range (k + 1)).map (fun j => if j = k then u else Wv j) = (List.range k).map Wv ++ [u] := by
      rw [List.range_succ, List.map_append]
      congr 1
      · apply List.map_congr_left
        intro j hj
        have := List.mem_range.1 hj
        rw [if_neg (by omega)]
      · simp
    rw [e]
    exact hr
end Go.Proofs.Ytadcindaafjckaa
