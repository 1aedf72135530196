/- Marks: what the statements' helper markRuns answers, and lists of marks. Several lists of runs that the call owns, each in memory of its own, and the list of them: what stays and what turns when one of them is written or gone on with. No function of the program in it. The helper 'ApartRuns' of the statements answers true wherever the lists that it is handed lie in memory of their own, each apart from the others: for every number of lists up to 900 and all their runs; nothing but these lists' blocks is written. -/
import Derived.Test.YtdmacflcjbkkpaaGreatJr
namespace Go.Proofs.YtdmacflcjbkkpaaGreat
open Go.ChangeShapes Go.WideShapes Go.ChangeAt Go.RowKit
theorem drop_cons {L : List Rn} {f : Nat} {r : Rn} (h : L[f]? = some r) : L.drop f = r :: L.drop (f + 1) := by
  obtain ⟨h1, rfl⟩ := List.getElem?_eq_some_iff.1 h
  exact List.drop_eq_getElem_cons h1
/-- Mark i of list k. -/
def Mk (k i : Int) : Rn := ⟨0, 0, -1000 * k - i - 7⟩
theorem Mk_ok (k i : Int) (hk : 0 ≤ k ∧ k < 1000000) (hi : 0 ≤ i ∧ i < 1000000000000000000) : (Mk k i).Ok := by
  refine ⟨⟨by simp [Mk], by simp [Mk]⟩, ⟨by simp [Mk], by simp [Mk]⟩, ?_⟩
  show _ ≤ -1000 * k - i - 7 ∧ -1000 * k - i - 7 ≤ _
  omega
theorem mark45 (k i : Int) (w : World) (hk : 0 ≤ k ∧ k < 1000000) (hi : 0 ≤ i ∧ i < 1000000000000000000) :
    Calls Tryz.prog 36 #[.int .i64 k, .int .i64 i] w fun e w' => e = .returned (.agg #[.int .u8 0, .int .i64 0, .int .i64 (-1000 * k - i - 7)]) ∧ w' = w.alloc (.cells #[.int .u8 0, .int .i64 0, .int .i64 (-1000 * k - i - 7)] 86) := by
  go_enter Tryz.func36, Tryz.ntmps36
  have h1 : IntKind.i64.wrap (-1000 * k) = -1000 * k := by rw [IntKind.wrap_i64]; omega
  have h2 : IntKind.i64.wrap (-1000 * k - i) = -1000 * k - i := by rw [IntKind.wrap_i64]; omega
  have h3 : IntKind.i64.wrap (-1000 * k - i - 7) = -1000 * k - i - 7 := by rw [IntKind.wrap_i64]; omega
  go_wp2
  refine bodyPost_ret (v := .agg #[.int .u8 0, .int .i64 0, .int .i64 (-1000 * k - i - 7)]) ?_ rfl ⟨rfl, rfl⟩
  exact results_cell_row rfl _ _ w.heap.size 86 _ (0, 0) _ rfl (heap_alloc_new w _) Tryz.underlying86 rfl (by kernel_rfl)

/-- n marks of list k. -/
def mks (k n : Nat) : List Rn := (List.range n).map fun (i : Nat) => Mk k i
theorem mks_length (k n : Nat) : (mks k n).length = n := by simp [mks]
theorem mks_succ (k n : Nat) : mks k (n + 1) = mks k n ++ [Mk k n] := by simp [mks, List.range_succ]
theorem mks_get (k n i : Nat) (h : i < n) : (mks k n)[i]? = some (Mk k i) := by simp [mks, h]
theorem mks_ok (k n : Nat) (hk : k < 1000000) (hn : n < 1000000000000000000) : ∀ r ∈ mks k n, r.Ok := by
  intro r hr
  simp [mks] at hr
  obtain ⟨i, hi, rfl⟩ := hr
  exact Mk_ok _ _ (by omega) (by omega)
theorem mks_set (k i : Nat) (L : List Rn) (h : i < L.length) : (mks k i ++ L.drop i).set i (Mk k i) = mks k (i + 1) ++ L.drop (i + 1) := by
  obtain ⟨r, hr⟩ := get_of_lt h
  rw [drop_cons hr, List.set_append_right _ _ (by rw [mks_length]; exact Nat.le_refl _), mks_length, Nat.sub_self, List.set_cons_zero, mks_succ, List.append_assoc]
  rfl

theorem markAt (k i c : Int) (w : World) (hk : 0 ≤ k ∧ k < 1000000) (hi : 0 ≤ i ∧ i < 1000000000000000000) (hc : c = -1000 * k - i - 7) :
    Calls Tryz.prog 36 #[.int .i64 k, .int .i64 i] w fun e w' => e = .returned (.agg #[.int .u8 0, .int .i64 0, .int .i64 c]) ∧ w' = w.alloc (.cells #[.int .u8 0, .int .i64 0, .int .i64 c] 86) := by
  subst hc; exact mark45 k i w hk hi
end Go.Proofs.YtdmacflcjbkkpaaGreat
namespace Go.Proofs.YtdmacflcjbkkpaaGreat
open Go.ChangeShapes Go.WideShapes Go.ChangeAt Go.RowKit

theorem room_le {a b X : Nat} (hb : b * 24 ≤ X) (h : a ≤ b) : a * 24 ≤ X := Nat.le_trans (Nat.mul_le_mul_right 24 h) hb
theorem own_prefix {w : World} {base g n m cap : Nat} {L M : List Rn} (h : Own w base (.slice (some ⟨g, 0, none⟩) m cap) (L ++ M)) (hm : (L ++ M).length = m) (hn : L.length = n) : Own w base (.slice (some ⟨g, 0, none⟩) n cap) L := by
  subst hm hn
  refine ⟨fun r hr => h.1 r (List.mem_append_left _ hr), rl_length L, .inr ?_⟩
  rcases h.2.2 with ⟨h', _⟩ | ⟨g', cap', cur, h', hb, hg, hnc, hcm, hcs, ht⟩
  · simp at h'
  · simp only [Value.slice.injEq, Option.some.injEq, Addr.mk.injEq, and_true, true_and] at h'
    obtain ⟨rfl, rfl⟩ := h'
    refine ⟨g, cap, cur, rfl, hb, hg, by rw [List.length_append] at hnc; omega, hcm, hcs, ?_⟩
    have e : (rl (L ++ M)).take (L.length * 3) = rl L := by
      rw [rl_append, ← rl_length L, List.take_left]
    rw [← e, ← ht, List.take_take, Nat.min_eq_left (by rw [List.length_append]; omega)]

/-- A list gone on with by one run: where the longer one lies. -/
theorem wpList_pushAt {w : World} {ops : Array Oper} {rest : List Oper} {o : Oper} {a : Act} {Q : Exit → Act → World → Prop} (hgd : o.guard = none) (s x : Operand)
    (ho : o.op = .call { callee := .builtin .append, args := #[s, x], argTypes := #[33, 33] })
    (base : Nat) (u : Value) (L : List Rn) (r : Rn) (hu : Own w base u L) (hr : r.Ok) (hb0 : base ≤ w.heap.size) (hN : (L.length + 1) * 24 ≤ 140737488355328) (ad : Addr)
    (hs : a.eval s = u) (hx : a.eval x = .slice (some ad) 1 1) (hc : ∀ j u, (rl [r])[j]? = some u → w.cell? (ad.add j) = some u)
    (h : ∀ u' w', Own w' base u' (L ++ [r]) → Kp (fun k => u.ownBlock = some k) w w' → ((∃ g cap, u = .slice (some ⟨g, 0, none⟩) L.length cap ∧ u' = .slice (some ⟨g, 0, none⟩) (L.length + 1) cap) ∨ (∀ g, u'.ownBlock = some g → w.heap.size ≤ g) ∧ Kp (fun _ => False) w w') → wpList Tryz.prog ops Q rest (a.put o.dst u') w') : wpList Tryz.prog ops Q (o :: rest) a w := by
  obtain ⟨i0, hi, hz0, hz1, hz2⟩ := info_parts info70
  have hok : ∀ q ∈ L ++ [r], q.Ok := by
    intro q hq
    rcases List.mem_append.1 hq with hq | hq
    · exact hu.1 q hq
    · simp at hq; subst hq; exact hr
  have grows : ∀ (ao : Option Addr) (cap : Nat), u = .slice ao L.length cap → (ao = none → L.length = 0 ∧ cap = 0) → (∀ b, ao = some b → ∀ j v, (rl L)[j]? = some v → w.cell? (b.add j) = some v) → cap < L.length + 1 →
      wpList Tryz.prog ops Q (o :: rest) a w := by
    intro ao cap hu' hnone hcells hcap
    refine wpList_append_grows _ hgd s x 33 ho 86 i0 (.agg #[.int .u8 0, .int .i64 0, .int .i64 0]) 3 24 Tryz.underlying33 hi hz0 hz1 hz2 rfl (by decide) ao L.length cap (rl L) (hs.trans hu') hnone (rl_length L) hcells ad 1 1 (rl [r]) hx rfl hc (rl_oneCell [r]) hcap (by simp [maxLen]; omega) hN ?_
    intro u' w' hown hgr
    rw [← rl_append] at hown
    have hO : Own w' w.heap.size u' (L ++ [r]) := ⟨hok, by rw [List.length_append]; exact hown⟩
    exact h u' w' (hO.base hb0) ((Kp.of_grown hgr).mono fun k _ e => by cases e) (.inr ⟨fun g hg => (hO.lt g hg).1, (Kp.of_grown hgr).mono fun k _ e => by cases e⟩)
  rcases hu.shape with ⟨hun, hn0⟩ | ⟨g, cap, hun, hgb, hgl, hnc, hcm, hcc, _⟩
  · subst hn0
    exact grows none 0 hun (fun _ => ⟨rfl, rfl⟩) (fun b hb => by cases hb) (by simp)
  · by_cases hcap : L.length + 1 ≤ cap
    · subst hun
      refine wpList_append_fits _ hgd s x 33 ho base 86 i0 3 Tryz.underlying33 hi hz1 g L.length cap (rl L) hs hu.2 ad 1 1 (rl [r]) hx rfl hc (rl_oneCell [r]) hcap ?_
      intro w' hown hgr
      rw [← rl_append] at hown
      exact h _ w' ⟨hok, by rw [List.length_append]; exact hown⟩ (Kp.of_grown hgr) (.inl ⟨g, cap, rfl, rfl⟩)
    · subst hun
      refine grows (some ⟨g, 0, none⟩) cap rfl (fun h => by cases h) (fun b hb => ?_) (by omega)
      cases hb
      exact rb_cells hu.reads

/-- The state while list Vk of n marks is gone on with: u is what it has become. -/
def Going (w0 w : World) (base : Nat) (Vk u : Value) (n c i : Nat) : Prop :=
  Kp (fun q => Vk.ownBlock = some q) w0 w ∧ Own w base Vk (mks c n) ∧ Own w base u (mks c (n + i)) ∧
    ((∃ g cap, Vk = .slice (some ⟨g, 0, none⟩) n cap ∧ u = .slice (some ⟨g, 0, none⟩) (n + i) cap) ∨ (∀ q, u.ownBlock = some q → w0.heap.size ≤ q))

theorem Going.alloc {w0 w : World} {base : Nat} {Vk u : Value} {n c i : Nat} (h : Going w0 w base Vk u n c i) (o : Obj) : Going w0 (w.alloc o) base Vk u n c i :=
  ⟨h.1.trans (Kp.of_below (fun _ => False) (below_alloc _ _)) (fun _ _ e => e.elim), h.2.1.alloc o, h.2.2.1.alloc o, h.2.2.2⟩

theorem going_next {w0 w w' : World} {base : Nat} {Vk u u' : Value} {n c i : Nat} (hG : Going w0 w base Vk u n c i) (hlt : ∀ q, Vk.ownBlock = some q → q < w0.heap.size)
    (ho : Own w' base u' (mks c (n + i) ++ [Mk c (n + i : Nat)])) (hk : Kp (fun k => u.ownBlock = some k) w w')
    (hs : (∃ g cap, u = .slice (some ⟨g, 0, none⟩) (mks c (n + i)).length cap ∧ u' = .slice (some ⟨g, 0, none⟩) ((mks c (n + i)).length + 1) cap) ∨ (∀ g, u'.ownBlock = some g → w.heap.size ≤ g) ∧ Kp (fun _ => False) w w') : Going w0 w' base Vk u' n c (i + 1) := by
  obtain ⟨g1, g2, g3, g4⟩ := hG
  have ho' : Own w' base u' (mks c (n + (i + 1))) := by rw [← Nat.add_assoc, mks_succ]; exact ho
  rcases hs with ⟨g, cap, hu, hu'⟩ | ⟨hs, hk0⟩
  · rw [mks_length] at hu hu'
    rcases g4 with ⟨g', cap', hV, hu2⟩ | hnew
    · rw [hu] at hu2
      simp only [Value.slice.injEq, Option.some.injEq, Addr.mk.injEq, and_true, true_and] at hu2
      obtain ⟨rfl, rfl⟩ := hu2
      have hpre : Own w' base Vk (mks c n) := by
        rw [hV]
        rw [hu'] at ho'
        have e : mks c (n + (i + 1)) = mks c n ++ (mks c (n + (i + 1))).drop n := by
          have : (mks c (n + (i + 1))).take n = mks c n := by
            simp [mks, ← List.map_take, List.take_range]
          rw [← this, List.take_append_drop]
        rw [e] at ho'
        exact own_prefix ho' (by rw [← e, mks_length]; omega) (mks_length _ _)
      refine ⟨g1.trans hk (fun q _ e => by rw [hV]; rw [hu] at e; exact e), hpre, ho', .inl ⟨g, cap, hV, by rw [hu', Nat.add_assoc]⟩⟩
    · refine ⟨g1.trans hk (fun q hq e => by have := hnew q e; omega), g2.kept hk (fun q hq e => by have := hnew q e; have := hlt q hq; omega), ho', .inr (fun q hq => ?_)⟩
      rw [hu'] at hq
      exact hnew q (by rw [hu]; exact hq)
  · refine ⟨g1.trans hk0 (fun _ _ e => e.elim), g2.kept hk0 (fun _ _ e => e), ho', .inr (fun q hq => ?_)⟩
    have := hs q hq
    have := g1.size
    omega

/-- The m lists V lie apart, and apart from the block L of their list. -/
structure AP (m L : Nat) (V : Nat → Value) : Prop where
  dis : ∀ i j, i < m → j < m → i ≠ j → ∀ g, (V i).ownBlock = some g → (V j).ownBlock ≠ some g
  dl : ∀ j, j < m → (V j).ownBlock ≠ some L

/-- List j holds the runs F j, and stands at place j of block L. -/
def Inv1 (w : World) (base m L : Nat) (V : Nat → Value) (F : Nat → List Rn) : Prop :=
  (∀ j, j < m → Own w base (V j) (F j)) ∧ ∀ j, j < m → w.cell? ⟨L, j, none⟩ = some (V j)

theorem kp_cell {S : Nat → Prop} {w w' : World} (hk : Kp S w w') {b off : Nat} {v : Value} (h : w.cell? ⟨b, off, none⟩ = some v) (hn : ¬ S b) : w'.cell? ⟨b, off, none⟩ = some v := by
  rw [World.cell?_of_block (w := w) (a := ⟨b, off, none⟩) (hk.block b (block_lt_of_cell h) hn)]; exact h

/-- Behind list k's first i runs. -/
def G1 (F : Nat → List Rn) (N : Nat → Nat) (k i j : Nat) : List Rn := if j < k then mks (j + 10) (N j) else if j = k then mks (k + 10) i ++ (F k).drop i else F j
theorem G1_start (F : Nat → List Rn) (N : Nat → Nat) (k : Nat) : G1 F N k 0 = fun j => if j < k then mks (j + 10) (N j) else F j := by
  funext j
  unfold G1
  by_cases h : j < k
  · rw [if_pos h, if_pos h]
  · rw [if_neg h, if_neg h]
    by_cases e : j = k
    · subst e; rw [if_pos rfl]; rfl
    · rw [if_neg e]
theorem G1_next (F : Nat → List Rn) (N : Nat → Nat) (k j : Nat) (hN : (F k).length = N k) : G1 F N k (N k) j = G1 F N (k + 1) 0 j := by
  rw [G1_start]
  unfold G1
  by_cases h : j < k
  · rw [if_pos h]; show _ = if j < k + 1 then _ else _; rw [if_pos (by omega)]
  · rw [if_neg h]
    by_cases e : j = k
    · subst e; rw [if_pos rfl]; show _ = if j < j + 1 then _ else _; rw [if_pos (by omega), List.drop_eq_nil_of_le (by omega), List.append_nil]
    · rw [if_neg e]; show _ = if j < k + 1 then _ else _; rw [if_neg (by omega)]

theorem inv1_store0 {w : World} {base m L : Nat} {V : Nat → Value} {N : Nat → Nat} {F : Nat → List Rn} (hA : AP m L V) (k i g n cap : Nat) (h : Inv1 w base m L V (G1 F N k i)) (hk : k < m) (hV : V k = .slice (some ⟨g, 0, none⟩) n cap) (hN : (F k).length = n) (hi : i < n) (hk2 : k < 1000) (hn : n < 10000000000000) :
    Inv1 (((w.setCell ⟨g, i * 3, none⟩ (.int .u8 0)).setCell ⟨g, i * 3 + 1, none⟩ (.int .i64 0)).setCell ⟨g, i * 3 + 2, none⟩ (.int .i64 (Mk ((k + 10 : Nat) : Int) i).c)) base m L V (G1 F N k (i + 1)) ∧
      Kp (fun q => q = g) w (((w.setCell ⟨g, i * 3, none⟩ (.int .u8 0)).setCell ⟨g, i * 3 + 1, none⟩ (.int .i64 0)).setCell ⟨g, i * 3 + 2, none⟩ (.int .i64 (Mk ((k + 10 : Nat) : Int) i).c)) := by
  have hk1 := h.1 k hk
  have eG : G1 F N k i k = mks (k + 10) i ++ (F k).drop i := by unfold G1; rw [if_neg (by omega), if_pos rfl]
  have eG' : G1 F N k (i + 1) k = mks (k + 10) (i + 1) ++ (F k).drop (i + 1) := by unfold G1; rw [if_neg (by omega), if_pos rfl]
  have hlen : (mks (k + 10) i ++ (F k).drop i).length = n := by rw [List.length_append, mks_length, List.length_drop]; omega
  rw [hV, eG] at hk1
  have S := Own.setR (i := i) (Mk ((k + 10 : Nat) : Int) i) (L := mks (k + 10) i ++ (F k).drop i) (cap := cap) (g := g) (base := base) (w := w) (by rw [hlen]; exact hk1) (by omega) (Mk_ok _ _ (by omega) (by omega))
  rw [hlen, mks_set (k + 10) i (F k) (by omega)] at S
  have S2 : Kp (fun q => q = g) w (((w.setCell ⟨g, i * 3, none⟩ (.int .u8 0)).setCell ⟨g, i * 3 + 1, none⟩ (.int .i64 0)).setCell ⟨g, i * 3 + 2, none⟩ (.int .i64 (Mk ((k + 10 : Nat) : Int) i).c)) := S.2
  refine ⟨⟨fun j hj => ?_, fun j hj => kp_cell S2 (h.2 j hj) (fun e => hA.dl k hk (by rw [hV]; exact congrArg some e.symm))⟩, S2⟩
  by_cases e : j = k
  · subst e; rw [hV, eG']; exact S.1
  · have ej : G1 F N k (i + 1) j = G1 F N k i j := by unfold G1; rw [if_neg e, if_neg e]
    rw [ej]
    exact (h.1 j hj).kept S2 (fun q hq e2 => hA.dis j k hj hk e q hq (by rw [hV, e2]; rfl))

theorem inv1_store {w : World} {base m L : Nat} {V : Nat → Value} {N : Nat → Nat} {F : Nat → List Rn} (hA : AP m L V) (k i g n cap : Nat) (h : Inv1 w base m L V (G1 F N k i)) (hk : k < m) (hV : V k = .slice (some ⟨g, 0, none⟩) n cap) (hN : (F k).length = n) (hi : i < n) (hk2 : k < 1000) (hn : n < 10000000000000) :
    Inv1 (((w.setCell ⟨g, i * 3, none⟩ (.int .u8 0)).setCell ⟨g, i * 3 + 1, none⟩ (.int .i64 0)).setCell ⟨g, i * 3 + 2, none⟩ (.int .i64 (Mk ((k : Int) + 10) i).c)) base m L V (G1 F N k (i + 1)) ∧
      Kp (fun q => q = g) w (((w.setCell ⟨g, i * 3, none⟩ (.int .u8 0)).setCell ⟨g, i * 3 + 1, none⟩ (.int .i64 0)).setCell ⟨g, i * 3 + 2, none⟩ (.int .i64 (Mk ((k : Int) + 10) i).c)) := by
  have h1 := inv1_store0 hA k i g n cap h hk hV hN hi hk2 hn
  rwa [show ((k + 10 : Nat) : Int) = (k : Int) + 10 by omega] at h1

theorem info32 : (Tryz.prog.info? 33).map (fun i => (i.zero, i.size, i.bytes)) = some (some (.slice none 0 0), 1, 24) := by kernel_rfl

/-- Lists of lists and lists of runs lie in blocks of other types. -/
theorem types_ne {w : World} {S base : Nat} {v v' : Value} {n : Nat} {xs : List Value} {F : List Rn} (h : w.ownsRow S 33 1 v n xs) (h' : Own w base v' F) (g : Nat) (hg : v'.ownBlock = some g) : v.ownBlock ≠ some g := by
  rcases h'.2.2 with ⟨rfl, _⟩ | ⟨g', cap', cur', rfl, _, hg', _⟩
  · simp [Value.ownBlock] at hg
  · simp [Value.ownBlock] at hg
    subst hg
    intro e
    rcases h.2 with ⟨rfl, _⟩ | ⟨q, cap, cur, rfl, _, hq, _⟩
    · simp [Value.ownBlock] at e
    · simp [Value.ownBlock] at e
      subst e
      rw [hq] at hg'
      simp at hg'
theorem row_kept {w w' : World} {S : Nat → Prop} {base : Nat} {v : Value} {n : Nat} {xs : List Value} (h : w.ownsRow base 33 1 v n xs) (hk : Kp S w w') (hne : ∀ g, v.ownBlock = some g → ¬ S g) : w'.ownsRow base 33 1 v n xs := by
  refine ⟨h.1, ?_⟩
  rcases h.2 with hn | ⟨g, cap, cur, rfl, hb, hgg, rest⟩
  · exact .inl hn
  · refine .inr ⟨g, cap, cur, rfl, hb, ?_, rest⟩
    rw [hk.block g (Array.getElem?_eq_some_iff.1 hgg).1 (hne g rfl)]
    exact hgg

/-- k lists have been gone on with: list j has become Wv j, and stands in the list gsv. -/
structure Inv2 (w : World) (base m L : Nat) (V : Nat → Value) (N : Nat → Nat) (S2 k : Nat) (Wv : Nat → Value) (gsv : Value) : Prop where
  olds : ∀ j, j < m → Own w base (V j) (mks (j + 10) (N j))
  news : ∀ j, j < k → Own w base (Wv j) (mks (j + 10) (N j + 6))
  cell : ∀ j, j < m → w.cell? ⟨L, j, none⟩ = some (V j)
  far : ∀ j, j < k → ∀ i, k ≤ i → i < m → ∀ g, (Wv j).ownBlock = some g → (V i).ownBlock ≠ some g
  row : w.ownsRow S2 33 1 gsv k ((List.range k).map Wv)

theorem inv2_going {w0 w1 : World} {base m L : Nat} {V : Nat → Value} {N : Nat → Nat} {S2 k : Nat} {Wv : Nat → Value} {gsv u : Value} (hA : AP m L V) (hk : k < m) (h : Inv2 w0 base m L V N S2 k Wv gsv) (hG : Going w0 w1 base (V k) u (N k) (k + 10) 6) :
    Inv2 w1 base m L V N S2 k Wv gsv := by
  obtain ⟨hg, hV, hu, _⟩ := hG
  refine ⟨fun j hj => ?_, fun j hj => (h.news j hj).kept hg (fun q hq e => h.far j hj k (Nat.le_refl _) hk q hq e), fun j hj => kp_cell hg (h.cell j hj) (hA.dl k hk), h.far, row_kept h.row hg (fun q hq e => types_ne h.row (h.olds k hk) q e hq)⟩
  by_cases e : j = k
  · subst e; exact hV
  · exact (h.olds j hj).kept hg (fun q hq e2 => hA.dis j k hj hk e q hq e2)

theorem inv2_step {w0 w1 w2 : World} {base m L : Nat} {V : Nat → Value} {N : Nat → Nat} {S2 k : Nat} {Wv : Nat → Value} {gsv gsv' u : Value} (hA : AP m L V) (hk : k < m) (hL : L < S2) (h : Inv2 w0 base m L V N S2 k Wv gsv) (hG : Going w0 w1 base (V k) u (N k) (k + 10) 6)
    (hr : w2.ownsRow S2 33 1 gsv' (k + 1) ((List.range k).map Wv ++ [u])) (hg2 : Kp (fun q => gsv.ownBlock = some q) w1 w2) :
    Inv2 w2 base m L V N S2 (k + 1) (fun j => if j = k then u else Wv j) gsv' := by
  have h1 := inv2_going hA hk h hG
  have stay : ∀ {v : Value} {F : List Rn}, Own w1 base v F → Own w2 base v F := fun ho => ho.kept hg2 (fun q hq e => types_ne h1.row ho q hq e)
  refine ⟨fun j hj => stay (h1.olds j hj), fun j hj => ?_, fun j hj => kp_cell hg2 (h1.cell j hj) ?_, fun j hj i hi hm => ?_, ?_⟩
  · by_cases e : j = k
    · subst e
      simp only [if_true]
      exact stay hG.2.2.1
    · rw [if_neg e]
      exact stay (h1.news j (by omega))
  · intro e
    have := (h1.row.lt L e).1
    omega
  · by_cases e : j = k
    · subst e
      simp only [if_true]
      intro g hg e2
      rcases hG.2.2.2 with ⟨g', cap, e1, e3⟩ | hnew
      · rw [e3] at hg
        exact hA.dis i j hm hk (by omega) g e2 (by rw [e1]; exact hg)
      · have := hnew g hg
        have := ((h.olds i hm).lt g e2).2
        omega
    · rw [if_neg e]
      exact h1.far j (by omega) i (by omega) hm
  · have e : (List.range (k + 1)).map (fun j => if j = k then u else Wv j) = (List.range k).map Wv ++ [u] := by
      rw [List.range_succ, List.map_append]
      congr 1
      · apply List.map_congr_left
        intro j hj
        have := List.mem_range.1 hj
        rw [if_neg (by omega)]
      · simp
    rw [e]
    exact hr
end Go.Proofs.YtdmacflcjbkkpaaGreat
namespace Go.Proofs.YtdmacflcjbkkpaaGreat
open Go.ChangeShapes Go.WideShapes Go.ChangeAt Go.RowKit
theorem mark_c (k : Nat) (i : Nat) : (Mk ((k : Int) + 10) i).c = -1000 * ((k : Int) + 10) - i - 7 := rfl
theorem kp_drew {S : Nat → Prop} {a b : World} (h : Kp S a b) : Kp S a b.drew := ⟨h.os, h.tape, h.output, h.size, h.block⟩
theorem kp_alloc {S : Nat → Prop} {a b : World} (h : Kp S a b) (o : Obj) : Kp S a (b.alloc o) := h.trans (Kp.of_below (fun _ => False) (below_alloc b o)) (fun _ _ e => e.elim)
set_option maxRecDepth 100000 in
set_option maxHeartbeats 3000000 in
theorem apart15 (S : Nat → Prop) (base m L capL : Nat) (V : Nat → Value) (N : Nat → Nat) (F : Nat → List Rn) (w : World) (hA : AP m L V) (hI : Inv1 w base m L V F) (hNF : ∀ j, j < m → (F j).length = N j) (hm : m ≤ 900) (hNb : ∀ j, j < m → (N j + 7) * 24 ≤ 140737488355328) (hb : base ≤ w.heap.size) (hL : L < w.heap.size) (hS : ∀ j, j < m → ∀ q, (V j).ownBlock = some q → S q) :
    Calls Tryz.prog 14 #[.slice (some ⟨L, 0, none⟩) m capL] w fun e w' => e = .returned (.bool true) ∧ Kp S w w' := by
  have HI : Hid (Inv1 w base m L V (G1 F N 0 0)) := by
    rw [G1_start]
    exact hI
  have HN := hid hNb
  have HNF := hid hNF
  have HA := hid hA
  have HQ := hid hS
  clear hI hNF hNb hA hS
  go_enter Tryz.func14, Tryz.ntmps14
  go_wp2
  go_loopw [3] (fun x wr => ∃ k : Nat, k ≤ m ∧ x = .int .i64 k ∧ Inv1 wr base m L V (G1 F N k 0) ∧ Kp S w wr) (fun x _ => m - (intOf x).toNat)
  case atStart => exact ⟨0, Nat.zero_le _, rfl, HI.out, Kp.refl _ _⟩
  case round =>
    obtain ⟨k, hk, rfl, hinv, hbel⟩ := hrel
    clear HI
    have HI := hid hinv
    have HB := hid hbel
    clear hinv hbel
    by_cases hlt : k < m
    · have hNk := HN.out k hlt
      have hown := HI.out.1 k hlt
      have eF : G1 F N k 0 k = F k := by rw [G1_start]; show (if k < k then _ else _) = _; rw [if_neg (by omega)]
      rw [eF] at hown
      have hFl := HNF.out k hlt
      rcases hown.shape with ⟨hv, h0⟩ | ⟨g, cap, hv, hgb, hgl, hnc, hcm, _, _⟩
      · have hc := HI.out.2 k hlt
        rw [hv] at hc
        have hv := hid hv
        have hN0 : Hid (N k = 0) := by show _ = _; rw [← hFl, h0]; rfl
        have HF0 := hid hFl
        clear hown h0 hFl eF
        go_wp2
        go_loopw [4] (fun y wr' => y = .int .i64 0 ∧ wr' = wr) (fun _ _ => 0)
        case atStart => exact ⟨rfl, rfl⟩
        case round =>
          obtain ⟨rfl, rfl⟩ := hrel
          go_wp2
          go_roundw
          case rel =>
            refine ⟨k + 1, by omega, by go_num, ?_, HB.out⟩
            refine ⟨fun j hj => ?_, HI.out.2⟩
            rw [← G1_next F N k j HF0.out, hN0.out]
            exact HI.out.1 j hj
          case measure => simp [intOf]; omega
      · rw [hFl] at hv hnc
        obtain ⟨n, hn⟩ : ∃ n, N k = n := ⟨_, rfl⟩
        rw [hn] at hv hnc hNk hFl
        have HV := hid hv
        have Hn := hid hn
        have HF0 := hid hFl
        have hgb' : base ≤ g := hgb
        clear hv hn hown hFl eF hgb
        go_wp2
        go_loopw [4] (fun y wr' => ∃ i : Nat, i ≤ n ∧ y = .int .i64 i ∧ Inv1 wr' base m L V (G1 F N k i) ∧ Kp S w wr') (fun y _ => n - (intOf y).toNat)
        case atStart => exact ⟨0, Nat.zero_le _, rfl, HI.out, HB.out⟩
        case round =>
          obtain ⟨i, hi, rfl, hinv, hbel⟩ := hrel
          clear HI HB
          have HI := hid hinv
          have HB := hid hbel
          have hc := hinv.2 k hlt
          rw [HV.out] at hc
          have hO := hinv.1 k hlt
          rw [HV.out] at hO
          clear hinv hbel
          by_cases hil : i < n
          · have hlen : (G1 F N k i k).length = n := by
              obtain ⟨_, a, c, he, _⟩ := hO.reads
              simp only [Value.slice.injEq] at he
              exact he.2.1.symm
            obtain ⟨r, hr⟩ := get_of_lt (L := G1 F N k i k) (k := i) (by rw [hlen]; exact hil)
            obtain ⟨b', off', hbb, c1, c2, c3⟩ := hO.reads.at hr
            simp only [Option.some.injEq, Addr.mk.injEq, and_true] at hbb
            obtain ⟨rfl, rfl⟩ := hbb
            rw [Nat.zero_add] at c1 c2 c3
            have z1 := hO.2
            rw [hlen] at z1
            have f1 := z1.frozenAt (i * 3)
            have f2 := z1.frozenAt (i * 3 + 1)
            have f3 := z1.frozenAt (i * 3 + 2)
            have hbl := block_lt_of_cell c1
            have hLl := block_lt_of_cell hc
            have HO := hid hO
            clear hO z1 hlen hr
            have l1 : (i : Int) < n := by omega
            have l2 : (k : Int) < m := by omega
            have hw10 : IntKind.i64.wrap ((k : Int) + 10) = (k : Int) + 10 := by rw [IntKind.wrap_i64]; omega
            have hgL : ¬ g = L := fun e => by have := HA.out.dl k hlt; rw [HV.out, e] at this; exact this rfl
            have hLg : ¬ L = g := fun e => hgL e.symm
            have HM := hid (fun W => markAt ((k : Int) + 10) (i : Int) (Mk ((k : Int) + 10) i).c W (by omega) (by omega) (mark_c k i))
            have St := inv1_store HA.out k i g n cap HI.out hlt HV.out HF0.out hil (by omega) (by omega)
            have S1 := hid St.1
            have S2 := hid (HB.out.trans St.2 (fun q _ e => HQ.out k hlt q (by rw [HV.out, e]; rfl)))
            clear St
            go_wp2
            go_region_held3 (fun w' => w'.cell? ⟨L, k, none⟩ = some (.slice (some ⟨g, 0, none⟩) n cap)) (go_keep) (first | (go_at_call 36; refine (HM.out _).mono ?_; rintro e w' ⟨rfl, rfl⟩))
            go_wp2
            go_roundw
            case rel => exact ⟨i + 1, by omega, by go_num, ⟨fun j hj => (S1.out.1 j hj).alloc _, fun j hj => kp_cell (Kp.of_below (fun _ => False) (below_alloc _ _)) (S1.out.2 j hj) (fun e => e)⟩, kp_drew (kp_alloc S2.out _)⟩
            case measure => simp [intOf]; omega
          · have e : i = n := by omega
            subst e
            clear hO
            go_wp2
            go_roundw
            case rel =>
              refine ⟨k + 1, by omega, by go_num, ⟨fun j hj => ?_, HI.out.2⟩, HB.out⟩
              rw [← G1_next F N k j (by rw [HF0.out, Hn.out]), Hn.out]
              exact HI.out.1 j hj
            case measure => simp [intOf]; omega
    · have e : m = k := by omega
      subst e
      have HE : Hid (∀ j, j < m → Own wr base (V j) (mks (j + 10) (N j))) := fun j hj => by
        have h := HI.out.1 j hj
        rw [G1_start] at h
        have e2 : (if j < m then mks (j + 10) (N j) else F j) = mks (j + 10) (N j) := if_pos hj
        rw [← e2]; exact h
      have HC := hid HI.out.2
      obtain ⟨wp, hwp⟩ : ∃ x, x = wr := ⟨_, rfl⟩
      subst hwp
      have hLlt : L < wp.heap.size := Nat.lt_of_lt_of_le hL HB.out.size
      have hbr : base ≤ wp.heap.size := Nat.le_trans hb HB.out.size
      have hww : w.heap.size ≤ wp.heap.size := HB.out.size
      clear HI hk hlt
      obtain ⟨i0, hi, hz0, hz1, hz2⟩ := info_parts info32
      go_wp2
      go_loopw [5, 6] (fun gsv x wq => ∃ k : Nat, k ≤ m ∧ x = .int .i64 k ∧ (∃ Wv, Inv2 wq base m L V N wp.heap.size k Wv gsv) ∧ Kp S w wq ∧ wp.heap.size ≤ wq.heap.size) (fun _ x _ => m - (intOf x).toNat)
      case atStart => exact ⟨0, Nat.zero_le _, rfl, ⟨fun _ => .slice none 0 0, ⟨HE.out, fun j hj => by omega, HC.out, fun j hj => by omega, World.ownsRow_nil _ _ _ _⟩⟩, HB.out, Nat.le_refl _⟩
      case round =>
        obtain ⟨k, hk, rfl, ⟨Wv, hinv⟩, hbel, hsz⟩ := hrel
        clear HE HC HB
        have HI := hid hinv
        have HB := hid hbel
        clear hinv hbel
        obtain ⟨wq, hwq⟩ : ∃ x, x = wr := ⟨_, rfl⟩
        subst hwq
        by_cases hlt : k < m
        · have hNk := HN.out k hlt
          have hOk := HI.out.olds k hlt
          obtain ⟨n, hn⟩ : ∃ n, N k = n := ⟨_, rfl⟩
          rw [hn] at hOk hNk
          obtain ⟨a, cap, hv⟩ : ∃ a cap, V k = .slice a n cap := by
            obtain ⟨a, cap, e⟩ := hOk.reads.isSlice
            exact ⟨a, cap, by rw [mks_length] at e; exact e⟩
          have hG0 : Hid (Going wq wq base (V k) (V k) n (k + 10) 0) := by
            refine ⟨Kp.refl _ _, hOk, hOk, ?_⟩
            rcases hOk.shape with ⟨h1, h2⟩ | ⟨g, cap, h1, _⟩
            · exact .inr (fun q hq => by rw [h1] at hq; simp [Value.ownBlock] at hq)
            · rw [mks_length] at h1
              exact .inl ⟨g, cap, h1, h1⟩
          have hltb : Hid (∀ q, (V k).ownBlock = some q → q < wq.heap.size) := fun q hq => (hOk.lt q hq).2
          have hlow : Hid (∀ q, (V k).ownBlock = some q → base ≤ q) := fun q hq => (hOk.lt q hq).1
          have hc := HI.out.cell k hlt
          have hbq : base ≤ wq.heap.size := Nat.le_trans hb HB.out.size
          rw [hv] at hc
          have HV := hid hv
          have Hn := hid hn
          clear hv hn hOk
          go_wp2
          go_loopw [7, 8] (fun u y w1 => ∃ i : Nat, i ≤ 6 ∧ y = .int .i64 i ∧ Going wq w1 base (V k) u n (k + 10) i) (fun _ y _ => 6 - (intOf y).toNat)
          case atStart => exact ⟨0, Nat.zero_le _, rfl, by rw [HV.out] at hG0 ⊢; exact hG0.out⟩
          case round =>
            obtain ⟨i, hi6, rfl, hgo⟩ := hrel
            have HG := hid hgo
            have hc1 : wr.cell? ⟨L, k, none⟩ = some (.slice a n cap) := kp_cell hgo.1 hc (HA.out.dl k hlt)
            clear hgo hc
            have hw10 : IntKind.i64.wrap ((k : Int) + 10) = (k : Int) + 10 := by rw [IntKind.wrap_i64]; omega
            have hwni : IntKind.i64.wrap ((n : Int) + i) = (n : Int) + i := by rw [IntKind.wrap_i64]; omega
            have l2 : (k : Int) < m := by omega
            by_cases hil : i < 6
            · have HM := hid (fun W => markAt ((k : Int) + 10) ((n : Int) + i) (Mk ((k : Int) + 10) ((n : Int) + i)).c W (by omega) (by omega) rfl)
              have HMo := hid (Mk_ok ((k : Int) + 10) ((n : Int) + i) (by omega) (by omega))
              have Hroom : Hid (((mks (k + 10) (n + i)).length + 1) * 24 ≤ 140737488355328) := by show _ * 24 ≤ _; rw [mks_length]; exact room_le hNk (by clear hNk; omega)
              have hszw : base ≤ wr.heap.size := Nat.le_trans hbq HG.out.1.size
              have Hszw := hid hszw
              go_wp2_with (first | (go_at_call 36; refine (HM.out _).mono ?_; rintro e w' ⟨rfl, rfl⟩) | (at_builtin; go_must (refine wpList_pushAt rfl _ _ rfl base _ (mks (k + 10) (n + i)) (Mk ((k : Int) + 10) ((n : Int) + i)) ((HG.out.alloc _).alloc _).2.2.1 HMo.out ?c1 Hroom.out ⟨_, 0, none⟩ rfl rfl ?c3 ?_)))
              case c1 => exact Nat.le_trans Hszw.out (by simp <;> omega)
              case c3 => exact cells_new' _ (Mk ((k : Int) + 10) ((n : Int) + i)) _ (by simp)
              intro u' w2 hown hkp hsn
              have eM : Mk ((k : Int) + 10) ((n : Int) + i) = Mk ((k + 10 : Nat) : Int) ((n + i : Nat) : Int) := by rw [Int.natCast_add, Int.natCast_add]; rfl
              rw [eM] at hown
              have HG2 := hid (going_next ((HG.out.alloc _).alloc _) hltb.out hown hkp (hsn.imp id (fun h => ⟨fun g hg => by simpa using h.1 g hg, h.2⟩)))
              clear hown hkp hsn eM
              go_wp2
              go_roundw
              case rel => exact ⟨i + 1, by omega, by go_num, HG2.out⟩
              case measure => simp [intOf]; omega
            · have e : i = 6 := by omega
              subst e
              obtain ⟨a7, c7, hu7⟩ : ∃ a c, u7 = .slice a (n + 6) c := by
                obtain ⟨a, c, h⟩ := HG.out.2.2.1.reads.isSlice
                rw [mks_length] at h
                exact ⟨a, c, h⟩
              subst hu7
              have HG6 : Hid (Going wq wr base (V k) (.slice a7 (n + 6) c7) (N k) (k + 10) 6) := by rw [Hn.out]; exact HG.out
              have HJ := hid (inv2_going HA.out hlt HI.out HG6.out)
              have hszr : wp.heap.size ≤ wr.heap.size := Nat.le_trans hsz HG.out.1.size
              have HB1 : Hid (Kp S w wr) := HB.out.trans HG.out.1 (fun q _ e => HQ.out k hlt q e)
              clear hG0 hltb
              go_wp2_with (at_builtin; go_must (refine wpList_append_own _ rfl _ _ 30 rfl wp.heap.size 33 i0 (.slice none 0 0) 1 24 Tryz.underlying30 hi hz0 hz1 hz2 rfl (by decide) _ _ _ rfl (HJ.out.row.alloc _) ⟨_, 0, none⟩ 1 1 [.slice a7 (n + 6) c7] rfl rfl (cell_one_new _ _ _) ?c2 ?c3 ?c4 ?c5 ?_))
              case c2 => intro v hv; simp at hv; subst hv; rfl
              case c3 => simp [maxLen]; omega
              case c4 => omega
              case c5 => simp; omega
              intro gs' w2 hrow hgr _
              have hkp : Kp (fun q => u5.ownBlock = some q) wr w2 := (Kp.of_below _ (below_alloc _ _)).trans ((Kp.of_grown hgr).mono fun k _ e => e) (fun _ _ e => e)
              have HS := hid (inv2_step HA.out hlt hLlt HI.out HG6.out hrow hkp)
              have HB2 : Hid (Kp S w w2) := HB1.out.trans hkp (fun q hq e => by have := (HJ.out.row.lt q e).1; omega)
              have hszz : wp.heap.size ≤ w2.heap.size := Nat.le_trans hszr hkp.size
              clear hrow hgr hkp
              go_wp2
              go_roundw
              case rel => exact ⟨k + 1, by omega, by go_num, ⟨_, HS.out⟩, HB2.out, hszz⟩
              case measure => simp [intOf]; omega
        · have e : m = k := by omega
          subst e
          have HGC : Hid (∃ q capg, u5 = (if m = 0 then u5 else .slice (some ⟨q, 0, none⟩) m capg) ∧ ∀ j, j < m → wq.cell? ⟨q, j, none⟩ = some (Wv j)) := by
            have hrow := HI.out.row
            rcases hrow.2 with ⟨_, h⟩ | ⟨q, c, cur, h, _⟩
            · exact ⟨0, 0, by rw [if_pos h], fun j hj => by omega⟩
            · refine ⟨q, c, ?_, fun j hj => ?_⟩
              · by_cases h0 : m = 0
                · rw [if_pos h0]
                · rw [if_neg h0]; exact h
              · rw [h] at hrow
                rw [hrow.cellAt j (by omega)]
                simp [hj]
          have HSL : Hid (∃ x y, u5 = .slice x m y) := by
            rcases HI.out.row.2 with ⟨h1, h⟩ | ⟨q, c, cur, h, _⟩
            · exact ⟨none, 0, by rw [h1, h]⟩
            · exact ⟨_, _, h⟩
          clear hk hlt
          go_wp2
          go_loopw [9] (fun x w3 => ∃ k : Nat, k ≤ m ∧ x = .int .i64 k ∧ Below wq.heap.size wq w3) (fun x _ => m - (intOf x).toNat)
          case atStart => exact ⟨0, Nat.zero_le _, rfl, Below.refl _ _⟩
          case round =>
            obtain ⟨k, hk, rfl, hb3⟩ := hrel
            have HB3 := hid hb3
            by_cases hlt : k < m
            · obtain ⟨q, capg, hgs, hgcell⟩ := HGC.out
              rw [if_neg (by omega)] at hgs
              subst hgs
              have hNk := HN.out k hlt
              obtain ⟨n, hn⟩ : ∃ n, N k = n := ⟨_, rfl⟩
              have hnew := HI.out.news k hlt
              have hold := HI.out.olds k hlt
              rw [hn] at hnew hold hNk
              obtain ⟨gk, ck, hw⟩ : ∃ gk ck, Wv k = .slice (some ⟨gk, 0, none⟩) (n + 6) ck := by
                rcases hnew.shape with ⟨_, h⟩ | ⟨gk, ck, h, _⟩
                · have := mks_length (k + 10) (n + 6); rw [h] at this; simp at this
                · rw [mks_length] at h; exact ⟨gk, ck, h⟩
              have c1 := hgcell k hlt
              rw [hw] at c1
              have c3 := HI.out.cell k hlt
              obtain ⟨a, cap, hv⟩ : ∃ a cap, V k = .slice a n cap := by
                obtain ⟨a, cap, e⟩ := hold.reads.isSlice
                exact ⟨a, cap, by rw [mks_length] at e; exact e⟩
              rw [hv] at c3
              rw [hw] at hnew
              rw [hv] at hold
              have HNEW := hid hnew.reads
              have HOLD := hid hold.reads
              have C1 := hid c1
              have C3 := hid c3
              clear hn hv hw hnew hold c1 c3 hgcell
              have c1 := kp_cell (Kp.of_below (fun _ => False) HB3.out) C1.out id
              have c3 := kp_cell (Kp.of_below (fun _ => False) HB3.out) C3.out id
              clear hb3
              go_wp2
              go_loopw [10] (fun y w3 => ∃ i : Nat, i ≤ n + 6 ∧ y = .int .i64 i ∧ Below wq.heap.size wq w3) (fun y _ => n + 6 - (intOf y).toNat)
              case atStart => exact ⟨0, Nat.zero_le _, rfl, HB3.out⟩
              case round =>
                obtain ⟨i, hi, rfl, hb4⟩ := hrel
                clear c1 c3
                have HB4 := hid hb4
                have c1 := kp_cell (Kp.of_below (fun _ => False) hb4) C1.out id
                have c3 := kp_cell (Kp.of_below (fun _ => False) hb4) C3.out id
                clear hb4
                have hw10 : IntKind.i64.wrap ((k : Int) + 10) = (k : Int) + 10 := by rw [IntKind.wrap_i64]; omega
                have l2 : (k : Int) < m := by omega
                by_cases hil : i < n + 6
                · obtain ⟨bb, off, hbb, e1, e2, e3⟩ := (HNEW.out.below HB4.out).at (mks_get (k + 10) (n + 6) i hil)
                  simp only [Option.some.injEq, Addr.mk.injEq, and_true] at hbb
                  obtain ⟨rfl, rfl⟩ := hbb
                  rw [Nat.zero_add] at e1 e2 e3
                  have eM : Mk ((k + 10 : Nat) : Int) (i : Int) = Mk ((k : Int) + 10) (i : Int) := by rw [Int.natCast_add]; rfl
                  rw [eM] at e1 e2 e3
                  have e1' : wr.cell? ⟨gk, i * 3, none⟩ = some (.int .u8 0) := e1
                  have e2' : wr.cell? ⟨gk, i * 3 + 1, none⟩ = some (.int .i64 0) := e2
                  have HM := hid (fun W => markAt ((k : Int) + 10) (i : Int) (Mk ((k : Int) + 10) i).c W (by omega) (by omega) rfl)
                  have l3 : (i : Int) < (n : Int) + 6 := by omega
                  have b1 := block_lt_of_cell c1
                  have b2 := block_lt_of_cell c3
                  have b3 := block_lt_of_cell e3
                  have hd := eq3_true (a := 0) (b := 0) (x := (Mk ((k : Int) + 10) i).c) rfl rfl rfl
                  clear e1 e2
                  by_cases hin : i < n
                  · obtain ⟨b5, off5, hbb, h1, h2, h3⟩ := (HOLD.out.below HB4.out).at (mks_get (k + 10) n i hin)
                    subst hbb
                    rw [eM] at h1 h2 h3
                    have h1' : wr.cell? ⟨b5, off5 + i * 3, none⟩ = some (.int .u8 0) := h1
                    have h2' : wr.cell? ⟨b5, off5 + i * 3 + 1, none⟩ = some (.int .i64 0) := h2
                    have b4 := block_lt_of_cell h3
                    have l4 : (i : Int) < n := by omega
                    clear h1 h2 eM
                    go_wp2
                    go_region_held3 (fun w' => w'.cell? ⟨q, k, none⟩ = some (.slice (some ⟨gk, 0, none⟩) (n + 6) ck) ∧ w'.cell? ⟨L, k, none⟩ = some (.slice (some ⟨b5, off5, none⟩) n cap) ∧ w'.cell? ⟨gk, i * 3, none⟩ = some (.int .u8 0) ∧ w'.cell? ⟨gk, i * 3 + 1, none⟩ = some (.int .i64 0) ∧ w'.cell? ⟨gk, i * 3 + 2, none⟩ = some (.int .i64 (Mk ((k : Int) + 10) i).c) ∧ w'.cell? ⟨b5, off5 + i * 3, none⟩ = some (.int .u8 0) ∧ w'.cell? ⟨b5, off5 + i * 3 + 1, none⟩ = some (.int .i64 0) ∧ w'.cell? ⟨b5, off5 + i * 3 + 2, none⟩ = some (.int .i64 (Mk ((k : Int) + 10) i).c)) (go_keep) (first | (go_at_call 36; refine (HM.out _).mono ?_; rintro e w' ⟨rfl, rfl⟩))
                    all_goals go_wp2
                    all_goals go_roundw
                    all_goals first
                      | exact ⟨i + 1, by omega, by go_num, Below.drew (HB4.out.alloc HB4.out.size _)⟩
                      | (simp [intOf]; omega)
                  · have l4 : ((i : Int) < (n : Int)) = False := eq_false (by omega)
                    have l5 : (i < n) = False := eq_false hin
                    clear eM hin
                    go_wp2
                    refine wp_region_held_drew (S := (fun w' => w'.cell? ⟨q, k, none⟩ = some (.slice (some ⟨gk, 0, none⟩) (n + 6) ck) ∧ w'.cell? ⟨L, k, none⟩ = some (.slice a n cap) ∧ w'.cell? ⟨gk, i * 3, none⟩ = some (.int .u8 0) ∧ w'.cell? ⟨gk, i * 3 + 1, none⟩ = some (.int .i64 0) ∧ w'.cell? ⟨gk, i * 3 + 2, none⟩ = some (.int .i64 (Mk ((k : Int) + 10) i).c))) (by kernel_rfl) ⟨c1, c3, e1', e2', e3⟩ (fun hHeld => ?_)
                    refine wpAnyH_take (i := 0) (oi := { dst := some 82, op := Op.move (Operand.tmp 5), type := 30, pos := "lists.go:343", after := #[], guard := none }) (v := ?vv0) rfl (by kernel_rfl) (by kernel_rfl) (by kernel_rfl) (fun _ _ _ h => h) (Or.inl ⟨by rfl, ?hy0⟩) (by assumption) ?rest0
                    case hy0 =>
                      intro w hSw
                      try dsimp only at hSw
                      go_simp
                      try with_reducible rfl
                    try simp only [Act.put, List.setIfInBounds_toArray, List.set_cons_zero, List.set_cons_succ]
                    refine wpAnyH_take (i := 1) (oi := { dst := some 83, op := Op.move (Operand.tmp 9), type := 3, pos := "lists.go:343", after := #[], guard := none }) (v := ?vv1) rfl (by kernel_rfl) (by kernel_rfl) (by kernel_rfl) (fun _ _ _ h => h) (Or.inl ⟨by rfl, ?hy1⟩) (by assumption) ?rest1
                    case hy1 =>
                      intro w hSw
                      try dsimp only at hSw
                      go_simp
                      try with_reducible rfl
                    try simp only [Act.put, List.setIfInBounds_toArray, List.set_cons_zero, List.set_cons_succ]
                    refine wpAnyH_take (i := 2) (oi := { dst := some 84, op := Op.indexAddr 30 (Operand.tmp 82) (Operand.tmp 83), type := 0, pos := "lists.go:343", after := #[{ on := 0, ground := Ground.data }, { on := 1, ground := Ground.data }], guard := none }) (v := ?vv2) rfl (by kernel_rfl) (by kernel_rfl) (by kernel_rfl) (fun _ _ _ h => h) (Or.inl ⟨by rfl, ?hy2⟩) (by assumption) ?rest2
                    case hy2 =>
                      intro w hSw
                      try dsimp only at hSw
                      go_simp
                      try with_reducible rfl
                    try simp only [Act.put, List.setIfInBounds_toArray, List.set_cons_zero, List.set_cons_succ]
                    refine wpAnyH_take (i := 3) (oi := { dst := some 85, op := Op.load 33 (Operand.tmp 84), type := 33, pos := "lists.go:343", after := #[{ on := 2, ground := Ground.data }], guard := none }) (v := ?vv3) rfl (by kernel_rfl) (by kernel_rfl) (by kernel_rfl) (fun _ _ _ h => h) (Or.inl ⟨by rfl, ?hy3⟩) (by assumption) ?rest3
                    case hy3 =>
                      intro w hSw
                      try dsimp only at hSw
                      go_simp
                      try with_reducible rfl
                    try simp only [Act.put, List.setIfInBounds_toArray, List.set_cons_zero, List.set_cons_succ]
                    refine wpAnyH_take (i := 4) (oi := { dst := some 86, op := Op.move (Operand.tmp 10), type := 3, pos := "lists.go:343", after := #[], guard := none }) (v := ?vv4) rfl (by kernel_rfl) (by kernel_rfl) (by kernel_rfl) (fun _ _ _ h => h) (Or.inl ⟨by rfl, ?hy4⟩) (by assumption) ?rest4
                    case hy4 =>
                      intro w hSw
                      try dsimp only at hSw
                      go_simp
                      try with_reducible rfl
                    try simp only [Act.put, List.setIfInBounds_toArray, List.set_cons_zero, List.set_cons_succ]
                    refine wpAnyH_take (i := 5) (oi := { dst := some 87, op := Op.indexAddr 33 (Operand.tmp 85) (Operand.tmp 86), type := 0, pos := "lists.go:343", after := #[{ on := 3, ground := Ground.data }, { on := 4, ground := Ground.data }], guard := none }) (v := ?vv5) rfl (by kernel_rfl) (by kernel_rfl) (by kernel_rfl) (fun _ _ _ h => h) (Or.inl ⟨by rfl, ?hy5⟩) (by assumption) ?rest5
                    case hy5 =>
                      intro w hSw
                      try dsimp only at hSw
                      go_simp
                      try with_reducible rfl
                    try simp only [Act.put, List.setIfInBounds_toArray, List.set_cons_zero, List.set_cons_succ]
                    refine wpAnyH_take (i := 6) (oi := { dst := some 88, op := Op.load 86 (Operand.tmp 87), type := 86, pos := "lists.go:343", after := #[{ on := 5, ground := Ground.data }], guard := none }) (v := ?vv6) rfl (by kernel_rfl) (by kernel_rfl) (by kernel_rfl) (fun _ _ _ h => h) (Or.inl ⟨by rfl, ?hy6⟩) (by assumption) ?rest6
                    case hy6 =>
                      intro w hSw
                      try dsimp only at hSw
                      go_simp
                      try with_reducible rfl
                    try simp only [Act.put, List.setIfInBounds_toArray, List.set_cons_zero, List.set_cons_succ]
                    refine wpAnyH_take (i := 7) (oi := { dst := some 89, op := Op.move (Operand.tmp 9), type := 3, pos := "lists.go:343", after := #[], guard := none }) (v := ?vv7) rfl (by kernel_rfl) (by kernel_rfl) (by kernel_rfl) (fun _ _ _ h => h) (Or.inl ⟨by rfl, ?hy7⟩) (by assumption) ?rest7
                    case hy7 =>
                      intro w hSw
                      try dsimp only at hSw
                      go_simp
                      try with_reducible rfl
                    try simp only [Act.put, List.setIfInBounds_toArray, List.set_cons_zero, List.set_cons_succ]
                    refine wpAnyH_take (i := 8) (oi := { dst := some 90, op := Op.binOp BinOp.add 3 (Operand.tmp 89) (Operand.const (Value.int IntKind.i64 10)) 3, type := 3, pos := "lists.go:343", after := #[{ on := 7, ground := Ground.data }], guard := none }) (v := ?vv8) rfl (by kernel_rfl) (by kernel_rfl) (by kernel_rfl) (fun _ _ _ h => h) (Or.inl ⟨by rfl, ?hy8⟩) (by assumption) ?rest8
                    case hy8 =>
                      intro w hSw
                      try dsimp only at hSw
                      go_simp
                      try with_reducible rfl
                    try simp only [Act.put, List.setIfInBounds_toArray, List.set_cons_zero, List.set_cons_succ]
                    refine wpAnyH_take (i := 9) (oi := { dst := some 91, op := Op.move (Operand.tmp 10), type := 3, pos := "lists.go:343", after := #[], guard := none }) (v := ?vv9) rfl (by kernel_rfl) (by kernel_rfl) (by kernel_rfl) (fun _ _ _ h => h) (Or.inl ⟨by rfl, ?hy9⟩) (by assumption) ?rest9
                    case hy9 =>
                      intro w hSw
                      try dsimp only at hSw
                      go_simp
                      try with_reducible rfl
                    try simp only [Act.put, List.setIfInBounds_toArray, List.set_cons_zero, List.set_cons_succ]
                    refine wpAnyH_ready (rs := [10]) (by kernel_rfl) (by simp) ?_
                    refine AllReadyH.cons (o := { dst := some 92, op := Op.call { callee := Callee.value (Operand.func 36), args := #[Operand.tmp 90, Operand.tmp 91], argTypes := #[3, 3] }, type := 86, pos := "lists.go:343", after := #[{ on := 8, ground := Ground.data }, { on := 9, ground := Ground.data }], guard := none }) rfl (fun K hK => ?_) ?_
                    rotate_left
                    · exact AllReadyH.nil
                    go_simp
                    refine (HM.out _).mono ?_
                    rintro e w' ⟨rfl, rfl⟩
                    go_wp2_with fail
                    refine hK.out _ _ ?_ (fun hHeld => ?_)
                    · exact ⟨kp_cell (Kp.of_below (fun _ => False) (below_alloc _ _)) c1 id, kp_cell (Kp.of_below (fun _ => False) (below_alloc _ _)) c3 id, kp_cell (Kp.of_below (fun _ => False) (below_alloc _ _)) e1' id, kp_cell (Kp.of_below (fun _ => False) (below_alloc _ _)) e2' id, kp_cell (Kp.of_below (fun _ => False) (below_alloc _ _)) e3 id⟩
                    clear hK K
                    try simp only [Act.put, List.setIfInBounds_toArray, List.set_cons_zero, List.set_cons_succ]
                    refine wpAnyH_take (i := 11) (oi := { dst := some 93, op := Op.binOp BinOp.neq 86 (Operand.tmp 88) (Operand.tmp 92) 86, type := 4, pos := "lists.go:343", after := #[{ on := 6, ground := Ground.data }, { on := 10, ground := Ground.data }], guard := none }) (v := ?vv11) rfl (by kernel_rfl) (by kernel_rfl) (by kernel_rfl) (fun _ _ _ h => h) (Or.inl ⟨by rfl, ?hy11⟩) (by assumption) ?rest11
                    case hy11 =>
                      intro w hSw
                      try dsimp only at hSw
                      go_simp
                      try with_reducible rfl
                    try simp only [Act.put, List.setIfInBounds_toArray, List.set_cons_zero, List.set_cons_succ]
                    refine wpAnyH_take (i := 12) (oi := { dst := some 94, op := Op.move (Operand.tmp 93), type := 4, pos := "lists.go:343", after := #[{ on := 11, ground := Ground.data }, { on := 10, ground := Ground.chain }], guard := none }) (v := ?vv12) rfl (by kernel_rfl) (by kernel_rfl) (by kernel_rfl) (fun _ _ _ h => h) (Or.inl ⟨by rfl, ?hy12⟩) (by assumption) ?rest12
                    case hy12 =>
                      intro w hSw
                      try dsimp only at hSw
                      go_simp
                      try with_reducible rfl
                    try simp only [Act.put, List.setIfInBounds_toArray, List.set_cons_zero, List.set_cons_succ]
                    refine wpAnyH_take (i := 13) (oi := { dst := some 95, op := Op.move (Operand.tmp 10), type := 3, pos := "lists.go:343", after := #[{ on := 12, ground := Ground.guard }], guard := some (12, false) }) (v := ?vv13) rfl (by kernel_rfl) (by kernel_rfl) (by kernel_rfl) (fun _ _ _ h => h) (Or.inl ⟨by rfl, ?hy13⟩) (by assumption) ?rest13
                    case hy13 =>
                      intro w hSw
                      try dsimp only at hSw
                      go_simp
                      try with_reducible rfl
                    try simp only [Act.put, List.setIfInBounds_toArray, List.set_cons_zero, List.set_cons_succ]
                    refine wpAnyH_take (i := 14) (oi := { dst := some 96, op := Op.move (Operand.tmp 0), type := 30, pos := "lists.go:343", after := #[{ on := 12, ground := Ground.guard }], guard := some (12, false) }) (v := ?vv14) rfl (by kernel_rfl) (by kernel_rfl) (by kernel_rfl) (fun _ _ _ h => h) (Or.inl ⟨by rfl, ?hy14⟩) (by assumption) ?rest14
                    case hy14 =>
                      intro w hSw
                      try dsimp only at hSw
                      go_simp
                      try with_reducible rfl
                    try simp only [Act.put, List.setIfInBounds_toArray, List.set_cons_zero, List.set_cons_succ]
                    refine wpAnyH_take (i := 15) (oi := { dst := some 97, op := Op.move (Operand.tmp 9), type := 3, pos := "lists.go:343", after := #[{ on := 12, ground := Ground.guard }], guard := some (12, false) }) (v := ?vv15) rfl (by kernel_rfl) (by kernel_rfl) (by kernel_rfl) (fun _ _ _ h => h) (Or.inl ⟨by rfl, ?hy15⟩) (by assumption) ?rest15
                    case hy15 =>
                      intro w hSw
                      try dsimp only at hSw
                      go_simp
                      try with_reducible rfl
                    try simp only [Act.put, List.setIfInBounds_toArray, List.set_cons_zero, List.set_cons_succ]
                    refine wpAnyH_take (i := 16) (oi := { dst := some 98, op := Op.indexAddr 30 (Operand.tmp 96) (Operand.tmp 97), type := 0, pos := "lists.go:343", after := #[{ on := 14, ground := Ground.data }, { on := 15, ground := Ground.data }, { on := 12, ground := Ground.guard }], guard := some (12, false) }) (v := ?vv16) rfl (by kernel_rfl) (by kernel_rfl) (by kernel_rfl) (fun _ _ _ h => h) (Or.inl ⟨by rfl, ?hy16⟩) (by assumption) ?rest16
                    case hy16 =>
                      intro w hSw
                      try dsimp only at hSw
                      go_simp
                      try with_reducible rfl
                    try simp only [Act.put, List.setIfInBounds_toArray, List.set_cons_zero, List.set_cons_succ]
                    refine wpAnyH_take (i := 17) (oi := { dst := some 99, op := Op.load 33 (Operand.tmp 98), type := 33, pos := "lists.go:343", after := #[{ on := 16, ground := Ground.data }, { on := 12, ground := Ground.guard }], guard := some (12, false) }) (v := ?vv17) rfl (by kernel_rfl) (by kernel_rfl) (by kernel_rfl) (fun _ _ _ h => h) (Or.inl ⟨by rfl, ?hy17⟩) (by assumption) ?rest17
                    case hy17 =>
                      intro w hSw
                      try dsimp only at hSw
                      go_simp
                      try with_reducible rfl
                    try simp only [Act.put, List.setIfInBounds_toArray, List.set_cons_zero, List.set_cons_succ]
                    refine wpAnyH_take (i := 18) (oi := { dst := some 100, op := Op.call { callee := Callee.builtin Builtin.len, args := #[Operand.tmp 99], argTypes := #[33] }, type := 3, pos := "lists.go:343", after := #[{ on := 17, ground := Ground.data }, { on := 12, ground := Ground.guard }], guard := some (12, false) }) (v := ?vv18) rfl (by kernel_rfl) (by kernel_rfl) (by kernel_rfl) (fun _ _ _ h => h) (Or.inl ⟨by rfl, ?hy18⟩) (by assumption) ?rest18
                    case hy18 =>
                      intro w hSw
                      try dsimp only at hSw
                      go_simp
                      try with_reducible rfl
                    try simp only [Act.put, List.setIfInBounds_toArray, List.set_cons_zero, List.set_cons_succ]
                    refine wpAnyH_take (i := 19) (oi := { dst := some 101, op := Op.binOp BinOp.lss 3 (Operand.tmp 95) (Operand.tmp 100) 3, type := 4, pos := "lists.go:343", after := #[{ on := 13, ground := Ground.data }, { on := 18, ground := Ground.data }, { on := 12, ground := Ground.guard }], guard := some (12, false) }) (v := ?vv19) rfl (by kernel_rfl) (by kernel_rfl) (by kernel_rfl) (fun _ _ _ h => h) (Or.inl ⟨by rfl, ?hy19⟩) (by assumption) ?rest19
                    case hy19 =>
                      intro w hSw
                      try dsimp only at hSw
                      go_simp
                      try with_reducible rfl
                    try simp only [Act.put, List.setIfInBounds_toArray, List.set_cons_zero, List.set_cons_succ]
                    refine wpAnyH_take (i := 20) (oi := { dst := some 102, op := Op.move (Operand.tmp 101), type := 4, pos := "lists.go:343", after := #[{ on := 19, ground := Ground.data }, { on := 12, ground := Ground.chain }, { on := 12, ground := Ground.guard }], guard := some (12, false) }) (v := ?vv20) rfl (by kernel_rfl) (by kernel_rfl) (by kernel_rfl) (fun _ _ _ h => h) (Or.inl ⟨by rfl, ?hy20⟩) (by assumption) ?rest20
                    case hy20 =>
                      intro w hSw
                      try dsimp only at hSw
                      go_simp
                      try with_reducible rfl
                    try simp only [Act.put, List.setIfInBounds_toArray, List.set_cons_zero, List.set_cons_succ]
                    refine wpAnyH_take (i := 21) (oi := { dst := some 103, op := Op.move (Operand.tmp 0), type := 30, pos := "lists.go:343", after := #[{ on := 20, ground := Ground.guard }], guard := some (20, true) }) (v := undef) rfl (by kernel_rfl) (by kernel_rfl) (by kernel_rfl) (fun _ _ _ h => h) (Or.inr ⟨by rfl, rfl⟩) (by assumption) ?_
                    try simp only [Act.put, List.setIfInBounds_toArray, List.set_cons_zero, List.set_cons_succ]
                    refine wpAnyH_take (i := 22) (oi := { dst := some 104, op := Op.move (Operand.tmp 9), type := 3, pos := "lists.go:343", after := #[{ on := 20, ground := Ground.guard }], guard := some (20, true) }) (v := undef) rfl (by kernel_rfl) (by kernel_rfl) (by kernel_rfl) (fun _ _ _ h => h) (Or.inr ⟨by rfl, rfl⟩) (by assumption) ?_
                    try simp only [Act.put, List.setIfInBounds_toArray, List.set_cons_zero, List.set_cons_succ]
                    refine wpAnyH_take (i := 23) (oi := { dst := some 105, op := Op.indexAddr 30 (Operand.tmp 103) (Operand.tmp 104), type := 0, pos := "lists.go:343", after := #[{ on := 21, ground := Ground.data }, { on := 22, ground := Ground.data }, { on := 20, ground := Ground.guard }], guard := some (20, true) }) (v := undef) rfl (by kernel_rfl) (by kernel_rfl) (by kernel_rfl) (fun _ _ _ h => h) (Or.inr ⟨by rfl, rfl⟩) (by assumption) ?_
                    try simp only [Act.put, List.setIfInBounds_toArray, List.set_cons_zero, List.set_cons_succ]
                    refine wpAnyH_take (i := 24) (oi := { dst := some 106, op := Op.load 33 (Operand.tmp 105), type := 33, pos := "lists.go:343", after := #[{ on := 23, ground := Ground.data }, { on := 20, ground := Ground.guard }], guard := some (20, true) }) (v := undef) rfl (by kernel_rfl) (by kernel_rfl) (by kernel_rfl) (fun _ _ _ h => h) (Or.inr ⟨by rfl, rfl⟩) (by assumption) ?_
                    try simp only [Act.put, List.setIfInBounds_toArray, List.set_cons_zero, List.set_cons_succ]
                    refine wpAnyH_take (i := 25) (oi := { dst := some 107, op := Op.move (Operand.tmp 10), type := 3, pos := "lists.go:343", after := #[{ on := 20, ground := Ground.guard }], guard := some (20, true) }) (v := undef) rfl (by kernel_rfl) (by kernel_rfl) (by kernel_rfl) (fun _ _ _ h => h) (Or.inr ⟨by rfl, rfl⟩) (by assumption) ?_
                    try simp only [Act.put, List.setIfInBounds_toArray, List.set_cons_zero, List.set_cons_succ]
                    refine wpAnyH_take (i := 26) (oi := { dst := some 108, op := Op.indexAddr 33 (Operand.tmp 106) (Operand.tmp 107), type := 0, pos := "lists.go:343", after := #[{ on := 24, ground := Ground.data }, { on := 25, ground := Ground.data }, { on := 20, ground := Ground.guard }], guard := some (20, true) }) (v := undef) rfl (by kernel_rfl) (by kernel_rfl) (by kernel_rfl) (fun _ _ _ h => h) (Or.inr ⟨by rfl, rfl⟩) (by assumption) ?_
                    try simp only [Act.put, List.setIfInBounds_toArray, List.set_cons_zero, List.set_cons_succ]
                    refine wpAnyH_take (i := 27) (oi := { dst := some 109, op := Op.load 86 (Operand.tmp 108), type := 86, pos := "lists.go:343", after := #[{ on := 26, ground := Ground.data }, { on := 20, ground := Ground.guard }], guard := some (20, true) }) (v := undef) rfl (by kernel_rfl) (by kernel_rfl) (by kernel_rfl) (fun _ _ _ h => h) (Or.inr ⟨by rfl, rfl⟩) (by assumption) ?_
                    try simp only [Act.put, List.setIfInBounds_toArray, List.set_cons_zero, List.set_cons_succ]
                    refine wpAnyH_take (i := 28) (oi := { dst := some 110, op := Op.move (Operand.tmp 5), type := 30, pos := "lists.go:343", after := #[{ on := 20, ground := Ground.guard }], guard := some (20, true) }) (v := undef) rfl (by kernel_rfl) (by kernel_rfl) (by kernel_rfl) (fun _ _ _ h => h) (Or.inr ⟨by rfl, rfl⟩) (by assumption) ?_
                    try simp only [Act.put, List.setIfInBounds_toArray, List.set_cons_zero, List.set_cons_succ]
                    refine wpAnyH_take (i := 29) (oi := { dst := some 111, op := Op.move (Operand.tmp 9), type := 3, pos := "lists.go:343", after := #[{ on := 20, ground := Ground.guard }], guard := some (20, true) }) (v := undef) rfl (by kernel_rfl) (by kernel_rfl) (by kernel_rfl) (fun _ _ _ h => h) (Or.inr ⟨by rfl, rfl⟩) (by assumption) ?_
                    try simp only [Act.put, List.setIfInBounds_toArray, List.set_cons_zero, List.set_cons_succ]
                    refine wpAnyH_take (i := 30) (oi := { dst := some 112, op := Op.indexAddr 30 (Operand.tmp 110) (Operand.tmp 111), type := 0, pos := "lists.go:343", after := #[{ on := 28, ground := Ground.data }, { on := 29, ground := Ground.data }, { on := 20, ground := Ground.guard }], guard := some (20, true) }) (v := undef) rfl (by kernel_rfl) (by kernel_rfl) (by kernel_rfl) (fun _ _ _ h => h) (Or.inr ⟨by rfl, rfl⟩) (by assumption) ?_
                    try simp only [Act.put, List.setIfInBounds_toArray, List.set_cons_zero, List.set_cons_succ]
                    refine wpAnyH_take (i := 31) (oi := { dst := some 113, op := Op.load 33 (Operand.tmp 112), type := 33, pos := "lists.go:343", after := #[{ on := 30, ground := Ground.data }, { on := 20, ground := Ground.guard }], guard := some (20, true) }) (v := undef) rfl (by kernel_rfl) (by kernel_rfl) (by kernel_rfl) (fun _ _ _ h => h) (Or.inr ⟨by rfl, rfl⟩) (by assumption) ?_
                    try simp only [Act.put, List.setIfInBounds_toArray, List.set_cons_zero, List.set_cons_succ]
                    refine wpAnyH_take (i := 32) (oi := { dst := some 114, op := Op.move (Operand.tmp 10), type := 3, pos := "lists.go:343", after := #[{ on := 20, ground := Ground.guard }], guard := some (20, true) }) (v := undef) rfl (by kernel_rfl) (by kernel_rfl) (by kernel_rfl) (fun _ _ _ h => h) (Or.inr ⟨by rfl, rfl⟩) (by assumption) ?_
                    try simp only [Act.put, List.setIfInBounds_toArray, List.set_cons_zero, List.set_cons_succ]
                    refine wpAnyH_take (i := 33) (oi := { dst := some 115, op := Op.indexAddr 33 (Operand.tmp 113) (Operand.tmp 114), type := 0, pos := "lists.go:343", after := #[{ on := 31, ground := Ground.data }, { on := 32, ground := Ground.data }, { on := 20, ground := Ground.guard }], guard := some (20, true) }) (v := undef) rfl (by kernel_rfl) (by kernel_rfl) (by kernel_rfl) (fun _ _ _ h => h) (Or.inr ⟨by rfl, rfl⟩) (by assumption) ?_
                    try simp only [Act.put, List.setIfInBounds_toArray, List.set_cons_zero, List.set_cons_succ]
                    refine wpAnyH_take (i := 34) (oi := { dst := some 116, op := Op.load 86 (Operand.tmp 115), type := 86, pos := "lists.go:343", after := #[{ on := 33, ground := Ground.data }, { on := 20, ground := Ground.guard }], guard := some (20, true) }) (v := undef) rfl (by kernel_rfl) (by kernel_rfl) (by kernel_rfl) (fun _ _ _ h => h) (Or.inr ⟨by rfl, rfl⟩) (by assumption) ?_
                    try simp only [Act.put, List.setIfInBounds_toArray, List.set_cons_zero, List.set_cons_succ]
                    refine wpAnyH_take (i := 35) (oi := { dst := some 117, op := Op.binOp BinOp.neq 86 (Operand.tmp 109) (Operand.tmp 116) 86, type := 4, pos := "lists.go:343", after := #[{ on := 27, ground := Ground.data }, { on := 34, ground := Ground.data }, { on := 20, ground := Ground.guard }], guard := some (20, true) }) (v := undef) rfl (by kernel_rfl) (by kernel_rfl) (by kernel_rfl) (fun _ _ _ h => h) (Or.inr ⟨by rfl, rfl⟩) (by assumption) ?_
                    try simp only [Act.put, List.setIfInBounds_toArray, List.set_cons_zero, List.set_cons_succ]
                    refine wpAnyH_take (i := 36) (oi := { dst := some 118, op := Op.pick (Operand.tmp 102) (Operand.tmp 117) (Operand.const (Value.bool false)), type := 4, pos := "lists.go:343", after := #[{ on := 20, ground := Ground.data }, { on := 35, ground := Ground.data }, { on := 12, ground := Ground.guard }], guard := some (12, false) }) (v := ?vv36) rfl (by kernel_rfl) (by kernel_rfl) (by kernel_rfl) (fun _ _ _ h => h) (Or.inl ⟨by rfl, ?hy36⟩) (by assumption) ?rest36
                    case hy36 =>
                      intro w hSw
                      try dsimp only at hSw
                      go_simp
                      try with_reducible rfl
                    try simp only [Act.put, List.setIfInBounds_toArray, List.set_cons_zero, List.set_cons_succ]
                    refine wpAnyH_take (i := 37) (oi := { dst := some 119, op := Op.pick (Operand.tmp 94) (Operand.const (Value.bool true)) (Operand.tmp 118), type := 4, pos := "lists.go:343", after := #[{ on := 12, ground := Ground.data }, { on := 36, ground := Ground.data }], guard := none }) (v := ?vv37) rfl (by kernel_rfl) (by kernel_rfl) (by kernel_rfl) (fun _ _ _ h => h) (Or.inl ⟨by rfl, ?hy37⟩) (by assumption) ?rest37
                    case hy37 =>
                      intro w hSw
                      try dsimp only at hSw
                      go_simp
                      try with_reducible rfl
                    try simp only [Act.put, List.setIfInBounds_toArray, List.set_cons_zero, List.set_cons_succ]
                    refine wpAnyH_done (by kernel_rfl) ?_ _
                    all_goals go_wp2
                    all_goals go_roundw
                    all_goals first
                      | exact ⟨i + 1, by omega, by go_num, Below.drew (HB4.out.alloc HB4.out.size _)⟩
                      | exact ⟨i + 1, by omega, by go_num, HB4.out.drew.alloc HB4.out.size _⟩
                      | (simp [intOf]; omega)
                · have e : ¬ (i : Int) < (n : Int) + 6 := by omega
                  go_wp2
                  go_roundw
                  case rel => exact ⟨k + 1, by omega, by go_num, HB4.out⟩
                  case measure => simp [intOf]; omega
            · obtain ⟨x5, y5, rfl⟩ := HSL.out
              clear hb3
              go_wp2
              go_ret
              exact ⟨rfl, HB.out.trans (Kp.of_below (fun _ => False) HB3.out) (fun _ _ e => e.elim)⟩
end Go.Proofs.YtdmacflcjbkkpaaGreat
