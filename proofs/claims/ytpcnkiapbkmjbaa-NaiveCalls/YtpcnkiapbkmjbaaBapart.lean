/- One byte appended to a list that the call owns; several lists that lie apart; what the helper ApartBytes answers. -/
import Derived.Test.YtpcnkiapbkmjbaaBkit
namespace Go.Proofs.Ytpcnkiapbkmjbaa.By
open Go.ChangeShapes Go.WideShapes Go.ChangeAt Go.RowKit
/-- Mark i of list k, as the helper lays it. -/
def Mk (k i : Nat) : Int := (7 * ((k : Int) + 10) + (i : Int) + 1) % 256
theorem Mk_bound (k i : Nat) : 0 ≤ Mk k i ∧ Mk k i < 256 := by unfold Mk; omega

theorem own_prefix {w : World} {base g n m cap : Nat} {f : Nat → Int} (h : Own w base (.slice (some ⟨g, 0, none⟩) m cap) m f) (hn : n ≤ m) : Own w base (.slice (some ⟨g, 0, none⟩) n cap) n f := by
  refine ⟨h.1, by rw [bl_length]; omega, .inr ?_⟩
  rcases h.2.2 with ⟨h', _⟩ | ⟨g', cap', cur, h', hb, hg, hnc, hcm, hcs, ht⟩
  · simp at h'
  · simp only [Value.slice.injEq, Option.some.injEq, Addr.mk.injEq, and_true, true_and] at h'
    obtain ⟨rfl, rfl⟩ := h'
    refine ⟨g, cap, cur, rfl, hb, hg, by omega, hcm, hcs, ?_⟩
    have e : (bl m f).take n = bl n f := by
      apply List.ext_getElem?
      intro i
      rw [List.getElem?_take]
      by_cases hi : i < n
      · rw [if_pos hi, bl_get _ _ _ (by omega), bl_get _ _ _ hi]
      · rw [if_neg hi, List.getElem?_eq_none (by rw [bl_length]; omega)]
    rw [← e, ← ht, Nat.mul_one, Nat.mul_one, List.take_take, Nat.min_eq_left hn]

/-- What is owned stays, where its block is none that was written. -/
theorem own_kept {w w' : World} {base : Nat} {v : Value} {n : Nat} {f : Nat → Int} {row : Option Nat} (h : Own w base v n f) (hg : w.grownBy w' row) (hne : v.ownBlock = none ∨ v.ownBlock ≠ row) : Own w' base v n f := ⟨h.1, h.2.kept hg hne⟩
theorem own_alloc {w : World} {base : Nat} {v : Value} {n : Nat} {f : Nat → Int} (h : Own w base v n f) (o : Obj) : Own (w.alloc o) base v n f := own_kept h (World.grownBy_alloc w o none) (by
  rcases h.shape with ⟨rfl, _⟩ | ⟨g, cap, rfl, _⟩
  · exact .inl rfl
  · exact .inr (by simp [Value.ownBlock]))
theorem own_lt {w : World} {base : Nat} {v : Value} {n : Nat} {f : Nat → Int} (h : Own w base v n f) (q : Nat) (hq : v.ownBlock = some q) : q < w.heap.size := by
  rcases h.shape with ⟨rfl, _⟩ | ⟨g, cap, rfl, _, hl, _⟩
  · simp [Value.ownBlock] at hq
  · simp [Value.ownBlock] at hq; omega
theorem grown_none {w w' : World} {row : Option Nat} (h : w.grownBy w' none) : w.grownBy w' row := ⟨h.os, h.tape, h.output, h.size, fun k hk _ => h.block k hk (by simp)⟩
theorem grown_of_alloc {w w' : World} {o : Obj} {row : Option Nat} (h : (w.alloc o).grownBy w' row) : w.grownBy w' row := by
  have a := World.grownBy_alloc w o row
  exact ⟨h.os.trans a.os, h.tape.trans a.tape, h.output.trans a.output, Nat.le_trans a.size h.size, fun k hk hr => (h.block k (Nat.lt_of_lt_of_le hk a.size) hr).trans (a.block k hk hr)⟩
/-- A step that writes 'row' or blocks that are new since w0. -/
theorem grown_step {w0 w w' : World} {r r' : Option Nat} (h : w0.grownBy w r) (k : w.grownBy w' r') (hr : r' = r ∨ ∀ q, r' = some q → w0.heap.size ≤ q) : w0.grownBy w' r := by
  refine ⟨k.os.trans h.os, k.tape.trans h.tape, k.output.trans h.output, Nat.le_trans h.size k.size, fun j hj hn => ?_⟩
  rw [k.block j (Nat.lt_of_lt_of_le hj h.size) ?_, h.block j hj hn]
  rcases hr with rfl | hr
  · exact hn
  · intro e
    have := hr j e.symm
    omega

/-- The state while list Vk is gone on with: u is what it has become. -/
def Going (w0 w : World) (base : Nat) (Vk u : Value) (n i : Nat) (f : Nat → Int) : Prop :=
  w0.grownBy w Vk.ownBlock ∧ Own w base Vk n f ∧ Own w base u (n + i) f ∧
    ((∃ g cap, Vk = .slice (some ⟨g, 0, none⟩) n cap ∧ u = .slice (some ⟨g, 0, none⟩) (n + i) cap) ∨ (∀ q, u.ownBlock = some q → w0.heap.size ≤ q))

theorem bl_snoc (n : Nat) (f : Nat → Int) : bl n f ++ [.int .u8 (f n)] = bl (n + 1) f := by
  rw [bl_singleton, bl_append]
  apply bl_congr
  intro i hi
  by_cases h : i < n
  · rw [if_pos h]
  · rw [if_neg h, show i = n by omega]

theorem ne_of_lt_row {w0 w : World} {base : Nat} {Vk u : Value} {n : Nat} {f : Nat → Int} (h0 : ∀ q, Vk.ownBlock = some q → q < w0.heap.size) (hu : ∀ q, u.ownBlock = some q → w0.heap.size ≤ q) (ho : Own w base Vk n f) : Vk.ownBlock = none ∨ Vk.ownBlock ≠ u.ownBlock := by
  rcases ho.shape with ⟨rfl, _⟩ | ⟨g, cap, rfl, _⟩
  · exact .inl rfl
  · refine .inr fun e => ?_
    have h1 := h0 g rfl
    have h2 := hu g e.symm
    omega

/-- One byte more. -/
theorem wpList_push {w0 w : World} {ops : Array Oper} {rest : List Oper} {o : Oper} {a : Act} {Q : Exit → Act → World → Prop} (hgd : o.guard = none) (s x : Operand)
    (ho : o.op = .call { callee := .builtin .append, args := #[s, x], argTypes := #[22, 22] })
    (base : Nat) (Vk u : Value) (n i : Nat) (f : Nat → Int) (hG : Going w0 w base Vk u n i f) (hb0 : base ≤ w0.heap.size) (hlt : ∀ q, Vk.ownBlock = some q → q < w0.heap.size) (hN : n + i < 140737488355328) (y : Int) (hy : y = f (n + i))
    (hs : a.eval s = u) (hx : a.eval x = .slice (some ⟨w.heap.size, 0, none⟩) 1 1)
    (h : ∀ u' w', Going w0 w' base Vk u' n (i + 1) f → wpList Try.prog ops Q rest (a.put o.dst u') w') : wpList Try.prog ops Q (o :: rest) a (w.alloc (.cells #[.int .u8 y] 5)) := by
  obtain ⟨i0, hi, hz0, hz1, hz2⟩ := info_parts info5
  obtain ⟨hg, hV, hu, hsame⟩ := hG
  subst hy
  have hV1 := own_alloc hV (.cells #[.int .u8 (f (n + i))] 5)
  have hu1 := own_alloc hu (.cells #[.int .u8 (f (n + i))] 5)
  have hbw : base ≤ w.heap.size := Nat.le_trans hb0 hg.size
  have hga : w.grownBy (w.alloc (.cells #[.int .u8 (f (n + i))] 5)) none := World.grownBy_alloc _ _ _
  -- a new array
  have grows : ∀ (ao : Option Addr) (cap : Nat), u = .slice ao (n + i) cap → (ao = none → n + i = 0 ∧ cap = 0) → (∀ b, ao = some b → ∀ j v, (bl (n + i) f)[j]? = some v → (w.alloc (.cells #[.int .u8 (f (n + i))] 5)).cell? (b.add j) = some v) → cap < n + i + 1 →
      wpList Try.prog ops Q (o :: rest) a (w.alloc (.cells #[.int .u8 (f (n + i))] 5)) := by
    intro ao cap hu' hnone hcells hcap
    refine wpList_append_grows _ hgd s x 22 ho 5 i0 (.int .u8 0) 1 1 Try.underlying22 hi hz0 hz1 hz2 rfl (by decide) ao (n + i) cap (bl (n + i) f) (hs.trans hu') hnone (by rw [bl_length]; omega) hcells ⟨w.heap.size, 0, none⟩ 1 1 [.int .u8 (f (n + i))] hx rfl (cell_one_new _ _ _) (by intro v hv; simp at hv; subst hv; rfl) hcap (by simp [maxLen]; omega) (by omega) ?_
    intro u' w' hown hgr
    rw [bl_snoc] at hown
    have hsz : (w.alloc (.cells #[.int .u8 (f (n + i))] 5)).heap.size = w.heap.size + 1 := by simp
    refine h u' w' ⟨grown_step hg (grown_of_alloc hgr) (.inr (by simp)), own_kept hV1 hgr ?_, ⟨hV.1, ?_⟩, .inr ?_⟩
    · rcases hV.shape with ⟨rfl, _⟩ | ⟨g, c, rfl, _⟩
      · exact .inl rfl
      · exact .inr (by simp [Value.ownBlock])
    · obtain ⟨h1, h2⟩ := hown
      refine ⟨h1, ?_⟩
      rcases h2 with h2 | ⟨g, c, cur, e1, e2, e3⟩
      · exact .inl h2
      · exact .inr ⟨g, c, cur, e1, by omega, e3⟩
    · intro q hq
      obtain ⟨h1, h2⟩ := hown
      rcases h2 with ⟨h2, h3⟩ | ⟨g, c, cur, rfl, e2, e3⟩
      · omega
      · simp [Value.ownBlock] at hq
        have := hg.size
        omega
  rcases hu.shape with ⟨hun, hn0⟩ | ⟨g, cap, hun, hgb, hgl, hnc, hcm, hc, _⟩
  · exact grows none 0 (by rw [hun, hn0]) (fun _ => ⟨hn0, rfl⟩) (fun b hb => by cases hb) (by omega)
  · by_cases hcap : n + i + 1 ≤ cap
    · subst hun
      refine wpList_append_fits _ hgd s x 22 ho base 5 i0 1 Try.underlying22 hi hz1 g (n + i) cap (bl (n + i) f) hs hu1.2 ⟨w.heap.size, 0, none⟩ 1 1 [.int .u8 (f (n + i))] hx rfl (cell_one_new _ _ _) (by intro v hv; simp at hv; subst hv; rfl) hcap ?_
      intro w' hown hgr
      rw [bl_snoc] at hown
      have hO : Own w' base (.slice (some ⟨g, 0, none⟩) (n + i + 1) cap) (n + i + 1) f := ⟨hV.1, hown⟩
      rcases hsame with ⟨g', cap', hVk, hu'⟩ | hnew
      · simp only [Value.slice.injEq, Option.some.injEq, Addr.mk.injEq, and_true, true_and] at hu'
        obtain ⟨rfl, rfl⟩ := hu'
        subst hVk
        exact h _ w' ⟨grown_step hg (grown_of_alloc hgr) (.inl rfl), own_prefix hO (by omega), hO, .inl ⟨g, cap, rfl, rfl⟩⟩
      · refine h _ w' ⟨grown_step hg (grown_of_alloc hgr) (.inr fun q hq => hnew q hq), own_kept hV1 hgr (ne_of_lt_row hlt hnew hV), hO, .inr (fun q hq => hnew q hq)⟩
    · subst hun
      refine grows (some ⟨g, 0, none⟩) cap rfl (fun h => by cases h) (fun b hb j v hj => ?_) (by omega)
      cases hb
      obtain ⟨hj1, rfl⟩ := bl_get_inv _ _ _ _ hj
      rw [add_plain, Nat.zero_add]
      rw [World.cell?_alloc_past _ _ _ hgl]
      exact hc j hj1
theorem own_base {w : World} {base base' : Nat} {v : Value} {n : Nat} {f : Nat → Int} (h : Own w base v n f) (hb : base' ≤ base) : Own w base' v n f := by
  obtain ⟨h0, h1, h2⟩ := h
  refine ⟨h0, h1, ?_⟩
  rcases h2 with h2 | ⟨g, cap, cur, e1, e2, e3⟩
  · exact .inl h2
  · exact .inr ⟨g, cap, cur, e1, by omega, e3⟩
/-- The m lists V lie apart, and apart from the block L of their list. -/
structure AP (m L : Nat) (V : Nat → Value) : Prop where
  dis : ∀ i j, i < m → j < m → i ≠ j → (V i).ownBlock = none ∨ (V i).ownBlock ≠ (V j).ownBlock
  dl : ∀ j, j < m → (V j).ownBlock ≠ some L

/-- List j holds the bytes G j, and stands at place j of block L. -/
def Inv1 (w : World) (base m L : Nat) (V : Nat → Value) (N : Nat → Nat) (G : Nat → Nat → Int) : Prop :=
  (∀ j, j < m → Own w base (V j) (N j) (G j)) ∧ ∀ j, j < m → w.cell? ⟨L, j, none⟩ = some (V j)

theorem inv1_congr {w : World} {base m L : Nat} {V : Nat → Value} {N : Nat → Nat} {G G' : Nat → Nat → Int} (h : Inv1 w base m L V N G) (hb : ∀ j i, 0 ≤ G' j i ∧ G' j i < 256) (e : ∀ j i, j < m → i < N j → G j i = G' j i) : Inv1 w base m L V N G' :=
  ⟨fun j hj => own_congr (h.1 j hj) (hb j) (fun i hi => e j i hj hi), h.2⟩

theorem inv1_store {w : World} {base m L : Nat} {V : Nat → Value} {N : Nat → Nat} {G : Nat → Nat → Int} (hA : AP m L V) (h : Inv1 w base m L V N G) (k i g n cap : Nat) (hk : k < m) (hV : V k = .slice (some ⟨g, 0, none⟩) n cap) (hN : N k = n) (x : Int) (hx : 0 ≤ x ∧ x < 256) :
    Inv1 (w.setCell ⟨g, i, none⟩ (.int .u8 x)) base m L V N (fun j i' => if j = k ∧ i' = i then x else G j i') ∧ w.grownBy (w.setCell ⟨g, i, none⟩ (.int .u8 x)) (some g) := by
  have hk1 := h.1 k hk
  rw [hV, hN] at hk1
  obtain ⟨s1, s2⟩ := own_store hk1 i x hx
  refine ⟨⟨fun j hj => ?_, fun j hj => ?_⟩, s2⟩
  · by_cases e : j = k
    · subst e
      rw [hV, hN]
      refine own_congr s1 (fun i' => ?_) (fun i' _ => by simp)
      show 0 ≤ (if j = j ∧ i' = i then x else G j i') ∧ (if j = j ∧ i' = i then x else G j i') < 256
      split
      · exact hx
      · exact hk1.1 i'
    · have hj1 := own_kept (h.1 j hj) s2 (by
        have := hA.dis j k hj hk e
        rwa [hV] at this)
      exact own_congr hj1 (fun i' => by simp [e]; exact hj1.1 i') (fun i' _ => by simp [e])
  · refine s2.cell (h.2 j hj) (fun e => hA.dl k hk ?_)
    rw [hV]; exact e.symm

/-- Behind list k's first i bytes. -/
def G1 (F : Nat → Nat → Int) (k i j i' : Nat) : Int := if j < k ∨ (j = k ∧ i' < i) then Mk j i' else F j i'
theorem G1_bound (F : Nat → Nat → Int) (hF : ∀ j i, 0 ≤ F j i ∧ F j i < 256) (k i j i' : Nat) : 0 ≤ G1 F k i j i' ∧ G1 F k i j i' < 256 := by
  unfold G1; split
  · exact Mk_bound _ _
  · exact hF _ _
theorem G1_step (F : Nat → Nat → Int) (k i j i' : Nat) : (if j = k ∧ i' = i then Mk k i else G1 F k i j i') = G1 F k (i + 1) j i' := by
  unfold G1
  by_cases h : j = k ∧ i' = i
  · rw [if_pos h, if_pos (by omega), h.1, h.2]
  · rw [if_neg h]
    by_cases h2 : j < k ∨ (j = k ∧ i' < i)
    · rw [if_pos h2, if_pos (by omega)]
    · rw [if_neg h2, if_neg (by omega)]
theorem G1_next (F : Nat → Nat → Int) (N : Nat → Nat) (k j i' : Nat) (h : i' < N j) : G1 F k (N k) j i' = G1 F (k + 1) 0 j i' := by
  unfold G1
  by_cases h2 : j < k ∨ (j = k ∧ i' < N k)
  · rw [if_pos h2, if_pos (by omega)]
  · have h4 : ¬ (j < k + 1 ∨ (j = k + 1 ∧ i' < 0)) := by
      rintro (h3 | h3)
      · by_cases e : j = k
        · subst e; exact h2 (.inr ⟨rfl, h⟩)
        · exact h2 (.inl (by omega))
      · omega
    rw [if_neg h2, if_neg h4]
theorem inv1_end {w : World} {base m L : Nat} {V : Nat → Value} {N : Nat → Nat} {F : Nat → Nat → Int} (h : Inv1 w base m L V N (G1 F m 0)) : ∀ j, j < m → Own w base (V j) (N j) (Mk j) := fun j hj =>
  own_congr (h.1 j hj) (Mk_bound j) (fun i _ => by unfold G1; rw [if_pos (.inl hj)])

/-- Lists of lists and lists of bytes lie in blocks of other types. -/
theorem types_ne {w : World} {S base : Nat} {v v' : Value} {n n' : Nat} {xs : List Value} {f : Nat → Int} (h : w.ownsRow S 22 1 v n xs) (h' : Own w base v' n' f) : v'.ownBlock = none ∨ v'.ownBlock ≠ v.ownBlock := by
  rcases h'.2.2 with ⟨rfl, _⟩ | ⟨g', cap', cur', rfl, _, hg', _⟩
  · exact .inl rfl
  · refine .inr fun e => ?_
    rcases h.2 with ⟨rfl, _⟩ | ⟨g, cap, cur, rfl, _, hg, _⟩
    · simp [Value.ownBlock] at e
    · simp [Value.ownBlock] at e
      subst e
      rw [hg] at hg'
      simp at hg'

/-- k lists have been gone on with: list j has become Wv j, and stands in the list gsv. -/
structure Inv2 (w : World) (base m L : Nat) (V : Nat → Value) (N : Nat → Nat) (S2 k : Nat) (Wv : Nat → Value) (gsv : Value) : Prop where
  olds : ∀ j, j < m → Own w base (V j) (N j) (Mk j)
  news : ∀ j, j < k → Own w base (Wv j) (N j + 6) (Mk j)
  cell : ∀ j, j < m → w.cell? ⟨L, j, none⟩ = some (V j)
  far : ∀ j, j < k → ∀ i, k ≤ i → i < m → (Wv j).ownBlock = none ∨ (Wv j).ownBlock ≠ (V i).ownBlock
  row : w.ownsRow S2 22 1 gsv k ((List.range k).map Wv)

theorem grown_cell {w w' : World} {row : Option Nat} (hg : w.grownBy w' row) {a : Addr} {v : Value} (h : w.cell? a = some v) (hne : row ≠ some a.block) : w'.cell? a = some v := hg.cell h (fun e => hne e.symm)

theorem inv2_going {w0 w1 : World} {base m L : Nat} {V : Nat → Value} {N : Nat → Nat} {S2 k : Nat} {Wv : Nat → Value} {gsv u : Value} (hA : AP m L V) (hk : k < m) (h : Inv2 w0 base m L V N S2 k Wv gsv) (hG : Going w0 w1 base (V k) u (N k) 6 (Mk k)) :
    Inv2 w1 base m L V N S2 k Wv gsv := by
  obtain ⟨hg, hV, hu, _⟩ := hG
  refine ⟨fun j hj => ?_, fun j hj => own_kept (h.news j hj) hg (h.far j hj k (Nat.le_refl _) hk), fun j hj => grown_cell hg (h.cell j hj) (hA.dl k hk), h.far, ?_⟩
  · by_cases e : j = k
    · subst e; exact hV
    · exact own_kept (h.olds j hj) hg (hA.dis j k hj hk e)
  · refine h.row.kept hg ?_
    have := types_ne h.row (h.olds k hk)
    rcases this with e | e
    · rw [e]
      rcases h.row.2 with ⟨rfl, _⟩ | ⟨g, cap, cur, rfl, _⟩
      · exact .inl rfl
      · exact .inr (by simp [Value.ownBlock])
    · exact .inr (fun h => e h.symm)

theorem inv2_step {w0 w1 w2 : World} {base m L : Nat} {V : Nat → Value} {N : Nat → Nat} {S2 k : Nat} {Wv : Nat → Value} {gsv gsv' u : Value} (hA : AP m L V) (hk : k < m) (hL : L < S2) (h : Inv2 w0 base m L V N S2 k Wv gsv) (hG : Going w0 w1 base (V k) u (N k) 6 (Mk k))
    (hr : w2.ownsRow S2 22 1 gsv' (k + 1) ((List.range k).map Wv ++ [u])) (hg2 : (w1.alloc (.cells #[u] 22)).grownBy w2 gsv.ownBlock) :
    Inv2 w2 base m L V N S2 (k + 1) (fun j => if j = k then u else Wv j) gsv' := by
  have h1 := inv2_going hA hk h hG
  have hg : w1.grownBy w2 gsv.ownBlock := grown_of_alloc hg2
  refine ⟨fun j hj => own_kept (h1.olds j hj) hg (types_ne h1.row (h1.olds j hj)), fun j hj => ?_, fun j hj => grown_cell hg (h1.cell j hj) ?_, fun j hj i hi hm => ?_, ?_⟩
  · by_cases e : j = k
    · subst e
      simp only [if_true]
      exact own_kept hG.2.2.1 hg (types_ne h1.row hG.2.2.1)
    · rw [if_neg e]
      have := h1.news j (by omega)
      exact own_kept this hg (types_ne h1.row this)
  · intro e
    rcases h1.row.2 with ⟨rfl, _⟩ | ⟨g, cap, cur, rfl, hb, _⟩
    · simp [Value.ownBlock] at e
    · simp [Value.ownBlock] at e; omega
  · by_cases e : j = k
    · subst e
      simp only [if_true]
      rcases hG.2.2.2 with ⟨g, cap, e1, e2⟩ | hnew
      · have := hA.dis i j hm hk (by omega)
        have eb : u.ownBlock = (V j).ownBlock := by rw [e1, e2]; rfl
        rw [eb]
        rcases this with e3 | e3
        · rw [e3, e1]; exact .inr (by simp [Value.ownBlock])
        · exact .inr (fun e4 => e3 e4.symm)
      · rcases hG.2.2.1.shape with ⟨rfl, _⟩ | ⟨g, cap, rfl, _⟩
        · exact .inl rfl
        · refine .inr fun e4 => ?_
          have a1 := own_lt (h.olds i hm) g e4.symm
          have a2 := hnew g rfl
          omega
    · rw [if_neg e]
      exact h1.far j (by omega) i (by omega) hm
  · have e : (List.range (k + 1)).map (fun j => if j = k then u else Wv j) = (List.range k).map Wv ++ [u] := by
      rw [List.range_succ, List.map_append]
      congr 1
      · apply List.map_congr_left
        intro j hj
        have := List.mem_range.1 hj
        rw [if_neg (by omega)]
      · simp
    rw [e]
    exact hr
theorem cell_past_push {w w1 : World} {o : Obj} {B : Nat} {v : Value} {a : Addr} {x : Value} (hg : ((w.alloc o).drew).grownBy w1 v.ownBlock) (hr : ∀ q, v.ownBlock = some q → B ≤ q) (h : w.cell? a = some x) (ha : a.block < B) : w1.cell? a = some x := by
  have g1 : (w.alloc o).grownBy w1 v.ownBlock := ⟨hg.os, hg.tape, hg.output, hg.size, hg.block⟩
  exact grown_cell (grown_of_alloc g1) h (fun e => by have := hr _ e; omega)
theorem below_push_drew {w w' w1 : World} {B : Nat} {v : Value} {n : Nat} {f : Nat → Int} {o : Obj} (hb : Below B w w') (hB : B ≤ w'.heap.size) (ho : Own w' B v n f) (hg : ((w'.alloc o).drew).grownBy w1 v.ownBlock) : Below B w w1 :=
  below_push hb hB ho (o := o) ⟨hg.os, hg.tape, hg.output, hg.size, hg.block⟩
theorem own_apart {w w' : World} {base base' : Nat} {v v' : Value} {n n' : Nat} {f f' : Nat → Int} (h : Own w base v n f) (hb : w.heap.size ≤ base') (h' : Own w' base' v' n' f') : v.ownBlock = none ∨ v.ownBlock ≠ v'.ownBlock := by
  rcases h.shape with ⟨rfl, _⟩ | ⟨g, cap, rfl, _, hl, _⟩
  · exact .inl rfl
  · refine .inr fun e => ?_
    have := own_row h' g e.symm
    omega
theorem apart_symm {a b : Option Nat} (h : a = none ∨ a ≠ b) : b = none ∨ b ≠ a := by
  rcases h with h | h
  · subst h
    cases b with
    | none => exact .inl rfl
    | some q => exact .inr (by simp)
  · exact .inr (fun e => h e.symm)
theorem own_drewN {w : World} {base : Nat} {v : Value} {n : Nat} {f : Nat → Int} (h : Own w base v n f) (k : Nat) : Own (w.drewN k) base v n f := h
theorem rb_lent {w : World} {base g n cap : Nat} {f : Nat → Int} (h : Own w base (.slice (some ⟨g, 0, none⟩) (n + 6) cap) (n + 6) (lent n f)) (hf : ∀ i, 0 ≤ f i ∧ f i < 256) : RB w (.slice (some ⟨g, 0, none⟩) n cap) n f :=
  (h.reads.first n (by omega)).congr hf (fun i hi => by unfold lent; rw [if_pos hi])
/-- The j-th of several values. -/
def lv (vs : List Value) (j : Nat) : Value := vs.getD j (.slice none 0 0)
theorem ap_of (vs : List Value) (L : Nat) (hd : ∀ i j, i < j → j < vs.length → (lv vs i).ownBlock = none ∨ (lv vs i).ownBlock ≠ (lv vs j).ownBlock) (hl : ∀ j, j < vs.length → ∀ q, (lv vs j).ownBlock = some q → q < L) : AP vs.length L (lv vs) := by
  refine ⟨fun i j hi hj hne => ?_, fun j hj e => ?_⟩
  · rcases Nat.lt_or_gt_of_ne hne with h | h
    · exact hd i j h hj
    · exact apart_symm (hd j i h hi)
  · have := hl j hj L e
    omega
theorem inv1_lit (w : World) (base : Nat) (vs : List Value) (cs : Array Value) (hcs : cs = vs.toArray) (N : Nat → Nat) (F : Nat → Nat → Int) (hO : ∀ j, j < vs.length → Own w base (lv vs j) (N j) (F j)) :
    Inv1 (w.alloc (.cells cs 22)) base vs.length w.heap.size (lv vs) N F := by
  subst hcs
  refine ⟨fun j hj => own_alloc (hO j hj) _, fun j hj => ?_⟩
  rw [World.cell?_alloc_at _ _ _ _ rfl]
  simp [lv, hj]
theorem own_lit_slice {w : World} {base : Nat} {v : Value} {n : Nat} {f : Nat → Int} (h : Own w base v n f) : ∃ a c, v = .slice a n c := by
  obtain ⟨_, a, c, h, _⟩ := h.reads
  exact ⟨a, c, h⟩
theorem info32 : (Try.prog.info? 22).map (fun i => (i.zero, i.size, i.bytes)) = some (some (.slice none 0 0), 1, 24) := by kernel_rfl
set_option maxRecDepth 100000 in
set_option maxHeartbeats 2000000 in
theorem apart30 (base m L capL : Nat) (V : Nat → Value) (N : Nat → Nat) (F : Nat → Nat → Int) (w : World) (hA : AP m L V) (hI : Inv1 w base m L V N F) (hF : ∀ j i, 0 ≤ F j i ∧ F j i < 256) (hm : m ≤ 80) (hm0 : 0 < m) (hNb : ∀ j, j < m → N j ≤ 140737488355000) (hb : base ≤ w.heap.size) :
    Calls Try.prog 28 #[.slice (some ⟨L, 0, none⟩) m capL] w fun e w' => e = .returned (.bool true) ∧ Below base w w' := by
  have HI : Hid (Inv1 w base m L V N (G1 F 0 0)) := inv1_congr hI (G1_bound F hF 0 0) (fun j i _ _ => by unfold G1; rw [if_neg (by omega)])
  have HF := hid hF
  have HN := hid hNb
  have HA := hid hA
  clear hI hF hNb hA
  go_enter Try.func28, Try.ntmps28
  go_wp2
  go_loopw [3] (fun x wr => ∃ k : Nat, k ≤ m ∧ x = .int .i64 k ∧ Inv1 wr base m L V N (G1 F k 0) ∧ Below base w wr) (fun x _ => m - (intOf x).toNat)
  case atStart => exact ⟨0, Nat.zero_le _, rfl, HI.out, Below.refl _ _⟩
  case round =>
    obtain ⟨k, hk, rfl, hinv, hbel⟩ := hrel
    clear HI
    have HI := hid hinv
    have HB := hid hbel
    clear hinv hbel
    by_cases hlt : k < m
    · have hNk := HN.out k hlt
      rcases (HI.out.1 k hlt).shape with ⟨hv, h0⟩ | ⟨g, cap, hv, hgb, hgl, hnc, hcm, _, _⟩
      · have hc := HI.out.2 k hlt
        rw [hv] at hc
        have hv := hid hv
        go_wp2
        go_loopw [4] (fun y wr' => y = .int .i64 0 ∧ wr' = wr) (fun _ _ => 0)
        case atStart => exact ⟨rfl, rfl⟩
        case round =>
          obtain ⟨rfl, rfl⟩ := hrel
          go_wp2
          go_roundw
          case rel =>
            refine ⟨k + 1, by omega, by go_num, inv1_congr HI.out (G1_bound F HF.out (k + 1) 0) (fun j i _ hi => ?_), HB.out⟩
            rw [← G1_next F N k j i hi, h0]
          case measure => simp [intOf]; omega
      · obtain ⟨n, hn⟩ : ∃ n, N k = n := ⟨_, rfl⟩
        rw [hn] at hv hnc hNk
        have HV := hid hv
        have Hn := hid hn
        clear hv hn
        go_wp2
        go_loopw [4] (fun y wr' => ∃ i : Nat, i ≤ n ∧ y = .int .i64 i ∧ Inv1 wr' base m L V N (G1 F k i) ∧ Below base w wr') (fun y _ => n - (intOf y).toNat)
        case atStart => exact ⟨0, Nat.zero_le _, rfl, HI.out, HB.out⟩
        case round =>
          obtain ⟨i, hi, rfl, hinv, hbel⟩ := hrel
          clear HI HB
          have HI := hid hinv
          have HB := hid hbel
          have hc := hinv.2 k hlt
          rw [HV.out] at hc
          have hO := hinv.1 k hlt
          rw [HV.out, Hn.out] at hO
          clear hinv hbel
          by_cases hil : i < n
          · have hcell : _ = some (Value.int .u8 (G1 F k i k i)) := (hO.2.cellAt i (by omega)).trans (bl_get _ _ _ hil)
            have hfz := hO.2.frozenAt i
            have HO := hid hO
            clear hO
            have l1 : (i : Int) < n := by omega
            have l2 : (k : Int) < m := by omega
            have hw10 : IntKind.i64.wrap ((k : Int) + 10) = (k : Int) + 10 := by rw [IntKind.wrap_i64]; omega
            have hgL : ¬ g = L := fun e => by have := HA.out.dl k hlt; rw [HV.out, e] at this; exact this rfl
            have hLg : ¬ L = g := fun e => hgL e.symm
            go_wp2
            go_region_held3 (fun w' => w'.cell? ⟨L, k, none⟩ = some (.slice (some ⟨g, 0, none⟩) n cap)) (go_keep) (first | (go_at_call 37; refine (mark42 _ _ _ (by omega) (by omega) (by omega) (by omega)).mono ?_; rintro e w' ⟨rfl, rfl⟩))
            have S := inv1_store HA.out HI.out k i g n cap hlt HV.out Hn.out (Mk k i) (Mk_bound k i)
            have S1 := hid (inv1_congr S.1 (G1_bound F HF.out k (i + 1)) (fun j i' _ _ => G1_step F k i j i'))
            have S2 := hid (HB.out.grown S.2 (Nat.le_trans hb HB.out.size) (fun q hq => by cases hq; exact hgb))
            clear S
            go_wp2
            go_roundw
            case rel => exact ⟨i + 1, by omega, by go_num, S1.out, Below.drew S2.out⟩
            case measure => simp [intOf]; omega
          · have e : i = n := by omega
            subst e
            clear hO
            go_wp2
            go_roundw
            case rel =>
              refine ⟨k + 1, by omega, by go_num, inv1_congr HI.out (G1_bound F HF.out (k + 1) 0) (fun j i' _ hi' => ?_), HB.out⟩
              rw [← G1_next F N k j i' hi', Hn.out]
            case measure => simp [intOf]; omega
    · have e : m = k := by omega
      subst e
      have HE := hid (inv1_end HI.out)
      have HC := hid HI.out.2
      obtain ⟨wp, hwp⟩ : ∃ x, x = wr := ⟨_, rfl⟩
      subst hwp
      have hLlt : L < wp.heap.size := block_lt_of_cell (HC.out 0 hm0)
      have hbr : base ≤ wp.heap.size := Nat.le_trans hb HB.out.size
      clear HI hk hlt
      obtain ⟨i0, hi, hz0, hz1, hz2⟩ := info_parts info32
      go_wp2
      go_loopw [5, 6] (fun gsv x wq => ∃ k : Nat, k ≤ m ∧ x = .int .i64 k ∧ (∃ Wv, Inv2 wq base m L V N wp.heap.size k Wv gsv) ∧ Below base w wq ∧ wp.heap.size ≤ wq.heap.size) (fun _ x _ => m - (intOf x).toNat)
      case atStart => exact ⟨0, Nat.zero_le _, rfl, ⟨fun _ => .slice none 0 0, ⟨HE.out, fun j hj => by omega, HC.out, fun j hj => by omega, World.ownsRow_nil _ _ _ _⟩⟩, HB.out, Nat.le_refl _⟩
      case round =>
        obtain ⟨k, hk, rfl, ⟨Wv, hinv⟩, hbel, hsz⟩ := hrel
        clear HE HC HB
        have HI := hid hinv
        have HB := hid hbel
        clear hinv hbel
        obtain ⟨wq, hwq⟩ : ∃ x, x = wr := ⟨_, rfl⟩
        subst hwq
        by_cases hlt : k < m
        · have hNk := HN.out k hlt
          have hOk := HI.out.olds k hlt
          obtain ⟨n, hn⟩ : ∃ n, N k = n := ⟨_, rfl⟩
          rw [hn] at hOk hNk
          obtain ⟨a, cap, hv⟩ : ∃ a cap, V k = .slice a n cap := by
            rcases hOk.shape with ⟨h1, h2⟩ | ⟨g, cap, h1, _⟩
            · exact ⟨none, 0, by rw [h1, h2]⟩
            · exact ⟨_, _, h1⟩
          have hG0 : Hid (Going wq wq base (V k) (V k) n 0 (Mk k)) := by
            refine ⟨World.grownBy.refl _ _, hOk, hOk, ?_⟩
            rcases hOk.shape with ⟨h1, h2⟩ | ⟨g, cap, h1, _⟩
            · exact .inr (fun q hq => by rw [h1] at hq; simp [Value.ownBlock] at hq)
            · exact .inl ⟨g, cap, h1, h1⟩
          have hltb : Hid (∀ q, (V k).ownBlock = some q → q < wq.heap.size) := own_lt hOk
          have hc := HI.out.cell k hlt
          have hbq : base ≤ wq.heap.size := Nat.le_trans hb HB.out.size
          rw [hv] at hc
          have HV := hid hv
          have Hn := hid hn
          have HO := hid hOk
          clear hv hn hOk
          go_wp2
          go_loopw [7, 8] (fun u y w1 => ∃ i : Nat, i ≤ 6 ∧ y = .int .i64 i ∧ Going wq w1 base (V k) u n i (Mk k) ∧ Below base w w1) (fun _ y _ => 6 - (intOf y).toNat)
          case atStart => exact ⟨0, Nat.zero_le _, rfl, by rw [HV.out] at hG0 ⊢; exact hG0.out, HB.out⟩
          case round =>
            obtain ⟨i, hi6, rfl, hgo, hbel⟩ := hrel
            have HG := hid hgo
            have HB1 := hid hbel
            have hc1 : wr.cell? ⟨L, k, none⟩ = some (.slice a n cap) := grown_cell hgo.1 hc (HA.out.dl k hlt)
            clear hgo hbel hc
            have hw10 : IntKind.i64.wrap ((k : Int) + 10) = (k : Int) + 10 := by rw [IntKind.wrap_i64]; omega
            have l2 : (k : Int) < m := by omega
            by_cases hil : i < 6
            · go_wp2_with (first | (go_at_call 37; refine (mark42 _ _ _ (by omega) (by omega) (by omega) (by omega)).mono ?_; rintro e w' ⟨rfl, rfl⟩) | (at_builtin; go_must (refine wpList_push rfl _ _ rfl base (V k) _ n i (Mk k) HG.out hbq hltb.out (by omega) _ (by unfold Mk; omega) rfl rfl ?_); intro u' w2 hgo; have HG2 := hid hgo; clear hgo))
              exact ⟨⟨i + 1, by omega, by go_num, HG2.out, HB.out.grown HG2.out.1 hbq (own_row HO.out)⟩, by simp [intOf]; omega⟩
            · have e : i = 6 := by omega
              subst e
              obtain ⟨a7, c7, hu7⟩ : ∃ a c, u7 = .slice a (n + 6) c := by
                obtain ⟨_, a, c, h, _⟩ := HG.out.2.2.1.reads
                exact ⟨a, c, h⟩
              subst hu7
              have HG6 : Hid (Going wq wr base (V k) (.slice a7 (n + 6) c7) (N k) 6 (Mk k)) := by rw [Hn.out]; exact HG.out
              have HJ := hid (inv2_going HA.out hlt HI.out HG6.out)
              have hszr : wp.heap.size ≤ wr.heap.size := Nat.le_trans hsz HG.out.1.size
              clear hG0 hltb HO
              go_wp2_with (at_builtin; go_must (refine wpList_append_own _ rfl _ _ 50 rfl wp.heap.size 22 i0 (.slice none 0 0) 1 24 Try.underlying50 hi hz0 hz1 hz2 rfl (by decide) _ _ _ rfl (HJ.out.row.alloc _) ⟨_, 0, none⟩ 1 1 [.slice a7 (n + 6) c7] rfl rfl (cell_one_new _ _ _) ?c2 ?c3 ?c4 ?c5 ?_))
              case c2 => intro v hv; simp at hv; subst hv; rfl
              case c3 => simp [maxLen]; omega
              case c4 => omega
              case c5 => simp; omega
              intro gs' w2 hrow hgr _
              have HS := hid (inv2_step HA.out hlt hLlt HI.out HG6.out hrow hgr)
              have hB1 : Below base w wr := HB.out.grown HG6.out.1 hbq (own_row (HI.out.olds k hlt))
              have HB2 : Hid (Below base w w2) := hB1.grown (grown_of_alloc hgr) (Nat.le_trans hb hB1.size) (fun q hq => by
                rcases HJ.out.row.2 with ⟨h, _⟩ | ⟨g', c', cur', h, hgb', _⟩
                · rw [h] at hq; simp [Value.ownBlock] at hq
                · rw [h] at hq; simp [Value.ownBlock] at hq; omega)
              have hszz : wp.heap.size ≤ w2.heap.size := Nat.le_trans hszr (grown_of_alloc hgr).size
              clear hrow hgr hB1
              go_wp2
              go_roundw
              case rel => exact ⟨k + 1, by omega, by go_num, ⟨_, HS.out⟩, HB2.out, hszz⟩
              case measure => simp [intOf]; omega
        · have e : m = k := by omega
          subst e
          obtain ⟨q, capg, hgs, hgcell⟩ : ∃ q c, u5 = .slice (some ⟨q, 0, none⟩) m c ∧ ∀ j, j < m → wq.cell? ⟨q, j, none⟩ = some (Wv j) := by
            have hrow := HI.out.row
            rcases hrow.2 with ⟨_, h⟩ | ⟨q, c, cur, h, _⟩
            · omega
            · refine ⟨q, c, h, fun j hj => ?_⟩
              rw [h] at hrow
              rw [hrow.cellAt j (by omega)]
              simp [hj]
          subst hgs
          have HGC := hid hgcell
          clear hgcell hk hlt
          go_wp2
          go_loopw [9] (fun x w3 => ∃ k : Nat, k ≤ m ∧ x = .int .i64 k ∧ ∃ d, w3 = wq.drewN d) (fun x _ => m - (intOf x).toNat)
          case atStart => exact ⟨0, Nat.zero_le _, rfl, 0, rfl⟩
          case round =>
            obtain ⟨k, hk, rfl, d, rfl⟩ := hrel
            by_cases hlt : k < m
            · have hNk := HN.out k hlt
              obtain ⟨n, hn⟩ : ∃ n, N k = n := ⟨_, rfl⟩
              have hnew := HI.out.news k hlt
              have hold := HI.out.olds k hlt
              rw [hn] at hnew hold hNk
              obtain ⟨gk, ck, hw, hgk⟩ := own_cells hnew (by omega)
              have c1 := HGC.out k hlt
              rw [hw] at c1
              have c3 := HI.out.cell k hlt
              obtain ⟨a, cap, hv⟩ : ∃ a cap, V k = .slice a n cap := by
                rcases hold.shape with ⟨h1, h2⟩ | ⟨g, cap, h1, _⟩
                · exact ⟨none, 0, by rw [h1, h2]⟩
                · exact ⟨_, _, h1⟩
              rw [hv] at c3
              have Hn := hid hn
              have HV := hid hv
              have HK := hid hgk
              have HO := hid hold
              clear hn hv hw hgk hnew hold
              go_wp2
              go_loopw [10] (fun y w3 => ∃ i : Nat, i ≤ n + 6 ∧ y = .int .i64 i ∧ ∃ d, w3 = wq.drewN d) (fun y _ => n + 6 - (intOf y).toNat)
              case atStart => exact ⟨0, Nat.zero_le _, rfl, d, rfl⟩
              case round =>
                obtain ⟨i, hi, rfl, d', rfl⟩ := hrel
                have hw10 : IntKind.i64.wrap ((k : Int) + 10) = (k : Int) + 10 := by rw [IntKind.wrap_i64]; omega
                have l2 : (k : Int) < m := by omega
                by_cases hil : i < n + 6
                · have c2 : wq.cell? ⟨gk, i, none⟩ = some (.int .u8 ((7 * ((k : Int) + 10) + (i : Int) + 1) % 256)) := HK.out i hil
                  have l3 : (i : Int) < n + 6 := by omega
                  by_cases hin : i < n
                  · obtain ⟨gv, cv, hv2, hcv⟩ := own_cells HO.out (by omega)
                    have c4 : wq.cell? ⟨gv, i, none⟩ = some (.int .u8 ((7 * ((k : Int) + 10) + (i : Int) + 1) % 256)) := hcv i hin
                    have hva : a = some ⟨gv, 0, none⟩ := by
                      have := HV.out.symm.trans hv2
                      simp at this
                      exact this.1
                    subst hva
                    have l4 : (i : Int) < n := by omega
                    clear hcv hv2
                    go_wp2
                    go_quiet ((go_at_call 37; refine (mark42 ((k : Int) + 10) (i : Int) _ (by omega) (by omega) (by omega) (by omega)).mono ?_; rintro e w4 ⟨rfl, rfl⟩; exact ⟨rfl, _, rfl⟩))
                    go_wp2
                    go_roundw
                    case rel => exact ⟨i + 1, by omega, by go_num, _, rfl⟩
                    case measure => simp [intOf]; omega
                  · have l4 : decide ((i : Int) < n) = false := by simp; omega
                    go_wp2
                    go_quiet ((go_at_call 37; refine (mark42 ((k : Int) + 10) (i : Int) _ (by omega) (by omega) (by omega) (by omega)).mono ?_; rintro e w4 ⟨rfl, rfl⟩; exact ⟨rfl, _, rfl⟩))
                    go_wp2
                    go_roundw
                    case rel => exact ⟨i + 1, by omega, by go_num, _, rfl⟩
                    case measure => simp [intOf]; omega
                · go_wp2
                  go_roundw
                  case rel => exact ⟨k + 1, by omega, by go_num, _, rfl⟩
                  case measure => simp [intOf]; omega
            · go_wp2
              go_ret
              exact ⟨rfl, Below.drewN' HB.out _⟩
end Go.Proofs.Ytpcnkiapbkmjbaa.By
