/- Lists of texts: what a slice reads as, what the call owns, lists that lie apart. -/
import Derived.Test.YtnadpglfliiplaaUmk
namespace Go.Proofs.Ytnadpglfliiplaa.Tx
open Go.ChangeShapes Go.WideShapes Go.ChangeAt Go.RowKit
open Go.Proofs.Ytnadpglfliiplaa.By (hid grown_none grown_of_alloc grown_step grown_cell apart_symm lv)
open Go.Proofs.Ytnadpglfliiplaa.Ou (mkT)
/-- Nothing is asked of a text. -/
def Bd (_ : ByteArray) : Prop := True
theorem infoT : (Try.prog.info? 9).map (fun i => (i.zero, i.size, i.bytes)) = some (some (.string ⟨#[]⟩), 1, 16) := by kernel_rfl
/-- Mark i of list k, as the helper lays it. -/
def Mk (k i : Nat) : ByteArray := mkT ((k : Int) + 10) i
theorem Mk_bound (k i : Nat) : Bd (Mk k i) := trivial
/-- The slice v reads as n bytes, byte i being f i. -/
def RB (w : World) (v : Value) (n : Nat) (f : Nat → ByteArray) : Prop :=
  (∀ i, Bd (f i)) ∧ ∃ a cap, v = .slice a n cap ∧ n ≤ cap ∧ cap ≤ maxLen ∧
    ((n = 0 ∧ (a = none → cap = 0)) ∨ ∃ b off, a = some ⟨b, off, none⟩ ∧ ∀ i, i < n → w.cell? ⟨b, off + i, none⟩ = some (.string (f i)))

/-- n bytes as cells. -/
def bl (n : Nat) (f : Nat → ByteArray) : List Value := (List.range n).map fun i => Value.string (f i)
theorem bl_length (n : Nat) (f : Nat → ByteArray) : (bl n f).length = n := by simp [bl]
theorem bl_get (n : Nat) (f : Nat → ByteArray) (i : Nat) (h : i < n) : (bl n f)[i]? = some (.string (f i)) := by
  simp [bl, h]
theorem bl_get_inv (n : Nat) (f : Nat → ByteArray) (i : Nat) (u : Value) (h : (bl n f)[i]? = some u) : i < n ∧ u = .string (f i) := by
  have hi : i < n := by
    have := List.getElem?_eq_some_iff.1 h
    obtain ⟨h1, _⟩ := this
    simpa [bl_length] using h1
  rw [bl_get n f i hi] at h
  exact ⟨hi, (Option.some.inj h).symm⟩
theorem bl_one (n : Nat) (f : Nat → ByteArray) : ∀ u ∈ bl n f, u.oneCell' = true := by
  intro u hu
  simp [bl] at hu
  obtain ⟨i, _, rfl⟩ := hu
  rfl
theorem bl_congr (n : Nat) (f g : Nat → ByteArray) (h : ∀ i, i < n → f i = g i) : bl n f = bl n g := by
  apply List.map_congr_left
  intro i hi
  rw [h i (List.mem_range.1 hi)]
theorem bl_append (n m : Nat) (f g : Nat → ByteArray) : bl n f ++ bl m g = bl (n + m) (fun i => if i < n then f i else g (i - n)) := by
  apply List.ext_getElem?
  intro i
  by_cases h : i < n
  · rw [List.getElem?_append_left (by rw [bl_length]; exact h), bl_get _ _ _ h, bl_get _ _ _ (by omega), if_pos h]
  · rw [List.getElem?_append_right (by rw [bl_length]; omega), bl_length]
    by_cases h2 : i < n + m
    · rw [bl_get _ _ _ (by omega), bl_get _ _ _ h2, if_neg h]
    · rw [List.getElem?_eq_none (by rw [bl_length]; omega), List.getElem?_eq_none (by rw [bl_length]; omega)]
theorem bl_set (n : Nat) (f : Nat → ByteArray) (k : Nat) (x : ByteArray) : (bl n f).set k (.string x) = bl n (fun i => if i = k then x else f i) := by
  apply List.ext_getElem?
  intro i
  rw [List.getElem?_set]
  by_cases h : i < n
  · by_cases e : k = i
    · subst e; rw [bl_get _ _ _ h]; simp [bl_length, h]; simp [bl]
    · have e' : ¬ i = k := fun h => e h.symm
      rw [bl_get _ _ _ h, bl_get _ _ _ h]; simp [e, e']
  · rw [List.getElem?_eq_none (by rw [bl_length]; omega), List.getElem?_eq_none (by rw [bl_length]; omega)]
    simp only [bl_length]; split
    · rw [if_neg (by omega)]
    · rfl
theorem bl_singleton (x : ByteArray) : [Value.string x] = bl 1 (fun _ => x) := by simp [bl, List.range_succ]

/-- The call owns the slice v: n bytes f, from block 'base' on. -/
def Own (w : World) (base : Nat) (v : Value) (n : Nat) (f : Nat → ByteArray) : Prop :=
  (∀ i, Bd (f i)) ∧ w.ownsRow base 9 1 v n (bl n f)

theorem Own.shape {w : World} {base : Nat} {v : Value} {n : Nat} {f : Nat → ByteArray} (h : Own w base v n f) :
    (v = .slice none 0 0 ∧ n = 0) ∨ ∃ g cap, v = .slice (some ⟨g, 0, none⟩) n cap ∧ base ≤ g ∧ g < w.heap.size ∧ n ≤ cap ∧ cap ≤ maxLen ∧
      (∀ i, i < n → w.cell? ⟨g, i, none⟩ = some (.string (f i))) ∧ ∀ i, w.frozen? ⟨g, i, none⟩ = false := by
  have h2 := h.2
  rcases h.2.2 with hn | ⟨g, cap, cur, rfl, hb, hg, hnc, hcm, hcs, ht⟩
  · exact .inl hn
  · refine .inr ⟨g, cap, rfl, hb, ?_, hnc, hcm, fun i hi => ?_, fun i => h2.frozenAt i⟩
    · exact (Array.getElem?_eq_some_iff.1 hg).1
    · rw [h2.cellAt i (by omega), bl_get _ _ _ hi]

theorem Own.reads {w : World} {base : Nat} {v : Value} {n : Nat} {f : Nat → ByteArray} (h : Own w base v n f) : RB w v n f := by
  rcases h.shape with ⟨rfl, rfl⟩ | ⟨g, cap, rfl, _, _, hnc, hcm, hc, _⟩
  · exact ⟨h.1, none, 0, rfl, Nat.le_refl _, by simp [maxLen], .inl ⟨rfl, fun _ => rfl⟩⟩
  · exact ⟨h.1, _, _, rfl, hnc, hcm, .inr ⟨g, 0, rfl, fun i hi => by rw [Nat.zero_add]; exact hc i hi⟩⟩

theorem RB.lt {w : World} {v : Value} {n : Nat} {f : Nat → ByteArray} {b off cap : Nat} (h : RB w v n f) (hv : v = .slice (some ⟨b, off, none⟩) n cap) (hn : 0 < n) : b < w.heap.size := by
  obtain ⟨_, a, cap', rfl, _, _, h0 | ⟨b', off', rfl, hc⟩⟩ := h
  · omega
  · simp at hv
    obtain ⟨⟨rfl, rfl⟩, rfl⟩ := hv
    have := hc 0 hn
    exact block_lt_of_cell this

theorem RB.congr {w : World} {v : Value} {n : Nat} {f g : Nat → ByteArray} (h : RB w v n f) (hg : ∀ i, Bd (g i)) (e : ∀ i, i < n → f i = g i) : RB w v n g := by
  obtain ⟨_, a, cap, rfl, h1, h2, h0 | ⟨b, off, rfl, hc⟩⟩ := h
  · exact ⟨hg, a, cap, rfl, h1, h2, .inl h0⟩
  · exact ⟨hg, _, cap, rfl, h1, h2, .inr ⟨b, off, rfl, fun i hi => by rw [← e i hi]; exact hc i hi⟩⟩

/-- Behind a call that only makes memory a slice reads as before. -/
theorem RB.below {w w' : World} {v : Value} {n : Nat} {f : Nat → ByteArray} (h : RB w v n f) (hb : Below w.heap.size w w') : RB w' v n f := by
  have h' := h
  obtain ⟨hf, a, cap, rfl, h1, h2, h0 | ⟨b, off, rfl, hc⟩⟩ := h
  · exact ⟨hf, a, cap, rfl, h1, h2, .inl h0⟩
  · refine ⟨hf, _, cap, rfl, h1, h2, .inr ⟨b, off, rfl, fun i hi => ?_⟩⟩
    rw [hb.cell (p := ⟨b, off + i, none⟩) (h'.lt rfl (by omega))]
    exact hc i hi
theorem own_nil (w : World) (base : Nat) (f : Nat → ByteArray) (hf : ∀ i, Bd (f i)) : Own w base (.slice none 0 0) 0 f := ⟨hf, World.ownsRow_nil _ _ _ _⟩
theorem own_row {w : World} {B : Nat} {v : Value} {n : Nat} {f : Nat → ByteArray} (ho : Own w B v n f) (k : Nat) (hk : v.ownBlock = some k) : B ≤ k := by
  rcases ho.shape with ⟨rfl, _⟩ | ⟨g, cap, rfl, hb, _⟩
  · simp [Value.ownBlock] at hk
  · simp [Value.ownBlock] at hk; omega
theorem below_push {w w' w1 : World} {B : Nat} {v : Value} {n : Nat} {f : Nat → ByteArray} {o : Obj} (hb : Below B w w') (hB : B ≤ w'.heap.size) (ho : Own w' B v n f) (hg : (w'.alloc o).grownBy w1 v.ownBlock) : Below B w w1 :=
  (hb.alloc hB o).grown hg (by simp; omega) (own_row ho)
theorem own_congr {w : World} {base : Nat} {v : Value} {n : Nat} {f g : Nat → ByteArray} (h : Own w base v n f) (hg : ∀ i, Bd (g i)) (e : ∀ i, i < n → f i = g i) : Own w base v n g :=
  ⟨hg, by rw [← bl_congr n f g e]; exact h.2⟩
theorem own_store {w : World} {base g N cap : Nat} {f : Nat → ByteArray} (h : Own w base (.slice (some ⟨g, 0, none⟩) N cap) N f) (k : Nat) (x : ByteArray) (hx : Bd (x)) :
    Own (w.setCell ⟨g, k, none⟩ (.string x)) base (.slice (some ⟨g, 0, none⟩) N cap) N (fun i => if i = k then x else f i) ∧ w.grownBy (w.setCell ⟨g, k, none⟩ (.string x)) (some g) := by
  obtain ⟨h1, h2⟩ := h.2.stored k (.string x)
  rw [bl_set] at h1
  refine ⟨⟨fun i => ?_, h1⟩, h2⟩
  show Bd ((if i = k then x else f i))
  split
  · exact hx
  · exact h.1 i
theorem own_below {w w' : World} {base : Nat} {v : Value} {n : Nat} {f : Nat → ByteArray} (h : Own w base v n f) (hb : Below w.heap.size w w') : Own w' base v n f := by
  refine ⟨h.1, ?_⟩
  have hg : w.grownBy w' none := ⟨hb.os, hb.tape, hb.output, hb.size, fun k hk _ => hb.block k hk⟩
  rcases h.shape with ⟨rfl, _⟩ | ⟨g, cap, rfl, _⟩
  · exact h.2.kept hg (.inl rfl)
  · exact h.2.kept hg (.inr (by simp [Value.ownBlock]))
theorem own_cells {w : World} {base : Nat} {v : Value} {n : Nat} {f : Nat → ByteArray} (h : Own w base v n f) (hn : 0 < n) : ∃ g cap, v = .slice (some ⟨g, 0, none⟩) n cap ∧ ∀ i, i < n → w.cell? ⟨g, i, none⟩ = some (.string (f i)) := by
  rcases h.shape with ⟨_, h0⟩ | ⟨g, cap, rfl, _, _, _, _, hc, _⟩
  · omega
  · exact ⟨g, cap, rfl, hc⟩
theorem rb_cap {w : World} {a : Option Addr} {n cap : Nat} {f : Nat → ByteArray} (h : RB w (.slice a n cap) n f) : n ≤ cap := by
  obtain ⟨_, a', c', hv, h1, _⟩ := h
  simp at hv
  omega
theorem own_prefix {w : World} {base g n m cap : Nat} {f : Nat → ByteArray} (h : Own w base (.slice (some ⟨g, 0, none⟩) m cap) m f) (hn : n ≤ m) : Own w base (.slice (some ⟨g, 0, none⟩) n cap) n f := by
  refine ⟨h.1, by rw [bl_length]; omega, .inr ?_⟩
  rcases h.2.2 with ⟨h', _⟩ | ⟨g', cap', cur, h', hb, hg, hnc, hcm, hcs, ht⟩
  · simp at h'
  · simp only [Value.slice.injEq, Option.some.injEq, Addr.mk.injEq, and_true, true_and] at h'
    obtain ⟨rfl, rfl⟩ := h'
    refine ⟨g, cap, cur, rfl, hb, hg, by omega, hcm, hcs, ?_⟩
    have e : (bl m f).take n = bl n f := by
      apply List.ext_getElem?
      intro i
      rw [List.getElem?_take]
      by_cases hi : i < n
      · rw [if_pos hi, bl_get _ _ _ (by omega), bl_get _ _ _ hi]
      · rw [if_neg hi, List.getElem?_eq_none (by rw [bl_length]; omega)]
    rw [← e, ← ht, Nat.mul_one, Nat.mul_one, List.take_take, Nat.min_eq_left hn]

/-- What is owned stays, where its block is none that was written. -/
theorem own_kept {w w' : World} {base : Nat} {v : Value} {n : Nat} {f : Nat → ByteArray} {row : Option Nat} (h : Own w base v n f) (hg : w.grownBy w' row) (hne : v.ownBlock = none ∨ v.ownBlock ≠ row) : Own w' base v n f := ⟨h.1, h.2.kept hg hne⟩
theorem own_alloc {w : World} {base : Nat} {v : Value} {n : Nat} {f : Nat → ByteArray} (h : Own w base v n f) (o : Obj) : Own (w.alloc o) base v n f := own_kept h (World.grownBy_alloc w o none) (by
  rcases h.shape with ⟨rfl, _⟩ | ⟨g, cap, rfl, _⟩
  · exact .inl rfl
  · exact .inr (by simp [Value.ownBlock]))
theorem own_lt {w : World} {base : Nat} {v : Value} {n : Nat} {f : Nat → ByteArray} (h : Own w base v n f) (q : Nat) (hq : v.ownBlock = some q) : q < w.heap.size := by
  rcases h.shape with ⟨rfl, _⟩ | ⟨g, cap, rfl, _, hl, _⟩
  · simp [Value.ownBlock] at hq
  · simp [Value.ownBlock] at hq; omega
/-- The state while list Vk is gone on with: u is what it has become. -/
def Going (w0 w : World) (base : Nat) (Vk u : Value) (n i : Nat) (f : Nat → ByteArray) : Prop :=
  w0.grownBy w Vk.ownBlock ∧ Own w base Vk n f ∧ Own w base u (n + i) f ∧
    ((∃ g cap, Vk = .slice (some ⟨g, 0, none⟩) n cap ∧ u = .slice (some ⟨g, 0, none⟩) (n + i) cap) ∨ (∀ q, u.ownBlock = some q → w0.heap.size ≤ q))

theorem bl_snoc (n : Nat) (f : Nat → ByteArray) : bl n f ++ [.string (f n)] = bl (n + 1) f := by
  rw [bl_singleton, bl_append]
  apply bl_congr
  intro i hi
  by_cases h : i < n
  · rw [if_pos h]
  · rw [if_neg h, show i = n by omega]

theorem ne_of_lt_row {w0 w : World} {base : Nat} {Vk u : Value} {n : Nat} {f : Nat → ByteArray} (h0 : ∀ q, Vk.ownBlock = some q → q < w0.heap.size) (hu : ∀ q, u.ownBlock = some q → w0.heap.size ≤ q) (ho : Own w base Vk n f) : Vk.ownBlock = none ∨ Vk.ownBlock ≠ u.ownBlock := by
  rcases ho.shape with ⟨rfl, _⟩ | ⟨g, cap, rfl, _⟩
  · exact .inl rfl
  · refine .inr fun e => ?_
    have h1 := h0 g rfl
    have h2 := hu g e.symm
    omega

/-- One byte more. -/
theorem wpList_push {w0 w : World} {ops : Array Oper} {rest : List Oper} {o : Oper} {a : Act} {Q : Exit → Act → World → Prop} (hgd : o.guard = none) (s x : Operand)
    (ho : o.op = .call { callee := .builtin .append, args := #[s, x], argTypes := #[54, 54] })
    (base : Nat) (Vk u : Value) (n i : Nat) (f : Nat → ByteArray) (hG : Going w0 w base Vk u n i f) (hb0 : base ≤ w0.heap.size) (hlt : ∀ q, Vk.ownBlock = some q → q < w0.heap.size) (hN : n + i < 1000000) (y : ByteArray) (hy : y = f (n + i))
    (hs : a.eval s = u) (hx : a.eval x = .slice (some ⟨w.heap.size, 0, none⟩) 1 1)
    (h : ∀ u' w', Going w0 w' base Vk u' n (i + 1) f → wpList Try.prog ops Q rest (a.put o.dst u') w') : wpList Try.prog ops Q (o :: rest) a (w.alloc (.cells #[.string y] 9)) := by
  obtain ⟨i0, hi, hz0, hz1, hz2⟩ := info_parts infoT
  obtain ⟨hg, hV, hu, hsame⟩ := hG
  subst hy
  have hV1 := own_alloc hV (.cells #[.string (f (n + i))] 9)
  have hu1 := own_alloc hu (.cells #[.string (f (n + i))] 9)
  have hbw : base ≤ w.heap.size := Nat.le_trans hb0 hg.size
  have hga : w.grownBy (w.alloc (.cells #[.string (f (n + i))] 9)) none := World.grownBy_alloc _ _ _
  -- a new array
  have grows : ∀ (ao : Option Addr) (cap : Nat), u = .slice ao (n + i) cap → (ao = none → n + i = 0 ∧ cap = 0) → (∀ b, ao = some b → ∀ j v, (bl (n + i) f)[j]? = some v → (w.alloc (.cells #[.string (f (n + i))] 9)).cell? (b.add j) = some v) → cap < n + i + 1 →
      wpList Try.prog ops Q (o :: rest) a (w.alloc (.cells #[.string (f (n + i))] 9)) := by
    intro ao cap hu' hnone hcells hcap
    refine wpList_append_grows _ hgd s x 54 ho 9 i0 (.string ⟨#[]⟩) 1 16 Try.underlying54 hi hz0 hz1 hz2 rfl (by decide) ao (n + i) cap (bl (n + i) f) (hs.trans hu') hnone (by rw [bl_length]; omega) hcells ⟨w.heap.size, 0, none⟩ 1 1 [.string (f (n + i))] hx rfl (cell_one_new _ _ _) (by intro v hv; simp at hv; subst hv; rfl) hcap (by simp [maxLen]; omega) (by omega) ?_
    intro u' w' hown hgr
    rw [bl_snoc] at hown
    have hsz : (w.alloc (.cells #[.string (f (n + i))] 9)).heap.size = w.heap.size + 1 := by simp
    refine h u' w' ⟨grown_step hg (grown_of_alloc hgr) (.inr (by simp)), own_kept hV1 hgr ?_, ⟨hV.1, ?_⟩, .inr ?_⟩
    · rcases hV.shape with ⟨rfl, _⟩ | ⟨g, c, rfl, _⟩
      · exact .inl rfl
      · exact .inr (by simp [Value.ownBlock])
    · obtain ⟨h1, h2⟩ := hown
      refine ⟨h1, ?_⟩
      rcases h2 with h2 | ⟨g, c, cur, e1, e2, e3⟩
      · exact .inl h2
      · exact .inr ⟨g, c, cur, e1, by omega, e3⟩
    · intro q hq
      obtain ⟨h1, h2⟩ := hown
      rcases h2 with ⟨h2, h3⟩ | ⟨g, c, cur, rfl, e2, e3⟩
      · omega
      · simp [Value.ownBlock] at hq
        have := hg.size
        omega
  rcases hu.shape with ⟨hun, hn0⟩ | ⟨g, cap, hun, hgb, hgl, hnc, hcm, hc, _⟩
  · exact grows none 0 (by rw [hun, hn0]) (fun _ => ⟨hn0, rfl⟩) (fun b hb => by cases hb) (by omega)
  · by_cases hcap : n + i + 1 ≤ cap
    · subst hun
      refine wpList_append_fits _ hgd s x 54 ho base 9 i0 1 Try.underlying54 hi hz1 g (n + i) cap (bl (n + i) f) hs hu1.2 ⟨w.heap.size, 0, none⟩ 1 1 [.string (f (n + i))] hx rfl (cell_one_new _ _ _) (by intro v hv; simp at hv; subst hv; rfl) hcap ?_
      intro w' hown hgr
      rw [bl_snoc] at hown
      have hO : Own w' base (.slice (some ⟨g, 0, none⟩) (n + i + 1) cap) (n + i + 1) f := ⟨hV.1, hown⟩
      rcases hsame with ⟨g', cap', hVk, hu'⟩ | hnew
      · simp only [Value.slice.injEq, Option.some.injEq, Addr.mk.injEq, and_true, true_and] at hu'
        obtain ⟨rfl, rfl⟩ := hu'
        subst hVk
        exact h _ w' ⟨grown_step hg (grown_of_alloc hgr) (.inl rfl), own_prefix hO (by omega), hO, .inl ⟨g, cap, rfl, rfl⟩⟩
      · refine h _ w' ⟨grown_step hg (grown_of_alloc hgr) (.inr fun q hq => hnew q hq), own_kept hV1 hgr (ne_of_lt_row hlt hnew hV), hO, .inr (fun q hq => hnew q hq)⟩
    · subst hun
      refine grows (some ⟨g, 0, none⟩) cap rfl (fun h => by cases h) (fun b hb j v hj => ?_) (by omega)
      cases hb
      obtain ⟨hj1, rfl⟩ := bl_get_inv _ _ _ _ hj
      rw [By.add_plain, Nat.zero_add]
      rw [World.cell?_alloc_past _ _ _ hgl]
      exact hc j hj1
theorem own_base {w : World} {base base' : Nat} {v : Value} {n : Nat} {f : Nat → ByteArray} (h : Own w base v n f) (hb : base' ≤ base) : Own w base' v n f := by
  obtain ⟨h0, h1, h2⟩ := h
  refine ⟨h0, h1, ?_⟩
  rcases h2 with h2 | ⟨g, cap, cur, e1, e2, e3⟩
  · exact .inl h2
  · exact .inr ⟨g, cap, cur, e1, by omega, e3⟩
/-- The m lists V lie apart, and apart from the block L of their list. -/
structure AP (m L : Nat) (V : Nat → Value) : Prop where
  dis : ∀ i j, i < m → j < m → i ≠ j → (V i).ownBlock = none ∨ (V i).ownBlock ≠ (V j).ownBlock
  dl : ∀ j, j < m → (V j).ownBlock ≠ some L

/-- List j holds the bytes G j, and stands at place j of block L. -/
def Inv1 (w : World) (base m L : Nat) (V : Nat → Value) (N : Nat → Nat) (G : Nat → Nat → ByteArray) : Prop :=
  (∀ j, j < m → Own w base (V j) (N j) (G j)) ∧ ∀ j, j < m → w.cell? ⟨L, j, none⟩ = some (V j)

theorem inv1_congr {w : World} {base m L : Nat} {V : Nat → Value} {N : Nat → Nat} {G G' : Nat → Nat → ByteArray} (h : Inv1 w base m L V N G) (hb : ∀ j i, Bd (G' j i)) (e : ∀ j i, j < m → i < N j → G j i = G' j i) : Inv1 w base m L V N G' :=
  ⟨fun j hj => own_congr (h.1 j hj) (hb j) (fun i hi => e j i hj hi), h.2⟩

theorem inv1_store {w : World} {base m L : Nat} {V : Nat → Value} {N : Nat → Nat} {G : Nat → Nat → ByteArray} (hA : AP m L V) (h : Inv1 w base m L V N G) (k i g n cap : Nat) (hk : k < m) (hV : V k = .slice (some ⟨g, 0, none⟩) n cap) (hN : N k = n) (x : ByteArray) (hx : Bd (x)) :
    Inv1 (w.setCell ⟨g, i, none⟩ (.string x)) base m L V N (fun j i' => if j = k ∧ i' = i then x else G j i') ∧ w.grownBy (w.setCell ⟨g, i, none⟩ (.string x)) (some g) := by
  have hk1 := h.1 k hk
  rw [hV, hN] at hk1
  obtain ⟨s1, s2⟩ := own_store hk1 i x hx
  refine ⟨⟨fun j hj => ?_, fun j hj => ?_⟩, s2⟩
  · by_cases e : j = k
    · subst e
      rw [hV, hN]
      refine own_congr s1 (fun i' => ?_) (fun i' _ => by simp)
      show Bd ((if j = j ∧ i' = i then x else G j i'))
      split
      · exact hx
      · exact hk1.1 i'
    · have hj1 := own_kept (h.1 j hj) s2 (by
        have := hA.dis j k hj hk e
        rwa [hV] at this)
      exact own_congr hj1 (fun i' => by simp [e]; exact hj1.1 i') (fun i' _ => by simp [e])
  · refine s2.cell (h.2 j hj) (fun e => hA.dl k hk ?_)
    rw [hV]; exact e.symm

/-- Behind list k's first i bytes. -/
def G1 (F : Nat → Nat → ByteArray) (k i j i' : Nat) : ByteArray := if j < k ∨ (j = k ∧ i' < i) then Mk j i' else F j i'
theorem G1_bound (F : Nat → Nat → ByteArray) (hF : ∀ j i, Bd (F j i)) (k i j i' : Nat) : Bd (G1 F k i j i') := by
  unfold G1; split
  · exact Mk_bound _ _
  · exact hF _ _
theorem G1_step (F : Nat → Nat → ByteArray) (k i j i' : Nat) : (if j = k ∧ i' = i then Mk k i else G1 F k i j i') = G1 F k (i + 1) j i' := by
  unfold G1
  by_cases h : j = k ∧ i' = i
  · rw [if_pos h, if_pos (by omega), h.1, h.2]
  · rw [if_neg h]
    by_cases h2 : j < k ∨ (j = k ∧ i' < i)
    · rw [if_pos h2, if_pos (by omega)]
    · rw [if_neg h2, if_neg (by omega)]
theorem G1_next (F : Nat → Nat → ByteArray) (N : Nat → Nat) (k j i' : Nat) (h : i' < N j) : G1 F k (N k) j i' = G1 F (k + 1) 0 j i' := by
  unfold G1
  by_cases h2 : j < k ∨ (j = k ∧ i' < N k)
  · rw [if_pos h2, if_pos (by omega)]
  · have h4 : ¬ (j < k + 1 ∨ (j = k + 1 ∧ i' < 0)) := by
      rintro (h3 | h3)
      · by_cases e : j = k
        · subst e; exact h2 (.inr ⟨rfl, h⟩)
        · exact h2 (.inl (by omega))
      · omega
    rw [if_neg h2, if_neg h4]
theorem inv1_end {w : World} {base m L : Nat} {V : Nat → Value} {N : Nat → Nat} {F : Nat → Nat → ByteArray} (h : Inv1 w base m L V N (G1 F m 0)) : ∀ j, j < m → Own w base (V j) (N j) (Mk j) := fun j hj =>
  own_congr (h.1 j hj) (Mk_bound j) (fun i _ => by unfold G1; rw [if_pos (.inl hj)])

/-- Lists of lists and lists of bytes lie in blocks of other types. -/
theorem types_ne {w : World} {S base : Nat} {v v' : Value} {n n' : Nat} {xs : List Value} {f : Nat → ByteArray} (h : w.ownsRow S 54 1 v n xs) (h' : Own w base v' n' f) : v'.ownBlock = none ∨ v'.ownBlock ≠ v.ownBlock := by
  rcases h'.2.2 with ⟨rfl, _⟩ | ⟨g', cap', cur', rfl, _, hg', _⟩
  · exact .inl rfl
  · refine .inr fun e => ?_
    rcases h.2 with ⟨rfl, _⟩ | ⟨g, cap, cur, rfl, _, hg, _⟩
    · simp [Value.ownBlock] at e
    · simp [Value.ownBlock] at e
      subst e
      rw [hg] at hg'
      simp at hg'

/-- k lists have been gone on with: list j has become Wv j, and stands in the list gsv. -/
structure Inv2 (w : World) (base m L : Nat) (V : Nat → Value) (N : Nat → Nat) (S2 k : Nat) (Wv : Nat → Value) (gsv : Value) : Prop where
  olds : ∀ j, j < m → Own w base (V j) (N j) (Mk j)
  news : ∀ j, j < k → Own w base (Wv j) (N j + 6) (Mk j)
  cell : ∀ j, j < m → w.cell? ⟨L, j, none⟩ = some (V j)
  far : ∀ j, j < k → ∀ i, k ≤ i → i < m → (Wv j).ownBlock = none ∨ (Wv j).ownBlock ≠ (V i).ownBlock
  row : w.ownsRow S2 54 1 gsv k ((List.range k).map Wv)

theorem inv2_going {w0 w1 : World} {base m L : Nat} {V : Nat → Value} {N : Nat → Nat} {S2 k : Nat} {Wv : Nat → Value} {gsv u : Value} (hA : AP m L V) (hk : k < m) (h : Inv2 w0 base m L V N S2 k Wv gsv) (hG : Going w0 w1 base (V k) u (N k) 6 (Mk k)) :
    Inv2 w1 base m L V N S2 k Wv gsv := by
  obtain ⟨hg, hV, hu, _⟩ := hG
  refine ⟨fun j hj => ?_, fun j hj => own_kept (h.news j hj) hg (h.far j hj k (Nat.le_refl _) hk), fun j hj => grown_cell hg (h.cell j hj) (hA.dl k hk), h.far, ?_⟩
  · by_cases e : j = k
    · subst e; exact hV
    · exact own_kept (h.olds j hj) hg (hA.dis j k hj hk e)
  · refine h.row.kept hg ?_
    have := types_ne h.row (h.olds k hk)
    rcases this with e | e
    · rw [e]
      rcases h.row.2 with ⟨rfl, _⟩ | ⟨g, cap, cur, rfl, _⟩
      · exact .inl rfl
      · exact .inr (by simp [Value.ownBlock])
    · exact .inr (fun h => e h.symm)

theorem inv2_step {w0 w1 w2 : World} {base m L : Nat} {V : Nat → Value} {N : Nat → Nat} {S2 k : Nat} {Wv : Nat → Value} {gsv gsv' u : Value} (hA : AP m L V) (hk : k < m) (hL : L < S2) (h : Inv2 w0 base m L V N S2 k Wv gsv) (hG : Going w0 w1 base (V k) u (N k) 6 (Mk k))
    (hr : w2.ownsRow S2 54 1 gsv' (k + 1) ((List.range k).map Wv ++ [u])) (hg2 : (w1.alloc (.cells #[u] 54)).grownBy w2 gsv.ownBlock) :
    Inv2 w2 base m L V N S2 (k + 1) (fun j => if j = k then u else Wv j) gsv' := by
  have h1 := inv2_going hA hk h hG
  have hg : w1.grownBy w2 gsv.ownBlock := grown_of_alloc hg2
  refine ⟨fun j hj => own_kept (h1.olds j hj) hg (types_ne h1.row (h1.olds j hj)), fun j hj => ?_, fun j hj => grown_cell hg (h1.cell j hj) ?_, fun j hj i hi hm => ?_, ?_⟩
  · by_cases e : j = k
    · subst e
      simp only [if_true]
      exact own_kept hG.2.2.1 hg (types_ne h1.row hG.2.2.1)
    · rw [if_neg e]
      have := h1.news j (by omega)
      exact own_kept this hg (types_ne h1.row this)
  · intro e
    rcases h1.row.2 with ⟨rfl, _⟩ | ⟨g, cap, cur, rfl, hb, _⟩
    · simp [Value.ownBlock] at e
    · simp [Value.ownBlock] at e; omega
  · by_cases e : j = k
    · subst e
      simp only [if_true]
      rcases hG.2.2.2 with ⟨g, cap, e1, e2⟩ | hnew
      · have := hA.dis i j hm hk (by omega)
        have eb : u.ownBlock = (V j).ownBlock := by rw [e1, e2]; rfl
        rw [eb]
        rcases this with e3 | e3
        · rw [e3, e1]; exact .inr (by simp [Value.ownBlock])
        · exact .inr (fun e4 => e3 e4.symm)
      · rcases hG.2.2.1.shape with ⟨rfl, _⟩ | ⟨g, cap, rfl, _⟩
        · exact .inl rfl
        · refine .inr fun e4 => ?_
          have a1 := own_lt (h.olds i hm) g e4.symm
          have a2 := hnew g rfl
          omega
    · rw [if_neg e]
      exact h1.far j (by omega) i (by omega) hm
  · have e : (List.range (k + 1)).map (fun j => if j = k then u else Wv j) = (List.range k).map Wv ++ [u] := by
      rw [List.range_succ, List.map_append]
      congr 1
      · apply List.map_congr_left
        intro j hj
        have := List.mem_range.1 hj
        rw [if_neg (by omega)]
      · simp
    rw [e]
    exact hr
theorem own_apart {w w' : World} {base base' : Nat} {v v' : Value} {n n' : Nat} {f f' : Nat → ByteArray} (h : Own w base v n f) (hb : w.heap.size ≤ base') (h' : Own w' base' v' n' f') : v.ownBlock = none ∨ v.ownBlock ≠ v'.ownBlock := by
  rcases h.shape with ⟨rfl, _⟩ | ⟨g, cap, rfl, _, hl, _⟩
  · exact .inl rfl
  · refine .inr fun e => ?_
    have := own_row h' g e.symm
    omega
theorem ap_of (vs : List Value) (L : Nat) (hd : ∀ i j, i < j → j < vs.length → (lv vs i).ownBlock = none ∨ (lv vs i).ownBlock ≠ (lv vs j).ownBlock) (hl : ∀ j, j < vs.length → ∀ q, (lv vs j).ownBlock = some q → q < L) : AP vs.length L (lv vs) := by
  refine ⟨fun i j hi hj hne => ?_, fun j hj e => ?_⟩
  · rcases Nat.lt_or_gt_of_ne hne with h | h
    · exact hd i j h hj
    · exact apart_symm (hd j i h hi)
  · have := hl j hj L e
    omega
theorem inv1_lit (w : World) (base : Nat) (vs : List Value) (cs : Array Value) (hcs : cs = vs.toArray) (N : Nat → Nat) (F : Nat → Nat → ByteArray) (hO : ∀ j, j < vs.length → Own w base (lv vs j) (N j) (F j)) :
    Inv1 (w.alloc (.cells cs 54)) base vs.length w.heap.size (lv vs) N F := by
  subst hcs
  refine ⟨fun j hj => own_alloc (hO j hj) _, fun j hj => ?_⟩
  rw [World.cell?_alloc_at _ _ _ _ rfl]
  simp [lv, hj]
theorem own_lit_slice {w : World} {base : Nat} {v : Value} {n : Nat} {f : Nat → ByteArray} (h : Own w base v n f) : ∃ a c, v = .slice a n c := by
  obtain ⟨_, a, c, h, _⟩ := h.reads
  exact ⟨a, c, h⟩
end Go.Proofs.Ytnadpglfliiplaa.Tx
