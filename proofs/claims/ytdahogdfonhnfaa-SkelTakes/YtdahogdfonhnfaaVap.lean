/- Lists of skeletons that lie apart. -/
import Derived.Test.YtdahogdfonhnfaaVls2
import Derived.Test.YtdahogdfonhnfaaBapart
namespace Go.Proofs.Ytdahogdfonhnfaa.Sp
open Go.ChangeShapes Go.WideShapes Go.ChangeAt Go.RowKit
open Go.Proofs.Ytdahogdfonhnfaa.By (hid grown_none grown_of_alloc grown_step grown_cell apart_symm lv)
open Go.Proofs.Ytdahogdfonhnfaa.Ou (Sk sL sv LDk SVk sL_one infok zS)
open Go.Proofs.Ytdahogdfonhnfaa.Sx (sl sl_length sl_snoc sl_take sl_congr upd mk mark_ok infoS cells_new own_put own_cell own_ld eqS eqS_refl)
/-- Nothing is asked of a skeleton. -/
def Bd (_ : Sk) : Prop := True
/-- Mark i of list k, as the helper lays it. -/
def Mk (k i : Nat) : Sk := mk ((k : Int) + 10) i
theorem Mk_bound (k i : Nat) : Bd (Mk k i) := trivial
def Own (w : World) (base : Nat) (v : Value) (n : Nat) (f : Nat → Sk) : Prop := (∀ i, Bd (f i)) ∧ w.ownsRow base 33 7 v n (sl n f)
theorem of_sx {w : World} {base : Nat} {v : Value} {n : Nat} {f : Nat → Sk} (h : Sx.Own w base v n f) : Own w base v n f := ⟨fun _ => trivial, h⟩
theorem Own.sx {w : World} {base : Nat} {v : Value} {n : Nat} {f : Nat → Sk} (h : Own w base v n f) : Sx.Own w base v n f := h.2
theorem Own.shape {w : World} {base : Nat} {v : Value} {n : Nat} {f : Nat → Sk} (h : Own w base v n f) :
    (v = .slice none 0 0 ∧ n = 0) ∨ ∃ g cap, v = .slice (some ⟨g, 0, none⟩) n cap ∧ base ≤ g ∧ g < w.heap.size ∧ n ≤ cap ∧ cap ≤ maxLen ∧
      (∀ p u, (sl n f)[p]? = some u → w.cell? ⟨g, p, none⟩ = some u) ∧ ∀ p, w.frozen? ⟨g, p, none⟩ = false := h.sx.shape
theorem own_row {w : World} {B : Nat} {v : Value} {n : Nat} {f : Nat → Sk} (ho : Own w B v n f) (k : Nat) (hk : v.ownBlock = some k) : B ≤ k := Sx.own_row ho.sx k hk
theorem own_lt {w : World} {base : Nat} {v : Value} {n : Nat} {f : Nat → Sk} (h : Own w base v n f) (q : Nat) (hq : v.ownBlock = some q) : q < w.heap.size := Sx.own_lt h.sx q hq
theorem own_congr {w : World} {base : Nat} {v : Value} {n : Nat} {f g : Nat → Sk} (h : Own w base v n f) (hg : ∀ i, Bd (g i)) (e : ∀ i, i < n → f i = g i) : Own w base v n g := ⟨hg, Sx.own_congr h.sx e⟩
theorem own_below {w w' : World} {base : Nat} {v : Value} {n : Nat} {f : Nat → Sk} (h : Own w base v n f) (hb : Below w.heap.size w w') : Own w' base v n f := of_sx (Sx.own_below h.sx hb)
theorem own_kept {w w' : World} {base : Nat} {v : Value} {n : Nat} {f : Nat → Sk} {row : Option Nat} (h : Own w base v n f) (hg : w.grownBy w' row) (hne : v.ownBlock = none ∨ v.ownBlock ≠ row) : Own w' base v n f := ⟨h.1, h.2.kept hg hne⟩
theorem own_alloc {w : World} {base : Nat} {v : Value} {n : Nat} {f : Nat → Sk} (h : Own w base v n f) (o : Obj) : Own (w.alloc o) base v n f := of_sx (Sx.own_alloc h.sx o)
theorem own_base {w : World} {base base' : Nat} {v : Value} {n : Nat} {f : Nat → Sk} (h : Own w base v n f) (hb : base' ≤ base) : Own w base' v n f := of_sx (Sx.own_base h.sx hb)
theorem own_lit_slice {w : World} {base : Nat} {v : Value} {n : Nat} {f : Nat → Sk} (h : Own w base v n f) : ∃ a c, v = .slice a n c := h.sx.reads.isSl
theorem own_prefix {w : World} {base g n m cap : Nat} {f : Nat → Sk} (h : Own w base (.slice (some ⟨g, 0, none⟩) m cap) m f) (hn : n ≤ m) : Own w base (.slice (some ⟨g, 0, none⟩) n cap) n f := by
  refine ⟨h.1, by rw [sl_length], .inr ?_⟩
  rcases h.2.2 with ⟨h', _⟩ | ⟨g', cap', cur, h', hb, hg, hnc, hcm, hcs, ht⟩
  · simp at h'
  · simp only [Value.slice.injEq, Option.some.injEq, Addr.mk.injEq, and_true, true_and] at h'
    obtain ⟨rfl, rfl⟩ := h'
    refine ⟨g, cap, cur, rfl, hb, hg, by omega, hcm, hcs, ?_⟩
    rw [← sl_take n m f hn, ← ht, List.take_take, Nat.min_eq_left (by omega)]
/-- The state while list Vk is gone on with: u is what it has become. -/
def Going (w0 w : World) (base : Nat) (Vk u : Value) (n i : Nat) (f : Nat → Sk) : Prop :=
  w0.grownBy w Vk.ownBlock ∧ Own w base Vk n f ∧ Own w base u (n + i) f ∧
    ((∃ g cap, Vk = .slice (some ⟨g, 0, none⟩) n cap ∧ u = .slice (some ⟨g, 0, none⟩) (n + i) cap) ∨ (∀ q, u.ownBlock = some q → w0.heap.size ≤ q))

theorem ne_of_lt_row {w0 w : World} {base : Nat} {Vk u : Value} {n : Nat} {f : Nat → Sk} (h0 : ∀ q, Vk.ownBlock = some q → q < w0.heap.size) (hu : ∀ q, u.ownBlock = some q → w0.heap.size ≤ q) (ho : Own w base Vk n f) : Vk.ownBlock = none ∨ Vk.ownBlock ≠ u.ownBlock := by
  rcases ho.shape with ⟨rfl, _⟩ | ⟨g, cap, rfl, _⟩
  · exact .inl rfl
  · refine .inr fun e => ?_
    have h1 := h0 g rfl
    have h2 := hu g e.symm
    omega

/-- One byte more. -/
theorem wpList_push {w0 w : World} {ops : Array Oper} {rest : List Oper} {o : Oper} {a : Act} {Q : Exit → Act → World → Prop} (hgd : o.guard = none) (s x : Operand)
    (ho : o.op = .call { callee := .builtin .append, args := #[s, x], argTypes := #[35, 35] })
    (base : Nat) (Vk u : Value) (n i : Nat) (f : Nat → Sk) (hG : Going w0 w base Vk u n i f) (hb0 : base ≤ w0.heap.size) (hlt : ∀ q, Vk.ownBlock = some q → q < w0.heap.size) (hN : (n + i + 1) * 56 ≤ 140737488355328) (y : Sk) (hy : y = f (n + i))
    (hs : a.eval s = u) (hx : a.eval x = .slice (some ⟨w.heap.size, 0, none⟩) 1 1)
    (h : ∀ u' w', Going w0 w' base Vk u' n (i + 1) f → wpList Try.prog ops Q rest (a.put o.dst u') w') : wpList Try.prog ops Q (o :: rest) a (w.alloc (.cells (sL y).toArray 33)) := by
  obtain ⟨i0, hi, hz0, hz1, hz2⟩ := info_parts infoS
  obtain ⟨hg, hV, hu, hsame⟩ := hG
  subst hy
  have hV1 := own_alloc hV (.cells (sL (f (n + i))).toArray 33)
  have hu1 := own_alloc hu (.cells (sL (f (n + i))).toArray 33)
  have hbw : base ≤ w.heap.size := Nat.le_trans hb0 hg.size
  have hga : w.grownBy (w.alloc (.cells (sL (f (n + i))).toArray 33)) none := World.grownBy_alloc _ _ _
  -- a new array
  have grows : ∀ (ao : Option Addr) (cap : Nat), u = .slice ao (n + i) cap → (ao = none → n + i = 0 ∧ cap = 0) → (∀ b, ao = some b → ∀ j v, (sl (n + i) f)[j]? = some v → (w.alloc (.cells (sL (f (n + i))).toArray 33)).cell? (b.add j) = some v) → cap < n + i + 1 →
      wpList Try.prog ops Q (o :: rest) a (w.alloc (.cells (sL (f (n + i))).toArray 33)) := by
    intro ao cap hu' hnone hcells hcap
    refine wpList_append_grows _ hgd s x 35 ho 33 i0 (sv zS) 7 56 Try.underlying35 hi hz0 hz1 hz2 rfl (by decide) ao (n + i) cap (sl (n + i) f) (hs.trans hu') hnone (sl_length _ _) hcells ⟨w.heap.size, 0, none⟩ 1 1 (sL (f (n + i))) hx rfl (cells_new _ _ _ rfl) (sL_one _) hcap (by simp [maxLen]; omega) hN ?_
    intro u' w' hown hgr
    rw [sl_snoc rfl] at hown
    have hsz : (w.alloc (.cells (sL (f (n + i))).toArray 33)).heap.size = w.heap.size + 1 := by simp
    refine h u' w' ⟨grown_step hg (grown_of_alloc hgr) (.inr (by simp)), own_kept hV1 hgr ?_, ⟨hV.1, ?_⟩, .inr ?_⟩
    · rcases hV.shape with ⟨rfl, _⟩ | ⟨g, c, rfl, _⟩
      · exact .inl rfl
      · exact .inr (by simp [Value.ownBlock])
    · obtain ⟨h1, h2⟩ := hown
      refine ⟨h1, ?_⟩
      rcases h2 with h2 | ⟨g, c, cur, e1, e2, e3⟩
      · exact .inl h2
      · exact .inr ⟨g, c, cur, e1, by omega, e3⟩
    · intro q hq
      obtain ⟨h1, h2⟩ := hown
      rcases h2 with ⟨h2, h3⟩ | ⟨g, c, cur, rfl, e2, e3⟩
      · omega
      · simp [Value.ownBlock] at hq
        have := hg.size
        omega
  rcases hu.shape with ⟨hun, hn0⟩ | ⟨g, cap, hun, hgb, hgl, hnc, hcm, hc, _⟩
  · exact grows none 0 (by rw [hun, hn0]) (fun _ => ⟨hn0, rfl⟩) (fun b hb => by cases hb) (by omega)
  · by_cases hcap : n + i + 1 ≤ cap
    · subst hun
      refine wpList_append_fits _ hgd s x 35 ho base 33 i0 7 Try.underlying35 hi hz1 g (n + i) cap (sl (n + i) f) hs hu1.2 ⟨w.heap.size, 0, none⟩ 1 1 (sL (f (n + i))) hx rfl (cells_new _ _ _ rfl) (sL_one _) hcap ?_
      intro w' hown hgr
      rw [sl_snoc rfl] at hown
      have hO : Own w' base (.slice (some ⟨g, 0, none⟩) (n + i + 1) cap) (n + i + 1) f := ⟨hV.1, hown⟩
      rcases hsame with ⟨g', cap', hVk, hu'⟩ | hnew
      · simp only [Value.slice.injEq, Option.some.injEq, Addr.mk.injEq, and_true, true_and] at hu'
        obtain ⟨rfl, rfl⟩ := hu'
        subst hVk
        exact h _ w' ⟨grown_step hg (grown_of_alloc hgr) (.inl rfl), own_prefix hO (by omega), hO, .inl ⟨g, cap, rfl, rfl⟩⟩
      · refine h _ w' ⟨grown_step hg (grown_of_alloc hgr) (.inr fun q hq => hnew q hq), own_kept hV1 hgr (ne_of_lt_row hlt hnew hV), hO, .inr (fun q hq => hnew q hq)⟩
    · subst hun
      refine grows (some ⟨g, 0, none⟩) cap rfl (fun h => by cases h) (fun b hb j v hj => ?_) (by omega)
      cases hb
      rw [By.add_plain, Nat.zero_add]
      rw [World.cell?_alloc_past _ _ _ hgl]
      exact hc j v hj
/-- The m lists V lie apart, and apart from the block L of their list. -/
structure AP (m L : Nat) (V : Nat → Value) : Prop where
  dis : ∀ i j, i < m → j < m → i ≠ j → (V i).ownBlock = none ∨ (V i).ownBlock ≠ (V j).ownBlock
  dl : ∀ j, j < m → (V j).ownBlock ≠ some L

/-- List j holds the bytes G j, and stands at place j of block L. -/
def Inv1 (w : World) (base m L : Nat) (V : Nat → Value) (N : Nat → Nat) (G : Nat → Nat → Sk) : Prop :=
  (∀ j, j < m → Own w base (V j) (N j) (G j)) ∧ ∀ j, j < m → w.cell? ⟨L, j, none⟩ = some (V j)

theorem inv1_congr {w : World} {base m L : Nat} {V : Nat → Value} {N : Nat → Nat} {G G' : Nat → Nat → Sk} (h : Inv1 w base m L V N G) (hb : ∀ j i, Bd (G' j i)) (e : ∀ j i, j < m → i < N j → G j i = G' j i) : Inv1 w base m L V N G' :=
  ⟨fun j hj => own_congr (h.1 j hj) (hb j) (fun i hi => e j i hj hi), h.2⟩

theorem inv1_store {w : World} {base m L : Nat} {V : Nat → Value} {N : Nat → Nat} {G : Nat → Nat → Sk} (hA : AP m L V) (h : Inv1 w base m L V N G) (k i g n cap : Nat) (hk : k < m) (hV : V k = .slice (some ⟨g, 0, none⟩) n cap) (hN : N k = n) (hi : i < n) (x : Sk) :
    (SVk ⟨g, i * 7, none⟩ (sv x)).run Try.prog w = .ok () (w.setCells g (i * 7) (sL x)) ∧ Inv1 (w.setCells g (i * 7) (sL x)) base m L V N (fun j i' => if j = k ∧ i' = i then x else G j i') ∧ w.grownBy (w.setCells g (i * 7) (sL x)) (some g) := by
  have hk1 := h.1 k hk
  rw [hV, hN] at hk1
  obtain ⟨s0, s1, s3⟩ := own_put hk1.sx hi x
  have s2 : w.grownBy (w.setCells g (i * 7) (sL x)) (some g) := ⟨s3.os, s3.tape, s3.output, s3.size, fun j hj hn => s3.block j hj (fun e => hn (by rw [e]))⟩
  refine ⟨s0, ⟨fun j hj => ?_, fun j hj => ?_⟩, s2⟩
  · by_cases e : j = k
    · subst e
      rw [hV, hN]
      exact own_congr (of_sx s1) (fun _ => trivial) (fun i' _ => by simp [upd])
    · have hj1 := own_kept (h.1 j hj) s2 (by
        have := hA.dis j k hj hk e
        rwa [hV] at this)
      exact own_congr hj1 (fun _ => trivial) (fun i' _ => by simp [e])
  · refine s2.cell (h.2 j hj) (fun e => hA.dl k hk ?_)
    rw [hV]; exact e.symm
/-- Behind list k's first i bytes. -/
def G1 (F : Nat → Nat → Sk) (k i j i' : Nat) : Sk := if j < k ∨ (j = k ∧ i' < i) then Mk j i' else F j i'
theorem G1_bound (F : Nat → Nat → Sk) (hF : ∀ j i, Bd (F j i)) (k i j i' : Nat) : Bd (G1 F k i j i') := by
  unfold G1; split
  · exact Mk_bound _ _
  · exact hF _ _
theorem G1_step (F : Nat → Nat → Sk) (k i j i' : Nat) : (if j = k ∧ i' = i then Mk k i else G1 F k i j i') = G1 F k (i + 1) j i' := by
  unfold G1
  by_cases h : j = k ∧ i' = i
  · rw [if_pos h, if_pos (by omega), h.1, h.2]
  · rw [if_neg h]
    by_cases h2 : j < k ∨ (j = k ∧ i' < i)
    · rw [if_pos h2, if_pos (by omega)]
    · rw [if_neg h2, if_neg (by omega)]
theorem G1_next (F : Nat → Nat → Sk) (N : Nat → Nat) (k j i' : Nat) (h : i' < N j) : G1 F k (N k) j i' = G1 F (k + 1) 0 j i' := by
  unfold G1
  by_cases h2 : j < k ∨ (j = k ∧ i' < N k)
  · rw [if_pos h2, if_pos (by omega)]
  · have h4 : ¬ (j < k + 1 ∨ (j = k + 1 ∧ i' < 0)) := by
      rintro (h3 | h3)
      · by_cases e : j = k
        · subst e; exact h2 (.inr ⟨rfl, h⟩)
        · exact h2 (.inl (by omega))
      · omega
    rw [if_neg h2, if_neg h4]
theorem inv1_end {w : World} {base m L : Nat} {V : Nat → Value} {N : Nat → Nat} {F : Nat → Nat → Sk} (h : Inv1 w base m L V N (G1 F m 0)) : ∀ j, j < m → Own w base (V j) (N j) (Mk j) := fun j hj =>
  own_congr (h.1 j hj) (Mk_bound j) (fun i _ => by unfold G1; rw [if_pos (.inl hj)])

/-- Lists of lists and lists of bytes lie in blocks of other types. -/
theorem types_ne {w : World} {S base : Nat} {v v' : Value} {n n' : Nat} {xs : List Value} {f : Nat → Sk} (h : w.ownsRow S 35 1 v n xs) (h' : Own w base v' n' f) : v'.ownBlock = none ∨ v'.ownBlock ≠ v.ownBlock := by
  rcases h'.2.2 with ⟨rfl, _⟩ | ⟨g', cap', cur', rfl, _, hg', _⟩
  · exact .inl rfl
  · refine .inr fun e => ?_
    rcases h.2 with ⟨rfl, _⟩ | ⟨g, cap, cur, rfl, _, hg, _⟩
    · simp [Value.ownBlock] at e
    · simp [Value.ownBlock] at e
      subst e
      rw [hg] at hg'
      simp at hg'

/-- k lists have been gone on with: list j has become Wv j, and stands in the list gsv. -/
structure Inv2 (w : World) (base m L : Nat) (V : Nat → Value) (N : Nat → Nat) (S2 k : Nat) (Wv : Nat → Value) (gsv : Value) : Prop where
  olds : ∀ j, j < m → Own w base (V j) (N j) (Mk j)
  news : ∀ j, j < k → Own w base (Wv j) (N j + 6) (Mk j)
  cell : ∀ j, j < m → w.cell? ⟨L, j, none⟩ = some (V j)
  far : ∀ j, j < k → ∀ i, k ≤ i → i < m → (Wv j).ownBlock = none ∨ (Wv j).ownBlock ≠ (V i).ownBlock
  row : w.ownsRow S2 35 1 gsv k ((List.range k).map Wv)

theorem inv2_going {w0 w1 : World} {base m L : Nat} {V : Nat → Value} {N : Nat → Nat} {S2 k : Nat} {Wv : Nat → Value} {gsv u : Value} (hA : AP m L V) (hk : k < m) (h : Inv2 w0 base m L V N S2 k Wv gsv) (hG : Going w0 w1 base (V k) u (N k) 6 (Mk k)) :
    Inv2 w1 base m L V N S2 k Wv gsv := by
  obtain ⟨hg, hV, hu, _⟩ := hG
  refine ⟨fun j hj => ?_, fun j hj => own_kept (h.news j hj) hg (h.far j hj k (Nat.le_refl _) hk), fun j hj => grown_cell hg (h.cell j hj) (hA.dl k hk), h.far, ?_⟩
  · by_cases e : j = k
    · subst e; exact hV
    · exact own_kept (h.olds j hj) hg (hA.dis j k hj hk e)
  · refine h.row.kept hg ?_
    have := types_ne h.row (h.olds k hk)
    rcases this with e | e
    · rw [e]
      rcases h.row.2 with ⟨rfl, _⟩ | ⟨g, cap, cur, rfl, _⟩
      · exact .inl rfl
      · exact .inr (by simp [Value.ownBlock])
    · exact .inr (fun h => e h.symm)

theorem inv2_step {w0 w1 w2 : World} {base m L : Nat} {V : Nat → Value} {N : Nat → Nat} {S2 k : Nat} {Wv : Nat → Value} {gsv gsv' u : Value} (hA : AP m L V) (hk : k < m) (hL : L < S2) (h : Inv2 w0 base m L V N S2 k Wv gsv) (hG : Going w0 w1 base (V k) u (N k) 6 (Mk k))
    (hr : w2.ownsRow S2 35 1 gsv' (k + 1) ((List.range k).map Wv ++ [u])) (hg2 : (w1.alloc (.cells #[u] 35)).grownBy w2 gsv.ownBlock) :
    Inv2 w2 base m L V N S2 (k + 1) (fun j => if j = k then u else Wv j) gsv' := by
  have h1 := inv2_going hA hk h hG
  have hg : w1.grownBy w2 gsv.ownBlock := grown_of_alloc hg2
  refine ⟨fun j hj => own_kept (h1.olds j hj) hg (types_ne h1.row (h1.olds j hj)), fun j hj => ?_, fun j hj => grown_cell hg (h1.cell j hj) ?_, fun j hj i hi hm => ?_, ?_⟩
  · by_cases e : j = k
    · subst e
      simp only [if_true]
      exact own_kept hG.2.2.1 hg (types_ne h1.row hG.2.2.1)
    · rw [if_neg e]
      have := h1.news j (by omega)
      exact own_kept this hg (types_ne h1.row this)
  · intro e
    rcases h1.row.2 with ⟨rfl, _⟩ | ⟨g, cap, cur, rfl, hb, _⟩
    · simp [Value.ownBlock] at e
    · simp [Value.ownBlock] at e; omega
  · by_cases e : j = k
    · subst e
      simp only [if_true]
      rcases hG.2.2.2 with ⟨g, cap, e1, e2⟩ | hnew
      · have := hA.dis i j hm hk (by omega)
        have eb : u.ownBlock = (V j).ownBlock := by rw [e1, e2]; rfl
        rw [eb]
        rcases this with e3 | e3
        · rw [e3, e1]; exact .inr (by simp [Value.ownBlock])
        · exact .inr (fun e4 => e3 e4.symm)
      · rcases hG.2.2.1.shape with ⟨rfl, _⟩ | ⟨g, cap, rfl, _⟩
        · exact .inl rfl
        · refine .inr fun e4 => ?_
          have a1 := own_lt (h.olds i hm) g e4.symm
          have a2 := hnew g rfl
          omega
    · rw [if_neg e]
      exact h1.far j (by omega) i (by omega) hm
  · have e : (List.range (k + 1)).map (fun j => if j = k then u else Wv j) = (List.range k).map Wv ++ [u] := by
      rw [List.range_succ, List.map_append]
      congr 1
      · apply List.map_congr_left
        intro j hj
        have := List.mem_range.1 hj
        rw [if_neg (by omega)]
      · simp
    rw [e]
    exact hr
theorem own_apart {w w' : World} {base base' : Nat} {v v' : Value} {n n' : Nat} {f f' : Nat → Sk} (h : Own w base v n f) (hb : w.heap.size ≤ base') (h' : Own w' base' v' n' f') : v.ownBlock = none ∨ v.ownBlock ≠ v'.ownBlock := by
  rcases h.shape with ⟨rfl, _⟩ | ⟨g, cap, rfl, _, hl, _⟩
  · exact .inl rfl
  · refine .inr fun e => ?_
    have := own_row h' g e.symm
    omega
theorem ap_of (vs : List Value) (L : Nat) (hd : ∀ i j, i < j → j < vs.length → (lv vs i).ownBlock = none ∨ (lv vs i).ownBlock ≠ (lv vs j).ownBlock) (hl : ∀ j, j < vs.length → ∀ q, (lv vs j).ownBlock = some q → q < L) : AP vs.length L (lv vs) := by
  refine ⟨fun i j hi hj hne => ?_, fun j hj e => ?_⟩
  · rcases Nat.lt_or_gt_of_ne hne with h | h
    · exact hd i j h hj
    · exact apart_symm (hd j i h hi)
  · have := hl j hj L e
    omega
theorem inv1_lit (w : World) (base : Nat) (vs : List Value) (cs : Array Value) (hcs : cs = vs.toArray) (N : Nat → Nat) (F : Nat → Nat → Sk) (hO : ∀ j, j < vs.length → Own w base (lv vs j) (N j) (F j)) :
    Inv1 (w.alloc (.cells cs 35)) base vs.length w.heap.size (lv vs) N F := by
  subst hcs
  refine ⟨fun j hj => own_alloc (hO j hj) _, fun j hj => ?_⟩
  rw [World.cell?_alloc_at _ _ _ _ rfl]
  simp [lv, hj]
end Go.Proofs.Ytdahogdfonhnfaa.Sp
