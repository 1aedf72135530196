/- Several lists that the call owns, each in memory of its own, and the list of them: what stays and what turns when one of them is written or gone on with. No function of the program in it. -/
import Derived.Test.YtfieheldneddeaaPush
namespace Go.Proofs.Ytfieheldneddeaa
open Go.ChangeShapes Go.WideShapes Go.ChangeAt Go.RowKit

/-- The m lists V lie apart, and apart from the block L of their list. -/
structure AP (m L : Nat) (V : Nat → Value) : Prop where
  dis : ∀ i j, i < m → j < m → i ≠ j → (V i).ownBlock = none ∨ (V i).ownBlock ≠ (V j).ownBlock
  dl : ∀ j, j < m → (V j).ownBlock ≠ some L

/-- List j holds the bytes G j, and stands at place j of block L. -/
def Inv1 (w : World) (base m L : Nat) (V : Nat → Value) (N : Nat → Nat) (G : Nat → Nat → Int) : Prop :=
  (∀ j, j < m → Own w base (V j) (N j) (G j)) ∧ ∀ j, j < m → w.cell? ⟨L, j, none⟩ = some (V j)

theorem inv1_congr {w : World} {base m L : Nat} {V : Nat → Value} {N : Nat → Nat} {G G' : Nat → Nat → Int} (h : Inv1 w base m L V N G) (hb : ∀ j i, 0 ≤ G' j i ∧ G' j i < 256) (e : ∀ j i, j < m → i < N j → G j i = G' j i) : Inv1 w base m L V N G' :=
  ⟨fun j hj => own_congr (h.1 j hj) (hb j) (fun i hi => e j i hj hi), h.2⟩

theorem inv1_store {w : World} {base m L : Nat} {V : Nat → Value} {N : Nat → Nat} {G : Nat → Nat → Int} (hA : AP m L V) (h : Inv1 w base m L V N G) (k i g n cap : Nat) (hk : k < m) (hV : V k = .slice (some ⟨g, 0, none⟩) n cap) (hN : N k = n) (x : Int) (hx : 0 ≤ x ∧ x < 256) :
    Inv1 (w.setCell ⟨g, i, none⟩ (.int .u8 x)) base m L V N (fun j i' => if j = k ∧ i' = i then x else G j i') ∧ w.grownBy (w.setCell ⟨g, i, none⟩ (.int .u8 x)) (some g) := by
  have hk1 := h.1 k hk
  rw [hV, hN] at hk1
  obtain ⟨s1, s2⟩ := own_store hk1 i x hx
  refine ⟨⟨fun j hj => ?_, fun j hj => ?_⟩, s2⟩
  · by_cases e : j = k
    · subst e
      rw [hV, hN]
      refine own_congr s1 (fun i' => ?_) (fun i' _ => by simp)
      show 0 ≤ (if j = j ∧ i' = i then x else G j i') ∧ (if j = j ∧ i' = i then x else G j i') < 256
      split
      · exact hx
      · exact hk1.1 i'
    · have hj1 := own_kept (h.1 j hj) s2 (by
        have := hA.dis j k hj hk e
        rwa [hV] at this)
      exact own_congr hj1 (fun i' => by simp [e]; exact hj1.1 i') (fun i' _ => by simp [e])
  · refine s2.cell (h.2 j hj) (fun e => hA.dl k hk ?_)
    rw [hV]; exact e.symm

/-- Behind list k's first i bytes. -/
def G1 (F : Nat → Nat → Int) (k i j i' : Nat) : Int := if j < k ∨ (j = k ∧ i' < i) then Mk j i' else F j i'
theorem G1_bound (F : Nat → Nat → Int) (hF : ∀ j i, 0 ≤ F j i ∧ F j i < 256) (k i j i' : Nat) : 0 ≤ G1 F k i j i' ∧ G1 F k i j i' < 256 := by
  unfold G1; split
  · exact Mk_bound _ _
  · exact hF _ _
theorem G1_step (F : Nat → Nat → Int) (k i j i' : Nat) : (if j = k ∧ i' = i then Mk k i else G1 F k i j i') = G1 F k (i + 1) j i' := by
  unfold G1
  by_cases h : j = k ∧ i' = i
  · rw [if_pos h, if_pos (by omega), h.1, h.2]
  · rw [if_neg h]
    by_cases h2 : j < k ∨ (j = k ∧ i' < i)
    · rw [if_pos h2, if_pos (by omega)]
    · rw [if_neg h2, if_neg (by omega)]
theorem G1_next (F : Nat → Nat → Int) (N : Nat → Nat) (k j i' : Nat) (h : i' < N j) : G1 F k (N k) j i' = G1 F (k + 1) 0 j i' := by
  unfold G1
  by_cases h2 : j < k ∨ (j = k ∧ i' < N k)
  · rw [if_pos h2, if_pos (by omega)]
  · have h4 : ¬ (j < k + 1 ∨ (j = k + 1 ∧ i' < 0)) := by
      rintro (h3 | h3)
      · by_cases e : j = k
        · subst e; exact h2 (.inr ⟨rfl, h⟩)
        · exact h2 (.inl (by omega))
      · omega
    rw [if_neg h2, if_neg h4]
theorem inv1_end {w : World} {base m L : Nat} {V : Nat → Value} {N : Nat → Nat} {F : Nat → Nat → Int} (h : Inv1 w base m L V N (G1 F m 0)) : ∀ j, j < m → Own w base (V j) (N j) (Mk j) := fun j hj =>
  own_congr (h.1 j hj) (Mk_bound j) (fun i _ => by unfold G1; rw [if_pos (.inl hj)])

/-- Lists of lists and lists of bytes lie in blocks of other types. -/
theorem types_ne {w : World} {S base : Nat} {v v' : Value} {n n' : Nat} {xs : List Value} {f : Nat → Int} (h : w.ownsRow S 32 1 v n xs) (h' : Own w base v' n' f) : v'.ownBlock = none ∨ v'.ownBlock ≠ v.ownBlock := by
  rcases h'.2.2 with ⟨rfl, _⟩ | ⟨g', cap', cur', rfl, _, hg', _⟩
  · exact .inl rfl
  · refine .inr fun e => ?_
    rcases h.2 with ⟨rfl, _⟩ | ⟨g, cap, cur, rfl, _, hg, _⟩
    · simp [Value.ownBlock] at e
    · simp [Value.ownBlock] at e
      subst e
      rw [hg] at hg'
      simp at hg'

/-- k lists have been gone on with: list j has become Wv j, and stands in the list gsv. -/
structure Inv2 (w : World) (base m L : Nat) (V : Nat → Value) (N : Nat → Nat) (S2 k : Nat) (Wv : Nat → Value) (gsv : Value) : Prop where
  olds : ∀ j, j < m → Own w base (V j) (N j) (Mk j)
  news : ∀ j, j < k → Own w base (Wv j) (N j + 6) (Mk j)
  cell : ∀ j, j < m → w.cell? ⟨L, j, none⟩ = some (V j)
  far : ∀ j, j < k → ∀ i, k ≤ i → i < m → (Wv j).ownBlock = none ∨ (Wv j).ownBlock ≠ (V i).ownBlock
  row : w.ownsRow S2 32 1 gsv k ((List.range k).map Wv)

theorem grown_cell {w w' : World} {row : Option Nat} (hg : w.grownBy w' row) {a : Addr} {v : Value} (h : w.cell? a = some v) (hne : row ≠ some a.block) : w'.cell? a = some v := hg.cell h (fun e => hne e.symm)

theorem inv2_going {w0 w1 : World} {base m L : Nat} {V : Nat → Value} {N : Nat → Nat} {S2 k : Nat} {Wv : Nat → Value} {gsv u : Value} (hA : AP m L V) (hk : k < m) (h : Inv2 w0 base m L V N S2 k Wv gsv) (hG : Going w0 w1 base (V k) u (N k) 6 (Mk k)) :
    Inv2 w1 base m L V N S2 k Wv gsv := by
  obtain ⟨hg, hV, hu, _⟩ := hG
  refine ⟨fun j hj => ?_, fun j hj => own_kept (h.news j hj) hg (h.far j hj k (Nat.le_refl _) hk), fun j hj => grown_cell hg (h.cell j hj) (hA.dl k hk), h.far, ?_⟩
  · by_cases e : j = k
    · subst e; exact hV
    · exact own_kept (h.olds j hj) hg (hA.dis j k hj hk e)
  · refine h.row.kept hg ?_
    have := types_ne h.row (h.olds k hk)
    rcases this with e | e
    · rw [e]
      rcases h.row.2 with ⟨rfl, _⟩ | ⟨g, cap, cur, rfl, _⟩
      · exact .inl rfl
      · exact .inr (by simp [Value.ownBlock])
    · exact .inr (fun h => e h.symm)

theorem inv2_step {w0 w1 w2 : World} {base m L : Nat} {V : Nat → Value} {N : Nat → Nat} {S2 k : Nat} {Wv : Nat → Value} {gsv gsv' u : Value} (hA : AP m L V) (hk : k < m) (hL : L < S2) (h : Inv2 w0 base m L V N S2 k Wv gsv) (hG : Going w0 w1 base (V k) u (N k) 6 (Mk k))
    (hr : w2.ownsRow S2 32 1 gsv' (k + 1) ((List.range k).map Wv ++ [u])) (hg2 : (w1.alloc (.cells #[u] 32)).grownBy w2 gsv.ownBlock) :
    Inv2 w2 base m L V N S2 (k + 1) (fun j => if j = k then u else Wv j) gsv' := by
  have h1 := inv2_going hA hk h hG
  have hg : w1.grownBy w2 gsv.ownBlock := grown_of_alloc hg2
  refine ⟨fun j hj => own_kept (h1.olds j hj) hg (types_ne h1.row (h1.olds j hj)), fun j hj => ?_, fun j hj => grown_cell hg (h1.cell j hj) ?_, fun j hj i hi hm => ?_, ?_⟩
  · by_cases e : j = k
    · subst e
      simp only [if_true]
      exact own_kept hG.2.2.1 hg (types_ne h1.row hG.2.2.1)
    · rw [if_neg e]
      have := h1.news j (by omega)
      exact own_kept this hg (types_ne h1.row this)
  · intro e
    rcases h1.row.2 with ⟨rfl, _⟩ | ⟨g, cap, cur, rfl, hb, _⟩
    · simp [Value.ownBlock] at e
    · simp [Value.ownBlock] at e; omega
  · by_cases e : j = k
    · subst e
      simp only [if_true]
      rcases hG.2.2.2 with ⟨g, cap, e1, e2⟩ | hnew
      · have := hA.dis i j hm hk (by omega)
        have eb : u.ownBlock = (V j).ownBlock := by rw [e1, e2]; rfl
        rw [eb]
        rcases this with e3 | e3
        · rw [e3, e1]; exact .inr (by simp [Value.ownBlock])
        · exact .inr (fun e4 => e3 e4.symm)
      · rcases hG.2.2.1.shape with ⟨rfl, _⟩ | ⟨g, cap, rfl, _⟩
        · exact .inl rfl
        · refine .inr fun e4 => ?_
          have a1 := own_lt (h.olds i hm) g e4.symm
          have a2 := hnew g rfl
          omega
    · rw [if_neg e]
      exact h1.far j (by omega) i (by omega) hm
  · have e : (List.range (k + 1)).map (fun j => if j = k then u else Wv j) = (List.range k).map Wv ++ [u] := by
      rw [List.range_succ, List.map_append]
      congr 1
      · apply List.map_congr_left
        intro j hj
        have := List.mem_range.1 hj
        rw [if_neg (by omega)]
      · simp
    rw [e]
    exact hr
end Go.Proofs.Ytfieheldneddeaa
