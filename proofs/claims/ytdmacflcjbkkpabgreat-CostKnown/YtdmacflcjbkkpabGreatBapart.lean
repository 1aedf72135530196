/- One byte appended to a list that the call owns; several lists that lie apart; what the helper ApartBytes answers. -/
import Derived.Test.YtdmacflcjbkkpabGreatBkit
namespace Go.Proofs.YtdmacflcjbkkpabGreat.By
open Go.ChangeShapes Go.WideShapes Go.ChangeAt Go.RowKit
/-- Mark i of list k, as the helper lays it. -/
def Mk (k i : Nat) : Int := (7 * ((k : Int) + 10) + (i : Int) + 1) % 256
theorem Mk_bound (k i : Nat) : 0 ≤ Mk k i ∧ Mk k i < 256 := by unfold Mk; omega

theorem own_prefix {w : World} {base g n m cap : Nat} {f : Nat → Int} (h : Own w base (.slice (some ⟨g, 0, none⟩) m cap) m f) (hn : n ≤ m) : Own w base (.slice (some ⟨g, 0, none⟩) n cap) n f := by
  refine ⟨h.1, by rw [bl_length]; omega, .inr ?_⟩
  rcases h.2.2 with ⟨h', _⟩ | ⟨g', cap', cur, h', hb, hg, hnc, hcm, hcs, ht⟩
  · simp at h'
  · simp only [Value.slice.injEq, Option.some.injEq, Addr.mk.injEq, and_true, true_and] at h'
    obtain ⟨rfl, rfl⟩ := h'
    refine ⟨g, cap, cur, rfl, hb, hg, by omega, hcm, hcs, ?_⟩
    have e : (bl m f).take n = bl n f := by
      apply List.ext_getElem?
      intro i
      rw [List.getElem?_take]
      by_cases hi : i < n
      · rw [if_pos hi, bl_get _ _ _ (by omega), bl_get _ _ _ hi]
      · rw [if_neg hi, List.getElem?_eq_none (by rw [bl_length]; omega)]
    rw [← e, ← ht, Nat.mul_one, Nat.mul_one, List.take_take, Nat.min_eq_left hn]

/-- What is owned stays, where its block is none that was written. -/
theorem own_kept {w w' : World} {base : Nat} {v : Value} {n : Nat} {f : Nat → Int} {row : Option Nat} (h : Own w base v n f) (hg : w.grownBy w' row) (hne : v.ownBlock = none ∨ v.ownBlock ≠ row) : Own w' base v n f := ⟨h.1, h.2.kept hg hne⟩
theorem own_alloc {w : World} {base : Nat} {v : Value} {n : Nat} {f : Nat → Int} (h : Own w base v n f) (o : Obj) : Own (w.alloc o) base v n f := own_kept h (World.grownBy_alloc w o none) (by
  rcases h.shape with ⟨rfl, _⟩ | ⟨g, cap, rfl, _⟩
  · exact .inl rfl
  · exact .inr (by simp [Value.ownBlock]))
theorem own_lt {w : World} {base : Nat} {v : Value} {n : Nat} {f : Nat → Int} (h : Own w base v n f) (q : Nat) (hq : v.ownBlock = some q) : q < w.heap.size := by
  rcases h.shape with ⟨rfl, _⟩ | ⟨g, cap, rfl, _, hl, _⟩
  · simp [Value.ownBlock] at hq
  · simp [Value.ownBlock] at hq; omega
theorem grown_none {w w' : World} {row : Option Nat} (h : w.grownBy w' none) : w.grownBy w' row := ⟨h.os, h.tape, h.output, h.size, fun k hk _ => h.block k hk (by simp)⟩
theorem grown_of_alloc {w w' : World} {o : Obj} {row : Option Nat} (h : (w.alloc o).grownBy w' row) : w.grownBy w' row := by
  have a := World.grownBy_alloc w o row
  exact ⟨h.os.trans a.os, h.tape.trans a.tape, h.output.trans a.output, Nat.le_trans a.size h.size, fun k hk hr => (h.block k (Nat.lt_of_lt_of_le hk a.size) hr).trans (a.block k hk hr)⟩
/-- A step that writes 'row' or blocks that are new since w0. -/
theorem grown_step {w0 w w' : World} {r r' : Option Nat} (h : w0.grownBy w r) (k : w.grownBy w' r') (hr : r' = r ∨ ∀ q, r' = some q → w0.heap.size ≤ q) : w0.grownBy w' r := by
  refine ⟨k.os.trans h.os, k.tape.trans h.tape, k.output.trans h.output, Nat.le_trans h.size k.size, fun j hj hn => ?_⟩
  rw [k.block j (Nat.lt_of_lt_of_le hj h.size) ?_, h.block j hj hn]
  rcases hr with rfl | hr
  · exact hn
  · intro e
    have := hr j e.symm
    omega

/-- The state while list Vk is gone on with: u is what it has become. -/
def Going (w0 w : World) (base : Nat) (Vk u : Value) (n i : Nat) (f : Nat → Int) : Prop :=
  w0.grownBy w Vk.ownBlock ∧ Own w base Vk n f ∧ Own w base u (n + i) f ∧
    ((∃ g cap, Vk = .slice (some ⟨g, 0, none⟩) n cap ∧ u = .slice (some ⟨g, 0, none⟩) (n + i) cap) ∨ (∀ q, u.ownBlock = some q → w0.heap.size ≤ q))

theorem bl_snoc (n : Nat) (f : Nat → Int) : bl n f ++ [.int .u8 (f n)] = bl (n + 1) f := by
  rw [bl_singleton, bl_append]
  apply bl_congr
  intro i hi
  by_cases h : i < n
  · rw [if_pos h]
  · rw [if_neg h, show i = n by omega]

theorem ne_of_lt_row {w0 w : World} {base : Nat} {Vk u : Value} {n : Nat} {f : Nat → Int} (h0 : ∀ q, Vk.ownBlock = some q → q < w0.heap.size) (hu : ∀ q, u.ownBlock = some q → w0.heap.size ≤ q) (ho : Own w base Vk n f) : Vk.ownBlock = none ∨ Vk.ownBlock ≠ u.ownBlock := by
  rcases ho.shape with ⟨rfl, _⟩ | ⟨g, cap, rfl, _⟩
  · exact .inl rfl
  · refine .inr fun e => ?_
    have h1 := h0 g rfl
    have h2 := hu g e.symm
    omega

theorem own_base {w : World} {base base' : Nat} {v : Value} {n : Nat} {f : Nat → Int} (h : Own w base v n f) (hb : base' ≤ base) : Own w base' v n f := by
  obtain ⟨h0, h1, h2⟩ := h
  refine ⟨h0, h1, ?_⟩
  rcases h2 with h2 | ⟨g, cap, cur, e1, e2, e3⟩
  · exact .inl h2
  · exact .inr ⟨g, cap, cur, e1, by omega, e3⟩
/-- The m lists V lie apart, and apart from the block L of their list. -/
structure AP (m L : Nat) (V : Nat → Value) : Prop where
  dis : ∀ i j, i < m → j < m → i ≠ j → (V i).ownBlock = none ∨ (V i).ownBlock ≠ (V j).ownBlock
  dl : ∀ j, j < m → (V j).ownBlock ≠ some L

/-- List j holds the bytes G j, and stands at place j of block L. -/
def Inv1 (w : World) (base m L : Nat) (V : Nat → Value) (N : Nat → Nat) (G : Nat → Nat → Int) : Prop :=
  (∀ j, j < m → Own w base (V j) (N j) (G j)) ∧ ∀ j, j < m → w.cell? ⟨L, j, none⟩ = some (V j)

theorem inv1_congr {w : World} {base m L : Nat} {V : Nat → Value} {N : Nat → Nat} {G G' : Nat → Nat → Int} (h : Inv1 w base m L V N G) (hb : ∀ j i, 0 ≤ G' j i ∧ G' j i < 256) (e : ∀ j i, j < m → i < N j → G j i = G' j i) : Inv1 w base m L V N G' :=
  ⟨fun j hj => own_congr (h.1 j hj) (hb j) (fun i hi => e j i hj hi), h.2⟩

theorem inv1_store {w : World} {base m L : Nat} {V : Nat → Value} {N : Nat → Nat} {G : Nat → Nat → Int} (hA : AP m L V) (h : Inv1 w base m L V N G) (k i g n cap : Nat) (hk : k < m) (hV : V k = .slice (some ⟨g, 0, none⟩) n cap) (hN : N k = n) (x : Int) (hx : 0 ≤ x ∧ x < 256) :
    Inv1 (w.setCell ⟨g, i, none⟩ (.int .u8 x)) base m L V N (fun j i' => if j = k ∧ i' = i then x else G j i') ∧ w.grownBy (w.setCell ⟨g, i, none⟩ (.int .u8 x)) (some g) := by
  have hk1 := h.1 k hk
  rw [hV, hN] at hk1
  obtain ⟨s1, s2⟩ := own_store hk1 i x hx
  refine ⟨⟨fun j hj => ?_, fun j hj => ?_⟩, s2⟩
  · by_cases e : j = k
    · subst e
      rw [hV, hN]
      refine own_congr s1 (fun i' => ?_) (fun i' _ => by simp)
      show 0 ≤ (if j = j ∧ i' = i then x else G j i') ∧ (if j = j ∧ i' = i then x else G j i') < 256
      split
      · exact hx
      · exact hk1.1 i'
    · have hj1 := own_kept (h.1 j hj) s2 (by
        have := hA.dis j k hj hk e
        rwa [hV] at this)
      exact own_congr hj1 (fun i' => by simp [e]; exact hj1.1 i') (fun i' _ => by simp [e])
  · refine s2.cell (h.2 j hj) (fun e => hA.dl k hk ?_)
    rw [hV]; exact e.symm

/-- Behind list k's first i bytes. -/
def G1 (F : Nat → Nat → Int) (k i j i' : Nat) : Int := if j < k ∨ (j = k ∧ i' < i) then Mk j i' else F j i'
theorem G1_bound (F : Nat → Nat → Int) (hF : ∀ j i, 0 ≤ F j i ∧ F j i < 256) (k i j i' : Nat) : 0 ≤ G1 F k i j i' ∧ G1 F k i j i' < 256 := by
  unfold G1; split
  · exact Mk_bound _ _
  · exact hF _ _
theorem G1_step (F : Nat → Nat → Int) (k i j i' : Nat) : (if j = k ∧ i' = i then Mk k i else G1 F k i j i') = G1 F k (i + 1) j i' := by
  unfold G1
  by_cases h : j = k ∧ i' = i
  · rw [if_pos h, if_pos (by omega), h.1, h.2]
  · rw [if_neg h]
    by_cases h2 : j < k ∨ (j = k ∧ i' < i)
    · rw [if_pos h2, if_pos (by omega)]
    · rw [if_neg h2, if_neg (by omega)]
theorem G1_next (F : Nat → Nat → Int) (N : Nat → Nat) (k j i' : Nat) (h : i' < N j) : G1 F k (N k) j i' = G1 F (k + 1) 0 j i' := by
  unfold G1
  by_cases h2 : j < k ∨ (j = k ∧ i' < N k)
  · rw [if_pos h2, if_pos (by omega)]
  · have h4 : ¬ (j < k + 1 ∨ (j = k + 1 ∧ i' < 0)) := by
      rintro (h3 | h3)
      · by_cases e : j = k
        · subst e; exact h2 (.inr ⟨rfl, h⟩)
        · exact h2 (.inl (by omega))
      · omega
    rw [if_neg h2, if_neg h4]
theorem inv1_end {w : World} {base m L : Nat} {V : Nat → Value} {N : Nat → Nat} {F : Nat → Nat → Int} (h : Inv1 w base m L V N (G1 F m 0)) : ∀ j, j < m → Own w base (V j) (N j) (Mk j) := fun j hj =>
  own_congr (h.1 j hj) (Mk_bound j) (fun i _ => by unfold G1; rw [if_pos (.inl hj)])

theorem grown_cell {w w' : World} {row : Option Nat} (hg : w.grownBy w' row) {a : Addr} {v : Value} (h : w.cell? a = some v) (hne : row ≠ some a.block) : w'.cell? a = some v := hg.cell h (fun e => hne e.symm)

theorem cell_past_push {w w1 : World} {o : Obj} {B : Nat} {v : Value} {a : Addr} {x : Value} (hg : ((w.alloc o).drew).grownBy w1 v.ownBlock) (hr : ∀ q, v.ownBlock = some q → B ≤ q) (h : w.cell? a = some x) (ha : a.block < B) : w1.cell? a = some x := by
  have g1 : (w.alloc o).grownBy w1 v.ownBlock := ⟨hg.os, hg.tape, hg.output, hg.size, hg.block⟩
  exact grown_cell (grown_of_alloc g1) h (fun e => by have := hr _ e; omega)
theorem below_push_drew {w w' w1 : World} {B : Nat} {v : Value} {n : Nat} {f : Nat → Int} {o : Obj} (hb : Below B w w') (hB : B ≤ w'.heap.size) (ho : Own w' B v n f) (hg : ((w'.alloc o).drew).grownBy w1 v.ownBlock) : Below B w w1 :=
  below_push hb hB ho (o := o) ⟨hg.os, hg.tape, hg.output, hg.size, hg.block⟩
theorem own_apart {w w' : World} {base base' : Nat} {v v' : Value} {n n' : Nat} {f f' : Nat → Int} (h : Own w base v n f) (hb : w.heap.size ≤ base') (h' : Own w' base' v' n' f') : v.ownBlock = none ∨ v.ownBlock ≠ v'.ownBlock := by
  rcases h.shape with ⟨rfl, _⟩ | ⟨g, cap, rfl, _, hl, _⟩
  · exact .inl rfl
  · refine .inr fun e => ?_
    have := own_row h' g e.symm
    omega
theorem apart_symm {a b : Option Nat} (h : a = none ∨ a ≠ b) : b = none ∨ b ≠ a := by
  rcases h with h | h
  · subst h
    cases b with
    | none => exact .inl rfl
    | some q => exact .inr (by simp)
  · exact .inr (fun e => h e.symm)
theorem own_drewN {w : World} {base : Nat} {v : Value} {n : Nat} {f : Nat → Int} (h : Own w base v n f) (k : Nat) : Own (w.drewN k) base v n f := h
theorem rb_lent {w : World} {base g n cap : Nat} {f : Nat → Int} (h : Own w base (.slice (some ⟨g, 0, none⟩) (n + 6) cap) (n + 6) (lent n f)) (hf : ∀ i, 0 ≤ f i ∧ f i < 256) : RB w (.slice (some ⟨g, 0, none⟩) n cap) n f :=
  (h.reads.first n (by omega)).congr hf (fun i hi => by unfold lent; rw [if_pos hi])
/-- The j-th of several values. -/
def lv (vs : List Value) (j : Nat) : Value := vs.getD j (.slice none 0 0)
theorem ap_of (vs : List Value) (L : Nat) (hd : ∀ i j, i < j → j < vs.length → (lv vs i).ownBlock = none ∨ (lv vs i).ownBlock ≠ (lv vs j).ownBlock) (hl : ∀ j, j < vs.length → ∀ q, (lv vs j).ownBlock = some q → q < L) : AP vs.length L (lv vs) := by
  refine ⟨fun i j hi hj hne => ?_, fun j hj e => ?_⟩
  · rcases Nat.lt_or_gt_of_ne hne with h | h
    · exact hd i j h hj
    · exact apart_symm (hd j i h hi)
  · have := hl j hj L e
    omega
theorem own_lit_slice {w : World} {base : Nat} {v : Value} {n : Nat} {f : Nat → Int} (h : Own w base v n f) : ∃ a c, v = .slice a n c := by
  obtain ⟨_, a, c, h, _⟩ := h.reads
  exact ⟨a, c, h⟩
end Go.Proofs.YtdmacflcjbkkpabGreat.By
