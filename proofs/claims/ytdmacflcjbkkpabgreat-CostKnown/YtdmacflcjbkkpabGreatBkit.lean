/- What the statements' helpers on lists of bytes answer (lists lent, copied, held against each other, written over), for every list and world; and small facts on lists that were just built. -/
import Derived.Test.YtdmacflcjbkkpabGreatRows
import Derived.Test.YtdmacflcjbkkpabGreatBmem
import Derived.ArgAppend
import Derived.WalkSpells
import Derived.Deep.RegionHeld3
import Derived.Deep.DeepMust
import Derived.Laws.AppendOwnNone
namespace Go.Proofs.YtdmacflcjbkkpabGreat.By
open Go.ChangeShapes Go.WideShapes Go.ChangeAt Go.RowKit
theorem add_plain (b off j : Nat) : (⟨b, off, none⟩ : Addr).add j = ⟨b, off + j, none⟩ := by
  unfold Addr.add
  split <;> simp_all
theorem info5 : (Tryz.prog.info? 5).map (fun i => (i.zero, i.size, i.bytes)) = some (some (.int .u8 0), 1, 1) := by kernel_rfl
theorem own_nil (w : World) (base : Nat) (f : Nat → Int) (hf : ∀ i, 0 ≤ f i ∧ f i < 256) : Own w base (.slice none 0 0) 0 f := ⟨hf, World.ownsRow_nil _ _ _ _⟩
/-- What a lent list holds: its bytes, then six marks. -/
def lent (n : Nat) (f : Nat → Int) (i : Nat) : Int := if i < n then f i else (50 + ((i - n : Nat) : Int)) % 256
theorem lent_bound (n : Nat) (f : Nat → Int) (hf : ∀ i, 0 ≤ f i ∧ f i < 256) (i : Nat) : 0 ≤ lent n f i ∧ lent n f i < 256 := by
  unfold lent; split
  · exact hf i
  · omega
theorem lent_snoc (n : Nat) (f : Nat → Int) (k : Nat) (x : Int) (hx : x = (50 + (k : Int)) % 256) : bl (n + k) (lent n f) ++ [.int .u8 x] = bl (n + k + 1) (lent n f) := by
  rw [bl_singleton, bl_append]
  apply bl_congr
  intro i hi
  by_cases h : i < n + k
  · rw [if_pos h]
  · rw [if_neg h, hx]; unfold lent; rw [if_neg (by omega), show i - n = k by omega]
theorem own_row {w : World} {B : Nat} {v : Value} {n : Nat} {f : Nat → Int} (ho : Own w B v n f) (k : Nat) (hk : v.ownBlock = some k) : B ≤ k := by
  rcases ho.shape with ⟨rfl, _⟩ | ⟨g, cap, rfl, hb, _⟩
  · simp [Value.ownBlock] at hk
  · simp [Value.ownBlock] at hk; omega
theorem below_push {w w' w1 : World} {B : Nat} {v : Value} {n : Nat} {f : Nat → Int} {o : Obj} (hb : Below B w w') (hB : B ≤ w'.heap.size) (ho : Own w' B v n f) (hg : (w'.alloc o).grownBy w1 v.ownBlock) : Below B w w1 :=
  (hb.alloc hB o).grown hg (by simp; omega) (own_row ho)
/-- What a list that was written over holds. -/
def over (i : Nat) : Int := (64 + (i : Int)) % 256
theorem over_bound (i : Nat) : 0 ≤ over i ∧ over i < 256 := by unfold over; omega
theorem grown_trans {a b c : World} {r : Option Nat} (h : a.grownBy b r) (k : b.grownBy c r) : a.grownBy c r :=
  ⟨k.os.trans h.os, k.tape.trans h.tape, k.output.trans h.output, Nat.le_trans h.size k.size, fun j hj hr => (k.block j (Nat.lt_of_lt_of_le hj h.size) hr).trans (h.block j hj hr)⟩
theorem own_congr {w : World} {base : Nat} {v : Value} {n : Nat} {f g : Nat → Int} (h : Own w base v n f) (hg : ∀ i, 0 ≤ g i ∧ g i < 256) (e : ∀ i, i < n → f i = g i) : Own w base v n g :=
  ⟨hg, by rw [← bl_congr n f g e]; exact h.2⟩
theorem own_store {w : World} {base g N cap : Nat} {f : Nat → Int} (h : Own w base (.slice (some ⟨g, 0, none⟩) N cap) N f) (k : Nat) (x : Int) (hx : 0 ≤ x ∧ x < 256) :
    Own (w.setCell ⟨g, k, none⟩ (.int .u8 x)) base (.slice (some ⟨g, 0, none⟩) N cap) N (fun i => if i = k then x else f i) ∧ w.grownBy (w.setCell ⟨g, k, none⟩ (.int .u8 x)) (some g) := by
  obtain ⟨h1, h2⟩ := h.2.stored k (.int .u8 x)
  rw [bl_set] at h1
  refine ⟨⟨fun i => ?_, h1⟩, h2⟩
  show 0 ≤ (if i = k then x else f i) ∧ (if i = k then x else f i) < 256
  split
  · exact hx
  · exact h.1 i
theorem bl_zero (n : Nat) : (madeCells #[Value.int .u8 0] n).toList = bl n (fun _ => 0) := by
  rw [toList_madeCells_one]
  apply List.ext_getElem?
  intro i
  by_cases h : i < n
  · rw [bl_get _ _ _ h]; simp [h]
  · rw [List.getElem?_eq_none (l := bl n _) (by rw [bl_length]; omega)]; simp; omega
theorem own_lit (w : World) (cs : Array Value) (n : Nat) (f : Nat → Int) (hf : ∀ i, 0 ≤ f i ∧ f i < 256) (hn : n ≤ maxLen) (hs : cs.size = n) (hc : cs.toList = bl n f) :
    Own (w.alloc (.cells cs 5)) w.heap.size (.slice (some ⟨w.heap.size, 0, none⟩) n n) n f := by
  refine ⟨hf, ?_⟩
  have h := World.ownsRow_lit (base := w.heap.size) (e := 5) (size := 1) w cs n (Nat.le_refl _) hn (by omega)
  rw [← hc]
  exact h
theorem rb_lit (w : World) (cs : Array Value) (n : Nat) (f : Nat → Int) (hf : ∀ i, 0 ≤ f i ∧ f i < 256) (hn : n ≤ maxLen) (hs : cs.size = n) (hc : cs.toList = bl n f) :
    RB (w.alloc (.cells cs 5)) (.slice (some ⟨w.heap.size, 0, none⟩) n n) n f := (own_lit w cs n f hf hn hs hc).reads
theorem rb_lit' (w : World) (cs : Array Value) (g n : Nat) (f : Nat → Int) (hg : g = w.heap.size) (hf : ∀ i, 0 ≤ f i ∧ f i < 256) (hn : n ≤ maxLen) (hs : cs.size = n) (hc : cs.toList = bl n f) :
    RB (w.alloc (.cells cs 5)) (.slice (some ⟨g, 0, none⟩) n n) n f := by
  subst hg; exact rb_lit w cs n f hf hn hs hc
theorem RB.alloc {w : World} {v : Value} {n : Nat} {f : Nat → Int} (h : RB w v n f) (o : Obj) : RB (w.alloc o) v n f := h.below ((Below.refl _ _).alloc (Nat.le_refl _) o)
theorem below_alloc {B : Nat} {a w : World} (h : Below B a w) (hB : B = a.heap.size) (o : Obj) : Below B a (w.alloc o) := h.alloc (by subst hB; exact h.size) o
/-- A list out of numbers. -/
def lst (l : List Int) (i : Nat) : Int := l.getD i 0
theorem lst_bound (l : List Int) (h : l.all (fun z => decide (0 ≤ z ∧ z < 256)) = true) (i : Nat) : 0 ≤ lst l i ∧ lst l i < 256 := by
  unfold lst
  by_cases hi : i < l.length
  · have := List.all_eq_true.1 h l[i] (List.getElem_mem hi)
    simp [hi] at this ⊢
    omega
  · simp [List.getElem?_eq_none (Nat.le_of_not_lt hi)]
theorem own_below {w w' : World} {base : Nat} {v : Value} {n : Nat} {f : Nat → Int} (h : Own w base v n f) (hb : Below w.heap.size w w') : Own w' base v n f := by
  refine ⟨h.1, ?_⟩
  have hg : w.grownBy w' none := ⟨hb.os, hb.tape, hb.output, hb.size, fun k hk _ => hb.block k hk⟩
  rcases h.shape with ⟨rfl, _⟩ | ⟨g, cap, rfl, _⟩
  · exact h.2.kept hg (.inl rfl)
  · exact h.2.kept hg (.inr (by simp [Value.ownBlock]))
theorem bytes5 : Tryz.prog.bytesOf 5 = 1 := by kernel_rfl
theorem u8_bound {x : Int} (h : (Lit.int .u8 x).wf = true) : 0 ≤ x ∧ x < 256 := by
  simp [Lit.wf, IntKind.min, IntKind.max, IntKind.bits, IntKind.signed] at h; omega
theorem rb_of_row {w : World} {a : Option Addr} {len cap : Nat} {zs : List Int}
    (h : (a = none ∧ len = 0 ∧ cap = 0 ∧ zs = []) ∨
      ∃ x, a = some x ∧ len ≤ cap ∧ cap ≤ maxLen ∧ zs.length = cap ∧ (∀ i, i < zs.length → w.cell? (x.add i) = some (.int .u8 (zs.getD i 0))) ∧ ∀ n ∈ zs, (Lit.int .u8 n).wf = true) :
    RB w (.slice a len cap) len (lst zs) := by
  rcases h with ⟨rfl, rfl, rfl, rfl⟩ | ⟨x, rfl, hl, hm, hz, hcell, hwz⟩
  · exact ⟨lst_bound _ rfl, none, 0, rfl, Nat.le_refl _, by simp [maxLen], .inl ⟨rfl, fun _ => rfl⟩⟩
  · have hb : ∀ i, 0 ≤ lst zs i ∧ lst zs i < 256 := by
      intro i
      unfold lst
      by_cases hi : i < zs.length
      · have := u8_bound (hwz zs[i] (List.getElem_mem hi))
        simp [hi]; omega
      · simp [List.getElem?_eq_none (Nat.le_of_not_lt hi)]
    by_cases h0 : len = 0
    · subst h0
      exact ⟨hb, _, _, rfl, by omega, hm, .inl ⟨rfl, fun h => by cases h⟩⟩
    · obtain ⟨b, off, spot⟩ := x
      have hc := hcell 0 (by omega)
      have hspot : spot = none := by simpa [Addr.add] using World.cell?_spot hc
      subst hspot
      refine ⟨hb, _, _, rfl, hl, hm, .inr ⟨b, off, rfl, fun i hi => ?_⟩⟩
      have := hcell i (by omega)
      rw [add_plain] at this
      exact this
theorem own_cells {w : World} {base : Nat} {v : Value} {n : Nat} {f : Nat → Int} (h : Own w base v n f) (hn : 0 < n) : ∃ g cap, v = .slice (some ⟨g, 0, none⟩) n cap ∧ ∀ i, i < n → w.cell? ⟨g, i, none⟩ = some (.int .u8 (f i)) := by
  rcases h.shape with ⟨_, h0⟩ | ⟨g, cap, rfl, _, _, _, _, hc, _⟩
  · omega
  · exact ⟨g, cap, rfl, hc⟩
theorem rb_cap {w : World} {a : Option Addr} {n cap : Nat} {f : Nat → Int} (h : RB w (.slice a n cap) n f) : n ≤ cap := by
  obtain ⟨_, a', c', hv, h1, _⟩ := h
  simp at hv
  omega
end Go.Proofs.YtdmacflcjbkkpabGreat.By
