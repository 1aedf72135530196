/- One byte appended to a list that the call owns: whether there is room or a new array is made, the longer list is owned, the shorter one too, and nothing else has turned; lists of lists beside them. No function of the program in it, but its table of types. -/
import Derived.Test.YtfieheldneddeaaThere
import Derived.ArgAppend
namespace Go.Proofs.Ytfieheldneddeaa
open Go.ChangeShapes Go.WideShapes Go.ChangeAt Go.RowKit

/-- Mark i of list k, as the helper lays it. -/
def Mk (k i : Nat) : Int := (7 * ((k : Int) + 10) + (i : Int) + 1) % 256
theorem Mk_bound (k i : Nat) : 0 ≤ Mk k i ∧ Mk k i < 256 := by unfold Mk; omega

theorem own_prefix {w : World} {base g n m cap : Nat} {f : Nat → Int} (h : Own w base (.slice (some ⟨g, 0, none⟩) m cap) m f) (hn : n ≤ m) : Own w base (.slice (some ⟨g, 0, none⟩) n cap) n f := by
  refine ⟨h.1, by rw [bl_length]; omega, .inr ?_⟩
  rcases h.2.2 with ⟨h', _⟩ | ⟨g', cap', cur, h', hb, hg, hnc, hcm, hcs, ht⟩
  · simp at h'
  · simp only [Value.slice.injEq, Option.some.injEq, Addr.mk.injEq, and_true, true_and] at h'
    obtain ⟨rfl, rfl⟩ := h'
    refine ⟨g, cap, cur, rfl, hb, hg, by omega, hcm, hcs, ?_⟩
    have e : (bl m f).take n = bl n f := by
      apply List.ext_getElem?
      intro i
      rw [List.getElem?_take]
      by_cases hi : i < n
      · rw [if_pos hi, bl_get _ _ _ (by omega), bl_get _ _ _ hi]
      · rw [if_neg hi, List.getElem?_eq_none (by rw [bl_length]; omega)]
    rw [← e, ← ht, Nat.mul_one, Nat.mul_one, List.take_take, Nat.min_eq_left hn]

/-- What is owned stays, where its block is none that was written. -/
theorem own_kept {w w' : World} {base : Nat} {v : Value} {n : Nat} {f : Nat → Int} {row : Option Nat} (h : Own w base v n f) (hg : w.grownBy w' row) (hne : v.ownBlock = none ∨ v.ownBlock ≠ row) : Own w' base v n f := ⟨h.1, h.2.kept hg hne⟩
theorem own_alloc {w : World} {base : Nat} {v : Value} {n : Nat} {f : Nat → Int} (h : Own w base v n f) (o : Obj) : Own (w.alloc o) base v n f := own_kept h (World.grownBy_alloc w o none) (by
  rcases h.shape with ⟨rfl, _⟩ | ⟨g, cap, rfl, _⟩
  · exact .inl rfl
  · exact .inr (by simp [Value.ownBlock]))
theorem own_lt {w : World} {base : Nat} {v : Value} {n : Nat} {f : Nat → Int} (h : Own w base v n f) (q : Nat) (hq : v.ownBlock = some q) : q < w.heap.size := by
  rcases h.shape with ⟨rfl, _⟩ | ⟨g, cap, rfl, _, hl, _⟩
  · simp [Value.ownBlock] at hq
  · simp [Value.ownBlock] at hq; omega
theorem grown_none {w w' : World} {row : Option Nat} (h : w.grownBy w' none) : w.grownBy w' row := ⟨h.os, h.tape, h.output, h.size, fun k hk _ => h.block k hk (by simp)⟩
theorem grown_of_alloc {w w' : World} {o : Obj} {row : Option Nat} (h : (w.alloc o).grownBy w' row) : w.grownBy w' row := by
  have a := World.grownBy_alloc w o row
  exact ⟨h.os.trans a.os, h.tape.trans a.tape, h.output.trans a.output, Nat.le_trans a.size h.size, fun k hk hr => (h.block k (Nat.lt_of_lt_of_le hk a.size) hr).trans (a.block k hk hr)⟩
/-- A step that writes 'row' or blocks that are new since w0. -/
theorem grown_step {w0 w w' : World} {r r' : Option Nat} (h : w0.grownBy w r) (k : w.grownBy w' r') (hr : r' = r ∨ ∀ q, r' = some q → w0.heap.size ≤ q) : w0.grownBy w' r := by
  refine ⟨k.os.trans h.os, k.tape.trans h.tape, k.output.trans h.output, Nat.le_trans h.size k.size, fun j hj hn => ?_⟩
  rw [k.block j (Nat.lt_of_lt_of_le hj h.size) ?_, h.block j hj hn]
  rcases hr with rfl | hr
  · exact hn
  · intro e
    have := hr j e.symm
    omega

/-- The state while list Vk is gone on with: u is what it has become. -/
def Going (w0 w : World) (base : Nat) (Vk u : Value) (n i : Nat) (f : Nat → Int) : Prop :=
  w0.grownBy w Vk.ownBlock ∧ Own w base Vk n f ∧ Own w base u (n + i) f ∧
    ((∃ g cap, Vk = .slice (some ⟨g, 0, none⟩) n cap ∧ u = .slice (some ⟨g, 0, none⟩) (n + i) cap) ∨ (∀ q, u.ownBlock = some q → w0.heap.size ≤ q))

theorem bl_snoc (n : Nat) (f : Nat → Int) : bl n f ++ [.int .u8 (f n)] = bl (n + 1) f := by
  rw [bl_singleton, bl_append]
  apply bl_congr
  intro i hi
  by_cases h : i < n
  · rw [if_pos h]
  · rw [if_neg h, show i = n by omega]

theorem ne_of_lt_row {w0 w : World} {base : Nat} {Vk u : Value} {n : Nat} {f : Nat → Int} (h0 : ∀ q, Vk.ownBlock = some q → q < w0.heap.size) (hu : ∀ q, u.ownBlock = some q → w0.heap.size ≤ q) (ho : Own w base Vk n f) : Vk.ownBlock = none ∨ Vk.ownBlock ≠ u.ownBlock := by
  rcases ho.shape with ⟨rfl, _⟩ | ⟨g, cap, rfl, _⟩
  · exact .inl rfl
  · refine .inr fun e => ?_
    have h1 := h0 g rfl
    have h2 := hu g e.symm
    omega

/-- One byte more. -/
theorem wpList_push {w0 w : World} {ops : Array Oper} {rest : List Oper} {o : Oper} {a : Act} {Q : Exit → Act → World → Prop} (hgd : o.guard = none) (s x : Operand)
    (ho : o.op = .call { callee := .builtin .append, args := #[s, x], argTypes := #[32, 32] })
    (base : Nat) (Vk u : Value) (n i : Nat) (f : Nat → Int) (hG : Going w0 w base Vk u n i f) (hb0 : base ≤ w0.heap.size) (hlt : ∀ q, Vk.ownBlock = some q → q < w0.heap.size) (hN : n + i < 140737488355328) (y : Int) (hy : y = f (n + i))
    (hs : a.eval s = u) (hx : a.eval x = .slice (some ⟨w.heap.size, 0, none⟩) 1 1)
    (h : ∀ u' w', Going w0 w' base Vk u' n (i + 1) f → wpList Try.prog ops Q rest (a.put o.dst u') w') : wpList Try.prog ops Q (o :: rest) a (w.alloc (.cells #[.int .u8 y] 5)) := by
  obtain ⟨i0, hi, hz0, hz1, hz2⟩ := info_parts info5
  obtain ⟨hg, hV, hu, hsame⟩ := hG
  subst hy
  have hV1 := own_alloc hV (.cells #[.int .u8 (f (n + i))] 5)
  have hu1 := own_alloc hu (.cells #[.int .u8 (f (n + i))] 5)
  have hbw : base ≤ w.heap.size := Nat.le_trans hb0 hg.size
  have hga : w.grownBy (w.alloc (.cells #[.int .u8 (f (n + i))] 5)) none := World.grownBy_alloc _ _ _
  -- a new array
  have grows : ∀ (ao : Option Addr) (cap : Nat), u = .slice ao (n + i) cap → (ao = none → n + i = 0 ∧ cap = 0) → (∀ b, ao = some b → ∀ j v, (bl (n + i) f)[j]? = some v → (w.alloc (.cells #[.int .u8 (f (n + i))] 5)).cell? (b.add j) = some v) → cap < n + i + 1 →
      wpList Try.prog ops Q (o :: rest) a (w.alloc (.cells #[.int .u8 (f (n + i))] 5)) := by
    intro ao cap hu' hnone hcells hcap
    refine wpList_append_grows _ hgd s x 32 ho 5 i0 (.int .u8 0) 1 1 Try.underlying32 hi hz0 hz1 hz2 rfl (by decide) ao (n + i) cap (bl (n + i) f) (hs.trans hu') hnone (by rw [bl_length]; omega) hcells ⟨w.heap.size, 0, none⟩ 1 1 [.int .u8 (f (n + i))] hx rfl (cell_one_new _ _ _) (by intro v hv; simp at hv; subst hv; rfl) hcap (by simp [maxLen]; omega) (by omega) ?_
    intro u' w' hown hgr
    rw [bl_snoc] at hown
    have hsz : (w.alloc (.cells #[.int .u8 (f (n + i))] 5)).heap.size = w.heap.size + 1 := by simp
    refine h u' w' ⟨grown_step hg (grown_of_alloc hgr) (.inr (by simp)), own_kept hV1 hgr ?_, ⟨hV.1, ?_⟩, .inr ?_⟩
    · rcases hV.shape with ⟨rfl, _⟩ | ⟨g, c, rfl, _⟩
      · exact .inl rfl
      · exact .inr (by simp [Value.ownBlock])
    · obtain ⟨h1, h2⟩ := hown
      refine ⟨h1, ?_⟩
      rcases h2 with h2 | ⟨g, c, cur, e1, e2, e3⟩
      · exact .inl h2
      · exact .inr ⟨g, c, cur, e1, by omega, e3⟩
    · intro q hq
      obtain ⟨h1, h2⟩ := hown
      rcases h2 with ⟨h2, h3⟩ | ⟨g, c, cur, rfl, e2, e3⟩
      · omega
      · simp [Value.ownBlock] at hq
        have := hg.size
        omega
  rcases hu.shape with ⟨hun, hn0⟩ | ⟨g, cap, hun, hgb, hgl, hnc, hcm, hc, _⟩
  · exact grows none 0 (by rw [hun, hn0]) (fun _ => ⟨hn0, rfl⟩) (fun b hb => by cases hb) (by omega)
  · by_cases hcap : n + i + 1 ≤ cap
    · subst hun
      refine wpList_append_fits _ hgd s x 32 ho base 5 i0 1 Try.underlying32 hi hz1 g (n + i) cap (bl (n + i) f) hs hu1.2 ⟨w.heap.size, 0, none⟩ 1 1 [.int .u8 (f (n + i))] hx rfl (cell_one_new _ _ _) (by intro v hv; simp at hv; subst hv; rfl) hcap ?_
      intro w' hown hgr
      rw [bl_snoc] at hown
      have hO : Own w' base (.slice (some ⟨g, 0, none⟩) (n + i + 1) cap) (n + i + 1) f := ⟨hV.1, hown⟩
      rcases hsame with ⟨g', cap', hVk, hu'⟩ | hnew
      · simp only [Value.slice.injEq, Option.some.injEq, Addr.mk.injEq, and_true, true_and] at hu'
        obtain ⟨rfl, rfl⟩ := hu'
        subst hVk
        exact h _ w' ⟨grown_step hg (grown_of_alloc hgr) (.inl rfl), own_prefix hO (by omega), hO, .inl ⟨g, cap, rfl, rfl⟩⟩
      · refine h _ w' ⟨grown_step hg (grown_of_alloc hgr) (.inr fun q hq => hnew q hq), own_kept hV1 hgr (ne_of_lt_row hlt hnew hV), hO, .inr (fun q hq => hnew q hq)⟩
    · subst hun
      refine grows (some ⟨g, 0, none⟩) cap rfl (fun h => by cases h) (fun b hb j v hj => ?_) (by omega)
      cases hb
      obtain ⟨hj1, rfl⟩ := bl_get_inv _ _ _ _ hj
      rw [add_plain, Nat.zero_add]
      rw [World.cell?_alloc_past _ _ _ hgl]
      exact hc j hj1
end Go.Proofs.Ytfieheldneddeaa
