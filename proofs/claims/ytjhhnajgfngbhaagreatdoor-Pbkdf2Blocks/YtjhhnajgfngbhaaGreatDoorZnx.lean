/- A list of bytes of the call's own gone on with: another list behind it, noughts behind it. Several lists of bytes of the call's own, each apart from the others; ApartBytes of them. -/
import Derived.Test.YtjhhnajgfngbhaaGreatDoorZba
import Derived.Laws.AppendOwnNone
import Derived.Lib.AppendZeros
import Derived.Test.YtjhhnajgfngbhaaGreatDoorZap
namespace Go.Proofs.YtjhhnajgfngbhaaGreatDoor.Kc
open Go.ChangeShapes Go.WideShapes Go.ChangeAt Go.RowKit
open Go.Proofs.YtjhhnajgfngbhaaGreatDoor.By

theorem own_kept {w w' : World} {base n : Nat} {v : Value} {f : Nat → Int} {S : Nat → Prop} (h : By.Own w base v n f) (hk : Kp S w w') (hne : ∀ g, v.ownBlock = some g → ¬ S g) : By.Own w' base v n f := by
  obtain ⟨hf, hl, h | ⟨g, cap, cur, rfl, hb, hc, h1, h2, h3, h4⟩⟩ := h
  · exact ⟨hf, hl, .inl h⟩
  · refine ⟨hf, hl, .inr ⟨g, cap, cur, rfl, hb, ?_, h1, h2, h3, h4⟩⟩
    rw [hk.block g (Array.getElem?_eq_some_iff.1 hc).1 (hne g rfl)]; exact hc
theorem own_mono {w : World} {B B' n : Nat} {v : Value} {f : Nat → Int} (h : By.Own w B v n f) (hb : B' ≤ B) : By.Own w B' v n f := by
  obtain ⟨hf, hl, h | ⟨g, cap, cur, rfl, h0, r⟩⟩ := h
  · exact ⟨hf, hl, .inl h⟩
  · exact ⟨hf, hl, .inr ⟨g, cap, cur, rfl, by omega, r⟩⟩
theorem own8_type {w : World} {base n : Nat} {v : Value} {f : Nat → Int} (h : By.Own w base v n f) {g : Nat} (hg : v.ownBlock = some g) : ∃ cs, w.heap[g]? = some (.cells cs 5 (0, 0)) := by
  obtain ⟨_, _, h | ⟨g', cap, cur, rfl, _, hc, _⟩⟩ := h
  · obtain ⟨rfl, _⟩ := h; simp [Value.ownBlock] at hg
  · simp [Value.ownBlock] at hg; subst hg; exact ⟨cur, hc⟩
/-- n bytes f, then g. -/
def cat (n : Nat) (f g : Nat → Int) (i : Nat) : Int := if i < n then f i else g (i - n)
theorem cat_bound {n : Nat} {f g : Nat → Int} (hf : ∀ i, 0 ≤ f i ∧ f i < 256) (hg : ∀ i, 0 ≤ g i ∧ g i < 256) (i : Nat) : 0 ≤ cat n f g i ∧ cat n f g i < 256 := by
  unfold cat; split
  · exact hf _
  · exact hg _
theorem wpList_cat {w : World} {ops : Array Oper} {rest : List Oper} {o : Oper} {a : Act} {Q : Exit → Act → World → Prop} (hgd : o.guard = none) (s x : Operand)
    (ho : o.op = .call { callee := .builtin .append, args := #[s, x], argTypes := #[22, 22] })
    (base n m : Nat) (v u : Value) (f g : Nat → Int) (hs : a.eval s = v) (hv : By.Own w base v n f) (hx : a.eval x = u) (hr : By.RB w u m g) (hn : n + m ≤ 140737488355328) (hb : base ≤ w.heap.size)
    (h : ∀ v' w', By.Own w' base v' (n + m) (cat n f g) → w.grownBy w' v.ownBlock → wpList Tryz.prog ops Q rest (a.put o.dst v') w') : wpList Tryz.prog ops Q (o :: rest) a w := by
  obtain ⟨hg, ad, cap, rfl, h1, h2, hc⟩ := hr
  obtain ⟨i0, hi, hz0, hz1, hz2⟩ := info_parts info5
  have hcat : bl n f ++ bl m g = bl (n + m) (cat n f g) := bl_append n m f g
  cases ad with
  | none =>
    have hm0 : m = 0 := by rcases hc with ⟨h, _⟩ | ⟨_, _, h, _⟩; exact h; cases h
    have hc0 : cap = 0 := by rcases hc with ⟨_, h⟩ | ⟨_, _, h, _⟩; exact h rfl; cases h
    subst hm0 hc0
    refine wpList_append_own_none hgd s x 22 ho base 5 i0 1 Tryz.underlying22 hi _ _ _ hs hv.2 hx ?_
    refine h v w ⟨cat_bound hv.1 hg, ?_⟩ (World.grownBy.refl _ _)
    rw [← hcat]; simpa [bl] using hv.2
  | some ad =>
    have HC : ∀ j u, (bl m g)[j]? = some u → w.cell? (ad.add j) = some u := by
      intro j u hj
      obtain ⟨hj1, rfl⟩ := bl_get_inv _ _ _ _ hj
      rcases hc with ⟨h, _⟩ | ⟨b, off, h, hc⟩
      · omega
      · cases h; rw [By.add_plain]; exact hc j hj1
    refine wpList_append_own _ hgd s x 22 ho base 5 i0 (.int .u8 0) 1 1 Tryz.underlying22 hi hz0 hz1 hz2 rfl (by decide) v n (bl n f) hs hv.2 ad m cap (bl m g) hx (by rw [bl_length]; omega) HC (bl_one m g) (by simp [maxLen]; omega) (by omega) hb ?_
    intro v' w' hown hgrow _
    exact h v' w' ⟨cat_bound hv.1 hg, by rw [← hcat]; exact hown⟩ hgrow
theorem below_grow {w w' w1 : World} {B n : Nat} {v : Value} {f : Nat → Int} (hb : Below B w w') (hB : B ≤ w'.heap.size) (ho : By.Own w' B v n f) (hg : w'.grownBy w1 v.ownBlock) : Below B w w1 := hb.grown hg hB (own_row ho)


end Go.Proofs.YtjhhnajgfngbhaaGreatDoor.Kc
namespace Go.Proofs.YtjhhnajgfngbhaaGreatDoor.Kc
open Go.ChangeShapes Go.WideShapes Go.ChangeAt Go.RowKit
open Go.Proofs.YtjhhnajgfngbhaaGreatDoor.By
/-- A list: its value, how many bytes, which. -/
structure LI where
  v : Value
  n : Nat
  f : Nat → Int
def Apt (x y : LI) : Prop := x.v.ownBlock = none ∨ x.v.ownBlock ≠ y.v.ownBlock
structure LS (w : World) (B : Nat) (xs : List LI) : Prop where
  hB : B ≤ w.heap.size
  own : ∀ x ∈ xs, By.Own w B x.v x.n x.f
  ap : xs.Pairwise Apt
section
variable {w w' : World} {B n : Nat} {v : Value} {f : Nat → Int} {xs l1 l2 : List LI} {x : LI} {S : Nat → Prop}
theorem LS.nil (hB : B ≤ w.heap.size) : LS w B [] := ⟨hB, fun _ h => (by cases h), .nil⟩
theorem LS.below (h : LS w B xs) (hb : Below w.heap.size w w') : LS w' B xs := ⟨Nat.le_trans h.hB hb.size, fun x hx => own_below (h.own x hx) hb, h.ap⟩
theorem LS.kept (h : LS w B xs) (hk : Kp S w w') (hS : ∀ g cs, w.heap[g]? = some (.cells cs 5 (0, 0)) → ¬ S g) : LS w' B xs :=
  ⟨Nat.le_trans h.hB hk.size, fun x hx => own_kept (h.own x hx) hk (fun g hg => by
    obtain ⟨cs, hc⟩ := own8_type (h.own x hx) hg
    exact hS g cs hc), h.ap⟩
theorem LS.put (h : LS w B xs) (h' : LS w' B xs) (ho : By.Own w' w.heap.size v n f) : LS w' B (xs ++ [⟨v, n, f⟩]) := by
  refine ⟨h'.hB, fun x hx => ?_, List.pairwise_append.2 ⟨h.ap, List.pairwise_singleton _ _, fun a ha b hb => ?_⟩⟩
  · rcases List.mem_append.1 hx with hx | hx
    · exact h'.own x hx
    · simp at hx; subst hx; exact own_mono ho h.hB
  · simp at hb; subst hb
    exact own_apart (h.own a ha) (Nat.le_refl _) ho
theorem LS.snoc (h : LS w B xs) (hb : Below w.heap.size w w') (ho : By.Own w' w.heap.size v n f) : LS w' B (xs ++ [⟨v, n, f⟩]) := h.put (h.below hb) ho
theorem LS.snocK (h : LS w B xs) (hk : Kp S w w') (hS : ∀ g cs, w.heap[g]? = some (.cells cs 5 (0, 0)) → ¬ S g) (ho : By.Own w' w.heap.size v n f) : LS w' B (xs ++ [⟨v, n, f⟩]) := h.put (h.kept hk hS) ho
theorem LS.over {n' : Nat} {f' : Nat → Int} (h : LS w B (l1 ++ x :: l2)) (hg : w.grownBy w' x.v.ownBlock) (ho : By.Own w' B x.v n' f') : LS w' B (l1 ++ ⟨x.v, n', f'⟩ :: l2) := by
  obtain ⟨p1, p2, p3⟩ := List.pairwise_append.1 h.ap
  obtain ⟨p4, p5⟩ := List.pairwise_cons.1 p2
  have keep : ∀ y, By.Own w B y.v y.n y.f → Apt y x → By.Own w' B y.v y.n y.f := fun y hy ha => own_kept hy (Kp.of_grown hg) (fun g e e2 => by
    rcases ha with ha | ha
    · rw [ha] at e; cases e
    · exact ha (e.trans e2.symm))
  refine ⟨Nat.le_trans h.hB hg.size, fun y hy => ?_, List.pairwise_append.2 ⟨p1, List.pairwise_cons.2 ⟨fun a ha => p4 a ha, p5⟩, fun a ha b hb => ?_⟩⟩
  · rcases List.mem_append.1 hy with hy | hy
    · exact keep y (h.own y (by simp [hy])) (p3 y hy x (by simp))
    · rcases List.mem_cons.1 hy with rfl | hy
      · exact ho
      · exact keep y (h.own y (by simp [hy])) (apart_symm (p4 y hy))
  · rcases List.mem_cons.1 hb with rfl | hb
    · exact p3 a ha x (by simp)
    · exact p3 a ha b (by simp [hb])
theorem LS.sublist {ys : List LI} (h : LS w B ys) (hs : xs.Sublist ys) : LS w B xs := ⟨h.hB, fun x hx => h.own x (hs.subset hx), h.ap.sublist hs⟩
theorem LS.take (h : LS w B xs) (k : Nat) : LS w B (xs.take k) := h.sublist (List.take_sublist k xs)
theorem LS.at (h : LS w B xs) {i : Nat} (hi : xs[i]? = some x) : By.Own w B x.v x.n x.f := h.own x (List.mem_of_getElem? hi)
theorem LS.apart (h : LS w B xs) (cs : Array Value) (hcs : cs = (xs.map LI.v).toArray) (m : Nat) (hm : m = xs.length) (h0 : 0 < m) (h80 : m ≤ 80) (hN : ∀ x ∈ xs, x.n ≤ 140737488355000) :
    Calls Tryz.prog 14 #[.slice (some ⟨w.heap.size, 0, none⟩) m m] (w.alloc (.cells cs 22)) fun e w' => e = .returned (.bool true) ∧ Below B (w.alloc (.cells cs 22)) w' := by
  subst hm
  have gt : ∀ j, j < xs.length → ∃ x ∈ xs, xs[j]? = some x ∧ lv (xs.map LI.v) j = x.v := fun j hj => by
    refine ⟨xs[j], List.getElem_mem hj, List.getElem?_eq_getElem hj, ?_⟩
    unfold lv
    simp [hj]
  have hl : (xs.map LI.v).length = xs.length := List.length_map ..
  have hA : AP xs.length w.heap.size (lv (xs.map LI.v)) := by
    have := ap_of (xs.map LI.v) w.heap.size (fun i j hij hj => by
      rw [hl] at hj
      obtain ⟨x, _, hx, ex⟩ := gt i (by omega)
      obtain ⟨y, _, hy, ey⟩ := gt j hj
      rw [ex, ey]
      rw [List.getElem?_eq_getElem (by omega)] at hx hy
      have := List.pairwise_iff_getElem.1 h.ap i j (by omega) hj hij
      rw [Option.some.inj hx, Option.some.inj hy] at this
      exact this) (fun j hj q hq => by
      rw [hl] at hj
      obtain ⟨x, hm, _, ex⟩ := gt j hj
      rw [ex] at hq
      obtain ⟨cs, hc⟩ := own8_type (h.own x hm) hq
      exact (Array.getElem?_eq_some_iff.1 hc).1)
    rw [hl] at this
    exact this
  have hI := inv1_lit w B (xs.map LI.v) cs hcs (fun j => (xs.getD j ⟨.slice none 0 0, 0, fun _ => 0⟩).n) (fun j => (xs.getD j ⟨.slice none 0 0, 0, fun _ => 0⟩).f) (fun j hj => by
    rw [hl] at hj
    obtain ⟨x, hm, hx, ex⟩ := gt j hj
    rw [ex, List.getD_eq_getElem?_getD, hx]
    exact h.own x hm)
  rw [hl] at hI
  refine By.apart30 B xs.length w.heap.size xs.length _ _ _ _ hA hI (fun j i => ?_) h80 h0 (fun j hj => ?_) (by simp; have := h.hB; omega)
  · rw [List.getD_eq_getElem?_getD]
    cases e : xs[j]? with
    | none => show (0 : Int) ≤ 0 ∧ (0 : Int) < 256; decide
    | some x => exact (h.at e).1 i
  · obtain ⟨x, hm, hx, _⟩ := gt j hj
    simp only [List.getD_eq_getElem?_getD, hx]
    exact hN x hm
end
end Go.Proofs.YtjhhnajgfngbhaaGreatDoor.Kc
