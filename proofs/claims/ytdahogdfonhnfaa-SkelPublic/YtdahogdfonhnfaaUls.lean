/- Several lists of bytes of the call's own, each apart from the others; ApartBytes of them. -/
import Derived.Test.YtdahogdfonhnfaaUpl
namespace Go.Proofs.Ytdahogdfonhnfaa.Ou
open Go.ChangeShapes Go.WideShapes Go.ChangeAt Go.RowKit
open Go.Proofs.Ytdahogdfonhnfaa.By
/-- A list: its value, how many bytes, which. -/
structure LI where
  v : Value
  n : Nat
  f : Nat → Int
def Apt (x y : LI) : Prop := x.v.ownBlock = none ∨ x.v.ownBlock ≠ y.v.ownBlock
structure LS (w : World) (B : Nat) (xs : List LI) : Prop where
  hB : B ≤ w.heap.size
  own : ∀ x ∈ xs, By.Own w B x.v x.n x.f
  ap : xs.Pairwise Apt
section
variable {w w' : World} {B n : Nat} {v : Value} {f : Nat → Int} {xs l1 l2 : List LI} {x : LI} {S : Nat → Prop}
theorem LS.nil (hB : B ≤ w.heap.size) : LS w B [] := ⟨hB, fun _ h => (by cases h), .nil⟩
theorem LS.below (h : LS w B xs) (hb : Below w.heap.size w w') : LS w' B xs := ⟨Nat.le_trans h.hB hb.size, fun x hx => own_below (h.own x hx) hb, h.ap⟩
theorem LS.put (h : LS w B xs) (h' : LS w' B xs) (ho : By.Own w' w.heap.size v n f) : LS w' B (xs ++ [⟨v, n, f⟩]) := by
  refine ⟨h'.hB, fun x hx => ?_, List.pairwise_append.2 ⟨h.ap, List.pairwise_singleton _ _, fun a ha b hb => ?_⟩⟩
  · rcases List.mem_append.1 hx with hx | hx
    · exact h'.own x hx
    · simp at hx; subst hx; exact own_base ho h.hB
  · simp at hb; subst hb
    exact own_apart (h.own a ha) (Nat.le_refl _) ho
theorem LS.snoc (h : LS w B xs) (hb : Below w.heap.size w w') (ho : By.Own w' w.heap.size v n f) : LS w' B (xs ++ [⟨v, n, f⟩]) := h.put (h.below hb) ho
theorem LS.over {n' : Nat} {f' : Nat → Int} (h : LS w B (l1 ++ x :: l2)) (hg : w.grownBy w' x.v.ownBlock) (ho : By.Own w' B x.v n' f') : LS w' B (l1 ++ ⟨x.v, n', f'⟩ :: l2) := by
  obtain ⟨p1, p2, p3⟩ := List.pairwise_append.1 h.ap
  obtain ⟨p4, p5⟩ := List.pairwise_cons.1 p2
  have keep : ∀ y, By.Own w B y.v y.n y.f → Apt y x → By.Own w' B y.v y.n y.f := fun y hy ha => own_keptB hy (Kp.of_grown hg) (fun g e e2 => by
    rcases ha with ha | ha
    · rw [ha] at e; cases e
    · exact ha (e.trans e2.symm))
  refine ⟨Nat.le_trans h.hB hg.size, fun y hy => ?_, List.pairwise_append.2 ⟨p1, List.pairwise_cons.2 ⟨fun a ha => p4 a ha, p5⟩, fun a ha b hb => ?_⟩⟩
  · rcases List.mem_append.1 hy with hy | hy
    · exact keep y (h.own y (by simp [hy])) (p3 y hy x (by simp))
    · rcases List.mem_cons.1 hy with rfl | hy
      · exact ho
      · exact keep y (h.own y (by simp [hy])) (apart_symm (p4 y hy))
  · rcases List.mem_cons.1 hb with rfl | hb
    · exact p3 a ha x (by simp)
    · exact p3 a ha b (by simp [hb])
theorem LS.sublist {ys : List LI} (h : LS w B ys) (hs : xs.Sublist ys) : LS w B xs := ⟨h.hB, fun x hx => h.own x (hs.subset hx), h.ap.sublist hs⟩
theorem LS.take (h : LS w B xs) (k : Nat) : LS w B (xs.take k) := h.sublist (List.take_sublist k xs)
theorem LS.at (h : LS w B xs) {i : Nat} (hi : xs[i]? = some x) : By.Own w B x.v x.n x.f := h.own x (List.mem_of_getElem? hi)
theorem LS.apart (h : LS w B xs) (cs : Array Value) (hcs : cs = (xs.map LI.v).toArray) (m : Nat) (hm : m = xs.length) (h0 : 0 < m) (h80 : m ≤ 80) (hN : ∀ x ∈ xs, x.n ≤ 140737488355000) :
    Calls Try.prog 24 #[.slice (some ⟨w.heap.size, 0, none⟩) m m] (w.alloc (.cells cs 26)) fun e w' => e = .returned (.bool true) ∧ Below B (w.alloc (.cells cs 26)) w' := by
  subst hm
  have gt : ∀ j, j < xs.length → ∃ x ∈ xs, xs[j]? = some x ∧ lv (xs.map LI.v) j = x.v := fun j hj => by
    refine ⟨xs[j], List.getElem_mem hj, List.getElem?_eq_getElem hj, ?_⟩
    unfold lv
    simp [hj]
  have hl : (xs.map LI.v).length = xs.length := List.length_map ..
  have hA : AP xs.length w.heap.size (lv (xs.map LI.v)) := by
    have := ap_of (xs.map LI.v) w.heap.size (fun i j hij hj => by
      rw [hl] at hj
      obtain ⟨x, _, hx, ex⟩ := gt i (by omega)
      obtain ⟨y, _, hy, ey⟩ := gt j hj
      rw [ex, ey]
      rw [List.getElem?_eq_getElem (by omega)] at hx hy
      have := List.pairwise_iff_getElem.1 h.ap i j (by omega) hj hij
      rw [Option.some.inj hx, Option.some.inj hy] at this
      exact this) (fun j hj q hq => by
      rw [hl] at hj
      obtain ⟨x, hm, _, ex⟩ := gt j hj
      rw [ex] at hq
      exact own_lt (h.own x hm) q hq)
    rw [hl] at this
    exact this
  have hI := inv1_lit w B (xs.map LI.v) cs hcs (fun j => (xs.getD j ⟨.slice none 0 0, 0, fun _ => 0⟩).n) (fun j => (xs.getD j ⟨.slice none 0 0, 0, fun _ => 0⟩).f) (fun j hj => by
    rw [hl] at hj
    obtain ⟨x, hm, hx, ex⟩ := gt j hj
    rw [ex, List.getD_eq_getElem?_getD, hx]
    exact h.own x hm)
  rw [hl] at hI
  refine By.apart30 B xs.length w.heap.size xs.length _ _ _ _ hA hI (fun j i => ?_) h80 h0 (fun j hj => ?_) (by simp; have := h.hB; omega)
  · rw [List.getD_eq_getElem?_getD]
    cases e : xs[j]? with
    | none => show (0 : Int) ≤ 0 ∧ (0 : Int) < 256; decide
    | some x => exact (h.at e).1 i
  · obtain ⟨x, hm, hx, _⟩ := gt j hj
    simp only [List.getD_eq_getElem?_getD, hx]
    exact hN x hm
theorem LS.perm {ys : List LI} (h : LS w B ys) (hp : ys.Perm xs) : LS w B xs :=
  ⟨h.hB, fun x hx => h.own x (hp.mem_iff.2 hx), (hp.pairwise_iff (fun {a b} (hab : Apt a b) => (apart_symm hab : Apt b a))).1 h.ap⟩
theorem LS.two (h : LS w B xs) (hb : Below w.heap.size w w') {v1 v2 : Value} {n1 n2 : Nat} {f1 f2 : Nat → Int} (o1 : By.Own w' w.heap.size v1 n1 f1) (o2 : By.Own w' w.heap.size v2 n2 f2) (h12 : v1.ownBlock = none ∨ v1.ownBlock ≠ v2.ownBlock) : LS w' B (xs ++ [⟨v1, n1, f1⟩, ⟨v2, n2, f2⟩]) := by
  have h1 := h.snoc hb o1
  have h2 := h.snoc hb o2
  refine ⟨h1.hB, fun x hx => ?_, List.pairwise_append.2 ⟨h.ap, List.pairwise_cons.2 ⟨fun y hy => ?_, List.pairwise_singleton _ _⟩, fun a ha b hb' => ?_⟩⟩
  · rcases List.mem_append.1 hx with hx | hx
    · exact h1.own x (List.mem_append.2 (.inl hx))
    · rcases List.mem_cons.1 hx with rfl | hx
      · exact own_base o1 h.hB
      · simp at hx; subst hx; exact own_base o2 h.hB
  · simp at hy; subst hy; exact h12
  · rcases List.mem_cons.1 hb' with rfl | hx
    · exact own_apart (h.own a ha) (Nat.le_refl _) o1
    · simp at hx; subst hx; exact own_apart (h.own a ha) (Nat.le_refl _) o2
/-- The first two are written over. -/
theorem LS.over2 {g1 g2 c1 c2 n1 n2 : Nat} {f1 f2 f1' f2' : Nat → Int} (h : LS w B (⟨.slice (some ⟨g1, 0, none⟩) n1 c1, n1, f1⟩ :: ⟨.slice (some ⟨g2, 0, none⟩) n2 c2, n2, f2⟩ :: xs)) (hk : Kp (fun j => j = g1 ∨ j = g2) w w')
    (o1 : By.Own w' B (.slice (some ⟨g1, 0, none⟩) n1 c1) n1 f1') (o2 : By.Own w' B (.slice (some ⟨g2, 0, none⟩) n2 c2) n2 f2') : LS w' B (⟨.slice (some ⟨g1, 0, none⟩) n1 c1, n1, f1'⟩ :: ⟨.slice (some ⟨g2, 0, none⟩) n2 c2, n2, f2'⟩ :: xs) := by
  obtain ⟨p1, p2⟩ := List.pairwise_cons.1 h.ap
  obtain ⟨p3, p4⟩ := List.pairwise_cons.1 p2
  refine ⟨Nat.le_trans h.hB hk.size, fun x hx => ?_, List.pairwise_cons.2 ⟨fun y hy => ?_, List.pairwise_cons.2 ⟨fun y hy => p3 y hy, p4⟩⟩⟩
  · rcases List.mem_cons.1 hx with rfl | hx1
    · exact o1
    · rcases List.mem_cons.1 hx1 with rfl | hx2
      · exact o2
      · refine own_keptB (h.own x (List.mem_cons_of_mem _ (List.mem_cons_of_mem _ hx2))) hk (fun g e e2 => ?_)
        rcases e2 with e2 | e2
        · rcases p1 x (List.mem_cons_of_mem _ hx2) with h | h
          · cases h
          · exact h (by rw [e, e2]; rfl)
        · rcases p3 x hx2 with h | h
          · cases h
          · exact h (by rw [e, e2]; rfl)
  · rcases List.mem_cons.1 hy with rfl | hy
    · have := p1 ⟨.slice (some ⟨g2, 0, none⟩) n2 c2, n2, f2⟩ (List.mem_cons_self ..)
      exact this
    · exact p1 y (List.mem_cons_of_mem _ hy)
end
end Go.Proofs.Ytdahogdfonhnfaa.Ou
