/- Several lists of bytes of the call's own, each apart from the others; ApartBytes of them. -/
import Derived.Test.YtjhhnajgfngbhaaGreatDoorXcat
import Derived.Test.YtjhhnajgfngbhaaGreatDoorZap
namespace Go.Proofs.YtjhhnajgfngbhaaGreatDoor.Kc
open Go.ChangeShapes Go.WideShapes Go.ChangeAt Go.RowKit
open Go.Proofs.YtjhhnajgfngbhaaGreatDoor.By
/-- A list: its value, how many bytes, which. -/
structure LI where
  v : Value
  n : Nat
  f : Nat → Int
def Apt (x y : LI) : Prop := x.v.ownBlock = none ∨ x.v.ownBlock ≠ y.v.ownBlock
structure LS (w : World) (B : Nat) (xs : List LI) : Prop where
  hB : B ≤ w.heap.size
  own : ∀ x ∈ xs, By.Own w B x.v x.n x.f
  ap : xs.Pairwise Apt
section
variable {w w' : World} {B n : Nat} {v : Value} {f : Nat → Int} {xs l1 l2 : List LI} {x : LI} {S : Nat → Prop}
theorem LS.nil (hB : B ≤ w.heap.size) : LS w B [] := ⟨hB, fun _ h => (by cases h), .nil⟩
theorem LS.below (h : LS w B xs) (hb : Below w.heap.size w w') : LS w' B xs := ⟨Nat.le_trans h.hB hb.size, fun x hx => own_below (h.own x hx) hb, h.ap⟩
theorem LS.kept (h : LS w B xs) (hk : Kp S w w') (hS : ∀ g cs, w.heap[g]? = some (.cells cs 5 (0, 0)) → ¬ S g) : LS w' B xs :=
  ⟨Nat.le_trans h.hB hk.size, fun x hx => own_kept (h.own x hx) hk (fun g hg => by
    obtain ⟨cs, hc⟩ := own8_type (h.own x hx) hg
    exact hS g cs hc), h.ap⟩
theorem LS.put (h : LS w B xs) (h' : LS w' B xs) (ho : By.Own w' w.heap.size v n f) : LS w' B (xs ++ [⟨v, n, f⟩]) := by
  refine ⟨h'.hB, fun x hx => ?_, List.pairwise_append.2 ⟨h.ap, List.pairwise_singleton _ _, fun a ha b hb => ?_⟩⟩
  · rcases List.mem_append.1 hx with hx | hx
    · exact h'.own x hx
    · simp at hx; subst hx; exact own_mono ho h.hB
  · simp at hb; subst hb
    exact own_apart (h.own a ha) (Nat.le_refl _) ho
theorem LS.snoc (h : LS w B xs) (hb : Below w.heap.size w w') (ho : By.Own w' w.heap.size v n f) : LS w' B (xs ++ [⟨v, n, f⟩]) := h.put (h.below hb) ho
theorem LS.snocK (h : LS w B xs) (hk : Kp S w w') (hS : ∀ g cs, w.heap[g]? = some (.cells cs 5 (0, 0)) → ¬ S g) (ho : By.Own w' w.heap.size v n f) : LS w' B (xs ++ [⟨v, n, f⟩]) := h.put (h.kept hk hS) ho
theorem LS.over {n' : Nat} {f' : Nat → Int} (h : LS w B (l1 ++ x :: l2)) (hg : w.grownBy w' x.v.ownBlock) (ho : By.Own w' B x.v n' f') : LS w' B (l1 ++ ⟨x.v, n', f'⟩ :: l2) := by
  obtain ⟨p1, p2, p3⟩ := List.pairwise_append.1 h.ap
  obtain ⟨p4, p5⟩ := List.pairwise_cons.1 p2
  have keep : ∀ y, By.Own w B y.v y.n y.f → Apt y x → By.Own w' B y.v y.n y.f := fun y hy ha => own_kept hy (Kp.of_grown hg) (fun g e e2 => by
    rcases ha with ha | ha
    · rw [ha] at e; cases e
    · exact ha (e.trans e2.symm))
  refine ⟨Nat.le_trans h.hB hg.size, fun y hy => ?_, List.pairwise_append.2 ⟨p1, List.pairwise_cons.2 ⟨fun a ha => p4 a ha, p5⟩, fun a ha b hb => ?_⟩⟩
  · rcases List.mem_append.1 hy with hy | hy
    · exact keep y (h.own y (by simp [hy])) (p3 y hy x (by simp))
    · rcases List.mem_cons.1 hy with rfl | hy
      · exact ho
      · exact keep y (h.own y (by simp [hy])) (apart_symm (p4 y hy))
  · rcases List.mem_cons.1 hb with rfl | hb
    · exact p3 a ha x (by simp)
    · exact p3 a ha b (by simp [hb])
theorem LS.sublist {ys : List LI} (h : LS w B ys) (hs : xs.Sublist ys) : LS w B xs := ⟨h.hB, fun x hx => h.own x (hs.subset hx), h.ap.sublist hs⟩
theorem LS.take (h : LS w B xs) (k : Nat) : LS w B (xs.take k) := h.sublist (List.take_sublist k xs)
theorem LS.at (h : LS w B xs) {i : Nat} (hi : xs[i]? = some x) : By.Own w B x.v x.n x.f := h.own x (List.mem_of_getElem? hi)
theorem LS.apart (h : LS w B xs) (cs : Array Value) (hcs : cs = (xs.map LI.v).toArray) (m : Nat) (hm : m = xs.length) (h0 : 0 < m) (h80 : m ≤ 80) (hN : ∀ x ∈ xs, x.n ≤ 140737488355000) :
    Calls Tryz.prog 14 #[.slice (some ⟨w.heap.size, 0, none⟩) m m] (w.alloc (.cells cs 22)) fun e w' => e = .returned (.bool true) ∧ Below B (w.alloc (.cells cs 22)) w' := by
  subst hm
  have gt : ∀ j, j < xs.length → ∃ x ∈ xs, xs[j]? = some x ∧ lv (xs.map LI.v) j = x.v := fun j hj => by
    refine ⟨xs[j], List.getElem_mem hj, List.getElem?_eq_getElem hj, ?_⟩
    unfold lv
    simp [hj]
  have hl : (xs.map LI.v).length = xs.length := List.length_map ..
  have hA : AP xs.length w.heap.size (lv (xs.map LI.v)) := by
    have := ap_of (xs.map LI.v) w.heap.size (fun i j hij hj => by
      rw [hl] at hj
      obtain ⟨x, _, hx, ex⟩ := gt i (by omega)
      obtain ⟨y, _, hy, ey⟩ := gt j hj
      rw [ex, ey]
      rw [List.getElem?_eq_getElem (by omega)] at hx hy
      have := List.pairwise_iff_getElem.1 h.ap i j (by omega) hj hij
      rw [Option.some.inj hx, Option.some.inj hy] at this
      exact this) (fun j hj q hq => by
      rw [hl] at hj
      obtain ⟨x, hm, _, ex⟩ := gt j hj
      rw [ex] at hq
      obtain ⟨cs, hc⟩ := own8_type (h.own x hm) hq
      exact (Array.getElem?_eq_some_iff.1 hc).1)
    rw [hl] at this
    exact this
  have hI := inv1_lit w B (xs.map LI.v) cs hcs (fun j => (xs.getD j ⟨.slice none 0 0, 0, fun _ => 0⟩).n) (fun j => (xs.getD j ⟨.slice none 0 0, 0, fun _ => 0⟩).f) (fun j hj => by
    rw [hl] at hj
    obtain ⟨x, hm, hx, ex⟩ := gt j hj
    rw [ex, List.getD_eq_getElem?_getD, hx]
    exact h.own x hm)
  rw [hl] at hI
  refine By.apart30 B xs.length w.heap.size xs.length _ _ _ _ hA hI (fun j i => ?_) h80 h0 (fun j hj => ?_) (by simp; have := h.hB; omega)
  · rw [List.getD_eq_getElem?_getD]
    cases e : xs[j]? with
    | none => show (0 : Int) ≤ 0 ∧ (0 : Int) < 256; decide
    | some x => exact (h.at e).1 i
  · obtain ⟨x, hm, hx, _⟩ := gt j hj
    simp only [List.getD_eq_getElem?_getD, hx]
    exact hN x hm
end
end Go.Proofs.YtjhhnajgfngbhaaGreatDoor.Kc
