/- Lists of the call's own held apart: ApartBytes leaves all other blocks as they were. -/
import Derived.Test.YtjhhnajgfngbhaaGreatDoorZnx
import Derived.Test.YtjhhnajgfngbhaaGreatDoorAsapz
import Derived.Test.YtjhhnajgfngbhaaGreatDoorIpl
namespace Go.Proofs.YtjhhnajgfngbhaaGreatDoor.Kc
open Go.ChangeShapes Go.WideShapes Go.ChangeAt Go.RowKit
open Go.Proofs.YtjhhnajgfngbhaaGreatDoor.By
section
variable {w w' : World} {B n : Nat} {v : Value} {f : Nat → Int} {xs l1 l2 : List LI} {x : LI} {S : Nat → Prop}
theorem LS.dropK (h : LS w B xs) (k : Nat) : LS w B (xs.drop k) := h.sublist (List.drop_sublist k xs)
theorem LS.apartZ (h : LS w B xs) (cs : Array Value) (hcs : cs = (xs.map LI.v).toArray) (m : Nat) (hm : m = xs.length) (h0 : 0 < m) (h80 : m ≤ 80) (hN : ∀ x ∈ xs, x.n ≤ 140737488355000) :
    Calls Tryz.prog 14 #[.slice (some ⟨w.heap.size, 0, none⟩) m m] (w.alloc (.cells cs 22)) fun e w' => e = .returned (.bool true) ∧ Below B (w.alloc (.cells cs 22)) w' ∧ Kp (fun g => ∃ x ∈ xs, x.v.ownBlock = some g) (w.alloc (.cells cs 22)) w' := by
  subst hm
  have gt : ∀ j, j < xs.length → ∃ x ∈ xs, xs[j]? = some x ∧ lv (xs.map LI.v) j = x.v := fun j hj => by
    refine ⟨xs[j], List.getElem_mem hj, List.getElem?_eq_getElem hj, ?_⟩
    unfold lv
    simp [hj]
  have hl : (xs.map LI.v).length = xs.length := List.length_map ..
  have hA : AP xs.length w.heap.size (lv (xs.map LI.v)) := by
    have := ap_of (xs.map LI.v) w.heap.size (fun i j hij hj => by
      rw [hl] at hj
      obtain ⟨x, _, hx, ex⟩ := gt i (by omega)
      obtain ⟨y, _, hy, ey⟩ := gt j hj
      rw [ex, ey]
      rw [List.getElem?_eq_getElem (by omega)] at hx hy
      have := List.pairwise_iff_getElem.1 h.ap i j (by omega) hj hij
      rw [Option.some.inj hx, Option.some.inj hy] at this
      exact this) (fun j hj q hq => by
      rw [hl] at hj
      obtain ⟨x, hm, _, ex⟩ := gt j hj
      rw [ex] at hq
      obtain ⟨cs, hc⟩ := own8_type (h.own x hm) hq
      exact (Array.getElem?_eq_some_iff.1 hc).1)
    rw [hl] at this
    exact this
  have hI := inv1_lit w B (xs.map LI.v) cs hcs (fun j => (xs.getD j ⟨.slice none 0 0, 0, fun _ => 0⟩).n) (fun j => (xs.getD j ⟨.slice none 0 0, 0, fun _ => 0⟩).f) (fun j hj => by
    rw [hl] at hj
    obtain ⟨x, hm, hx, ex⟩ := gt j hj
    rw [ex, List.getD_eq_getElem?_getD, hx]
    exact h.own x hm)
  rw [hl] at hI
  refine (By.apart30z (fun g => g < (w.alloc (.cells cs 22)).heap.size ∧ ¬ ∃ x ∈ xs, x.v.ownBlock = some g) B xs.length w.heap.size xs.length _ _ _ _ hA hI (fun j i => ?_) (by omega) h0 (fun j hj => ?_) (by simp; have := h.hB; omega) (fun x hx => hx.1) (fun j hj x hx e => ?_)).mono ?_
  · rw [List.getD_eq_getElem?_getD]
    cases e : xs[j]? with
    | none => show (0 : Int) ≤ 0 ∧ (0 : Int) < 256; decide
    | some x => exact (h.at e).1 i
  · obtain ⟨x, hm, hx, _⟩ := gt j hj
    simp only [List.getD_eq_getElem?_getD, hx]
    exact hN x hm
  · obtain ⟨y, hm, _, ey⟩ := gt j hj
    rw [ey] at e
    exact hx.2 ⟨y, hm, e⟩
  · rintro e w' ⟨rfl, hb⟩
    exact ⟨rfl, hb.bel, ⟨hb.bel.os, hb.bel.tape, hb.bel.output, hb.bel.size, fun j hj hn => hb.same j ⟨hj, hn⟩⟩⟩
end
end Go.Proofs.YtjhhnajgfngbhaaGreatDoor.Kc
namespace Go.Proofs.YtjhhnajgfngbhaaGreatDoor.Dg
open Go.Proofs.YtjhhnajgfngbhaaGreatDoor.Kc (LS LI)
open Go.Proofs.YtjhhnajgfngbhaaGreatDoor.Sh (Blk size_alloc)
open Go.Proofs.YtjhhnajgfngbhaaGreatDoor.By
theorem GM.apart {w0 W W' : World} {B : Nat} {sts : List EM} {leds : List LE} {xs : List LI} (h : GM w0 B sts leds W) (hl : LS W B xs) (hk : Kp (fun g => ∃ x ∈ xs, x.v.ownBlock = some g) W W') : GM w0 B sts leds W' := h.turnO hk (fun j hj hlt => by
  obtain ⟨x, hx, e⟩ := hj
  obtain ⟨cs, hc⟩ := own_b8 (hl.own x hx) e
  exact ⟨own_row (hl.own x hx) j e, cs, _, hc, by decide⟩)
end Go.Proofs.YtjhhnajgfngbhaaGreatDoor.Dg
