/- A ledger among several: what a call that records turns. -/
import Derived.Test.YtkmkbofokoimkaaDoorIpb0
namespace Go.Proofs.YtkmkbofokoimkaaDoor.Dg
open Go.ChangeShapes Go.WideShapes Go.ChangeAt Go.RowKit
open Go.Proofs.YtkmkbofokoimkaaDoor.By
open Go.Proofs.YtkmkbofokoimkaaDoor.Sh (Blk size_alloc)
section
variable {w0 W : World} {B : Nat} {sts : List EM} {leds l1 l2 : List LE} {e : LE} {lb : Nat} {rv : Value} {L : List Rn}
theorem GM.seB (h : GM w0 B sts (l1 ++ e :: l2) W) {W' : World} (hk : Kp (SE e) W W') : Below B w0 W' := h.bel.trans (hk.below h.hB (fun j hj hs => by have := (h.led e (by simp)).2 j hs; omega))
theorem GM.rdA (h : GM w0 B sts (l1 ++ e :: l2) W) {v : Value} {n : Nat} {f : Nat → Int} (hr : ∀ w', Below B w0 w' → By.RB w' v n f) : ∀ w', Kp (SE e) W w' → By.RB w' v n f := fun w' hk => hr w' (h.seB hk)
theorem GM.rdO (h : GM w0 B sts (l1 ++ e :: l2) W) {base : Nat} {v : Value} {n : Nat} {f : Nat → Int} (ho : By.Own W base v n f) : ∀ w', Kp (SE e) W w' → By.RB w' v n f := fun w' hk => (Sg.own_kept ho hk (fun g hg hs => by
  obtain ⟨cs, hc⟩ := own_b8 ho hg
  obtain ⟨c', t', hb', ht'⟩ := (h.led e (by simp)).1.kind hs
  exact Blk.ne hc hb' (by rcases ht' with rfl | rfl | rfl <;> decide) rfl)).reads
theorem GM.midL (h : GM w0 B sts (l1 ++ ⟨true, lb, rv, L⟩ :: l2) W) : Led W lb rv L ∧ ∀ j, SE ⟨true, lb, rv, L⟩ j → B ≤ j := h.led ⟨true, lb, rv, L⟩ (by simp)
theorem GM.no (h : GM w0 B sts (l1 ++ e :: l2) W) : ¬ SE e 0 ∧ ¬ SE e 1 := by
  have h1 := h.h1
  have h2 := (h.led e (by simp)).2
  exact ⟨fun e => by have := h2 0 e; omega, fun e => by have := h2 1 e; omega⟩
theorem GM.lg (h : GM w0 B sts (l1 ++ ⟨true, lb, rv, L⟩ :: l2) W) : LG (SE ⟨true, lb, rv, L⟩) W W (some lb) L := ⟨.inl rfl, rv, h.midL.1, fun _ hg _ => .inr hg⟩
/-- A ledger goes on. -/
theorem GM.goL (h : GM w0 B sts (l1 ++ ⟨true, lb, rv, L⟩ :: l2) W) {W' : World} {L' : List Rn} (hl : LG (SE ⟨true, lb, rv, L⟩) W W' (some lb) L') (hk : Kp (SE ⟨true, lb, rv, L⟩) W W') : ∃ rv', GM w0 B sts (l1 ++ ⟨true, lb, rv', L'⟩ :: l2) W' ∧ Ko W W' := by
  obtain ⟨_, rv', h1, h2⟩ := hl
  refine ⟨rv', h.turnL (e' := ⟨true, lb, rv', L'⟩) hk (fun j hj _ => .inl hj) h1 (fun j hj => ?_), fun g cs t hg ht => hg.kept hk (fun hs => ?_)⟩
  · rcases hj with e | e
    · exact .inl (.inl e)
    · by_cases hlt : j < W.heap.size
      · exact .inl (h2 j e hlt)
      · exact .inr (by omega)
  · obtain ⟨c', t', hb', ht'⟩ := (h.led ⟨true, lb, rv, L⟩ (by simp)).1.kind hs
    exact Blk.ne hg hb' (oth_l ht ht') rfl
end
end Go.Proofs.YtkmkbofokoimkaaDoor.Dg
