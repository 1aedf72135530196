/- Lists, ledgers and what is lent: what the walks of laws over both sides need. -/
import Derived.Test.YtjhhnajgfngbhaaGreatDoorIdx
import Derived.Test.YtjhhnajgfngbhaaGreatDoorZnb
import Derived.Test.YtjhhnajgfngbhaaGreatDoorZnx
namespace Go.Proofs.YtjhhnajgfngbhaaGreatDoor.Dg
open Go.ChangeShapes Go.WideShapes Go.ChangeAt Go.RowKit
open Go.Proofs.YtjhhnajgfngbhaaGreatDoor.By
open Go.Proofs.YtjhhnajgfngbhaaGreatDoor.Sh (Blk size_alloc)
open Go.Proofs.YtjhhnajgfngbhaaGreatDoor.Kc (LS LI)
theorem ls_ko {W W' : World} {B n : Nat} {v : Value} {f : Nat → Int} {xs : List LI} (h : LS W B xs) (hk : Ko W W') (hz : B ≤ W'.heap.size) (ho : By.Own W' W.heap.size v n f) : LS W' B (xs ++ [⟨v, n, f⟩]) := h.put ⟨hz, fun x hx => hk.own (h.own x hx), h.ap⟩ ho
section
variable {w0 W : World} {B : Nat} {sts : List EM} {leds l1 l2 : List LE} {e : LE} {mb : Nat} {rv : Value} {L : List Rn}
theorem GM.keepO (h : GM w0 B sts (l1 ++ e :: l2) W) {base : Nat} {v : Value} {n : Nat} {f : Nat → Int} (ho : By.Own W base v n f) {w' : World} (hk : Kp (SE e) W w') : By.Own w' base v n f := Sg.own_kept ho hk (fun g hg hs => by
  obtain ⟨cs, hc⟩ := own_b8 ho hg
  obtain ⟨c', t', hb', ht'⟩ := (h.led e (by simp)).1.kind hs
  exact Blk.ne hc hb' (by rcases ht' with rfl | rfl | rfl <;> decide) rfl)
theorem GM.over8 (h : GM w0 B sts leds W) {v : Value} {n : Nat} {f : Nat → Int} (ho : By.Own W B v n f) {W' : World} (hg : W.grownBy W' v.ownBlock) : GM w0 B sts leds W' := h.turnO (Kp.of_grown hg) (fun j hj hlt => by
  obtain ⟨cs, hc⟩ := own_b8 ho hj
  exact ⟨own_row ho j hj, cs, _, hc, by decide⟩)
theorem GM.goR (h : GM w0 B sts (l1 ++ ⟨false, mb, rv, L⟩ :: l2) W) {W' : World} {L' : List Rn} (hr : RW W W' mb rv L') : ∃ rv', GM w0 B sts (l1 ++ ⟨false, mb, rv', L'⟩ :: l2) W' ∧ Ko W W' := by
  obtain ⟨⟨rv', h1, h2⟩, hk0⟩ := hr
  have hk : Kp (SE ⟨false, mb, rv, L⟩) W W' := hk0
  refine ⟨rv', h.turnL (e' := ⟨false, mb, rv', L'⟩) hk (fun j hj _ => .inl hj) h1 (fun j hj => ?_), fun g cs t hg ht => hg.kept hk (fun hs => ?_)⟩
  · rcases hj with e | e
    · exact .inl (.inl e)
    · rcases h2 with h2 | h2
      · exact .inl (.inr (h2 ▸ e))
      · exact .inr (h2 j e)
  · obtain ⟨c', t', hb', ht'⟩ := (h.led ⟨false, mb, rv, L⟩ (by simp)).1.kind hs
    exact Blk.ne hg hb' (oth_l ht ht') rfl
theorem GM.midR (h : GM w0 B sts (l1 ++ ⟨false, mb, rv, L⟩ :: l2) W) : RLed W mb rv L := (h.led ⟨false, mb, rv, L⟩ (by simp)).1
theorem GM.rdR (h : GM w0 B sts (l1 ++ ⟨false, mb, rv, L⟩ :: l2) W) {v : Value} {n : Nat} {f : Nat → Int} (hr : ∀ w', Below B w0 w' → By.RB w' v n f) : ∀ w', Kp (SM mb rv) W w' → By.RB w' v n f := fun w' hk => hr w' (h.seB (show Kp (SE ⟨false, mb, rv, L⟩) W w' from hk))
end
theorem rb_lent1 {W : World} {base g n cap : Nat} {f : Nat → Int} (ho : By.Own W base (.slice (some ⟨g, 0, none⟩) (n + 6) cap) (n + 6) (lent n f)) (hf : BB f) : By.RB W (.slice (some ⟨g, 0, none⟩) n cap) n f := by
  obtain ⟨_, a, c, hv, h1, h2, hc⟩ := ho.reads.first n (by omega)
  refine ⟨hf, a, c, hv, h1, h2, ?_⟩
  rcases hc with hc | ⟨b, off, e, hc⟩
  · exact .inl hc
  · exact .inr ⟨b, off, e, fun i hi => by rw [hc i hi]; unfold lent; rw [if_pos hi]⟩
end Go.Proofs.YtjhhnajgfngbhaaGreatDoor.Dg
