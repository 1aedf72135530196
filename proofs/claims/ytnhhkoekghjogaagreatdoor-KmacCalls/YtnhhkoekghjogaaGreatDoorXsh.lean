/- Calls that record, among several ledgers and lists: what they leave of the others. -/
import Derived.Test.YtnhhkoekghjogaaGreatDoorXrbeg
import Derived.Test.YtnhhkoekghjogaaGreatDoorXls
namespace Go.Proofs.YtnhhkoekghjogaaGreatDoor.Kc
open Go.ChangeShapes Go.WideShapes Go.ChangeAt Go.RowKit
open Go.Proofs.YtnhhkoekghjogaaGreatDoor.By Go.Proofs.YtnhhkoekghjogaaGreatDoor.Wd
section
variable {w0 W W' : World} {B : Nat} {sts : List (Nat × SK)} {leds leds1 leds2 : List LE} {lb n : Nat} {rv v : Value} {L L' : List Rn} {xs : List LI} {f : Nat → Int}
theorem LS.ko (h : LS W B xs) (hk : Ko W W') (hz : W.heap.size ≤ W'.heap.size) : LS W' B xs := ⟨Nat.le_trans h.hB hz, fun x hx => hk.own (h.own x hx), h.ap⟩
theorem LS.snocO (h : LS W B xs) (hk : Ko W W') (hz : W.heap.size ≤ W'.heap.size) (ho : By.Own W' W.heap.size v n f) : LS W' B (xs ++ [⟨v, n, f⟩]) := h.put (h.ko hk hz) ho
theorem GS.lgP (h : GS w0 B sts (leds1 ++ ⟨true, lb, rv, L⟩ :: leds2) W) : LG (SE ⟨true, lb, rv, L⟩) W W (some lb) L := ⟨.inl rfl, rv, h.midL.1, fun _ hg _ => .inr hg⟩
theorem GS.rgQ (h : GS w0 B sts (leds1 ++ ⟨false, lb, rv, L⟩ :: leds2) W) : RG (SE ⟨false, lb, rv, L⟩) W W (some lb) L := ⟨.inl rfl, rv, h.midL.1, fun _ hg _ => .inr hg⟩
theorem GS.turnP (h : GS w0 B sts (leds1 ++ ⟨true, lb, rv, L⟩ :: leds2) W) (hl : LG (SE ⟨true, lb, rv, L⟩) W W' (some lb) L') (hk : Kp (SE ⟨true, lb, rv, L⟩) W W') : ∃ rv', GS w0 B sts (leds1 ++ ⟨true, lb, rv', L'⟩ :: leds2) W' ∧ Ko W W' := by
  obtain ⟨_, rv', hl', ho'⟩ := hl
  exact ⟨rv', h.turnL (e' := ⟨true, lb, rv', L'⟩) (fun _ e => e) hk hl' rfl ho'⟩
theorem GS.turnQ (h : GS w0 B sts (leds1 ++ ⟨false, lb, rv, L⟩ :: leds2) W) (hl : RG (SE ⟨false, lb, rv, L⟩) W W' (some lb) L') (hk : Kp (SE ⟨false, lb, rv, L⟩) W W') : ∃ rv', GS w0 B sts (leds1 ++ ⟨false, lb, rv', L'⟩ :: leds2) W' ∧ Ko W W' := by
  obtain ⟨_, rv', hl', ho'⟩ := hl
  exact ⟨rv', h.turnL (e' := ⟨false, lb, rv', L'⟩) (fun _ e => e) hk hl' rfl ho'⟩
/-- A list of bytes of the call's own is written. -/
theorem GS.over8 (h : GS w0 B sts leds W) (ho : By.Own W B v n f) (hg : W.grownBy W' v.ownBlock) : GS w0 B sts leds W' := by
  cases e : v.ownBlock with
  | none =>
    rw [e] at hg
    exact h.below (below_of_grown hg)
  | some g =>
    rw [e] at hg
    obtain ⟨cs, hc⟩ := own8_type ho e
    have hge := own_row ho g e
    have hk : Kp (fun k => k = g) W W' := (Kp.of_grown hg).mono (fun k _ e => (Option.some.inj e).symm)
    exact h.other (t := 5) (cs := cs.toList) (by show W.heap[g]? = _; rw [hc]) (by decide) (by decide) (by decide) (by decide) hk hge
theorem below_no (hk : Kp (fun _ => False) W W') : Below W.heap.size W W' := hk.below (Nat.le_refl _) (fun _ _ e => e)
end
end Go.Proofs.YtnhhkoekghjogaaGreatDoor.Kc
