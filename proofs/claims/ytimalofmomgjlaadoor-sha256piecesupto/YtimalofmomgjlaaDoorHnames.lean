/- The law Sha256Names, walked. -/
import Derived.Test.YtimalofmomgjlaaDoorHlives
namespace Go.Proofs.YtimalofmomgjlaaDoor.Sh
open Go.ChangeShapes Go.WideShapes Go.ChangeAt Go.RowKit
open Go.Proofs.YtimalofmomgjlaaDoor.By Go.Proofs.YtimalofmomgjlaaDoor.Wd

def w0l : List Int := [3820012610, 2566659092, 2600203464, 2574235940, 665731556, 1687917388, 2761267483, 2018687061]
def w56l : List Int := [613247585, 3523623096, 3854575251, 205414457, 2738676825, 1694441831, 4142722516, 433784513]
def t56 : List Int := [97, 98, 99, 100, 98, 99, 100, 101, 99, 100, 101, 102, 100, 101, 102, 103, 101, 102, 103, 104, 102, 103, 104, 105, 103, 104, 105, 106, 104, 105, 106, 107, 105, 106, 107, 108, 106, 107, 108, 109, 107, 108, 109, 110, 108, 109, 110, 111, 109, 110, 111, 112, 110, 111, 112, 113]
def f56 : Nat → Int := lst t56
theorem f56_bound (i : Nat) : 0 ≤ f56 i ∧ f56 i < 256 := lst_bound _ (by decide) i
def f0 : Nat → Int := fun _ => 0
theorem f0_bound (i : Nat) : 0 ≤ f0 i ∧ f0 i < 256 := by unfold f0; decide
set_option maxRecDepth 100000 in
theorem none_words : l8 (hw (cat 0 f0 (endf 0)) 1) = w0l := by
  rw [hw_one]
  decide +kernel
set_option maxRecDepth 100000 in
theorem w56_words : l8 (hw (cat 56 f56 (endf 56)) 2) = w56l := by
  rw [hw_two, hw_one]
  decide +kernel
theorem dig_none (i : Nat) (hi : i < 32) : dig 0 f0 i = lf (wof w0l) i := lf_l8 _ _ (none_words.trans (by rfl)) i hi
theorem dig_56 (i : Nat) (hi : i < 32) : dig 56 f56 i = lf (wof w56l) i := lf_l8 _ _ (w56_words.trans (by rfl)) i hi

theorem own8_type {w : World} {base n : Nat} {v : Value} {f : Nat → Int} (h : By.Own w base v n f) {g : Nat} (hg : v.ownBlock = some g) : ∃ cs, w.heap[g]? = some (.cells cs 5 (0, 0)) := by
  obtain ⟨_, _, h | ⟨g', cap, cur, rfl, _, hc, _⟩⟩ := h
  · obtain ⟨rfl, _⟩ := h; simp [Value.ownBlock] at hg
  · simp [Value.ownBlock] at hg; subst hg; exact ⟨cur, hc⟩
theorem own_led {w w' : World} {base n lb : Nat} {v rv : Value} {f : Nat → Int} {L : List Rn} {S : Nat → Prop} (h : By.Own w base v n f) (hl : Led w lb rv L) (hk : Kp S w w') (hs : ∀ j, j < w.heap.size → S j → j = lb ∨ rv.ownBlock = some j) : By.Own w' base v n f :=
  own_kept h hk (fun g hg e => by
    obtain ⟨cs, hc⟩ := own8_type h hg
    have := hs g (Array.getElem?_eq_some_iff.1 hc).1 e
    exact led_apart hl (cs := cs.toList) (t := 5) (by show w.heap[g]? = _; rw [hc]) (by decide) (by decide) this)
/-- A ledger's own blocks. -/
def SL (lb : Nat) (rv : Value) (j : Nat) : Prop := j = lb ∨ rv.ownBlock = some j
theorem lg_led {w : World} {lb : Nat} {rv : Value} {L : List Rn} (h : Led w lb rv L) : LG (SL lb rv) w w (some lb) L := ⟨.inl rfl, rv, h, fun _ hg _ => .inr hg⟩
end Go.Proofs.YtimalofmomgjlaaDoor.Sh
