/- Digests as eight words. The program's function Sum, of either algorithm and of none; lives. -/
import Derived.Test.YtkmkbofokoimkaaDoorZga
import Derived.Test.YtkmkbofokoimkaaDoorZhe
import Derived.Test.YtkmkbofokoimkaaDoorZje
namespace Go.Proofs.YtkmkbofokoimkaaDoor.Dg
open Go.ChangeShapes Go.WideShapes Go.ChangeAt Go.RowKit
open Go.Proofs.YtkmkbofokoimkaaDoor.By
/-- Eight words out of a list. -/
def wof (l : List Int) (i : Nat) : Int := l.getD i 0
theorem lf_l8256 (h h' : Nat → Int) (e : Sh.l8 h = Sh.l8 h') (i : Nat) (hi : i < 32) : Sh.lf h i = Sh.lf h' i := by
  simp only [Sh.l8, List.cons.injEq, and_true] at e
  obtain ⟨e0, e1, e2, e3, e4, e5, e6, e7⟩ := e
  unfold Sh.lf
  have : i / 4 < 8 := by omega
  have hh : h (i / 4) = h' (i / 4) := by
    generalize i / 4 = q at this
    match q, this with
    | 0, _ => exact e0
    | 1, _ => exact e1
    | 2, _ => exact e2
    | 3, _ => exact e3
    | 4, _ => exact e4
    | 5, _ => exact e5
    | 6, _ => exact e6
    | 7, _ => exact e7
  rw [hh]
theorem dig_abc256 (i : Nat) (hi : i < 32) : Sh.dig 3 Sh.abc i = Sh.lf (wof Sh.wabc) i := lf_l8256 _ _ (Sh.abc_words.trans (by rfl)) i hi
theorem first256 : ∀ i, i < 4 → Sh.lf (wof Sh.wabc) i = lst [186, 120, 22, 191] i := by decide +kernel
theorem lf_l8512 (h h' : Nat → Int) (e : Sg.l8 h = Sg.l8 h') (i : Nat) (hi : i < 64) : Sg.lf h i = Sg.lf h' i := by
  simp only [Sg.l8, List.cons.injEq, and_true] at e
  obtain ⟨e0, e1, e2, e3, e4, e5, e6, e7⟩ := e
  unfold Sg.lf
  have : i / 8 < 8 := by omega
  have hh : h (i / 8) = h' (i / 8) := by
    generalize i / 8 = q at this
    match q, this with
    | 0, _ => exact e0
    | 1, _ => exact e1
    | 2, _ => exact e2
    | 3, _ => exact e3
    | 4, _ => exact e4
    | 5, _ => exact e5
    | 6, _ => exact e6
    | 7, _ => exact e7
  rw [hh]
theorem dig_abc512 (i : Nat) (hi : i < 64) : Sg.dig 3 Sg.abc i = Sg.lf (wof Sg.wabc) i := lf_l8512 _ _ (Sg.abc_words.trans (by rfl)) i hi
theorem first512 : ∀ i, i < 4 → Sg.lf (wof Sg.wabc) i = lst [221, 175, 53, 161] i := by decide +kernel
theorem abc_bound (i : Nat) : 0 ≤ Sh.abc i ∧ Sh.abc i < 256 := lst_bound _ (by decide) i
theorem abcE : Sg.abc = Sh.abc := rfl
end Go.Proofs.YtkmkbofokoimkaaDoor.Dg
namespace Go.Proofs.YtkmkbofokoimkaaDoor.Dg
open Go.ChangeShapes Go.WideShapes Go.ChangeAt Go.RowKit
open Go.Proofs.YtkmkbofokoimkaaDoor.By
open Go.Proofs.YtkmkbofokoimkaaDoor.Sh (Blk size_alloc)
theorem rb_first {w : World} {base n cap g : Nat} {f : Nat → Int} (h : By.Own w base (.slice (some ⟨g, 0, none⟩) n cap) n f) (h4 : 4 ≤ n) : By.RB w (.slice (some ⟨g, 0, none⟩) 4 cap) 4 f := h.reads.first 4 h4
end Go.Proofs.YtkmkbofokoimkaaDoor.Dg
