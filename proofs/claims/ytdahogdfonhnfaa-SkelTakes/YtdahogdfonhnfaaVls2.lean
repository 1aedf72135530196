/- One more behind a list of skeletons; one in the midst put anew. -/
import Derived.Test.YtdahogdfonhnfaaVlc
import Derived.Test.YtdahogdfonhnfaaVwh
import Derived.Test.YtdahogdfonhnfaaVrw
namespace Go.Proofs.Ytdahogdfonhnfaa.Sx
open Go.ChangeShapes Go.WideShapes Go.ChangeAt Go.RowKit
open Go.Proofs.Ytdahogdfonhnfaa.By (hid grown_none grown_of_alloc)
open Go.Proofs.Ytdahogdfonhnfaa.Ou (Sk sL sv LDk SVk sL_one infok zS)
open Go.Proofs.Ytdahogdfonhnfaa.Tb (put put_get put_length)
theorem own_cell {w : World} {base g n cap : Nat} {f : Nat → Sk} (h : Own w base (.slice (some ⟨g, 0, none⟩) n cap) n f) {i j : Nat} (hi : i < n) (hj : j < 7) : w.cell? ⟨g, i * 7 + j, none⟩ = (sL (f i))[j]? ∧ w.frozen? ⟨g, i * 7 + j, none⟩ = false := by
  have h2 : w.ownsRow base 33 7 (.slice (some ⟨g, 0, none⟩) n cap) n (sl n f) := h
  have hl : i * 7 + j < n * 7 := by omega
  exact ⟨(h2.cellAt _ (by omega)).trans (sl_get n f i j hi hj), h2.frozenAt _⟩
theorem own_put {w : World} {base g n cap : Nat} {f : Nat → Sk} (h : Own w base (.slice (some ⟨g, 0, none⟩) n cap) n f) {i : Nat} (hi : i < n) (x : Sk) :
    (SVk ⟨g, i * 7, none⟩ (sv x)).run Try.prog w = .ok () (w.setCells g (i * 7) (sL x)) ∧ Own (w.setCells g (i * 7) (sL x)) base (.slice (some ⟨g, 0, none⟩) n cap) n (upd f i x) ∧ Kp (fun j => j = g) w (w.setCells g (i * 7) (sL x)) := by
  refine ⟨run_storeVar_mid w g (i * 7) _ (sL x).toArray (fun j hj => ?_) (by simpa using infok x) (all_oneCell_toArray (sL_one x)), ?_, Tb.Kp.setCells g _ _⟩
  · have hj7 : j < 7 := hj
    obtain ⟨h1, h2⟩ := own_cell h hi hj7
    refine ⟨?_, h2⟩
    rw [h1, List.getElem?_eq_getElem (show j < (sL (f i)).length from hj7)]; rfl
  · have := Rw.row_put (show w.ownsRow base 33 7 (.slice (some ⟨g, 0, none⟩) n cap) n (sl n f) from h) (sL x) (i * 7)
    rw [sl_put n f i x hi] at this
    exact this
theorem own_ld {w : World} {base g n cap : Nat} {f : Nat → Sk} (h : Own w base (.slice (some ⟨g, 0, none⟩) n cap) n f) {i : Nat} (hi : i < n) : (LDk ⟨g, i * 7, none⟩).run Try.prog w = .ok (sv (f i)) w := by
  obtain ⟨b, off, e, hl⟩ := h.reads.ld hi
  simp only [Option.some.injEq, Addr.mk.injEq, and_true] at e
  obtain ⟨rfl, rfl⟩ := e
  rwa [Nat.zero_add] at hl
end Go.Proofs.Ytdahogdfonhnfaa.Sx
