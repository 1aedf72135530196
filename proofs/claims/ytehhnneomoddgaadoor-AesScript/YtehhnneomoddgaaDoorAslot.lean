/- A slot of the pair is laid anew. -/
import Derived.Test.YtehhnneomoddgaaDoorAact
namespace Go.Proofs.YtehhnneomoddgaaDoor.Ae
open Go.ChangeShapes Go.WideShapes Go.ChangeAt Go.RowKit
open Go.Proofs.YtehhnneomoddgaaDoor.By Go.Proofs.YtehhnneomoddgaaDoor.Gf
section
variable {X : World → Prop} {w0 W : World} {xb lb mb : Nat} {lv mv tv wv : Value} {cv rv : Nat → Value} {D E : Nat → KD} {L M : List Rn}
theorem pair_set (cv rv : Nat → Value) (lb mb : Nat) (tv wv x y : Value) (m : Nat) (hm : m < 2) : ((pairC cv rv lb mb tv wv).set m x).set (2 + m) y = pairC (upd cv m x) (upd rv m y) lb mb tv wv := by
  rcases (show m = 0 ∨ m = 1 by omega) with rfl | rfl <;> rfl
theorem PS.slot (h : PS X w0 xb lb mb lv mv tv wv cv rv D E L M W) (m : Nat) (hm : m < 2) (x y : Value) (d : KD) (hx : PC W x d) (hy : QC W y d)
    (hxB : ∀ g, x = .pointer (some ⟨g, 0, none⟩) → w0.heap.size ≤ g ∧ cv (1 - m) ≠ .pointer (some ⟨g, 0, none⟩)) (hyB : ∀ g, y = .pointer (some ⟨g, 0, none⟩) → w0.heap.size ≤ g ∧ rv (1 - m) ≠ .pointer (some ⟨g, 0, none⟩)) :
    PS X w0 xb lb mb lv mv tv wv (upd cv m x) (upd rv m y) (upd D m d) (upd E m d) L M ((W.setCell ⟨xb, m, none⟩ x).setCell ⟨xb, 2 + m, none⟩ y) := by
  have hk : Kp (fun j => j = xb) W ((W.setCell ⟨xb, m, none⟩ x).setCell ⟨xb, 2 + m, none⟩ y) := (Kp.setCell xb m x).trans (Kp.setCell xb (2 + m) y) (fun _ _ e => e)
  have ne : ∀ {g cs t}, Blk W g cs t → t ≠ 35 → ¬ g = xb := fun hg ht e => by
    subst e
    exact ht (blk_ty hg h.here)
  have keep : ∀ g cs t, Blk W g cs t → t ≠ 35 → Blk ((W.setCell ⟨xb, m, none⟩ x).setCell ⟨xb, 2 + m, none⟩ y) g cs t := fun g cs t hg ht => hg.kept hk (ne hg ht)
  have kp : ∀ {v d}, PC W v d → PC ((W.setCell ⟨xb, m, none⟩ x).setCell ⟨xb, 2 + m, none⟩ y) v d := fun hp => hp.blks (fun g cs _ hg => keep g cs _ hg (by decide))
  have kq : ∀ {v d}, QC W v d → QC ((W.setCell ⟨xb, m, none⟩ x).setCell ⟨xb, 2 + m, none⟩ y) v d := fun hp => hp.blks (fun g cs _ hg => keep g cs _ hg (by decide)) (fun g cs hg => keep g cs _ hg (by decide)) (fun g cs hg => keep g cs _ hg (by decide))
  refine ⟨h.bel.trans (hk.below h.size (fun j hj e => by have := h.xB; omega)), ?_, h.xB, h.lB, h.mB, h.led.kept hk (ne (show Blk W _ _ 47 from h.led.here) (by decide)) (fun g hg => by obtain ⟨cs, hc⟩ := own_blk h.led.own hg; exact ne hc (by decide)), h.rled.kept hk (ne (show Blk W _ _ 49 from h.rled.here) (by decide)) (fun g hg => by obtain ⟨cs, hc⟩ := own_blk h.rled.own hg; exact ne hc (by decide)), h.lvB, h.mvB, h.dis, fun j hj => ?_, fun j hj => ?_, fun j hj g e => ?_, fun j hj g e => ?_, ?_, ?_, h.km, h.ku, h.exk, h.exk _ _ (fun g cs t hg ht => by rcases ht with rfl | rfl <;> exact keep _ _ _ hg (by decide)) h.ex⟩
  · rw [← pair_set cv rv lb mb tv wv x y m hm]
    exact (h.here.set m x).set (2 + m) y
  · by_cases ej : j = m
    · subst ej; rw [upd_at, upd_at]; exact kp hx
    · rw [upd_ne _ _ _ _ ej, upd_ne _ _ _ _ ej]; exact kp (h.pc j hj)
  · by_cases ej : j = m
    · subst ej; rw [upd_at, upd_at]; exact kq hy
    · rw [upd_ne _ _ _ _ ej, upd_ne _ _ _ _ ej]; exact kq (h.qc j hj)
  · by_cases ej : j = m
    · subst ej; rw [upd_at] at e; exact (hxB g e).1
    · rw [upd_ne _ _ _ _ ej] at e; exact h.pB j hj g e
  · by_cases ej : j = m
    · subst ej; rw [upd_at] at e; exact (hyB g e).1
    · rw [upd_ne _ _ _ _ ej] at e; exact h.qB j hj g e
  · intro g e e'
    rcases (show m = 0 ∨ m = 1 by omega) with rfl | rfl
    · exact (hxB g e).2 e'
    · exact (hxB g e').2 e
  · intro g e e'
    rcases (show m = 0 ∨ m = 1 by omega) with rfl | rfl
    · exact (hyB g e).2 e'
    · exact (hyB g e').2 e
end
end Go.Proofs.YtehhnneomoddgaaDoor.Ae
