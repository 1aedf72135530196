/- The acts of AesScript: a block that was answered. -/
import Derived.Test.YtehhnneomoddgaaDoorAact
import Derived.Test.YtehhnneomoddgaaDoorYr
import Derived.Test.YtehhnneomoddgaaDoorYs
import Derived.Deep.DeepCutAuto
namespace Go.Proofs.YtehhnneomoddgaaDoor.Ae
open Go.ChangeShapes Go.WideShapes Go.ChangeAt Go.RowKit
open Go.Proofs.YtehhnneomoddgaaDoor.By Go.Proofs.YtehhnneomoddgaaDoor.Gf
open Go.Proofs.YtehhnneomoddgaaDoor.Kc (own_kept own_mono own8_type)
theorem za_b (W : World) : Blk (W.alloc (.cells #[Value.int IntKind.u8 0, Value.int IntKind.u8 0, Value.int IntKind.u8 0, Value.int IntKind.u8 0, Value.int IntKind.u8 0, Value.int IntKind.u8 0, Value.int IntKind.u8 0, Value.int IntKind.u8 0, Value.int IntKind.u8 0, Value.int IntKind.u8 0, Value.int IntKind.u8 0, Value.int IntKind.u8 0, Value.int IntKind.u8 0, Value.int IntKind.u8 0, Value.int IntKind.u8 0, Value.int IntKind.u8 0] 58)) W.heap.size (bl 16 (cb nul)) 58 := Blk.newAt W _ _ 58 _ rfl zeroN
theorem za_d (W : World) : Blk (W.alloc (.cells #[Value.int IntKind.u8 0, Value.int IntKind.u8 0, Value.int IntKind.u8 0, Value.int IntKind.u8 0, Value.int IntKind.u8 0, Value.int IntKind.u8 0, Value.int IntKind.u8 0, Value.int IntKind.u8 0, Value.int IntKind.u8 0, Value.int IntKind.u8 0, Value.int IntKind.u8 0, Value.int IntKind.u8 0, Value.int IntKind.u8 0, Value.int IntKind.u8 0, Value.int IntKind.u8 0, Value.int IntKind.u8 0] 58)).drew W.heap.size (bl 16 (cb nul)) 58 := (za_b W).below (below_drewN _ 1)
theorem za_s {W : World} {g : Nat} (h : Blk W g (bl 16 (cb nul)) 58) (z : Nat → Nat) : (SVb ⟨g, 0, none⟩ (bv z)).run Tryd.prog W = .ok () (W.setCells g 0 (bl 16 (cb z))) :=
  SVb_run (cs := bl 16 (cb z)) (h.there 0 16 (by rw [bl_length]; omega)) (bl_length _ _) (bl_one _ _)
theorem za_p {W : World} {g : Nat} (h : Blk W g (bl 16 (cb nul)) 58) (z : Nat → Nat) : Blk (W.setCells g 0 (bl 16 (cb z))) g (bl 16 (cb z)) 58 := by
  have b := h.put 0 (bl 16 (cb z))
  rw [put_all _ _ (by rw [bl_length, bl_length])] at b
  exact b
theorem za_o {W : World} {g x : Nat} {zs cs : List Value} {t : TypeId} (h : Blk W g zs 58) (hb : Blk W x cs t) (ht : t ≠ 58) (z : Nat → Nat) : Blk (W.setCells g 0 (bl 16 (cb z))) x cs t :=
  hb.kept (Kp.setCells g 0 _) (fun e => by have e' : x = g := e; subst e'; exact ht (blk_ty hb h))
theorem za_q {W : World} {g x : Nat} {zs cs : List Value} {t : TypeId} (_ : Blk W g zs 58) (hb : Blk W x cs t) (hx : x ≠ g) (z : Nat → Nat) : Blk (W.setCells g 0 (bl 16 (cb z))) x cs t :=
  hb.kept (Kp.setCells g 0 _) hx
section
variable {X : World → Prop} {w0 W W' : World} {xb lb mb : Nat} {lv mv tv wv : Value} {cv rv : Nat → Value} {D E : Nat → KD} {L M : List Rn}
theorem PS.setB (h : PS X w0 xb lb mb lv mv tv wv cv rv D E L M W) {g : Nat} {cs : List Value} (hg : Blk W g cs 58) (hB : w0.heap.size ≤ g) (z : Nat → Nat) : PS X w0 xb lb mb lv mv tv wv cv rv D E L M (W.setCells g 0 (bl 16 (cb z))) := by
  have hk : Kp (fun j => j = g) W (W.setCells g 0 (bl 16 (cb z))) := Kp.setCells g 0 _
  have ne : ∀ {x c t}, Blk W x c t → t ≠ 58 → ¬ (x = g) := fun hx ht e => by subst e; exact ht (blk_ty hx hg)
  have keep : ∀ x c t, Blk W x c t → t ≠ 58 → Blk (W.setCells g 0 (bl 16 (cb z))) x c t := fun x c t hx ht => hx.kept hk (ne hx ht)
  exact ⟨h.bel.trans (hk.below h.size (fun j hj e => by have e' : j = g := e; omega)), keep _ _ _ h.here (by decide), h.xB, h.lB, h.mB,
    h.led.kept hk (ne (show Blk W _ _ 47 from h.led.here) (by decide)) (fun g hg => by obtain ⟨cs, hc⟩ := own_blk h.led.own hg; exact ne hc (by decide)),
    h.rled.kept hk (ne (show Blk W _ _ 49 from h.rled.here) (by decide)) (fun g hg => by obtain ⟨cs, hc⟩ := own_blk h.rled.own hg; exact ne hc (by decide)),
    h.lvB, h.mvB, h.dis, fun j hj => (h.pc j hj).blks (fun g cs _ hg => keep g cs _ hg (by decide)), fun j hj => (h.qc j hj).blks (fun g cs _ hg => keep g cs _ hg (by decide)) (fun g cs hg => keep g cs _ hg (by decide)) (fun g cs hg => keep g cs _ hg (by decide)), h.pB, h.qB, h.pne, h.qne, h.km, h.ku, h.exk, h.exk _ _ (fun x c t hx ht => by rcases ht with rfl | rfl <;> exact keep _ _ _ hx (by decide)) h.ex⟩
end
end Go.Proofs.YtehhnneomoddgaaDoor.Ae
