/- A cipher of the program: what isNone, rounds, formSize, KeyLen, Encrypt and Decrypt answer. -/
import Derived.Test.YtbommnigljmfkaaDoorAkey
import Derived.Test.YtbommnigljmfkaaDoorAlg
namespace Go.Proofs.YtbommnigljmfkaaDoor.Ae
open Go.ChangeShapes Go.WideShapes Go.ChangeAt Go.RowKit
open Go.Proofs.YtbommnigljmfkaaDoor.By Go.Proofs.YtbommnigljmfkaaDoor.Gf
/-- The cipher in block g: a key of k words, the round keys' bytes ws. -/
structure Ci (w : World) (g k : Nat) (ws : Nat → Nat) : Prop where
  here : Blk w g (cic k ws) 50
  kk : k = 4 ∨ k = 6 ∨ k = 8
  lt : ∀ i, ws i < 256
/-- What is in block g is no cipher. -/
def NoCi (w : World) (g : Nat) : Prop := ∃ cs, Blk w g (.int .i64 0 :: cs) 50
section
variable {w w' : World} {g k : Nat} {ws : Nat → Nat}
theorem Ci.kept {S : Nat → Prop} (h : Ci w g k ws) (hk : Kp S w w') (hn : ¬ S g) : Ci w' g k ws := ⟨h.here.kept hk hn, h.kk, h.lt⟩
theorem Ci.below (h : Ci w g k ws) (hb : Below w.heap.size w w') : Ci w' g k ws := ⟨h.here.below hb, h.kk, h.lt⟩
theorem Ci.c0 (h : Ci w g k ws) : w.cell? ⟨g, 0, none⟩ = some (.int .i64 k) := h.here.cell 0 _ rfl
theorem Ci.glt (h : Ci w g k ws) : g < w.heap.size := h.here.lt
theorem NoCi.c0 (h : NoCi w g) : w.cell? ⟨g, 0, none⟩ = some (.int .i64 0) := by
  obtain ⟨cs, h⟩ := h; exact h.cell 0 _ rfl
theorem NoCi.kept {S : Nat → Prop} (h : NoCi w g) (hk : Kp S w w') (hn : ¬ S g) : NoCi w' g := by
  obtain ⟨cs, h⟩ := h; exact ⟨cs, h.kept hk hn⟩
theorem NoCi.below (h : NoCi w g) (hb : Below w.heap.size w w') : NoCi w' g := by
  obtain ⟨cs, h⟩ := h; exact ⟨cs, h.below hb⟩
end
theorem isNone_ci (g k : Nat) (w : World) (h : w.cell? ⟨g, 0, none⟩ = some (.int .i64 k)) (hk : 1 ≤ k) : Calls Tryd.prog 45 #[.pointer (some ⟨g, 0, none⟩)] w fun e w' => e = .returned (.bool false) ∧ w' = w := by
  have e : ((k : Int) == 0) = false := by rw [beq_eq_false_iff_ne]; omega
  have e2 : ¬ (k : Int) = 0 := by omega
  have e3 : ¬ k = 0 := by omega
  go_enter Tryd.func45, Tryd.ntmps45
  go_wp2
  go_ret
  exact ⟨rfl, rfl⟩
theorem isNone_no (g : Nat) (w : World) (h : w.cell? ⟨g, 0, none⟩ = some (.int .i64 0)) : Calls Tryd.prog 45 #[.pointer (some ⟨g, 0, none⟩)] w fun e w' => e = .returned (.bool true) ∧ w' = w := by
  go_enter Tryd.func45, Tryd.ntmps45
  go_wp2
  go_ret
  exact ⟨rfl, rfl⟩
theorem isNone_nil (w : World) : Calls Tryd.prog 45 #[.pointer none] w fun e w' => e = .returned (.bool true) ∧ w' = w := by
  go_enter Tryd.func45, Tryd.ntmps45
  go_wp2
  go_ret
  exact ⟨rfl, rfl⟩
theorem rounds_ci (g k : Nat) (w : World) (h : w.cell? ⟨g, 0, none⟩ = some (.int .i64 k)) (hk : k ≤ 8) : Calls Tryd.prog 47 #[.pointer (some ⟨g, 0, none⟩)] w fun e w' => e = .returned (.int .i64 ((k + 6 : Nat) : Int)) ∧ w' = w := by
  go_enter Tryd.func47, Tryd.ntmps47
  go_wp2
  go_ret
  exact ⟨rfl, rfl⟩
theorem formSize_ci (g k : Nat) (w : World) (h : w.cell? ⟨g, 0, none⟩ = some (.int .i64 k)) (hk : k ≤ 8) : Calls Tryd.prog 46 #[.pointer (some ⟨g, 0, none⟩)] w fun e w' => e = .returned (.int .i64 ((16 * (k + 7) : Nat) : Int)) ∧ w' = w := by
  go_enter Tryd.func46, Tryd.ntmps46
  go_wp2_with (go_at_call 47; refine (rounds_ci g k _ h hk).mono ?_; rintro e w' ⟨rfl, rfl⟩)
  go_ret
  refine ⟨congrArg (fun z => Ending.returned (Value.int IntKind.i64 z)) ?_, rfl⟩
  omega
theorem keyLen_ci (g k : Nat) (w : World) (h : w.cell? ⟨g, 0, none⟩ = some (.int .i64 k)) (h1 : 1 ≤ k) (hk : k ≤ 8) : Calls Tryd.prog 26 #[.pointer (some ⟨g, 0, none⟩)] w fun e w' => e = .returned (.int .i64 ((4 * k : Nat) : Int)) ∧ w' = w := by
  go_enter Tryd.func26, Tryd.ntmps26
  go_wp2_with (go_at_call 45; refine (isNone_ci g k _ h h1).mono ?_; rintro e w' ⟨rfl, rfl⟩)
  go_ret
  exact ⟨by simp, rfl⟩
theorem keyLen_no (g : Nat) (w : World) (h : w.cell? ⟨g, 0, none⟩ = some (.int .i64 0)) : Calls Tryd.prog 26 #[.pointer (some ⟨g, 0, none⟩)] w fun e w' => e = .returned (.int .i64 0) ∧ w' = w := by
  go_enter Tryd.func26, Tryd.ntmps26
  go_wp2_with (go_at_call 45; refine (isNone_no g _ h).mono ?_; rintro e w' ⟨rfl, rfl⟩)
  go_ret
  exact ⟨rfl, rfl⟩
theorem keyLen_nil (w : World) : Calls Tryd.prog 26 #[.pointer none] w fun e w' => e = .returned (.int .i64 0) ∧ w' = w := by
  go_enter Tryd.func26, Tryd.ntmps26
  go_wp2_with (go_at_call 45; refine (isNone_nil _).mono ?_; rintro e w' ⟨rfl, rfl⟩)
  go_ret
  exact ⟨rfl, rfl⟩
/-- The tables lie there. -/
def KM (w : World) : Prop := w.rangeAt 0 0 (bl 4 (cb m1))
def KU (w : World) : Prop := w.rangeAt 1 0 (bl 4 (cb m2))
theorem KM.lt {w : World} (h : KM w) : 0 < w.heap.size := block_lt_of_cell (h 0 _ (bl_get 4 _ 0 (by decide)))
theorem KU.lt {w : World} (h : KU w) : 1 < w.heap.size := block_lt_of_cell (h 0 _ (bl_get 4 _ 0 (by decide)))
theorem KM.kept {S : Nat → Prop} {w w' : World} (h : KM w) (hk : Kp S w w') (hn : ¬ S 0) : KM w' := fun j v hv => by
  have e := hk.block 0 h.lt hn
  have := h j v hv
  unfold World.cell? at this ⊢
  simp only at this ⊢
  rw [e]; exact this
theorem KU.kept {S : Nat → Prop} {w w' : World} (h : KU w) (hk : Kp S w w') (hn : ¬ S 1) : KU w' := fun j v hv => by
  have e := hk.block 1 h.lt hn
  have := h j v hv
  unfold World.cell? at this ⊢
  simp only at this ⊢
  rw [e]; exact this
end Go.Proofs.YtbommnigljmfkaaDoor.Ae
