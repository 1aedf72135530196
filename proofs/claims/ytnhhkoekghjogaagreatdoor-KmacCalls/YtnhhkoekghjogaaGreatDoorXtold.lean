/- What told, C128, C256, Shake128 and Shake256 of the program answer. -/
import Derived.Test.YtnhhkoekghjogaaGreatDoorXbeg
namespace Go.Proofs.YtnhhkoekghjogaaGreatDoor.Kc
open Go.ChangeShapes Go.WideShapes Go.ChangeAt Go.RowKit
open Go.Proofs.YtnhhkoekghjogaaGreatDoor.By Go.Proofs.YtnhhkoekghjogaaGreatDoor.Wd
theorem evn_pos (c : Nat) : Pos (evk [] c) := evk_pos pos_nil c
theorem evn_big (c : Nat) (hc : c ≤ 1000000) : Big (evk [] c) := by
  have h3 := evk_len [] c
  refine ⟨?_, by simp at h3; omega⟩
  rw [evk_tot pos_nil c (by show (0 : Int) + c ≤ _; omega)]; show (0 : Int) + c ≤ _; omega
theorem out_ge (r : Nat) (y : Z) (n : Nat) : y.c ≤ (Z.out r y n).c := by
  induction n with
  | zero => exact Nat.le_refl _
  | succ n ih =>
    refine Nat.le_trans ih ?_
    show _ ≤ ((Z.out r y n).rdy r).c
    unfold Z.rdy
    split
    · exact Nat.le_succ _
    · exact Nat.le_refl _
theorem out_le (r : Nat) (y : Z) (n : Nat) : (Z.out r y n).c ≤ y.c + n := by
  induction n with
  | zero => exact Nat.le_refl _
  | succ n ih =>
    show ((Z.out r y n).rdy r).c ≤ _
    unfold Z.rdy
    split
    · show (Z.out r y n).c + 1 ≤ _; omega
    · omega
theorem ins_ge {r : Nat} {z : Z} (h : z.p < r) (g : Nat → Int) (n : Nat) : z.c ≤ (Z.ins r z g n).c := by
  rw [(ins_count h g n).1]; exact Nat.le_add_right _ _
theorem bz_ok {st : Int} {r : Nat} (hst : Str st r) (a c : Nat) (f h : Nat → Int) : (bz r a f c h).Ok r false := by
  have h1 := hst.lo
  unfold bz
  split
  · exact zz_ok r (by omega)
  · exact (zz_ok r (by omega)).ins (by omega) _ _
theorem pN_le (a c r : Nat) (hr : 1 ≤ r) (hr2 : r ≤ 256) : pN (tn a c) r ≤ a + c + 300 := by
  have h1 := sn_le' a
  have h2 := sn_le' c
  have h3 := (nb_pos r).2
  have h4 := pz_lt (tn a c) r (by omega)
  unfold pN pn
  unfold tn at *
  omega
theorem bz_le {st : Int} {r : Nat} (hst : Str st r) (a c : Nat) (f h : Nat → Int) (hac : a + c ≤ 2000000) : (bz r a f c h).c ≤ 15000 := by
  have h1 := hst.lo
  unfold bz
  split
  · exact Nat.zero_le _
  · rw [(ins_count (z := zz) (by show 0 < r; omega) _ _).1]
    show 0 + (0 + _) / r ≤ _
    have h5 := pN_le a c r h1.2.2.2.2 h1.2.2.2.1
    rcases hst with ⟨_, rfl⟩ | ⟨_, rfl⟩ <;> omega
/-- The sponge that was shut behind a name, a custom and a message. -/
def tY (r a : Nat) (f : Nat → Int) (c : Nat) (h : Nat → Int) (m : Nat) (g : Nat → Int) : Z := Z.fin r (sfx a c) (Z.ins r (bz r a f c h) g m)
/-- What is answered: the code, how many bytes, which, how many events. -/
def tc (n : Int) : Int := if n < 0 ∨ 65536 < n then 2 else 0
def tk (n : Int) : Nat := if n < 0 ∨ 65536 < n then 0 else n.toNat
def tF (r a : Nat) (f : Nat → Int) (c : Nat) (h : Nat → Int) (m : Nat) (g : Nat → Int) (n : Int) : Nat → Int := fun i => if n < 0 ∨ 65536 < n then 0 else Z.say r (tY r a f c h m g) i
def tC (r a : Nat) (f : Nat → Int) (c : Nat) (h : Nat → Int) (m : Nat) (g : Nat → Int) (n : Int) : Nat := if n < 0 ∨ 65536 < n then 0 else (Z.out r (tY r a f c h m g) n.toNat).c
theorem tk_le (n : Int) : tk n ≤ 65536 := by unfold tk; split <;> omega
section
variable {st : Int} {r : Nat} (hst : Str st r)
include hst
theorem ins_z2 (a c : Nat) (f h : Nat → Int) (m : Nat) (g : Nat → Int) : (Z.ins r (bz r a f c h) g m).Ok r false := (bz_ok hst a c f h).ins (by have := hst.lo; omega) g m
theorem tY_ok (a c : Nat) (f h : Nat → Int) (m : Nat) (g : Nat → Int) : (tY r a f c h m g).Ok r true := Z.Ok.fin _ true _ (by have := hst.lo; omega)
theorem tF_b (a c : Nat) (f h : Nat → Int) (m : Nat) (g : Nat → Int) (n : Int) (i : Nat) : 0 ≤ tF r a f c h m g n i ∧ tF r a f c h m g n i < 256 := by
  unfold tF; split
  · decide
  · exact say_b (tY_ok hst a c f h m g) (by have := hst.lo; omega) i
theorem z2_le (a c : Nat) (f h : Nat → Int) (m : Nat) (g : Nat → Int) (hac : a + c ≤ 2000000) (hm : m ≤ 2000000) : (Z.ins r (bz r a f c h) g m).c ≤ 30000 := by
  have h1 := bz_le hst a c f h hac
  have h2 := (bz_ok hst a c f h).o rfl
  rw [(ins_count h2 g m).1]
  rcases hst with ⟨_, rfl⟩ | ⟨_, rfl⟩ <;> omega
theorem tC_le (a c : Nat) (f h : Nat → Int) (m : Nat) (g : Nat → Int) (n : Int) (hac : a + c ≤ 2000000) (hm : m ≤ 2000000) : tC r a f c h m g n ≤ 100000 := by
  unfold tC; split
  · omega
  · have h1 := z2_le hst a c f h m g hac hm
    have h2 := out_le r (tY r a f c h m g) n.toNat
    have h3 : (tY r a f c h m g).c = (Z.ins r (bz r a f c h) g m).c + 1 := rfl
    omega
end
theorem own_blk {w : World} {base g n : Nat} {f : Nat → Int} (h : Blk w g (bl n f) 5) (hf : ∀ i, 0 ≤ f i ∧ f i < 256) (hb : base ≤ g) (hn : n ≤ maxLen) : By.Own w base (.slice (some ⟨g, 0, none⟩) n n) n f :=
  ⟨hf, by rw [bl_length, Nat.mul_one], .inr ⟨g, n, (bl n f).toArray, rfl, hb, h, Nat.le_refl _, hn, by simp [bl_length], by simp [List.take_of_length_le, bl_length]⟩⟩
/-- No bytes. -/
def no0 (_ : Nat) : Int := 0
theorem no0_b (i : Nat) : 0 ≤ no0 i ∧ no0 i < 256 := by show (0 : Int) ≤ 0 ∧ (0 : Int) < 256; decide
theorem rb_none (w : World) : By.RB w (.slice none 0 0) 0 no0 := (own_nil w 0 no0 no0_b).reads
end Go.Proofs.YtnhhkoekghjogaaGreatDoor.Kc
