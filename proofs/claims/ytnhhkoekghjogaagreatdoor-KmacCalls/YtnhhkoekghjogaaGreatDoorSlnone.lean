/- The statement None, walked. -/
import Derived.Test.YtnhhkoekghjogaaGreatDoorSlive
import Derived.Test.YtnhhkoekghjogaaGreatDoorRlen
import Derived.Test.YtnhhkoekghjogaaGreatDoorRreads
namespace Go.Proofs.YtnhhkoekghjogaaGreatDoor.Kc
open Go.ChangeShapes Go.WideShapes Go.ChangeAt Go.RowKit
open Go.Proofs.YtnhhkoekghjogaaGreatDoor.By Go.Proofs.YtnhhkoekghjogaaGreatDoor.Wd
theorem pickN (i : Int) (N : Nat) (h0 : 0 < N) (h1 : N ≤ 1000000) (w : World) :
    Calls Tryz.prog 26 #[.int .i64 i, .int .i64 N] w fun e w' => (∃ p : Nat, p < N ∧ e = .returned (.int .i64 p)) ∧ w' = w := by
  have hN : (0 : Int) < N := by omega
  have a1 := Int.tmod_lt_of_pos i hN
  have a2 : - (N : Int) < i.tmod N := by
    have := Int.lt_tmod_of_pos i hN
    omega
  have nz : ¬ (N : Int) = 0 := by omega
  have nz2 : ¬ N = 0 := by omega
  obtain ⟨q, hq⟩ : ∃ q, i.tmod N = q := ⟨_, rfl⟩
  rw [hq] at a1 a2
  have w1 : IntKind.i64.wrap q = q := by rw [IntKind.wrap_i64]; omega
  by_cases hlt : q < 0
  · have w2 : IntKind.i64.wrap (q + N) = q + N := by rw [IntKind.wrap_i64]; omega
    go_enter Tryz.func26, Tryz.ntmps26
    go_wp2
    go_ret
    exact ⟨⟨(q + N).toNat, by omega, by rw [show (((q + N).toNat : Nat) : Int) = q + N by omega]; rfl⟩, rfl⟩
  · go_enter Tryz.func26, Tryz.ntmps26
    go_wp2
    go_ret
    exact ⟨⟨q.toNat, by omega, by rw [show ((q.toNat : Nat) : Int) = q by omega]; rfl⟩, rfl⟩
/-- No sponge: a nil pointer, or a block without one. -/
def NoP (w : World) (sp : Value) : Prop := sp = .pointer none ∨ ∃ b, sp = .pointer (some ⟨b, 0, none⟩) ∧ NoSp w b
theorem NoSp.below {w w' : World} {b : Nat} (h : NoSp w b) (hb : Below w.heap.size w w') : NoSp w' b := by
  obtain ⟨cs, h⟩ := h; exact ⟨cs, h.below hb⟩
theorem NoP.below {w w' : World} {sp : Value} (h : NoP w sp) (hb : Below w.heap.size w w') : NoP w' sp := by
  rcases h with h | ⟨b, e, h⟩
  · exact .inl h
  · exact .inr ⟨b, e, h.below hb⟩
section
variable {w : World} {sp : Value}
theorem NoP.read (h : NoP w sp) (n lp : Value) : Calls Tryz.prog 58 #[sp, lp, n] w fun e w' => e = .returned (.tuple #[.slice none 0 0, .int .i64 1]) ∧ w' = w := by
  rcases h with rfl | ⟨b, rfl, h⟩
  · exact read_nil n lp w
  · exact read_no b n lp w h
theorem NoP.write (h : NoP w sp) (v lp : Value) : Calls Tryz.prog 48 #[sp, lp, v] w fun e w' => e = .returned (.int .i64 1) ∧ w' = w := by
  rcases h with rfl | ⟨b, rfl, h⟩
  · exact write_nil v lp w
  · exact write_no b v lp w h
theorem NoP.wipe (h : NoP w sp) (lp : Value) : Calls Tryz.prog 62 #[sp, lp] w fun e w' => e = .returned (.int .i64 1) ∧ w' = w := by
  rcases h with rfl | ⟨b, rfl, h⟩
  · exact wipe_nil lp w
  · exact wipe_no b lp w h
theorem NoP.clone (h : NoP w sp) : Calls Tryz.prog 56 #[sp] w fun e w' => e = .returned (.tuple #[.pointer none, .int .i64 1]) ∧ w' = w := by
  rcases h with rfl | ⟨b, rfl, h⟩
  · exact clone_nil w
  · exact clone_no b w h
theorem NoP.form (h : NoP w sp) : Calls Tryz.prog 64 #[sp] w fun e w' => e = .returned (.slice none 0 0) ∧ w' = w := by
  rcases h with rfl | ⟨b, rfl, h⟩
  · exact form_nil w
  · exact form_no b w h
theorem NoP.rate (h : NoP w sp) : Calls Tryz.prog 47 #[sp] w fun e w' => e = .returned (.int .i64 0) ∧ w' = w := by
  rcases h with rfl | ⟨b, rfl, h⟩
  · exact rate_nil w
  · exact rate_no b w h
end
/-- What came in is read still, whatever the call did with memory of its own. -/
theorem rb_in {w W W' : World} {B n : Nat} {v : Value} {f : Nat → Int} {S : Nat → Prop} (h : By.RB w v n f) (hB : B = w.heap.size) (hb : Below B w W) (hk : Kp S W W') (hs : ∀ k, k < B → ¬ S k) : By.RB W' v n f := by
  subst hB
  exact h.below (hb.trans (hk.below hb.size hs))
end Go.Proofs.YtnhhkoekghjogaaGreatDoor.Kc
