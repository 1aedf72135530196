/- A byte exclusive-ored with another is itself just where that is nought. -/
import Derived.Test.YtpohogpkfdebdaaGreatDoorZga
import Derived.Test.YtpohogpkfdebdaaGreatDoorYb
namespace Go.Proofs.YtpohogpkfdebdaaGreatDoor.Oc
theorem xor_self {z b : Int} (hz : 0 ≤ z ∧ z < 256) (hb : 0 ≤ b ∧ b < 256) : (bits BinOp.xor IntKind.u8 z b == z) = (b == 0) := by
  obtain ⟨a, rfl⟩ : ∃ n : Nat, z = (n : Int) := ⟨z.toNat, by omega⟩
  obtain ⟨c, rfl⟩ : ∃ n : Nat, b = (n : Int) := ⟨b.toNat, by omega⟩
  rw [Gf.xor8 a c (by omega) (by omega)]
  by_cases e : c = 0
  · subst e; simp
  · have h : a ^^^ c ≠ a := fun h => e (by
      have h2 := congrArg (a ^^^ ·) h
      simpa [← Nat.xor_assoc] using h2)
    rw [beq_eq_false_iff_ne.2 (show ((a ^^^ c : Nat) : Int) ≠ (a : Int) by omega), beq_eq_false_iff_ne.2 (show (c : Int) ≠ 0 by omega)]
end Go.Proofs.YtpohogpkfdebdaaGreatDoor.Oc
