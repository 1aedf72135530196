/- The keys that may be, and the others. -/
import Derived.Test.YtnncgniiceglaaaDoorVlw0
namespace Go.Proofs.YtnncgniiceglaaaDoor.Vm
open Go.ChangeShapes Go.WideShapes Go.ChangeAt Go.RowKit
open Go.Proofs.YtnncgniiceglaaaDoor.By Go.Proofs.YtnncgniiceglaaaDoor.Gf Go.Proofs.YtnncgniiceglaaaDoor.Ae
theorem key_cases (n : Nat) : (n ≠ 16 ∧ n ≠ 24 ∧ n ≠ 32) ∨ ∃ k, (k = 4 ∨ k = 6 ∨ k = 8) ∧ n = 4 * k := by
  by_cases h1 : n = 16
  · exact .inr ⟨4, .inl rfl, h1⟩
  by_cases h2 : n = 24
  · exact .inr ⟨6, .inr (.inl rfl), h2⟩
  by_cases h3 : n = 32
  · exact .inr ⟨8, .inr (.inr rfl), h3⟩
  exact .inl ⟨h1, h2, h3⟩
theorem rb_kf {w : World} {v : Value} {n : Nat} {f : Nat → Int} (h : By.RB w v n f) : By.RB w v n (cb (kf f)) := by
  rw [show cb (kf f) = f from funext (fun i => kf_eq h.1 i)]; exact h
theorem rb_cells {w : World} {a : Option Addr} {n cap : Nat} {f : Nat → Nat} (h : By.RB w (.slice a n cap) n (cb f)) (h0 : 0 < n) : ∃ b o, a = some ⟨b, o, none⟩ ∧ n ≤ cap ∧ ∀ i, i < n → w.cell? ⟨b, o + i, none⟩ = some (.int .u8 (f i : Nat)) := by
  obtain ⟨_, a', cap', he, hc, _, h1 | ⟨b, o, h1, hcell⟩⟩ := h
  · omega
  · simp at he
    obtain ⟨rfl, rfl⟩ := he
    exact ⟨b, o, h1, hc, hcell⟩
end Go.Proofs.YtnncgniiceglaaaDoor.Vm
