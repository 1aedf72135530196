/- There and back, in plain numbers: what is laid is taken again; turning by none, by two numbers one behind the other; the exclusive or twice. -/
import Derived.Test.YtfieheldneddeaaTakes
namespace Go.Proofs.Ytfieheldneddeaa
open Go.ChangeShapes Go.WideShapes Go.ChangeAt Go.RowKit
theorem own_cells {w : World} {base : Nat} {v : Value} {n : Nat} {f : Nat → Int} (h : Own w base v n f) (hn : 0 < n) : ∃ g cap, v = .slice (some ⟨g, 0, none⟩) n cap ∧ ∀ i, i < n → w.cell? ⟨g, i, none⟩ = some (.int .u8 (f i)) := by
  rcases h.shape with ⟨_, h0⟩ | ⟨g, cap, rfl, _, _, _, _, hc, _⟩
  · omega
  · exact ⟨g, cap, rfl, hc⟩
theorem byt_zero (f : Nat → Int) (n : Nat) (i : Nat) (h : i < n) : Byt f n (0 + (i : Int)) = f i := by
  rw [Byt_in f n _ (by omega) (by omega)]; congr 1; omega
theorem be_back8 (x : Int) (h0 : 0 ≤ x) (h1 : x < 18446744073709551616) : BE (fun i => Byt (beByte 8 x) 8 (0 + i)) 8 = x := by
  rw [BE_congr _ (beByte 8 x) 8 (fun i hi => byt_zero _ 8 i hi)]
  simp [BE, beByte]
  omega
theorem le_back8 (x : Int) (h0 : 0 ≤ x) (h1 : x < 18446744073709551616) : LE (fun i => Byt (leByte x) 8 (0 + i)) 8 = x := by
  rw [LE_congr _ (leByte x) 8 (fun i hi => byt_zero _ 8 i hi)]
  simp [LE, leByte]
  omega
theorem be_back4 (x : Int) (h0 : 0 ≤ x) (h1 : x < 4294967296) : BE (fun i => Byt (beByte 4 x) 4 (0 + i)) 4 = x := by
  rw [BE_congr _ (beByte 4 x) 4 (fun i hi => byt_zero _ 4 i hi)]
  simp [BE, beByte]
  omega
theorem le_back4 (x : Int) (h0 : 0 ≤ x) (h1 : x < 4294967296) : LE (fun i => Byt (leByte x) 4 (0 + i)) 4 = x := by
  rw [LE_congr _ (leByte x) 4 (fun i hi => byt_zero _ 4 i hi)]
  simp [LE, leByte]
  omega
theorem rot_zero64 (x : Int) (h0 : 0 ≤ x) (h1 : x < 18446744073709551616) : Rot 64 x 0 = x := by
  unfold Rot rotN
  have e : ((0 : Int) % (64 : Nat)).toNat = 0 := by decide
  rw [e]
  simp only [Nat.pow_zero, Nat.mul_one]
  omega
theorem rot_zero32 (x : Int) (h0 : 0 ≤ x) (h1 : x < 4294967296) : Rot 32 x 0 = x := by
  unfold Rot rotN
  have e : ((0 : Int) % (32 : Nat)).toNat = 0 := by decide
  rw [e]
  simp only [Nat.pow_zero, Nat.mul_one]
  omega
theorem rot_two64 (x n m : Int) (h0 : 0 ≤ x) (h1 : x < 18446744073709551616) : Rot 64 (Rot 64 x n) m = Rot 64 x (n + m) := by
  unfold Rot
  rw [Int.toNat_natCast, rotN_two64 _ _ _ (by omega) (by omega) (by omega)]
  congr 2
  omega
theorem rot_two32 (x n m : Int) (h0 : 0 ≤ x) (h1 : x < 4294967296) : Rot 32 (Rot 32 x n) m = Rot 32 x (n + m) := by
  unfold Rot
  rw [Int.toNat_natCast, rotN_two32 _ _ _ (by omega) (by omega) (by omega)]
  congr 2
  omega
theorem rot_wrap64 (x k : Int) : Rot 64 x (wrap64 k) = Rot 64 x k := by
  unfold Rot wrap64
  congr 3
  omega
theorem rot_wrap32 (x k : Int) : Rot 32 x (wrap64 k) = Rot 32 x k := by
  unfold Rot wrap64
  congr 3
  omega
theorem rb_cap {w : World} {a : Option Addr} {n cap : Nat} {f : Nat → Int} (h : RB w (.slice a n cap) n f) : n ≤ cap := by
  obtain ⟨_, a', c', hv, h1, _⟩ := h
  simp at hv
  omega
theorem xb_twice (a b : Int) (ha : 0 ≤ a ∧ a < 256) (hb : 0 ≤ b ∧ b < 256) : xb (xb a b) b = a := by
  obtain ⟨A, rfl⟩ := Int.eq_ofNat_of_zero_le ha.1
  obtain ⟨B, rfl⟩ := Int.eq_ofNat_of_zero_le hb.1
  have h : A ^^^ B < 2 ^ 8 := Nat.xor_lt_two_pow (by omega) (by omega)
  rw [xb_nat A B (by omega) (by omega), xb_nat _ B (by omega) (by omega), Nat.xor_assoc, Nat.xor_self, Nat.xor_zero]
end Go.Proofs.Ytfieheldneddeaa
