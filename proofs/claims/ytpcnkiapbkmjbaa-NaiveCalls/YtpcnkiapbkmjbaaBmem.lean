/- Lists of bytes in memory: what a slice reads as (length and bytes), what the call itself owns, and how both stand behind further calls; no function of the program in it. -/
import Derived.WalkKit
import Derived.ProofKit
import Derived.Below
import Derived.BigQuiet
import Derived.Deep.QuietTactic
namespace Go.Proofs.Ytpcnkiapbkmjbaa.By
open Go.ChangeShapes Go.WideShapes Go.ChangeAt Go.RowKit
theorem hid {p : Prop} (h : p) : Hid p := h
/-- The slice v reads as n bytes, byte i being f i. -/
def RB (w : World) (v : Value) (n : Nat) (f : Nat → Int) : Prop :=
  (∀ i, 0 ≤ f i ∧ f i < 256) ∧ ∃ a cap, v = .slice a n cap ∧ n ≤ cap ∧ cap ≤ maxLen ∧
    ((n = 0 ∧ (a = none → cap = 0)) ∨ ∃ b off, a = some ⟨b, off, none⟩ ∧ ∀ i, i < n → w.cell? ⟨b, off + i, none⟩ = some (.int .u8 (f i)))

/-- n bytes as cells. -/
def bl (n : Nat) (f : Nat → Int) : List Value := (List.range n).map fun i => Value.int .u8 (f i)
theorem bl_length (n : Nat) (f : Nat → Int) : (bl n f).length = n := by simp [bl]
theorem bl_get (n : Nat) (f : Nat → Int) (i : Nat) (h : i < n) : (bl n f)[i]? = some (.int .u8 (f i)) := by
  simp [bl, h]
theorem bl_get_inv (n : Nat) (f : Nat → Int) (i : Nat) (u : Value) (h : (bl n f)[i]? = some u) : i < n ∧ u = .int .u8 (f i) := by
  have hi : i < n := by
    have := List.getElem?_eq_some_iff.1 h
    obtain ⟨h1, _⟩ := this
    simpa [bl_length] using h1
  rw [bl_get n f i hi] at h
  exact ⟨hi, (Option.some.inj h).symm⟩
theorem bl_one (n : Nat) (f : Nat → Int) : ∀ u ∈ bl n f, u.oneCell' = true := by
  intro u hu
  simp [bl] at hu
  obtain ⟨i, _, rfl⟩ := hu
  rfl
theorem bl_congr (n : Nat) (f g : Nat → Int) (h : ∀ i, i < n → f i = g i) : bl n f = bl n g := by
  apply List.map_congr_left
  intro i hi
  rw [h i (List.mem_range.1 hi)]
theorem bl_append (n m : Nat) (f g : Nat → Int) : bl n f ++ bl m g = bl (n + m) (fun i => if i < n then f i else g (i - n)) := by
  apply List.ext_getElem?
  intro i
  by_cases h : i < n
  · rw [List.getElem?_append_left (by rw [bl_length]; exact h), bl_get _ _ _ h, bl_get _ _ _ (by omega), if_pos h]
  · rw [List.getElem?_append_right (by rw [bl_length]; omega), bl_length]
    by_cases h2 : i < n + m
    · rw [bl_get _ _ _ (by omega), bl_get _ _ _ h2, if_neg h]
    · rw [List.getElem?_eq_none (by rw [bl_length]; omega), List.getElem?_eq_none (by rw [bl_length]; omega)]
theorem bl_set (n : Nat) (f : Nat → Int) (k : Nat) (x : Int) : (bl n f).set k (.int .u8 x) = bl n (fun i => if i = k then x else f i) := by
  apply List.ext_getElem?
  intro i
  rw [List.getElem?_set]
  by_cases h : i < n
  · by_cases e : k = i
    · subst e; rw [bl_get _ _ _ h]; simp [bl_length, h]; simp [bl]
    · have e' : ¬ i = k := fun h => e h.symm
      rw [bl_get _ _ _ h, bl_get _ _ _ h]; simp [e, e']
  · rw [List.getElem?_eq_none (by rw [bl_length]; omega), List.getElem?_eq_none (by rw [bl_length]; omega)]
    simp only [bl_length]; split
    · rw [if_neg (by omega)]
    · rfl
theorem bl_singleton (x : Int) : [Value.int .u8 x] = bl 1 (fun _ => x) := by simp [bl, List.range_succ]

/-- The call owns the slice v: n bytes f, from block 'base' on. -/
def Own (w : World) (base : Nat) (v : Value) (n : Nat) (f : Nat → Int) : Prop :=
  (∀ i, 0 ≤ f i ∧ f i < 256) ∧ w.ownsRow base 5 1 v n (bl n f)

theorem Own.shape {w : World} {base : Nat} {v : Value} {n : Nat} {f : Nat → Int} (h : Own w base v n f) :
    (v = .slice none 0 0 ∧ n = 0) ∨ ∃ g cap, v = .slice (some ⟨g, 0, none⟩) n cap ∧ base ≤ g ∧ g < w.heap.size ∧ n ≤ cap ∧ cap ≤ maxLen ∧
      (∀ i, i < n → w.cell? ⟨g, i, none⟩ = some (.int .u8 (f i))) ∧ ∀ i, w.frozen? ⟨g, i, none⟩ = false := by
  have h2 := h.2
  rcases h.2.2 with hn | ⟨g, cap, cur, rfl, hb, hg, hnc, hcm, hcs, ht⟩
  · exact .inl hn
  · refine .inr ⟨g, cap, rfl, hb, ?_, hnc, hcm, fun i hi => ?_, fun i => h2.frozenAt i⟩
    · exact (Array.getElem?_eq_some_iff.1 hg).1
    · rw [h2.cellAt i (by omega), bl_get _ _ _ hi]

theorem Own.reads {w : World} {base : Nat} {v : Value} {n : Nat} {f : Nat → Int} (h : Own w base v n f) : RB w v n f := by
  rcases h.shape with ⟨rfl, rfl⟩ | ⟨g, cap, rfl, _, _, hnc, hcm, hc, _⟩
  · exact ⟨h.1, none, 0, rfl, Nat.le_refl _, by simp [maxLen], .inl ⟨rfl, fun _ => rfl⟩⟩
  · exact ⟨h.1, _, _, rfl, hnc, hcm, .inr ⟨g, 0, rfl, fun i hi => by rw [Nat.zero_add]; exact hc i hi⟩⟩

theorem RB.lt {w : World} {v : Value} {n : Nat} {f : Nat → Int} {b off cap : Nat} (h : RB w v n f) (hv : v = .slice (some ⟨b, off, none⟩) n cap) (hn : 0 < n) : b < w.heap.size := by
  obtain ⟨_, a, cap', rfl, _, _, h0 | ⟨b', off', rfl, hc⟩⟩ := h
  · omega
  · simp at hv
    obtain ⟨⟨rfl, rfl⟩, rfl⟩ := hv
    have := hc 0 hn
    exact block_lt_of_cell this

theorem RB.congr {w : World} {v : Value} {n : Nat} {f g : Nat → Int} (h : RB w v n f) (hg : ∀ i, 0 ≤ g i ∧ g i < 256) (e : ∀ i, i < n → f i = g i) : RB w v n g := by
  obtain ⟨_, a, cap, rfl, h1, h2, h0 | ⟨b, off, rfl, hc⟩⟩ := h
  · exact ⟨hg, a, cap, rfl, h1, h2, .inl h0⟩
  · exact ⟨hg, _, cap, rfl, h1, h2, .inr ⟨b, off, rfl, fun i hi => by rw [← e i hi]; exact hc i hi⟩⟩

/-- Behind a call that only makes memory a slice reads as before. -/
theorem RB.below {w w' : World} {v : Value} {n : Nat} {f : Nat → Int} (h : RB w v n f) (hb : Below w.heap.size w w') : RB w' v n f := by
  have h' := h
  obtain ⟨hf, a, cap, rfl, h1, h2, h0 | ⟨b, off, rfl, hc⟩⟩ := h
  · exact ⟨hf, a, cap, rfl, h1, h2, .inl h0⟩
  · refine ⟨hf, _, cap, rfl, h1, h2, .inr ⟨b, off, rfl, fun i hi => ?_⟩⟩
    rw [hb.cell (p := ⟨b, off + i, none⟩) (h'.lt rfl (by omega))]
    exact hc i hi
theorem RB.drewN {w : World} {v : Value} {n : Nat} {f : Nat → Int} (h : RB w v n f) (k : Nat) : RB (w.drewN k) v n f := h
theorem Below.drewN' {B : Nat} {a w : World} (h : Below B a w) (k : Nat) : Below B a (w.drewN k) := ⟨h.os, h.tape, h.output, h.size, h.block⟩
theorem Below.of_grown {w w' : World} (h : w.grownBy w' none) : Below w.heap.size w w' := ⟨h.os, h.tape, h.output, h.size, fun k hk => h.block k hk (by simp)⟩

/-- The first k bytes of a list. -/
theorem RB.first {w : World} {a : Option Addr} {cap n : Nat} {f : Nat → Int} (h : RB w (.slice a n cap) n f) (k : Nat) (hk : k ≤ n) : RB w (.slice a k cap) k f := by
  obtain ⟨hf, a', cap', hv, h1, h2, h0⟩ := h
  simp at hv
  obtain ⟨rfl, rfl⟩ := hv
  refine ⟨hf, _, _, rfl, by omega, h2, ?_⟩
  rcases h0 with h0 | ⟨b, off, rfl, hc⟩
  · exact .inl ⟨by omega, h0.2⟩
  · exact .inr ⟨b, off, rfl, fun i hi => hc i (by omega)⟩

/-- The byte at a place; 0, where there is none. -/
def Byt (f : Nat → Int) (n : Nat) (p : Int) : Int := if 0 ≤ p ∧ p < n then f p.toNat else 0
theorem Byt_bound (f : Nat → Int) (n : Nat) (p : Int) (h : ∀ i, 0 ≤ f i ∧ f i < 256) : 0 ≤ Byt f n p ∧ Byt f n p < 256 := by
  unfold Byt; split
  · exact h _
  · omega
theorem Byt_out (f : Nat → Int) (n : Nat) (p : Int) (h : p < 0 ∨ (n : Int) ≤ p) : Byt f n p = 0 := by
  unfold Byt; rw [if_neg]; omega
theorem Byt_in (f : Nat → Int) (n : Nat) (p : Int) (h : 0 ≤ p) (h2 : p < n) : Byt f n p = f p.toNat := by
  unfold Byt; rw [if_pos ⟨h, h2⟩]

/-- k bytes as a number, the highest first. -/
def BE (g : Nat → Int) : Nat → Int
  | 0 => 0
  | k + 1 => BE g k * 256 + g k
/-- k bytes as a number, the lowest first. -/
def LE (g : Nat → Int) : Nat → Int
  | 0 => 0
  | k + 1 => LE g k + g k * 256 ^ k
theorem BE_bound (g : Nat → Int) (h : ∀ i, 0 ≤ g i ∧ g i < 256) (k : Nat) : 0 ≤ BE g k ∧ BE g k < 256 ^ k := by
  induction k with
  | zero => simp [BE]
  | succ k ih => have := h k; simp only [BE, Int.pow_succ]; omega
theorem LE_bound (g : Nat → Int) (h : ∀ i, 0 ≤ g i ∧ g i < 256) (k : Nat) : 0 ≤ LE g k ∧ LE g k < 256 ^ k := by
  induction k with
  | zero => simp [LE]
  | succ k ih =>
    have h1 := h k
    have hp : (0 : Int) < 256 ^ k := Int.pow_pos (by omega)
    have a1 : 0 ≤ g k * 256 ^ k := Int.mul_nonneg h1.1 (by omega)
    have a2 : g k * 256 ^ k ≤ 255 * 256 ^ k := Int.mul_le_mul_of_nonneg_right (by omega) (by omega)
    simp only [LE, Int.pow_succ]; omega
end Go.Proofs.Ytpcnkiapbkmjbaa.By
