/- Numbers as bytes, the highest first, and back; lists of bytes gone on with. -/
import Derived.Test.YtdahogdfonhnfaaRows
import Derived.Test.YtdahogdfonhnfaaKmath
import Derived.Test.YtdahogdfonhnfaaBapart
import Derived.Test.YtdahogdfonhnfaaTbk
import Derived.Deep.OwnRows
import Derived.WalkLawsBesides
namespace Go.Proofs.Ytdahogdfonhnfaa.Ou
open Go.ChangeShapes Go.WideShapes Go.ChangeAt Go.RowKit
open Go.Proofs.Ytdahogdfonhnfaa.By
/-- Byte i of x in s bytes, the highest first. -/
def be (s : Nat) (x : Int) (i : Nat) : Int := x / 256 ^ (s - 1 - i) % 256
theorem be_bound (s : Nat) (x : Int) (i : Nat) : 0 ≤ be s x i ∧ be s x i < 256 := by unfold be; omega
theorem emod_two (y m : Int) (hm : 0 < m) : y % (256 * m) = (y / 256 % m) * 256 + y % 256 := by
  have e1 := Int.mul_ediv_add_emod y 256
  have e2 := Int.mul_ediv_add_emod (y / 256) m
  have b1 := Int.emod_nonneg (y / 256) (Int.ne_of_gt hm)
  have b2 := Int.emod_lt_of_pos (y / 256) hm
  obtain ⟨z, hz⟩ : ∃ z, y / 256 = z := ⟨_, rfl⟩
  rw [hz] at e1 e2 b1 b2 ⊢
  have e3 : y = (z % m * 256 + y % 256) + (256 * m) * (z / m) := by
    rw [Int.mul_assoc]
    omega
  have h1 : (0 : Int) ≤ z % m * 256 + y % 256 := by omega
  have h2 : z % m * 256 + y % 256 < 256 * m := by omega
  rw [← Int.emod_eq_of_lt h1 h2, ← Int.add_mul_emod_self_left (z % m * 256 + y % 256) (256 * m) (z / m), ← e3]
theorem pow_pos' (k : Nat) : (0 : Int) < 256 ^ k := Int.pow_pos (by decide)
theorem BE_be_k (s : Nat) (x : Int) : ∀ k, k ≤ s → BE (be s x) k = x / 256 ^ (s - k) % 256 ^ k := by
  intro k
  induction k with
  | zero => intro _; simp [BE, Int.emod_one]
  | succ k ih =>
    intro hk
    have h1 : x / 256 ^ (s - k) = x / 256 ^ (s - (k + 1)) / 256 := by
      rw [Int.ediv_ediv_of_nonneg (Int.le_of_lt (pow_pos' _)), show s - k = s - (k + 1) + 1 by omega, Int.pow_succ]
    simp only [BE]
    rw [ih (by omega), h1, Int.pow_succ, Int.mul_comm (256 ^ k) 256, emod_two _ _ (pow_pos' k)]
    unfold be
    rw [show s - 1 - k = s - (k + 1) by omega]
theorem BE_be (s : Nat) (x : Int) : BE (be s x) s = x % 256 ^ s := by
  rw [BE_be_k s x s (Nat.le_refl _), Nat.sub_self]; simp
theorem BE_congr (g h : Nat → Int) (k : Nat) (e : ∀ i, i < k → g i = h i) : BE g k = BE h k := by
  induction k with
  | zero => rfl
  | succ k ih => simp only [BE]; rw [ih (fun i hi => e i (by omega)), e k (by omega)]
/-- A number below 2^64 as one with a sign. -/
def sg (x : Int) : Int := if x < 9223372036854775808 then x else x - 18446744073709551616
theorem sg_mod (x : Int) (h0 : -9223372036854775808 ≤ x) (h1 : x < 9223372036854775808) : sg (x % 18446744073709551616) = x := by unfold sg; split <;> omega
theorem sg_bound (x : Int) (h0 : 0 ≤ x) (h1 : x < 18446744073709551616) : -9223372036854775808 ≤ sg x ∧ sg x < 9223372036854775808 := by unfold sg; split <;> omega
/-- n bytes f, then g. -/
def cat (n : Nat) (f g : Nat → Int) (i : Nat) : Int := if i < n then f i else g (i - n)
theorem cat_bound {n : Nat} {f g : Nat → Int} (hf : ∀ i, 0 ≤ f i ∧ f i < 256) (hg : ∀ i, 0 ≤ g i ∧ g i < 256) (i : Nat) : 0 ≤ cat n f g i ∧ cat n f g i < 256 := by
  unfold cat; split
  · exact hf _
  · exact hg _
theorem cat_lt {n : Nat} {f g : Nat → Int} {i : Nat} (h : i < n) : cat n f g i = f i := if_pos h
theorem cat_ge {n : Nat} {f g : Nat → Int} {i : Nat} (h : n ≤ i) : cat n f g i = g (i - n) := if_neg (by omega)
theorem wpList_cat {w : World} {ops : Array Oper} {rest : List Oper} {o : Oper} {a : Act} {Q : Exit → Act → World → Prop} (hgd : o.guard = none) (s x : Operand)
    (ho : o.op = .call { callee := .builtin .append, args := #[s, x], argTypes := #[26, 26] })
    (base n m : Nat) (v u : Value) (f g : Nat → Int) (hs : a.eval s = v) (hv : By.Own w base v n f) (hx : a.eval x = u) (hr : By.RB w u m g) (hn : n + m ≤ 140737488355328) (hb : base ≤ w.heap.size)
    (h : ∀ v' w', By.Own w' base v' (n + m) (cat n f g) → w.grownBy w' v.ownBlock → wpList Try.prog ops Q rest (a.put o.dst v') w') : wpList Try.prog ops Q (o :: rest) a w := by
  obtain ⟨hg, ad, cap, rfl, h1, h2, hc⟩ := hr
  obtain ⟨i0, hi, hz0, hz1, hz2⟩ := info_parts info5
  have hcat : bl n f ++ bl m g = bl (n + m) (cat n f g) := bl_append n m f g
  cases ad with
  | none =>
    have hm0 : m = 0 := by rcases hc with ⟨h, _⟩ | ⟨_, _, h, _⟩; exact h; cases h
    have hc0 : cap = 0 := by rcases hc with ⟨_, h⟩ | ⟨_, _, h, _⟩; exact h rfl; cases h
    subst hm0 hc0
    refine wpList_append_own_none hgd s x 26 ho base 5 i0 1 Try.underlying26 hi _ _ _ hs hv.2 hx ?_
    refine h v w ⟨cat_bound hv.1 hg, ?_⟩ (World.grownBy.refl _ _)
    rw [← hcat]; simpa [bl] using hv.2
  | some ad =>
    have HC : ∀ j u, (bl m g)[j]? = some u → w.cell? (ad.add j) = some u := by
      intro j u hj
      obtain ⟨hj1, rfl⟩ := bl_get_inv _ _ _ _ hj
      rcases hc with ⟨h, _⟩ | ⟨b, off, h, hc⟩
      · omega
      · cases h; rw [By.add_plain]; exact hc j hj1
    refine wpList_append_own _ hgd s x 26 ho base 5 i0 (.int .u8 0) 1 1 Try.underlying26 hi hz0 hz1 hz2 rfl (by decide) v n (bl n f) hs hv.2 ad m cap (bl m g) hx (by rw [bl_length]; omega) HC (bl_one m g) (by simp [maxLen]; omega) (by omega) hb ?_
    intro v' w' hown hgrow _
    exact h v' w' ⟨cat_bound hv.1 hg, by rw [← hcat]; exact hown⟩ hgrow
theorem below_grow {w w' w1 : World} {B n : Nat} {v : Value} {f : Nat → Int} (hb : Below B w w') (hB : B ≤ w'.heap.size) (ho : By.Own w' B v n f) (hg : w'.grownBy w1 v.ownBlock) : Below B w w1 := hb.grown hg hB (own_row ho)
theorem bl_take (n c : Nat) (f : Nat → Int) (h : n ≤ c) : (bl c f).take n = bl n f := by
  apply List.ext_getElem?
  intro i
  rw [List.getElem?_take]
  by_cases hi : i < n
  · rw [if_pos hi, bl_get _ _ _ (by omega), bl_get _ _ _ hi]
  · rw [if_neg hi, List.getElem?_eq_none (by rw [bl_length]; omega)]
theorem own_made (w : World) (n c B : Nat) (f : Nat → Int) (hf : ∀ i, 0 ≤ f i ∧ f i < 256) (hn : n ≤ c) (hc : c ≤ maxLen) (hB : B ≤ w.heap.size) : By.Own (w.alloc (.cells (bl c f).toArray 5)) B (.slice (some ⟨w.heap.size, 0, none⟩) n c) n f :=
  ⟨hf, by rw [bl_length]; omega, .inr ⟨_, c, _, rfl, hB, heap_alloc_last w _, hn, hc, by simp [bl_length], by simp [bl_take n c f hn]⟩⟩
theorem make_lc (l c : Nat) (h : l ≤ c) (hc : c ≤ 140737488355328) (w : World) : (Instr.makeSlice 26 (.int .i64 l) (.int .i64 c)).run Try.prog w = .ok (.slice (some ⟨w.heap.size, 0, none⟩) l c) (w.alloc (.cells (bl c (fun _ => 0)).toArray 5)) := by
  obtain ⟨i0, hi, hz0, hz1, hz2⟩ := info_parts info5
  have hr := run_make (P := Try.prog) w 26 5 i0 (.int .u8 0) Try.underlying26 hi hz0 .i64 .i64 l c (by omega) (by omega) (by rw [hz2]; omega) (by omega)
  have e : madeCells #[Value.int .u8 0] c = (bl c (fun _ => 0)).toArray := by rw [← bl_zero]
  simp only [Int.toNat_natCast, hz1, Nat.mul_one, Value.cells, e] at hr
  exact hr
theorem shr_be (x : Int) (i : Nat) (h : i < 8) : x % 18446744073709551616 / 256 ^ i % 256 = x / 256 ^ i % 256 := by
  match i, h with
  | 0, _ => simp
  | 1, _ => simp; omega
  | 2, _ => show x % 18446744073709551616 / 65536 % 256 = x / 65536 % 256; omega
  | 3, _ => show x % 18446744073709551616 / 16777216 % 256 = x / 16777216 % 256; omega
  | 4, _ => show x % 18446744073709551616 / 4294967296 % 256 = x / 4294967296 % 256; omega
  | 5, _ => show x % 18446744073709551616 / 1099511627776 % 256 = x / 1099511627776 % 256; omega
  | 6, _ => show x % 18446744073709551616 / 281474976710656 % 256 = x / 281474976710656 % 256; omega
  | 7, _ => show x % 18446744073709551616 / 72057594037927936 % 256 = x / 72057594037927936 % 256; omega
end Go.Proofs.Ytdahogdfonhnfaa.Ou
