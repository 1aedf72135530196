/- Numbers taken out of bytes; lists copied. -/
import Derived.Test.YtdahogdfonhnfaaUfn
namespace Go.Proofs.Ytdahogdfonhnfaa.Ou
open Go.ChangeShapes Go.WideShapes Go.ChangeAt Go.RowKit
open Go.Proofs.Ytdahogdfonhnfaa.By
open Go.Proofs.Ytdahogdfonhnfaa.Tb (Blk put_all below_cells)
theorem or_be64 (p b : Int) (h0 : 0 ≤ p) (h1 : p < 72057594037927936) (b0 : 0 ≤ b) (b1 : b < 256) : bits .or .u64 (p * 256 % 18446744073709551616) b = p * 256 + b := by
  obtain ⟨P, rfl⟩ := Int.eq_ofNat_of_zero_le h0
  obtain ⟨B, rfl⟩ := Int.eq_ofNat_of_zero_le b0
  have e : (P : Int) * 256 % 18446744073709551616 = ((P * 256 : Nat) : Int) := by omega
  rw [e, u64_or_nat _ _ (by omega) (by omega), nat_join 8 _ _ (by omega) (by omega)]
  omega
theorem pow_le_of (k m : Nat) (h : k ≤ m) : (256 : Int) ^ k ≤ 256 ^ m := by
  have e : ∀ j : Nat, ((256 ^ j : Nat) : Int) = 256 ^ j := fun j => Int.natCast_pow 256 j
  have := Nat.pow_le_pow_right (n := 256) (by omega) h
  have h1 := e k
  have h2 := e m
  omega
theorem BE_lt7 (f : Nat → Int) (hf : ∀ i, 0 ≤ f i ∧ f i < 256) (k : Nat) (h : k < 8) : 0 ≤ BE f k ∧ BE f k < 72057594037927936 := by
  have h1 := BE_bound f hf k
  have h2 := pow_le_of k 7 (by omega)
  omega
theorem BE_lt8 (f : Nat → Int) (hf : ∀ i, 0 ≤ f i ∧ f i < 256) (k : Nat) (h : k ≤ 8) : 0 ≤ BE f k ∧ BE f k < 18446744073709551616 := by
  have h1 := BE_bound f hf k
  have h2 := pow_le_of k 8 (by omega)
  omega
theorem BE_lt3 (f : Nat → Int) (hf : ∀ i, 0 ≤ f i ∧ f i < 256) : 0 ≤ BE f 3 ∧ BE f 3 < 16777216 := BE_bound f hf 3
theorem wrap_i64 (x : Int) (h0 : 0 ≤ x) (h1 : x < 18446744073709551616) : wrap64 x = sg x := by
  unfold sg wrap64
  split <;> omega
theorem own_blk {w : World} {g n : Nat} {f : Nat → Int} (base : Nat) (h : Blk w g (bl n f) 5) (hb : base ≤ g) (hf : ∀ i, 0 ≤ f i ∧ f i < 256) (hn : n ≤ maxLen) : By.Own w base (.slice (some ⟨g, 0, none⟩) n n) n f := by
  refine ⟨hf, ?_⟩
  refine ⟨by rw [bl_length, Nat.mul_one], .inr ⟨g, n, (bl n f).toArray, rfl, hb, h, Nat.le_refl _, hn, by simp [bl_length], by rw [Nat.mul_one, List.take_of_length_le (by simp [bl_length])]⟩⟩
theorem copy_blk {w : World} {g n b off c : Nat} {f h : Nat → Int} (ty : TypeId) (hc : ∀ i, i < n → w.cell? ⟨b, off + i, none⟩ = some (.int .u8 (f i))) (ho : Blk w g (bl n h) 5) :
    (Builtin.copy_ #[26, 26] ty #[.slice (some ⟨g, 0, none⟩) n n, .slice (some ⟨b, off, none⟩) n c]).run Try.prog w = .ok (.int .i64 n) (w.setCells g 0 (bl n f)) := by
  have := run_copy_cells (P := Try.prog) w 26 26 ty 5 g 0 n n ⟨b, off, none⟩ n c (bl n f) Try.underlying26 (by kernel_rfl) (by rw [bl_length]; exact (Nat.min_self n).symm)
    (fun j v hv => by obtain ⟨hj, rfl⟩ := bl_get_inv _ _ _ _ hv; rw [By.add_plain]; exact hc j hj)
    (fun j hj => by rw [bl_length] at hj; rw [Nat.zero_add, ho.cell _ _ (bl_get n h j hj)]; rfl) (fun j _ => ho.frozen _) (bl_one _ _)
  rw [bl_length] at this
  exact this
set_option maxRecDepth 4000 in
set_option maxHeartbeats 400000 in
theorem copied_ok (v : Value) (n : Nat) (f : Nat → Int) (w : World) (hr : By.RB w v n f) (hn : n ≤ 140737488355328) :
    Calls Try.prog 43 #[v] w fun e w' => ∃ v', e = .returned v' ∧ By.Own w' w.heap.size v' n f ∧ Below w.heap.size w w' := by
  obtain ⟨hf, a, cap, rfl, h1, h2, hc⟩ := hr
  by_cases h0 : n = 0
  · subst h0
    have HF := hid hf
    clear hc hf
    go_enter Try.func43, Try.ntmps43
    go_wp2
    go_ret
    exact ⟨_, rfl, own_nil _ _ _ HF.out, Below.refl _ _⟩
  · have h3 : ((n : Int) == 0) = false := by simp; omega
    have hc' := hc
    clear hc
    obtain ⟨b, off, rfl, hc⟩ : ∃ b off, a = some ⟨b, off, none⟩ ∧ ∀ i, i < n → w.cell? ⟨b, off + i, none⟩ = some (.int .u8 (f i)) := by
      rcases hc' with ⟨h, _⟩ | h
      · exact absurd h h0
      · exact h
    have mk := make_lc n n (Nat.le_refl _) hn w
    have NB := Blk.new w (bl n (fun _ => 0)) 5
    obtain ⟨W, hW⟩ : ∃ W, w.alloc (.cells (bl n (fun _ => 0)).toArray 5) = W := ⟨_, rfl⟩
    have hb : Below w.heap.size w W := by rw [← hW]; exact below_alloc w _
    rw [hW] at mk NB
    have cp := fun ty => copy_blk (c := cap) ty (fun i hi => by rw [hb.cell (p := ⟨b, off + i, none⟩) (block_lt_of_cell (hc i hi))]; exact hc i hi) NB
    obtain ⟨W2, hW2⟩ : ∃ W2, W.setCells w.heap.size 0 (bl n f) = W2 := ⟨_, rfl⟩
    rw [hW2] at cp
    have R : Hid (By.Own W2 w.heap.size (.slice (some ⟨w.heap.size, 0, none⟩) n n) n f ∧ Below w.heap.size w W2) := by
      have := NB.put 0 (bl n f)
      rw [put_all _ _ (by rw [bl_length, bl_length]), hW2] at this
      refine ⟨own_blk _ this (Nat.le_refl _) hf (by simp [maxLen]; omega), ?_⟩
      rw [← hW2]
      exact below_cells hb _ _ _ (Nat.le_refl _) hb.size
    clear NB hb hW2 hW hc hf h0 hc'
    go_enter Try.func43, Try.ntmps43
    go_wp2
    go_ret
    exact ⟨_, rfl, R.out⟩
end Go.Proofs.Ytdahogdfonhnfaa.Ou
