/- The program's mac: Form. -/
import Derived.Test.YtbgdjjfonmoemaaDoorWc
namespace Go.Proofs.YtbgdjjfonmoemaaDoor.Vm
open Go.ChangeShapes Go.WideShapes Go.ChangeAt Go.RowKit
open Go.Proofs.YtbgdjjfonmoemaaDoor.By Go.Proofs.YtbgdjjfonmoemaaDoor.Gf Go.Proofs.YtbgdjjfonmoemaaDoor.Ae
open Go.Proofs.YtbgdjjfonmoemaaDoor.Kc (own_kept own_mono own8_type cat cat_bound wpList_cat below_grow)
/-- All the ways through a region end alike: the end is shown once. -/
theorem once {T G : Prop} (f : T → G) (t : T) : G := f t
def z64 : List Value := bl 64 (cb (four nought nought nought nought))
@[go_sem high] theorem zlit64 : #[Value.int IntKind.u8 0, Value.int IntKind.u8 0, Value.int IntKind.u8 0, Value.int IntKind.u8 0, Value.int IntKind.u8 0, Value.int IntKind.u8 0, Value.int IntKind.u8 0, Value.int IntKind.u8 0, Value.int IntKind.u8 0, Value.int IntKind.u8 0, Value.int IntKind.u8 0, Value.int IntKind.u8 0, Value.int IntKind.u8 0, Value.int IntKind.u8 0, Value.int IntKind.u8 0, Value.int IntKind.u8 0, Value.int IntKind.u8 0, Value.int IntKind.u8 0, Value.int IntKind.u8 0, Value.int IntKind.u8 0, Value.int IntKind.u8 0, Value.int IntKind.u8 0, Value.int IntKind.u8 0, Value.int IntKind.u8 0, Value.int IntKind.u8 0, Value.int IntKind.u8 0, Value.int IntKind.u8 0, Value.int IntKind.u8 0, Value.int IntKind.u8 0, Value.int IntKind.u8 0, Value.int IntKind.u8 0, Value.int IntKind.u8 0, Value.int IntKind.u8 0, Value.int IntKind.u8 0, Value.int IntKind.u8 0, Value.int IntKind.u8 0, Value.int IntKind.u8 0, Value.int IntKind.u8 0, Value.int IntKind.u8 0, Value.int IntKind.u8 0, Value.int IntKind.u8 0, Value.int IntKind.u8 0, Value.int IntKind.u8 0, Value.int IntKind.u8 0, Value.int IntKind.u8 0, Value.int IntKind.u8 0, Value.int IntKind.u8 0, Value.int IntKind.u8 0, Value.int IntKind.u8 0, Value.int IntKind.u8 0, Value.int IntKind.u8 0, Value.int IntKind.u8 0, Value.int IntKind.u8 0, Value.int IntKind.u8 0, Value.int IntKind.u8 0, Value.int IntKind.u8 0, Value.int IntKind.u8 0, Value.int IntKind.u8 0, Value.int IntKind.u8 0, Value.int IntKind.u8 0, Value.int IntKind.u8 0, Value.int IntKind.u8 0, Value.int IntKind.u8 0, Value.int IntKind.u8 0] = z64.toArray := by kernel_rfl
theorem put64 (f : Nat → Nat) (o t : Nat) (a g : Nat → Nat) (ho : o + t ≤ 64) (h : ∀ i, i < 64 → (if o ≤ i ∧ i < o + t then a (i - o) else f i) = g i) : put (bl 64 (cb f)) o (bl t (cb a)) = bl 64 (cb g) := by
  apply List.ext_getElem?
  intro i
  rw [put_get _ _ _ _ (by rw [bl_length, bl_length]; omega), bl_length]
  by_cases hi : i < 64
  · rw [bl_get 64 (cb g) i hi, show cb g i = ((g i : Nat) : Int) from rfl, ← h i hi]
    split
    · rw [bl_get _ _ _ (by omega)]
    · rw [bl_get _ _ _ hi]
  · rw [if_neg (by omega), List.getElem?_eq_none (by rw [bl_length]; omega), List.getElem?_eq_none (by rw [bl_length]; omega)]
theorem fold0 (a : Nat → Nat) : List.foldl (fun (cs : Array Value) (x : Value × Nat) => cs.setIfInBounds x.2 x.1) z64.toArray (bl 16 (cb a)).zipIdx = (bl 64 (cb (four a nought nought nought))).toArray := by
  have h := foldl_put (bl 16 (cb a)) z64 0 0
  simp only [Nat.zero_add] at h
  rw [h]
  unfold z64
  rw [put64 _ 0 16 a (four a nought nought nought) (by omega) (fun i hi => by
    unfold four
    by_cases h : i < 16
    · rw [if_pos (by omega), if_pos h]; rfl
    · rw [if_neg (by omega), if_neg h, if_neg h])]
theorem fold1 (a b : Nat → Nat) : List.foldl (fun (cs : Array Value) (x : Value × Nat) => cs.setIfInBounds (16 + x.2) x.1) (bl 64 (cb (four a nought nought nought))).toArray (bl 16 (cb b)).zipIdx = (bl 64 (cb (four a b nought nought))).toArray := by
  rw [foldl_put, put64 _ 16 16 b (four a b nought nought) (by omega) (fun i hi => by
    unfold four
    by_cases h : i < 16
    · rw [if_neg (by omega), if_pos h, if_pos h]
    · by_cases h2 : i < 32
      · rw [if_pos (by omega), if_neg h, if_pos h2]
      · rw [if_neg (by omega), if_neg h, if_neg h, if_neg h2, if_neg h2])]
theorem fold2 (a b c : Nat → Nat) : List.foldl (fun (cs : Array Value) (x : Value × Nat) => cs.setIfInBounds (32 + x.2) x.1) (bl 64 (cb (four a b nought nought))).toArray (bl 16 (cb c)).zipIdx = (bl 64 (cb (four a b c nought))).toArray := by
  rw [foldl_put, put64 _ 32 16 c (four a b c nought) (by omega) (fun i hi => by
    by_cases hc : 32 ≤ i ∧ i < 32 + 16
    · rw [if_pos hc]
      unfold four
      rw [if_neg (show ¬ i < 16 by omega), if_neg (show ¬ i < 32 by omega), if_pos (show i < 48 by omega)]
    · rw [if_neg hc]
      unfold four
      split
      · rfl
      split
      · rfl
      simp only [if_neg (show ¬ i < 48 by omega)])]
theorem fold3 (a b c d : Nat → Nat) : List.foldl (fun (cs : Array Value) (x : Value × Nat) => cs.setIfInBounds (48 + x.2) x.1) (bl 64 (cb (four a b c nought))).toArray (bl 16 (cb d)).zipIdx = (bl 64 (cb (four a b c d))).toArray := by
  rw [foldl_put, put64 _ 48 16 d (four a b c d) (by omega) (fun i hi => by
    unfold four
    by_cases h : 48 ≤ i
    · rw [if_pos (by omega), if_neg (show ¬ i < 16 by omega), if_neg (show ¬ i < 32 by omega), if_neg (show ¬ i < 48 by omega)]
    · rw [if_neg (by omega), if_pos (show i < 48 by omega), if_pos (show i < 48 by omega)])]
theorem sz64 (f : Nat → Int) : (bl 64 f).toArray.size = 64 := by rw [List.size_toArray, bl_length]
/-- The form's bytes. -/
def fmf (k : Nat) (ws : Nat → Nat) (n : Nat) (m : Nat → Nat) (i : Nat) : Nat :=
  if i < 16 * (k + 7) then ws i else if i < 16 * (k + 7) + 64 then four (sk1 ws (k + 6)) (sk2 ws (k + 6)) (chn ws (k + 6) m (nbl n)) (wtn m n) (i - 16 * (k + 7)) else ctn n
def fml (k : Nat) : Nat := 16 * (k + 7) + 65
theorem fmf_lt {k n : Nat} {ws m : Nat → Nat} (hw : ∀ i, ws i < 256) (hm : ∀ i, m i < 256) (i : Nat) : fmf k ws n m i < 256 := by
  unfold fmf
  split
  · exact hw _
  split
  · unfold four
    split
    · exact dbl_lt (enc_b hw _ nought_b) _
    split
    · exact dbl_lt (sk1_b hw _) _
    split
    · exact chn_b hw hm _ _ _ (by omega)
    · exact wtn_lt hm _ _
  · have := ctn_le n; omega
theorem four_lt {k n : Nat} {ws m : Nat → Nat} (hw : ∀ i, ws i < 256) (hm : ∀ i, m i < 256) (i : Nat) : four (sk1 ws (k + 6)) (sk2 ws (k + 6)) (chn ws (k + 6) m (nbl n)) (wtn m n) i < 256 := by
  unfold four
  split
  · exact dbl_lt (enc_b hw _ nought_b) _
  split
  · exact dbl_lt (sk1_b hw _) _
  split
  · exact chn_b hw hm _ _ _ (by omega)
  · exact wtn_lt hm _ _
theorem fmf_b {k n : Nat} {ws m : Nat → Nat} (hw : ∀ i, ws i < 256) (hm : ∀ i, m i < 256) (i : Nat) : 0 ≤ cb (fmf k ws n m) i ∧ cb (fmf k ws n m) i < 256 := ⟨Int.natCast_nonneg _, Int.ofNat_lt.2 (fmf_lt hw hm i)⟩
theorem fmf_mid (k n : Nat) (ws m : Nat → Nat) (i : Nat) (hi : i < 64) : fmf k ws n m (16 * (k + 7) + i) = four (sk1 ws (k + 6)) (sk2 ws (k + 6)) (chn ws (k + 6) m (nbl n)) (wtn m n) i := by
  unfold fmf
  rw [if_neg (by omega), if_pos (by omega)]
  congr 1; omega
theorem fmf_low (k n : Nat) (ws m : Nat → Nat) (i : Nat) (hi : i < 16 * (k + 7) + 16 * 0) : cb ws i = cb (fmf k ws n m) i := by
  show ((ws i : Nat) : Int) = ((fmf k ws n m i : Nat) : Int)
  unfold fmf
  rw [if_pos (by omega)]
theorem fmf_cat (k n : Nat) (ws m F : Nat → Nat) (hF : ∀ i, i < 64 → fmf k ws n m (16 * (k + 7) + i) = F i) (j : Nat) (hj : j < 4) (i : Nat) (hi : i < 16 * (k + 7) + 16 * j + 16) : Kc.cat (16 * (k + 7) + 16 * j) (cb (fmf k ws n m)) (cb fun i => F (16 * j + i)) i = cb (fmf k ws n m) i := by
  unfold Kc.cat
  split
  · rfl
  · show ((F (16 * j + (i - (16 * (k + 7) + 16 * j))) : Nat) : Int) = ((fmf k ws n m i : Nat) : Int)
    rw [← hF _ (by omega)]
    congr 2; omega
theorem fmf_end (k n : Nat) (ws m : Nat → Nat) (i : Nat) (hi : i < 16 * (k + 7) + 16 * 4 + 1) : Kc.cat (16 * (k + 7) + 16 * 4) (cb (fmf k ws n m)) (fun _ => ((ctn n : Nat) : Int)) i = cb (fmf k ws n m) i := by
  unfold Kc.cat
  split
  · rfl
  · show ((ctn n : Nat) : Int) = ((fmf k ws n m i : Nat) : Int)
    unfold fmf
    rw [if_neg (by omega), if_neg (by omega)]
theorem fmf_room (k j : Nat) (hk : k ≤ 8) (hj : j ≤ 4) : 16 * (k + 7) + 16 * j + 16 ≤ 140737488355328 := by omega
theorem four_more (k j : Nat) : 16 * (k + 7) + 16 * (j + 1) = 16 * (k + 7) + 16 * j + 16 := by omega
theorem j_more (j : Nat) (h : j < 4) : 4 - (j + 1) < 4 - j := by omega
theorem kk_le {k : Nat} (h : k = 4 ∨ k = 6 ∨ k = 8) : k ≤ 8 := by omega
theorem ctn_mod (n : Nat) : ((ctn n : Nat) : Int) % 256 = ((ctn n : Nat) : Int) := by have := ctn_le n; omega
theorem ctn_byte (n : Nat) : 0 ≤ ((ctn n : Nat) : Int) ∧ ((ctn n : Nat) : Int) < 256 := by have := ctn_le n; omega
theorem index64 (F : Nat → Nat) (j : Nat) (hj : j < 4) (w : World) : (Instr.index 99 (.agg (bl 64 (cb F)).toArray) (.int .i64 j)).run Tryd.prog w = .ok (.agg (bl 16 (cb (fun i => F (16 * j + i)))).toArray) w := by
  have e : List.take 16 (List.drop (j * 16) (bl 64 (cb F))) = bl 16 (cb (fun i => F (16 * j + i))) := by
    apply List.ext_getElem?
    intro i
    by_cases hi : i < 16
    · rw [bl_get 16 _ i hi, List.getElem?_take, if_pos hi, List.getElem?_drop, bl_get 64 _ _ (by omega)]
      show some (Value.int IntKind.u8 ((F (j * 16 + i) : Nat) : Int)) = some (Value.int IntKind.u8 ((F (16 * j + i) : Nat) : Int))
      rw [Nat.mul_comm]
    · rw [List.getElem?_eq_none (by simp [bl_length]; omega), List.getElem?_eq_none (by rw [bl_length]; omega)]
  simp [Instr.index, go_sem, hj, e]
end Go.Proofs.YtbgdjjfonmoemaaDoor.Vm
