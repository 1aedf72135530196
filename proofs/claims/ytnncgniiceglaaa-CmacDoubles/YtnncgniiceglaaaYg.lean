/- The program's 'multiplied': each column times the rows that begin with one. The program's Xor of two lists of four bytes; a piece put through a box on the spot. A cipher's cells; a round key added to a block. The document's 'Boxes': all inverses looked for, then the S-box bit by bit. -/
import Derived.Test.YtnncgniiceglaaaYf
import Derived.Test.YtnncgniiceglaaaYb
import Derived.Deep.RegionLaw
import Derived.Deep.DeepMust
import Derived.Test.YtnncgniiceglaaaYa
namespace Go.Proofs.Ytnncgniiceglaaa.Ae
open Go.ChangeShapes Go.WideShapes Go.ChangeAt Go.RowKit
open Go.Proofs.Ytnncgniiceglaaa.By Go.Proofs.Ytnncgniiceglaaa.Gf
theorem below_dr {B : Nat} {a w : World} (h : Below B a w) : Below B a w.drew := ⟨h.os, h.tape, h.output, h.size, h.block⟩
theorem quo4 (k : Nat) : (k : Int).tdiv 4 = ((k / 4 : Nat) : Int) := by
  rw [Int.tdiv_eq_ediv_of_nonneg (by omega)]; omega
theorem rem4 (k : Nat) : (k : Int).tmod 4 = ((k % 4 : Nat) : Int) := by
  rw [Int.tmod_eq_emod_of_nonneg (by omega)]; omega
set_option maxRecDepth 4000 in
theorem slice4 (W : World) (b c : Nat) (hc : c ≤ 3) : (Instr.sliceAt 23 (.pointer (some ⟨b, 0, none⟩)) (some (.int .i64 (4 * (c : Int)))) (some (.int .i64 (4 * ((c : Int) + 1)))) none).run Try.prog W = .ok (.slice (some ⟨b, 4 * c, none⟩) 4 (16 - 4 * c)) W := by
  have hl : Try.prog.arrayLen 23 = 16 := by kernel_rfl
  have hs : (sizeOf (Try.prog.elem 23)).run Try.prog W = .ok 1 W := by kernel_rfl
  have h := run_sliceAt_array_lh (P := Try.prog) W 23 ⟨b, 0, none⟩ Try.underlying23 .i64 .i64 (4 * (c : Int)) (4 * ((c : Int) + 1)) (by omega) (by omega) (by rw [hl]; omega)
  rw [h, hs, hl, Result.andThen_ok, slicedAt, if_neg (by omega), By.add_plain]
  simp only [Result.ok.injEq, Value.slice.injEq, Option.some.injEq, Addr.mk.injEq, and_true, true_and]
  omega
/-- The sum of the first j products. -/
def p4 (v a : Nat → Nat) : Nat → Nat
  | 0 => 0
  | j + 1 => p4 v a j ^^^ mul (v j) (a j)
theorem p4_lt (v a : Nat → Nat) (j : Nat) : p4 v a j < 256 := by
  induction j with
  | zero => exact Nat.zero_lt_succ _
  | succ j ih => exact xor_lt _ _ ih (mul_lt _ _)
theorem p4_all (v a : Nat → Nat) : p4 v a 4 = L4 v a := by
  show 0 ^^^ mul (v 0) (a 0) ^^^ mul (v 1) (a 1) ^^^ mul (v 2) (a 2) ^^^ mul (v 3) (a 3) = _
  rw [Nat.zero_xor]; rfl
def mrow (m : Nat → Nat) (r j : Nat) : Nat := m ((j + 4 - r) % 4)
def mcol (b : Nat → Nat) (c j : Nat) : Nat := b (4 * c + j)
theorem mix_p4 (m b : Nat → Nat) (k : Nat) : mix m b k = p4 (mrow m (k % 4)) (mcol b (k / 4)) 4 := (p4_all _ _).symm
/-- Bytes ahead of k are there, byte k is on its way. -/
def part (m b : Nat → Nat) (k x i : Nat) : Nat := if i < k then mix m b i else if i = k then x else 0
theorem part_zero (m b : Nat → Nat) (k : Nat) : bl 16 (cb (part m b k 0)) = bl 16 (cb (upto k (mix m b))) := bl_congr _ _ _ (fun i _ => by
  show ((part m b k 0 i : Nat) : Int) = ((upto k (mix m b) i : Nat) : Int)
  unfold part upto
  split
  · rfl
  · split <;> rfl)
theorem part_all (m b : Nat → Nat) (k : Nat) : bl 16 (cb (part m b k (mix m b k))) = bl 16 (cb (upto (k + 1) (mix m b))) := bl_congr _ _ _ (fun i _ => by
  show ((part m b k (mix m b k) i : Nat) : Int) = ((upto (k + 1) (mix m b) i : Nat) : Int)
  unfold part upto
  by_cases h : i < k
  · rw [if_pos h, if_pos (by omega)]
  · by_cases e : i = k
    · subst e; rw [if_neg h, if_pos rfl, if_pos (by omega)]
    · rw [if_neg h, if_neg e, if_neg (by omega)])
theorem part_at (m b : Nat → Nat) (k x : Nat) : part m b k x k = x := by unfold part; rw [if_neg (by omega), if_pos rfl]
theorem part_set (m b : Nat → Nat) (k x y : Nat) : (bl 16 (cb (part m b k x))).set k (.int .u8 (y : Int)) = bl 16 (cb (part m b k y)) := by
  rw [bl_set]
  refine bl_congr _ _ _ (fun i _ => ?_)
  show (if i = k then (y : Int) else ((part m b k x i : Nat) : Int)) = ((part m b k y i : Nat) : Int)
  unfold part
  by_cases e : i = k
  · subst e; rw [if_pos rfl, if_neg (by omega), if_pos rfl]
  · rw [if_neg e, if_neg e, if_neg e]
end Go.Proofs.Ytnncgniiceglaaa.Ae
namespace Go.Proofs.Ytnncgniiceglaaa.Ae
open Go.ChangeShapes Go.WideShapes Go.ChangeAt Go.RowKit
open Go.Proofs.Ytnncgniiceglaaa.By Go.Proofs.Ytnncgniiceglaaa.Gf
theorem uptoN_set (n : Nat) (f : Nat → Nat) (k : Nat) : (bl n (cb (upto k f))).set k (.int .u8 (f k)) = bl n (cb (upto (k + 1) f)) := by
  rw [bl_set]
  refine bl_congr _ _ _ (fun i _ => ?_)
  show (if i = k then (f k : Int) else ((upto k f i : Nat) : Int)) = ((upto (k + 1) f i : Nat) : Int)
  unfold upto
  by_cases e : i = k
  · subst e; rw [if_pos rfl, if_pos (by omega)]
  · rw [if_neg e]
    by_cases h : i < k
    · rw [if_pos h, if_pos (by omega)]
    · rw [if_neg h, if_neg (by omega)]
theorem uptoN_all (n : Nat) (f : Nat → Nat) : bl n (cb (upto n f)) = bl n (cb f) := bl_congr _ _ _ (fun i hi => by show ((upto n f i : Nat) : Int) = _; unfold upto; rw [if_pos hi])
def xr (a b : Nat → Nat) (i : Nat) : Nat := a i ^^^ b i
/-- The first k bytes are through, the others as they were. -/
def thru (bx : Nat → Nat) (b : Nat → Nat) (k i : Nat) : Nat := if i < k then bx (b i) else b i
theorem thru_zero (bx b : Nat → Nat) (n : Nat) : bl n (cb (thru bx b 0)) = bl n (cb b) := bl_congr _ _ _ (fun i _ => by show ((thru bx b 0 i : Nat) : Int) = _; unfold thru; rw [if_neg (by omega)])
theorem thru_all (bx b : Nat → Nat) (n : Nat) : bl n (cb (thru bx b n)) = bl n (cb (fun i => bx (b i))) := bl_congr _ _ _ (fun i hi => by show ((thru bx b n i : Nat) : Int) = _; unfold thru; rw [if_pos hi])
theorem thru_at (bx b : Nat → Nat) (k : Nat) : thru bx b k k = b k := by unfold thru; rw [if_neg (by omega)]
theorem thru_set (bx b : Nat → Nat) (n k : Nat) : (bl n (cb (thru bx b k))).set k (.int .u8 (bx (b k) : Nat)) = bl n (cb (thru bx b (k + 1))) := by
  rw [bl_set]
  refine bl_congr _ _ _ (fun i _ => ?_)
  show (if i = k then ((bx (b k) : Nat) : Int) else ((thru bx b k i : Nat) : Int)) = ((thru bx b (k + 1) i : Nat) : Int)
  unfold thru
  by_cases e : i = k
  · subst e; rw [if_pos rfl, if_pos (by omega)]
  · rw [if_neg e]
    by_cases h : i < k
    · rw [if_pos h, if_pos (by omega)]
    · rw [if_neg h, if_neg (by omega)]
end Go.Proofs.Ytnncgniiceglaaa.Ae
namespace Go.Proofs.Ytnncgniiceglaaa.Ae
open Go.ChangeShapes Go.WideShapes Go.ChangeAt Go.RowKit
open Go.Proofs.Ytnncgniiceglaaa.By Go.Proofs.Ytnncgniiceglaaa.Gf
/-- A cipher's cells: the key's words, the round keys' bytes. -/
def cic (k : Nat) (ws : Nat → Nat) : List Value := .int .i64 k :: bl 240 (cb ws)
theorem cic_length (k : Nat) (ws : Nat → Nat) : (cic k ws).length = 241 := by simp [cic, bl_length]
theorem cic_at (k : Nat) (ws : Nat → Nat) (i : Nat) (h : i < 240) : (cic k ws)[1 + i]? = some (.int .u8 (ws i : Nat)) := by
  rw [show 1 + i = i + 1 from by omega]
  show (Value.int .i64 k :: bl 240 (cb ws))[i + 1]? = _
  rw [List.getElem?_cons_succ]
  exact bl_get 240 _ i h
theorem cic_one (k : Nat) (ws : Nat → Nat) : ∀ u ∈ cic k ws, u.oneCell' = true := by
  intro u hu
  simp only [cic, List.mem_cons] at hu
  rcases hu with rfl | hu
  · rfl
  · exact bl_one _ _ u hu
theorem copy4 (W : World) (g o cd gs os m c : Nat) (ty t : TypeId) (cells : List Value) (f : Nat → Nat) (hb : Blk W g cells t) (hl : o + 4 ≤ cells.length) (hm : 4 ≤ m) (hs : ∀ i, i < 4 → W.cell? ⟨gs, os + i, none⟩ = some (.int .u8 (f i : Nat))) :
    (Builtin.copy_ #[22, 22] ty #[.slice (some ⟨g, o, none⟩) 4 cd, .slice (some ⟨gs, os, none⟩) m c]).run Try.prog W = .ok (.int .i64 4) (W.setCells g o (bl 4 (cb f))) := by
  have h := run_copy_cells (P := Try.prog) W 22 22 ty 5 g o 4 cd ⟨gs, os, none⟩ m c (bl 4 (cb f)) Try.underlying22 (by kernel_rfl) (by rw [bl_length]; exact (Nat.min_eq_right hm).symm)
    (fun j v hj => by obtain ⟨hj1, rfl⟩ := bl_get_inv _ _ _ _ hj; rw [By.add_plain]; exact hs j hj1)
    (fun j hj => (hb.there o 4 hl j (by rwa [bl_length] at hj)).1) (fun j hj => hb.frozen _) (bl_one 4 (cb f))
  rw [bl_length] at h
  exact h
/-- The first 4 k bytes have the round key. -/
def adkTo (ws : Nat → Nat) (r : Nat) (b : Nat → Nat) (k i : Nat) : Nat := if i < 4 * k then b i ^^^ ws (16 * r + i) else b i
theorem adkTo_zero (ws : Nat → Nat) (r : Nat) (b : Nat → Nat) : bl 16 (cb (adkTo ws r b 0)) = bl 16 (cb b) := bl_congr _ _ _ (fun i _ => by show ((adkTo ws r b 0 i : Nat) : Int) = _; unfold adkTo; rw [if_neg (by omega)])
theorem adkTo_all (ws : Nat → Nat) (r : Nat) (b : Nat → Nat) : bl 16 (cb (adkTo ws r b 4)) = bl 16 (cb (adk ws r b)) := bl_congr _ _ _ (fun i hi => by show ((adkTo ws r b 4 i : Nat) : Int) = ((adk ws r b i : Nat) : Int); unfold adkTo adk; rw [if_pos (by omega)])
theorem adkTo_put (ws : Nat → Nat) (r : Nat) (b : Nat → Nat) (k : Nat) (hk : k < 4) : put (bl 16 (cb (adkTo ws r b k))) (4 * k) (bl 4 (cb (xr (fun i => b (4 * k + i)) (fun i => ws (16 * r + 4 * k + i))))) = bl 16 (cb (adkTo ws r b (k + 1))) := by
  apply List.ext_getElem?
  intro i
  rw [put_get _ _ _ _ (by rw [bl_length, bl_length]; omega), bl_length]
  by_cases h : i < 16
  · rw [bl_get _ _ _ h, bl_get _ _ _ h]
    by_cases e : 4 * k ≤ i ∧ i < 4 * k + 4
    · rw [if_pos e, bl_get _ _ _ (by omega)]
      congr 2
      show (((b (4 * k + (i - 4 * k)) ^^^ ws (16 * r + 4 * k + (i - 4 * k)) : Nat)) : Int) = ((adkTo ws r b (k + 1) i : Nat) : Int)
      unfold adkTo
      rw [if_pos (by omega), show 4 * k + (i - 4 * k) = i from by omega, show 16 * r + 4 * k + (i - 4 * k) = 16 * r + i from by omega]
    · rw [if_neg e]
      congr 2
      show ((adkTo ws r b k i : Nat) : Int) = ((adkTo ws r b (k + 1) i : Nat) : Int)
      unfold adkTo
      by_cases h2 : i < 4 * k
      · rw [if_pos h2, if_pos (by omega)]
      · rw [if_neg h2, if_neg (by omega)]
  · rw [List.getElem?_eq_none (l := bl 16 (cb (adkTo ws r b (k + 1)))) (by rw [bl_length]; omega), if_neg (by omega), List.getElem?_eq_none (by rw [bl_length]; omega)]
theorem zero4 : #[Value.int IntKind.u8 0, Value.int IntKind.u8 0, Value.int IntKind.u8 0, Value.int IntKind.u8 0] = (bl 4 (cb (fun _ => 0))).toArray := rfl
end Go.Proofs.Ytnncgniiceglaaa.Ae
namespace Go.Proofs.Ytnncgniiceglaaa.Ae
open Go.ChangeShapes Go.WideShapes Go.ChangeAt Go.RowKit
open Go.Proofs.Ytnncgniiceglaaa.By Go.Proofs.Ytnncgniiceglaaa.Gf
/-- What is found of the inverses: all of those below a. -/
def nul0 (_ : Nat) : Nat := 0
structure Iv (iv : Nat → Nat) (a : Nat) : Prop where
  some : ∀ y, y < 256 → iv y = 0 ∨ iv y = inv y
  all : ∀ y, y < a → y < 256 → iv y = inv y
def set1 (iv : Nat → Nat) (k v : Nat) (i : Nat) : Nat := if i = k then v else iv i
theorem set1_bl (iv : Nat → Nat) (k v : Nat) : (bl 256 (cb iv)).set k (.int .u8 (v : Nat)) = bl 256 (cb (set1 iv k v)) := by
  rw [bl_set]
  refine bl_congr _ _ _ (fun i _ => ?_)
  show (if i = k then (v : Int) else ((iv i : Nat) : Int)) = ((set1 iv k v i : Nat) : Int)
  unfold set1
  split <;> rfl
theorem Iv.found {iv : Nat → Nat} {a x : Nat} (h : Iv iv a) (ha : a < 256) (hx : x < 256) (hm : mul a x = 1) : Iv (set1 (set1 iv a x) x a) (a + 1) := by
  have e1 : x = inv a := inv_only a x ha hx hm
  have e2 : a = inv x := inv_only x a hx ha (by rw [mul_comm x a hx ha]; exact hm)
  refine ⟨fun y hy => ?_, fun y hya hy => ?_⟩
  · unfold set1
    by_cases e : y = x
    · rw [if_pos e]; right; rw [e]; exact e2
    · rw [if_neg e]
      by_cases e' : y = a
      · rw [if_pos e']; right; rw [e']; exact e1
      · rw [if_neg e']; exact h.some y hy
  · unfold set1
    by_cases e : y = x
    · rw [if_pos e, e]; exact e2
    · rw [if_neg e]
      by_cases e' : y = a
      · rw [if_pos e', e']; exact e1
      · rw [if_neg e']; exact h.all y (by omega) hy
theorem Iv.next {iv : Nat → Nat} {a : Nat} (h : Iv iv a) (ha : iv a = inv a) : Iv iv (a + 1) :=
  ⟨h.some, fun y hy hb => by
    by_cases e : y = a
    · rw [e]; exact ha
    · exact h.all y (by omega) hb⟩
/-- Byte a on its way, those ahead of it there. -/
def onw (f : Nat → Nat) (a x i : Nat) : Nat := if i < a then f i else if i = a then x else 0
theorem onw_zero (f : Nat → Nat) (a : Nat) : bl 256 (cb (onw f a 0)) = bl 256 (cb (upto a f)) := bl_congr _ _ _ (fun i _ => by
  show ((onw f a 0 i : Nat) : Int) = ((upto a f i : Nat) : Int)
  unfold onw upto
  split
  · rfl
  · split <;> rfl)
theorem onw_all (f : Nat → Nat) (a : Nat) : bl 256 (cb (onw f a (f a))) = bl 256 (cb (upto (a + 1) f)) := bl_congr _ _ _ (fun i _ => by
  show ((onw f a (f a) i : Nat) : Int) = ((upto (a + 1) f i : Nat) : Int)
  unfold onw upto
  by_cases h : i < a
  · rw [if_pos h, if_pos (by omega)]
  · by_cases e : i = a
    · subst e; rw [if_neg h, if_pos rfl, if_pos (by omega)]
    · rw [if_neg h, if_neg e, if_neg (by omega)])
theorem onw_at (f : Nat → Nat) (a x : Nat) : onw f a x a = x := by unfold onw; rw [if_neg (by omega), if_pos rfl]
theorem onw_set (f : Nat → Nat) (a x y : Nat) : (bl 256 (cb (onw f a x))).set a (.int .u8 (y : Nat)) = bl 256 (cb (onw f a y)) := by
  rw [bl_set]
  refine bl_congr _ _ _ (fun i _ => ?_)
  show (if i = a then (y : Int) else ((onw f a x i : Nat) : Int)) = ((onw f a y i : Nat) : Int)
  unfold onw
  by_cases e : i = a
  · subst e; rw [if_pos rfl, if_neg (by omega), if_pos rfl]
  · rw [if_neg e, if_neg e, if_neg e]
theorem out_step (y k : Nat) (hk : k < 8) : (((outTo y k : Nat) : Int) + wrap64 ((((bitOf y k : Nat) : Int) + ((bitOf y (k + 4) : Nat) : Int) + ((bitOf y (k + 5) : Nat) : Int) + ((bitOf y (k + 6) : Nat) : Int) + ((bitOf y (k + 7) : Nat) : Int) + ((bitOf 99 k : Nat) : Int)) % 2 * 2 ^ k)) % 256 = ((outTo y (k + 1) : Nat) : Int) := by
  have hS : bitOf y k + bitOf y (k + 4) + bitOf y (k + 5) + bitOf y (k + 6) + bitOf y (k + 7) + bitOf 99 k = bitSum y k := rfl
  have hT : outTo y (k + 1) = outTo y k + bitSum y k % 2 * 2 ^ k := rfl
  have hp := out_lt y (k + 1)
  have hq : 2 ^ (k + 1) ≤ 2 ^ 8 := Nat.pow_le_pow_right (by decide) (by omega)
  have h1 : (((bitOf y k : Nat) : Int) + ((bitOf y (k + 4) : Nat) : Int) + ((bitOf y (k + 5) : Nat) : Int) + ((bitOf y (k + 6) : Nat) : Int) + ((bitOf y (k + 7) : Nat) : Int) + ((bitOf 99 k : Nat) : Int)) % 2 * 2 ^ k = ((bitSum y k % 2 * 2 ^ k : Nat) : Int) := by
    rw [← hS]; simp
  rw [h1, hT]
  rw [hT] at hp
  generalize bitSum y k % 2 * 2 ^ k = T at hp ⊢
  have h3 : outTo y k + T < 256 := Nat.lt_of_lt_of_le hp hq
  rw [show wrap64 (T : Int) = (T : Int) from by unfold wrap64; omega]
  omega
end Go.Proofs.Ytnncgniiceglaaa.Ae
