/- Numbers and lists written as SHAKE wants them, as functions; no function of the program in it. The bytes of a number: what digits (the program) and number (the document) answer. The permutation of 25 words as functions of numbers: what the steps of a round make, that each can be taken back, and the words' bytes; no program in it. Blocks of cells: words, bytes; whole arrays loaded and stored at once; no function of the program in it. Noughts put behind a list of bytes that the call owns: append(b, make([]byte, m)...). What Left, Right, String and Pad answer, of the program and of the document. Nothing is taken for another thing: encodings of unlike numbers and lists are unlike; no function of the program in it. -/
import Derived.Test.YtpohogpkfdebdaaGreatDoorZa
import Derived.Deep.DeepCutAuto
import Derived.Test.YtpohogpkfdebdaaGreatDoorRows
import Derived.Deep.MidRow
import Derived.Deep.WholeRow
import Derived.Lib.AppendZeros
namespace Go.Proofs.YtpohogpkfdebdaaGreatDoor.Kc
open Go.Proofs.YtpohogpkfdebdaaGreatDoor.By
/-- How many bytes a number has, one at least. -/
def nbf : Nat → Nat → Nat
  | 0, _ => 1
  | k + 1, n => if n < 256 then 1 else nbf k (n / 256) + 1
def nb (n : Nat) : Nat := nbf 8 n
theorem nbf_eq (j : Nat) : ∀ (f n : Nat), j ≤ f → (j = 0 ∨ ¬ n / 256 ^ j = 0) → n / 256 ^ (j + 1) = 0 → nbf f n = j + 1 := by
  induction j with
  | zero =>
    intro f n _ _ h
    have hn : n < 256 := by simpa using h
    cases f with
    | zero => rfl
    | succ f => rw [nbf, if_pos hn]
  | succ j ih =>
    intro f n hf h0 h1
    obtain ⟨f, rfl⟩ : ∃ g, f = g + 1 := ⟨f - 1, by omega⟩
    have e : ∀ k, n / 256 / 256 ^ k = n / 256 ^ (k + 1) := fun k => by rw [Nat.div_div_eq_div_mul, Nat.pow_succ, Nat.mul_comm]
    have h2 : ¬ n / 256 ^ (j + 1) = 0 := by rcases h0 with h | h; · omega
                                            · exact h
    have hn : ¬ n < 256 := fun h => h2 (by rw [← e, Nat.div_eq_of_lt h, Nat.zero_div])
    rw [nbf, if_neg hn, ih f (n / 256) (by omega) (by right; rw [e]; exact h2) (by rw [e]; exact h1)]
theorem nb_eq (n j : Nat) (hj : j ≤ 8) (h0 : j = 0 ∨ ¬ n / 256 ^ j = 0) (h1 : n / 256 ^ (j + 1) = 0) : nb n = j + 1 := nbf_eq j 8 n hj h0 h1
theorem nbf_pos (f n : Nat) : 1 ≤ nbf f n ∧ nbf f n ≤ f + 1 := by
  induction f generalizing n with
  | zero => exact ⟨Nat.le_refl _, Nat.le_refl _⟩
  | succ f ih =>
    have := ih (n / 256)
    rw [nbf]; split <;> omega
theorem nb_pos (n : Nat) : 1 ≤ nb n ∧ nb n ≤ 9 := nbf_pos 8 n
/-- Byte i of a number in k bytes, the highest first. -/
def dg (n k i : Nat) : Int := ((n / 256 ^ (k - 1 - i) % 256 : Nat) : Int)
theorem dg_b (n k i : Nat) : 0 ≤ dg n k i ∧ dg n k i < 256 := by
  have := Nat.mod_lt (n / 256 ^ (k - 1 - i)) (show 0 < 256 by decide)
  unfold dg; omega
theorem one_b {x : Int} (h : 0 ≤ x ∧ x < 256) (i : Nat) : 0 ≤ (fun _ : Nat => x) i ∧ (fun _ : Nat => x) i < 256 := h
theorem dg_next (n j : Nat) (x : Int) (hx : x = ((n / 256 ^ j % 256 : Nat) : Int)) : cat 1 (fun _ => x) (dg n j) = dg n (j + 1) := by
  funext i
  unfold cat
  by_cases h : i < 1
  · rw [if_pos h, hx]
    have : i = 0 := by omega
    subst this
    rfl
  · rw [if_neg h]
    unfold dg
    rw [show j - 1 - (i - 1) = j + 1 - 1 - i from by omega]
/-- The bytes of a number. -/
def dnn (n : Nat) : Nat → Int := dg n (nb n)
theorem dnn_b (n i : Nat) : 0 ≤ dnn n i ∧ dnn n i < 256 := dg_b _ _ _
theorem nbi_b (n : Nat) : 0 ≤ ((nb n : Nat) : Int) ∧ ((nb n : Nat) : Int) < 256 := by have := nb_pos n; omega
/-- Left of a number: nb n + 1 bytes. -/
def lf (n : Nat) : Nat → Int := cat 1 (fun _ => ((nb n : Nat) : Int)) (dnn n)
theorem lf_b (n i : Nat) : 0 ≤ lf n i ∧ lf n i < 256 := cat_bound (one_b (nbi_b n)) (dnn_b n) i
/-- Right of a number. -/
def rt (n : Nat) : Nat → Int := cat (nb n) (dnn n) (fun _ => ((nb n : Nat) : Int))
/-- String of a list of m bytes f: how many, and they. -/
def sn (m : Nat) : Nat := nb (8 * m) + 1 + m
theorem sn_le' (m : Nat) : sn m ≤ m + 10 := by have := (nb_pos (8 * m)).2; unfold sn; omega
def sg (m : Nat) (f : Nat → Int) : Nat → Int := cat (nb (8 * m) + 1) (lf (8 * m)) f
/-- Pad of a list of m bytes f: how many bytes stand ahead of the noughts, how many noughts, and all. -/
def pn (m w : Nat) : Nat := nb w + 1 + m
def pz (m w : Nat) : Nat := (w - pn m w % w) % w
def pg (m : Nat) (f : Nat → Int) (w : Nat) : Nat → Int := cat (pn m w) (cat (nb w + 1) (lf w) f) (fun _ => 0)
def pN (m w : Nat) : Nat := pn m w + pz m w
theorem pg_b {m w : Nat} {f : Nat → Int} (hf : ∀ i, 0 ≤ f i ∧ f i < 256) (i : Nat) : 0 ≤ pg m f w i ∧ pg m f w i < 256 := cat_bound (cat_bound (lf_b _) hf) (fun _ => by decide) i
theorem pz_lt (m w : Nat) (hw : 0 < w) : pz m w < w := Nat.mod_lt _ hw
theorem pz_zero (m w : Nat) (h : pn m w % w = 0) : pz m w = 0 := by unfold pz; rw [h]; simp
theorem pz_some (m w : Nat) (hw : 0 < w) (h : ¬ pn m w % w = 0) : pz m w = w - pn m w % w := by
  have := Nat.mod_lt (pn m w) hw
  unfold pz; exact Nat.mod_eq_of_lt (by omega)
theorem pN_mod (m w : Nat) (hw : 0 < w) : pN m w % w = 0 := by
  unfold pN
  by_cases h : pn m w % w = 0
  · rw [pz_zero m w h]; exact h
  · have h2 := Nat.mod_lt (pn m w) hw
    have e := Nat.div_add_mod (pn m w) w
    rw [pz_some m w hw h]
    rw [show pn m w + (w - pn m w % w) = w * (pn m w / w + 1) from by rw [Nat.mul_add, Nat.mul_one]; omega]
    exact Nat.mul_mod_right _ _
end Go.Proofs.YtpohogpkfdebdaaGreatDoor.Kc
namespace Go.Proofs.YtpohogpkfdebdaaGreatDoor.Kc
open Go.ChangeShapes Go.WideShapes Go.ChangeAt Go.RowKit
open Go.Proofs.YtpohogpkfdebdaaGreatDoor.By
theorem own_one (w : World) (x : Int) (hx : 0 ≤ x ∧ x < 256) : By.Own (w.alloc (.cells #[.int .u8 x] 5)) w.heap.size (.slice (some ⟨w.heap.size, 0, none⟩) 1 1) 1 (fun _ => x) :=
  own_lit w _ 1 _ (one_b hx) (by decide) rfl (bl_singleton x)
theorem own_slice {w : World} {base n : Nat} {v : Value} {f : Nat → Int} (h : By.Own w base v n f) : ∃ a c, v = .slice a n c := by
  rcases h.shape with ⟨rfl, rfl⟩ | ⟨g, cap, rfl, _⟩
  · exact ⟨_, _, rfl⟩
  · exact ⟨_, _, rfl⟩
theorem few (n k : Nat) (hn : n < 9223372036854775808) (h : ¬ n / 256 ^ k = 0) : k ≤ 7 := by
  apply Classical.byContradiction
  intro hk
  refine h (Nat.div_eq_of_lt (Nat.lt_of_lt_of_le hn ?_))
  exact Nat.le_trans (by decide : 9223372036854775808 ≤ 256 ^ 8) (Nat.pow_le_pow_right (by decide) (by omega))
set_option maxHeartbeats 1000000 in
theorem digits1 (n : Nat) (w : World) (hn : n < 9223372036854775808) :
    Calls Tryz.prog 250 #[.int .i64 n] w fun e w' => ∃ v, e = .returned v ∧ By.Own w' w.heap.size v (nb n) (dnn n) ∧ Below w.heap.size w w' := by
  have HN := hid hn
  clear hn
  go_enter Tryz.func250, Tryz.ntmps250
  go_wp2
  go_loopw [0, 3] (fun x v wr => ∃ j q : Nat, j ≤ 7 ∧ n / 256 ^ j = q ∧ x = .int .i64 q ∧ (j = 0 ∨ ¬ q = 0) ∧ By.Own wr w.heap.size v j (dg n j) ∧ Below w.heap.size w wr) (fun x _ _ => (intOf x).toNat)
  case atStart => exact ⟨0, n, by omega, by simp, rfl, .inl rfl, own_nil _ _ _ (dg_b n 0), Below.refl _ _⟩
  case round =>
    obtain ⟨j, q, hj, hq, rfl, h0, hown, hbel⟩ := hrel
    have hq2 : q < 9223372036854775808 := by rw [← hq]; exact Nat.lt_of_le_of_lt (Nat.div_le_self _ _) HN.out
    have HQ := hid hq
    have HO := hid hown
    have HB := hid hbel
    have H0 := hid h0
    clear hq hown hbel h0
    have HX : Hid (0 ≤ (q : Int) % 256 ∧ (q : Int) % 256 < 256) := by show 0 ≤ (q : Int) % 256 ∧ (q : Int) % 256 < 256; omega
    have OV := hid (own_below HO.out (below_alloc wr (.cells #[.int .u8 ((q : Int) % 256)] 5)))
    go_wp2_with (at_builtin; go_must (refine wpList_cat rfl _ _ rfl wr.heap.size 1 j _ _ (fun _ => (q : Int) % 256) (dg n j) rfl (own_one wr _ HX.out) rfl OV.out.reads (by omega) (by simp) ?_))
    intro v' w1 hown hgrow
    have HS : Hid (w.heap.size ≤ wr.heap.size) := HB.out.size
    have R1 : Hid (By.Own w1 w.heap.size v' (j + 1) (dg n (j + 1))) := by
      have h1 := own_mono hown HS.out
      rw [dg_next n j _ (by rw [HQ.out]; omega), Nat.add_comm] at h1
      exact h1
    have R2 : Hid (Below w.heap.size w w1) := (HB.out.alloc HS.out _).grown hgrow (by simp; have := HS.out; omega) (by intro k hk; simp [Value.ownBlock] at hk; have := HS.out; omega)
    clear hown hgrow HO HB OV HX HS
    by_cases hz : q / 256 = 0
    · go_wp2
      go_ret
      have e1 : n / 256 ^ (j + 1) = 0 := by rw [Nat.pow_succ, ← Nat.div_div_eq_div_mul, HQ.out]; exact hz
      have e2 : nb n = j + 1 := nb_eq n j (by omega) (by rw [HQ.out]; exact H0.out) e1
      refine ⟨_, rfl, ?_, R2.out⟩
      unfold dnn
      rw [e2]; exact R1.out
    · have e1 : n / 256 ^ (j + 1) = q / 256 := by rw [Nat.pow_succ, ← Nat.div_div_eq_div_mul, HQ.out]
      have e7 : Hid (j + 1 ≤ 7) := few n (j + 1) HN.out (by rw [e1]; exact hz)
      have E1 := hid e1
      clear e1
      go_wp2
      exact ⟨⟨j + 1, q / 256, e7.out, E1.out, rfl, .inr hz, R1.out, R2.out⟩, by simp [intOf]; omega⟩
end Go.Proofs.YtpohogpkfdebdaaGreatDoor.Kc
namespace Go.Proofs.YtpohogpkfdebdaaGreatDoor.Kc
open Go.Proofs.YtpohogpkfdebdaaGreatDoor.Wd

def W64 (x : Int) : Prop := 0 ≤ x ∧ x < 18446744073709551616
def xr (a b : Int) : Int := bits .xor .u64 a b
/-- The bits of a that are not in b. -/
def dn (a b : Int) : Int := bits .andNot .u64 a b
def rl (x n : Int) : Int := Rot 64 x n
theorem bits_w (op : BinOp) (a b : Int) : W64 (bits op .u64 a b) := by
  have h : ∀ n : Nat, W64 (IntKind.u64.wrap (n : Int)) := fun n => by rw [IntKind.wrap_u64]; unfold W64; omega
  unfold bits
  exact h _
theorem xr_w (a b : Int) : W64 (xr a b) := bits_w _ _ _
theorem w0 : W64 0 := by unfold W64; decide

/-- Bit j of a word. -/
def bt (x : Int) (j : Nat) : Bool := x.toNat.testBit j
/-- Step 1: the columns, what each lane takes in, the lanes. -/
def col (a : Nat → Int) (x : Nat) : Int := xr (xr (xr (xr (a x) (a (x + 5))) (a (x + 10))) (a (x + 15))) (a (x + 20))
def dd (a : Nat → Int) (x : Nat) : Int := xr (col a ((x + 4) % 5)) (rl (col a ((x + 1) % 5)) 1)
def mix (a : Nat → Int) (i : Nat) : Int := xr (a i) (dd a (i % 5))
/-- Step 2: the places along the way, the lanes behind t of the moves. -/
def wyl : List Nat := [1, 10, 7, 11, 17, 18, 3, 5, 16, 8, 21, 24, 4, 15, 23, 19, 13, 12, 2, 20, 14, 22, 9, 6, 1]
def Wy (t : Nat) : Nat := wyl.getD t 0
def tri (t : Nat) : Nat := (t + 1) * (t + 2) / 2
def mvt (a : Nat → Int) : Nat → Nat → Int
  | 0 => fun i => if i = 0 then a 0 else 0
  | t + 1 => fun i => if i = Wy (t + 1) then rl (a (Wy t)) (tri t) else mvt a t i
def mv (a : Nat → Int) : Nat → Int := mvt a 24
/-- Step 3. -/
def n1 (i : Nat) : Nat := 5 * (i / 5) + (i % 5 + 1) % 5
def n2 (i : Nat) : Nat := 5 * (i / 5) + (i % 5 + 2) % 5
def jn (b : Nat → Int) (i : Nat) : Int := xr (b i) (dn (b (n2 i)) (b (n1 i)))
/-- Step 4. -/
def io (c : Int) (a : Nat → Int) (i : Nat) : Int := if i = 0 then xr (a 0) c else a i
def rd (c : Int) (a : Nat → Int) : Nat → Int := io c (jn (mv (mix a)))
def cl : List Int := [1, 32898, 9223372036854808714, 9223372039002292224, 32907, 2147483649, 9223372039002292353, 9223372036854808585, 138, 136, 2147516425, 2147483658, 2147516555, 9223372036854775947, 9223372036854808713, 9223372036854808579, 9223372036854808578, 9223372036854775936, 32778, 9223372039002259466, 9223372039002292353, 9223372036854808704, 2147483649, 9223372039002292232]
def RC (i : Nat) : Int := cl.getD i 0
def rds (a : Nat → Int) : Nat → Nat → Int
  | 0 => a
  | t + 1 => rd (RC t) (rds a t)
def perm (a : Nat → Int) : Nat → Int := rds a 24

def AW (a : Nat → Int) : Prop := ∀ i, W64 (a i)
theorem col_w (a : Nat → Int) (x : Nat) : W64 (col a x) := xr_w _ _
theorem dd_w (a : Nat → Int) (x : Nat) : W64 (dd a x) := xr_w _ _
theorem mix_w (a : Nat → Int) : AW (mix a) := fun _ => xr_w _ _
theorem jn_w (b : Nat → Int) : AW (jn b) := fun _ => xr_w _ _
theorem io_w {c : Int} {a : Nat → Int} (h : AW a) : AW (io c a) := fun i => by
  unfold io; split
  · exact xr_w _ _
  · exact h i
theorem rd_w (c : Int) (a : Nat → Int) : AW (rd c a) := io_w (jn_w _)
theorem rds_w {a : Nat → Int} (h : AW a) (t : Nat) : AW (rds a t) := by
  cases t with
  | zero => exact h
  | succ t => exact rd_w _ _
theorem perm_w {a : Nat → Int} (h : AW a) : AW (perm a) := rds_w h 24
/-- Of a plane of bits: C(x, j) with two others. -/
def FF (a b c : Nat) (C : Nat → Nat → Bool) (x j : Nat) : Bool := (C x j ^^ C (x + a) j) ^^ C (x + b) (j + c)
def Pd (C : Nat → Nat → Bool) : Prop := (∀ x j, C (x + 5) j = C x j) ∧ ∀ x j, C x (j + 64) = C x j
theorem Pd.x {C : Nat → Nat → Bool} (h : Pd C) (k x j : Nat) : C (x + 5 * k) j = C x j := by
  induction k with
  | zero => rfl
  | succ k ih => rw [show x + 5 * (k + 1) = x + 5 * k + 5 from by omega, h.1, ih]
theorem Pd.j {C : Nat → Nat → Bool} (h : Pd C) (k x j : Nat) : C x (j + 64 * k) = C x j := by
  induction k with
  | zero => rfl
  | succ k ih => rw [show j + 64 * (k + 1) = j + 64 * k + 64 from by omega, h.2, ih]
/-- The columns' bits, as a plane. -/
def pl (a : Nat → Int) (x j : Nat) : Bool := bt (col a (x % 5)) (j % 64)
/-- Alike at the 25 lanes. -/
def E25 (a b : Nat → Int) : Prop := ∀ i, i < 25 → a i = b i
/-- Where a lane of step 2 comes from, and how far it is turned. -/
def srl : List Nat := [0, 6, 12, 18, 24, 3, 9, 10, 16, 22, 1, 7, 13, 19, 20, 4, 5, 11, 17, 23, 2, 8, 14, 15, 21]
def aml : List Nat := [0, 300, 171, 21, 78, 28, 276, 3, 45, 253, 1, 6, 153, 136, 210, 91, 36, 10, 15, 120, 190, 55, 231, 105, 66]
theorem mv_zero (a : Nat → Int) : mv a 0 = a 0 := rfl
end Go.Proofs.YtpohogpkfdebdaaGreatDoor.Kc
namespace Go.Proofs.YtpohogpkfdebdaaGreatDoor.Kc
open Go.ChangeShapes Go.WideShapes Go.ChangeAt Go.RowKit
open Go.Proofs.YtpohogpkfdebdaaGreatDoor.By Go.Proofs.YtpohogpkfdebdaaGreatDoor.Wd
/-- n words as cells. -/
def wl (n : Nat) (g : Nat → Int) : List Value := (List.range n).map fun i => Value.int .u64 (g i)
theorem wl_length (n : Nat) (g : Nat → Int) : (wl n g).length = n := by simp [wl]
theorem wl_get (n : Nat) (g : Nat → Int) (i : Nat) (h : i < n) : (wl n g)[i]? = some (.int .u64 (g i)) := by simp [wl, h]
theorem wl_one (n : Nat) (g : Nat → Int) : ∀ u ∈ wl n g, u.oneCell' = true := by
  intro u hu
  simp [wl] at hu
  obtain ⟨i, _, rfl⟩ := hu
  rfl
theorem wl_congr (n : Nat) (f g : Nat → Int) (h : ∀ i, i < n → f i = g i) : wl n f = wl n g := by
  apply List.map_congr_left
  intro i hi
  rw [h i (List.mem_range.1 hi)]
theorem wl_set (n : Nat) (g : Nat → Int) (k : Nat) (x : Int) : (wl n g).set k (.int .u64 x) = wl n (fun i => if i = k then x else g i) := by
  apply List.ext_getElem?
  intro i
  rw [List.getElem?_set]
  by_cases h : i < n
  · by_cases e : k = i
    · subst e; rw [wl_get _ _ _ h]; simp [wl_length, h]; simp [wl]
    · have e' : ¬ i = k := fun h => e h.symm
      rw [wl_get _ _ _ h, wl_get _ _ _ h]; simp [e, e']
  · rw [List.getElem?_eq_none (by rw [wl_length]; omega), List.getElem?_eq_none (by rw [wl_length]; omega)]
    simp only [wl_length]; split
    · rw [if_neg (by omega)]
    · rfl
/-- Block g holds just the cells cs. -/
def Blk (w : World) (g : Nat) (cs : List Value) (t : TypeId) : Prop := w.heap[g]? = some (.cells cs.toArray t (0, 0))
theorem Blk.lt {w : World} {g : Nat} {cs : List Value} {t : TypeId} (h : Blk w g cs t) : g < w.heap.size := (Array.getElem?_eq_some_iff.1 h).1
theorem Blk.cell {w : World} {g : Nat} {cs : List Value} {t : TypeId} (h : Blk w g cs t) (i : Nat) (v : Value) (hi : cs[i]? = some v) : w.cell? ⟨g, i, none⟩ = some v := by
  rw [cell_of_row w g i _ t (0, 0) h]; simpa using hi
theorem Blk.range {w : World} {g : Nat} {cs : List Value} {t : TypeId} (h : Blk w g cs t) (o : Nat) (vs : List Value) (hv : ∀ j v, vs[j]? = some v → cs[o + j]? = some v) : w.rangeAt g o vs := fun j v hj => h.cell _ _ (hv j v hj)
theorem Blk.frozen {w : World} {g : Nat} {cs : List Value} {t : TypeId} (h : Blk w g cs t) (i : Nat) : w.frozen? ⟨g, i, none⟩ = false := frozen_of_row w g i _ t h
theorem Blk.there {w : World} {g : Nat} {cs : List Value} {t : TypeId} (h : Blk w g cs t) (o n : Nat) (hn : o + n ≤ cs.length) : w.there g o n := fun j hj => by
  refine ⟨?_, h.frozen _⟩
  rw [h.cell (o + j) _ (List.getElem?_eq_getElem (by omega))]; rfl
theorem Blk.kept {w w' : World} {g : Nat} {cs : List Value} {t : TypeId} {S : Nat → Prop} (h : Blk w g cs t) (hk : Kp S w w') (hn : ¬ S g) : Blk w' g cs t := (hk.block g h.lt hn).trans h
theorem Blk.below {w w' : World} {g : Nat} {cs : List Value} {t : TypeId} (h : Blk w g cs t) (hb : Below w.heap.size w w') : Blk w' g cs t := h.kept (Kp.of_below (fun _ => False) hb) id
theorem Blk.alloc {w : World} {g : Nat} {cs : List Value} {t : TypeId} (h : Blk w g cs t) (o : Obj) : Blk (w.alloc o) g cs t := h.below (below_alloc w o)
theorem Blk.new (w : World) (cs : List Value) (t : TypeId) : Blk (w.alloc (.cells cs.toArray t)) w.heap.size cs t := heap_alloc_last w _
theorem Blk.set {w : World} {g : Nat} {cs : List Value} {t : TypeId} (h : Blk w g cs t) (i : Nat) (u : Value) : Blk (w.setCell ⟨g, i, none⟩ u) g (cs.set i u) t := by
  have hb : w.heap[g]? = some (.cells cs.toArray t (0, 0)) := h
  simp only [Blk, World.setCell]
  rw [Array.getElem?_modify]
  simp [hb]
theorem Blk.other {w : World} {g g' : Nat} {cs : List Value} {t : TypeId} (h : Blk w g cs t) (hn : g ≠ g') (i : Nat) (u : Value) : Blk (w.setCell ⟨g', i, none⟩ u) g cs t := h.kept (Kp.setCell g' i u) hn
theorem Blk.drewN {w : World} {g : Nat} {cs : List Value} {t : TypeId} (h : Blk w g cs t) (d : Nat) : Blk (w.drewN d) g cs t := h
theorem Blk.ne {w : World} {g g' : Nat} {cs cs' : List Value} {t t' : TypeId} (h : Blk w g cs t) (h' : Blk w g' cs' t') (ht : t ≠ t') : g ≠ g' := by
  intro e; subst e
  have := Option.some.inj (h.symm.trans h')
  simp only [Obj.cells.injEq] at this
  exact ht this.2.1
theorem rb_blk {w : World} {g n : Nat} {f : Nat → Int} {t : TypeId} (h : Blk w g (bl n f) t) (hf : ∀ i, 0 ≤ f i ∧ f i < 256) (hn : n ≤ maxLen) : By.RB w (.slice (some ⟨g, 0, none⟩) n n) n f :=
  ⟨hf, _, _, rfl, Nat.le_refl _, hn, .inr ⟨g, 0, rfl, fun i hi => by rw [Nat.zero_add]; exact h.cell i _ (bl_get n f i hi)⟩⟩
theorem Kp.setRow {w : World} (g : Nat) (vs : Array Value) : Kp (fun k => k = g) w (w.setRow g vs) :=
  ⟨rfl, rfl, rfl, by simp [World.setRow], fun k _ hn => by simp only [World.setRow]; rw [Array.getElem?_modify, if_neg (fun e => hn e.symm)]⟩
theorem Blk.newAt (w : World) (a : Array Value) (cs : List Value) (t : TypeId) (g : Nat) (hg : g = w.heap.size) (ha : a = cs.toArray) : Blk (w.alloc (.cells a t)) g cs t := by
  subst hg; subst ha; exact Blk.new w cs t
theorem size_alloc (w : World) (o : Obj) : (w.alloc o).heap.size = w.heap.size + 1 := by simp
theorem below_set {B : Nat} {w w' : World} (h : Below B w w') (g i : Nat) (u : Value) (hg : B ≤ g) (hB : B ≤ w'.heap.size) : Below B w (w'.setCell ⟨g, i, none⟩ u) :=
  h.trans ((Kp.setCell g i u).below hB (fun k hk e => by omega))
theorem Blk.row {w : World} {g : Nat} {cs vs : List Value} {t : TypeId} (h : Blk w g cs t) : Blk (w.setRow g vs.toArray) g vs t := by
  have hb : w.heap[g]? = some (.cells cs.toArray t (0, 0)) := h
  simp only [Blk, World.setRow]
  rw [Array.getElem?_modify]
  simp [hb]
def LDt (a : Addr) : Sem Value := loadVar 212 a
def SVt (a : Addr) (v : Value) : Sem Unit := storeVar 212 a v
@[go_sem ↓ high] theorem ldt (a : Addr) : loadVar 212 a = LDt a := rfl
@[go_sem ↓ high] theorem svt (a : Addr) (v : Value) : storeVar 212 a v = SVt a v := rfl
theorem infot : (Tryz.prog.info? 212).map (·.size) = some 25 := by kernel_rfl
def LDk (a : Addr) : Sem Value := loadVar 290 a
def SVk (a : Addr) (v : Value) : Sem Unit := storeVar 290 a v
@[go_sem ↓ high] theorem ldk (a : Addr) : loadVar 290 a = LDk a := rfl
@[go_sem ↓ high] theorem svk (a : Addr) (v : Value) : storeVar 290 a v = SVk a v := rfl
theorem infok : (Tryz.prog.info? 290).map (·.size) = some 25 := by kernel_rfl
theorem LDk_run {w : World} {g o : Nat} {cs : List Value} (h : w.rangeAt g o cs) (hl : cs.length = 25) : (LDk ⟨g, o, none⟩).run Tryz.prog w = .ok (.agg cs.toArray) w :=
  run_loadVar_mid w g o _ cs _ h Tryz.underlying290 rfl (by rw [hl]; exact infok)
theorem SVk_run {w : World} {g o : Nat} {cs : List Value} (h : w.there g o 25) (hl : cs.length = 25) (h1 : ∀ u ∈ cs, u.oneCell' = true) : (SVk ⟨g, o, none⟩ (.agg cs.toArray)).run Tryz.prog w = .ok () (w.setCells g o cs) :=
  run_storeVar_mid w g o _ cs.toArray (by simpa [hl] using h) (by simpa [hl] using infok) (all_oneCell_toArray h1)
def LDb (a : Addr) : Sem Value := loadVar 167 a
def SVb (a : Addr) (v : Value) : Sem Unit := storeVar 167 a v
@[go_sem ↓ high] theorem ldb (a : Addr) : loadVar 167 a = LDb a := rfl
@[go_sem ↓ high] theorem svb (a : Addr) (v : Value) : storeVar 167 a v = SVb a v := rfl
theorem infob : (Tryz.prog.info? 167).map (·.size) = some 200 := by kernel_rfl
theorem LDb_run {w : World} {g o : Nat} {cs : List Value} (h : w.rangeAt g o cs) (hl : cs.length = 200) : (LDb ⟨g, o, none⟩).run Tryz.prog w = .ok (.agg cs.toArray) w :=
  run_loadVar_mid w g o _ cs _ h Tryz.underlying167 rfl (by rw [hl]; exact infob)
theorem SVb_run {w : World} {g o : Nat} {cs : List Value} (h : w.there g o 200) (hl : cs.length = 200) (h1 : ∀ u ∈ cs, u.oneCell' = true) : (SVb ⟨g, o, none⟩ (.agg cs.toArray)).run Tryz.prog w = .ok () (w.setCells g o cs) :=
  run_storeVar_mid w g o _ cs.toArray (by simpa [hl] using h) (by simpa [hl] using infob) (all_oneCell_toArray h1)
theorem results_cell1 {P : Program} {fn : Func} {p : Tmp} {ty : TypeId} {tmps : Array Value} {w : World} {a : Addr} {v : Value} (h : fn.results = #[.cell p ty]) (ha : tmps.getD p undef = .pointer (some a)) (hl : (loadVar ty a).run P w = .ok v w) :
    (results fn tmps).run P w = .ok v w := by
  have e1 : tmps[p]?.getD undef = .pointer (some a) := by rw [← ha]; simp [Array.getD_eq_getD_getElem?]
  simp only [results, h]
  simp [e1, asAddr, hl]
/-- Cells o, o + 1, .. of a list put in place of what was there. -/
def put (cs : List Value) (o : Nat) : List Value → List Value
  | [] => cs
  | v :: r => put (cs.set o v) (o + 1) r
theorem put_length (cs vs : List Value) (o : Nat) : (put cs o vs).length = cs.length := by
  induction vs generalizing cs o with
  | nil => rfl
  | cons v r ih => simp [put, ih]
theorem Blk.put {w : World} {g : Nat} {cs : List Value} {t : TypeId} (h : Blk w g cs t) (o : Nat) (vs : List Value) : Blk (w.setCells g o vs) g (put cs o vs) t := by
  induction vs generalizing w cs o with
  | nil => exact h
  | cons v r ih => exact ih (h.set o v) (o + 1)
theorem put_get (cs vs : List Value) (o i : Nat) (h : o + vs.length ≤ cs.length) : (put cs o vs)[i]? = if o ≤ i ∧ i < o + vs.length then vs[i - o]? else cs[i]? := by
  induction vs generalizing cs o with
  | nil => simp [Kc.put]; omega
  | cons v r ih =>
    simp only [List.length_cons] at h ⊢
    rw [Kc.put, ih _ _ (by simp; omega), List.getElem?_set]
    by_cases h1 : o = i
    · subst h1
      rw [if_neg (by omega), if_pos rfl, if_pos (by omega), if_pos (by omega)]; simp
    · by_cases h2 : o + 1 ≤ i ∧ i < o + 1 + r.length
      · rw [if_pos h2, if_pos (by omega)]
        rw [show i - o = (i - (o + 1)) + 1 from by omega]; rfl
      · rw [if_neg h2, if_neg h1, if_neg (by omega)]
theorem put_all (cs vs : List Value) (h : cs.length = vs.length) : put cs 0 vs = vs := by
  apply List.ext_getElem?
  intro i
  rw [put_get cs vs 0 i (by omega)]
  split
  · rfl
  · rw [List.getElem?_eq_none (by omega), List.getElem?_eq_none (by omega)]
theorem Kp.setCells {w : World} (g o : Nat) (vs : List Value) : Kp (fun k => k = g) w (w.setCells g o vs) := by
  induction vs generalizing w o with
  | nil => exact Kp.refl _ _
  | cons v r ih => exact (Kp.setCell g o v).trans (ih (o + 1)) (fun _ _ e => e)
theorem below_cells {B : Nat} {w w' : World} (h : Below B w w') (g o : Nat) (vs : List Value) (hg : B ≤ g) (hB : B ≤ w'.heap.size) : Below B w (w'.setCells g o vs) :=
  h.trans ((Kp.setCells g o vs).below hB (fun k hk e => by omega))
end Go.Proofs.YtpohogpkfdebdaaGreatDoor.Kc
namespace Go.Proofs.YtpohogpkfdebdaaGreatDoor.Kc
open Go.ChangeShapes Go.WideShapes Go.ChangeAt Go.RowKit
open Go.Proofs.YtpohogpkfdebdaaGreatDoor.By
theorem zeroCells_bl (m : Nat) : Builtin.zeroCells #[Value.int .u8 0] m = (bl m (fun _ => 0)).toArray := by
  apply Array.ext'
  apply List.ext_getElem?
  intro i
  by_cases h : i < m
  · rw [bl_get m _ i h]
    simp [Builtin.zeroCells, h, Nat.mod_one]
  · rw [List.getElem?_eq_none (by simp [Builtin.zeroCells]; omega), List.getElem?_eq_none (by rw [bl_length]; omega)]
theorem run_zeros (w : World) (ty : TypeId) (base g n cap m : Nat) (f : Nat → Int) (hown : By.Own w base (.slice (some ⟨g, 0, none⟩) n cap) n f) (h : n + m ≤ 140737488355328) (hb : base ≤ w.heap.size) :
    ∃ v' w', (Builtin.append_ #[23, 3] ty #[.slice (some ⟨g, 0, none⟩) n cap, .int .i64 (m : Int)]).run Tryz.prog w = .ok v' w' ∧ By.Own w' base v' (n + m) (cat n f (fun _ => 0)) ∧ w.grownBy w' (some g) := by
  obtain ⟨i0, hi, hz0, hz1, hz2⟩ := info_parts info5
  have hcat : bl n f ++ bl m (fun _ => 0) = bl (n + m) (cat n f (fun _ => 0)) := bl_append n m f _
  obtain ⟨hf, hl, hc | ⟨g', cap', cur, e, hbg, hg, hnc, hcm, hcs, htake⟩⟩ := hown
  · cases hc.1
  · simp only [Value.slice.injEq, Option.some.injEq, Addr.mk.injEq, and_true, true_and] at e
    obtain ⟨rfl, rfl⟩ := e
    rw [Nat.mul_one] at hcs htake
    have hw : IntKind.i64.wrap (m : Int) = m := by rw [IntKind.wrap_i64]; omega
    have hneg : ¬ ((m : Int) < 0) := by omega
    have hbk : Blk w g cur.toList 5 := by show w.heap[g]? = _; rw [hg]
    have h48i : ¬ (281474976710656 < (m : Int)) := by omega
    have htn : Tryz.prog.underlying 3 = some (.int .i64) := Tryz.underlying3
    by_cases hroom : n + m ≤ cap
    · have hst := run_storeCells_cells (P := Tryz.prog) g n (bl m (fun _ => 0)) 0 w (fun j hj => by rw [bl_length] at hj; exact (hbk.there n m (by simp; omega) j hj).1) (fun j hj => hbk.frozen _) (bl_one m _)
      refine ⟨.slice (some ⟨g, 0, none⟩) (n + m) cap, w.setCells g n (bl m (fun _ => 0)), ?_, ⟨cat_bound hf (fun _ => by decide), by rw [bl_length]; omega, .inr ⟨g, cap, (put cur.toList n (bl m (fun _ => 0))).toArray, rfl, hbg, hbk.put n _, hroom, hcm, ?_, ?_⟩⟩, ?_⟩
      · by_cases hm : m = 0
        · subst hm
          have hw0 : IntKind.i64.wrap 0 = 0 := by rw [IntKind.wrap_i64]; rfl
          simp [Builtin.append_, run_underlying Tryz.underlying23, run_underlying htn, sizeOf, typeInfo, zeroValue, hi, hz0, hz2, asInt, asIntOf, hw0, hnc, storeCells, World.setCells, bl]
        · have hns : ¬ (m * 1 = 0) := by omega
          simp [Builtin.append_, run_underlying Tryz.underlying23, run_underlying htn, sizeOf, typeInfo, zeroValue, hi, hz0, hz1, hz2, asInt, asIntOf, hw, hneg, h48i, hroom, hm, Value.cells, zeroCells_bl, By.add_plain]
          rw [Nat.add_zero] at hst
          rw [hst]
          rfl
      · simp [put_length, hcs]
      · rw [← hcat, Nat.mul_one]
        apply List.ext_getElem?
        intro i
        rw [List.getElem?_take]
        by_cases hi : i < n + m
        · rw [if_pos hi]
          show (put cur.toList n (bl m (fun _ => 0)))[i]? = _
          rw [put_get _ _ _ _ (by rw [bl_length]; simp; omega), bl_length]
          by_cases h2 : i < n
          · rw [if_neg (by omega), List.getElem?_append_left (by rw [bl_length]; omega), ← htake, List.getElem?_take, if_pos h2]
          · rw [if_pos (by omega), List.getElem?_append_right (by rw [bl_length]; omega), bl_length]
        · rw [if_neg hi, List.getElem?_eq_none (by rw [List.length_append, bl_length, bl_length]; omega)]
      · have hk := Kp.setCells (w := w) g n (bl m (fun _ => 0))
        exact ⟨hk.os, hk.tape, hk.output, hk.size, fun k hk' hne => hk.block k hk' (fun e => hne (by rw [show k = g from e]))⟩
    · have hge := grownCap_ge w (n + m) cap 5
      have hcm2 : grownCap w (n + m) cap 5 ≤ maxLen := grownCap_le_maxLen w (n + m) cap 5 (by simp [maxLen]; omega)
      have hfo := run_firstCells_some (P := Tryz.prog) w.drew 1 n ⟨g, 0, none⟩ n cap (bl n f) (by rw [bl_length]; omega) (fun j v hj => by
        obtain ⟨hj1, rfl⟩ := bl_get_inv _ _ _ _ hj
        rw [By.add_plain, Nat.zero_add]
        refine (hbk.drewN 1).cell j _ ?_
        have : (cur.toList.take n)[j]? = some (.int .u8 (f j)) := by rw [htake]; exact bl_get n f j hj1
        rwa [List.getElem?_take, if_pos hj1] at this)
      have h63' : ¬ (9223372036854775807 < ((n : Int) + (m : Int))) := by omega
      have h48' : ¬ (281474976710656 < Builtin.nextslicecap (n + m) cap * 1) := by
        have := growslice_fits (need := n + m) (old := cap) (bytes := 1) (by omega) (by omega); omega
      have hm : m ≠ 0 := by omega
      have hns : ¬ (m * 1 = 0) := by omega
      refine ⟨.slice (some ⟨w.heap.size, 0, none⟩) (n + m) (grownCap w (n + m) cap 5), w.drew.alloc (.cells ((bl n f).toArray ++ (bl m (fun _ => 0)).toArray ++ Builtin.zeroCells #[Value.int .u8 0] (grownCap w (n + m) cap 5 - (n + m))) 5), ?_, ⟨cat_bound hf (fun _ => by decide), by rw [bl_length]; omega, .inr ⟨w.heap.size, _, _, rfl, hb, heap_alloc_last w.drew _, hge, hcm2, ?_, ?_⟩⟩, ?_⟩
      · rw [Nat.mul_one] at h48'
        simp [Builtin.append_, run_underlying Tryz.underlying23, run_underlying htn, sizeOf, typeInfo, zeroValue, hi, hz0, hz1, hz2, asInt, asIntOf, hw, hneg, h48i, hroom, hm, Value.cells, h63', h48', Question.forced, hfo, newRow, grownCap, zeroCells_bl]
      · simp [size_zeroCells, bl_length]; omega
      · rw [← hcat, Nat.mul_one]
        simp only [Array.toList_append, List.append_assoc]
        rw [← List.append_assoc]
        rw [show n + m = (bl n f ++ bl m (fun _ => 0)).length from by rw [List.length_append, bl_length, bl_length]]
        exact List.take_left
      · exact ⟨rfl, rfl, rfl, by simp, fun k hk _ => heap_alloc_old w.drew _ hk⟩
/-- The same within a walk. -/
theorem wpList_zeros {w : World} {ops : Array Oper} {rest : List Oper} {o : Oper} {a : Act} {Q : Exit → Act → World → Prop} (hgd : o.guard = none) (s x : Operand)
    (ho : o.op = .call { callee := .builtin .append, args := #[s, x], argTypes := #[23, 3] })
    (base n m : Nat) (v : Value) (f : Nat → Int) (hs : a.eval s = v) (hv : By.Own w base v n f) (hx : a.eval x = .int .i64 (m : Int)) (h0 : 0 < n) (hn : n + m ≤ 140737488355328) (hb : base ≤ w.heap.size)
    (h : ∀ v' w', By.Own w' base v' (n + m) (cat n f (fun _ => 0)) → w.grownBy w' v.ownBlock → wpList Tryz.prog ops Q rest (a.put o.dst v') w') : wpList Tryz.prog ops Q (o :: rest) a w := by
  obtain ⟨g, cap, rfl, -⟩ := own_cells hv h0
  obtain ⟨v', w', hr, ho', hg'⟩ := run_zeros w o.type base g n cap m f hv hn hb
  exact Lib.wpList_append_run w hgd s x _ _ ho _ _ hs hx v' w' hr (h v' w' ho' hg')
end Go.Proofs.YtpohogpkfdebdaaGreatDoor.Kc
namespace Go.Proofs.YtpohogpkfdebdaaGreatDoor.Kc
open Go.ChangeShapes Go.WideShapes Go.ChangeAt Go.RowKit
open Go.Proofs.YtpohogpkfdebdaaGreatDoor.By
set_option maxHeartbeats 1000000 in
theorem counted1 (n : Nat) (w : World) (hn : n < 9223372036854775808) :
    Calls Tryz.prog 212 #[.int .i64 n] w fun e w' => ∃ v, e = .returned v ∧ By.Own w' w.heap.size v (nb n + 1) (lf n) ∧ Below w.heap.size w w' := by
  have HN := hid hn
  clear hn
  go_enter Tryz.func212, Tryz.ntmps212
  go_wp2_with fail
  refine (digits1 n w HN.out).mono ?_
  rintro e w1 ⟨v, rfl, hown, hbel⟩
  obtain ⟨k, hk⟩ : ∃ k, nb n = k := ⟨_, rfl⟩
  have hk9 : k ≤ 9 := by rw [← hk]; exact (nb_pos n).2
  have LF : Hid (cat 1 (fun _ => (k : Int)) (dnn n) = lf n) := by show cat 1 (fun _ => (k : Int)) (dnn n) = lf n; rw [← hk]; rfl
  rw [hk] at hown
  have HK := hid hk
  obtain ⟨a, c, rfl⟩ := own_slice hown
  have HO := hid hown
  have HB := hid hbel
  clear hown hbel hk
  have kw : (k : Int) % 256 = (k : Int) := by omega
  have OV := hid (own_below HO.out (below_alloc w1 (.cells #[.int .u8 (k : Int)] 5)))
  go_wp2_with (at_builtin; go_must (refine wpList_cat rfl _ _ rfl w1.heap.size 1 k _ _ (fun _ => (k : Int)) (dnn n) rfl (own_one w1 _ (by omega)) rfl OV.out.reads (by omega) (by simp) ?_))
  intro v' w2 hown hgrow
  have HS : Hid (w.heap.size ≤ w1.heap.size) := HB.out.size
  have R1 : Hid (By.Own w2 w.heap.size v' (k + 1) (lf n)) := by
    have h1 := own_mono hown HS.out
    rw [LF.out, Nat.add_comm] at h1
    exact h1
  have R2 : Hid (Below w.heap.size w w2) := (HB.out.alloc HS.out _).grown hgrow (by simp; have := HS.out; omega) (by intro k hk; simp [Value.ownBlock] at hk; have := HS.out; omega)
  clear hown hgrow HO HB OV HS LF
  go_wp2
  go_ret
  rw [HK.out]
  exact ⟨_, rfl, R1.out, R2.out⟩
set_option maxHeartbeats 1000000 in
theorem rightOk (n : Nat) (w : World) (hn : n < 9223372036854775808) :
    Calls Tryz.prog 252 #[.int .i64 n] w fun e w' => ∃ v, e = .returned (.tuple #[v, .int .i64 0]) ∧ By.Own w' w.heap.size v (nb n + 1) (rt n) ∧ Below w.heap.size w w' := by
  have HN := hid hn
  clear hn
  go_enter Tryz.func252, Tryz.ntmps252
  go_wp2_with fail
  refine (digits1 n w HN.out).mono ?_
  rintro e w1 ⟨v, rfl, hown, hbel⟩
  obtain ⟨k, hk⟩ : ∃ k, nb n = k := ⟨_, rfl⟩
  have hk9 : k ≤ 9 := by rw [← hk]; exact (nb_pos n).2
  have LF : Hid (cat k (dnn n) (fun _ => (k : Int)) = rt n) := by show cat k (dnn n) (fun _ => (k : Int)) = rt n; rw [← hk]; rfl
  rw [hk] at hown
  have HK := hid hk
  obtain ⟨a, c, rfl⟩ := own_slice hown
  have HO := hid hown
  have HB := hid hbel
  clear hown hbel hk
  have kw : (k : Int) % 256 = (k : Int) := by omega
  have OV := hid (own_below HO.out (below_alloc w1 (.cells #[.int .u8 (k : Int)] 5)))
  have HS : Hid (w.heap.size ≤ w1.heap.size) := HB.out.size
  have OL := hid (own_one w1 (k : Int) (by omega))
  go_wp2_with (at_builtin; go_must (refine wpList_cat rfl _ _ rfl w.heap.size k 1 _ _ (dnn n) (fun _ => (k : Int)) rfl OV.out rfl OL.out.reads (by omega) (by simp; have := HS.out; omega) ?_))
  intro v' w2 hown hgrow
  have R1 : Hid (By.Own w2 w.heap.size v' (k + 1) (rt n)) := by
    rw [LF.out] at hown
    exact hown
  have R2 : Hid (Below w.heap.size w w2) := (HB.out.alloc HS.out _).grown hgrow (by simp; have := HS.out; omega) (own_row OV.out)
  clear hown hgrow HO HB OV HS LF OL
  go_wp2
  go_ret2
  rw [HK.out]
  exact ⟨_, rfl, R1.out, R2.out⟩
/-- String: of a list that reads as m bytes f. -/
theorem string1 (m : Nat) (f : Nat → Int) (p : Value) (w : World) (hr : By.RB w p m f) (hm : m ≤ 140737488355000) :
    Calls Tryz.prog 160 #[p] w fun e w' => ∃ v, e = .returned v ∧ By.Own w' w.heap.size v (sn m) (sg m f) ∧ Below w.heap.size w w' := by
  have HR := hid hr
  obtain ⟨_, a, cap, rfl, -, -, -⟩ := hr
  go_enter Tryz.func160, Tryz.ntmps160
  go_wp2_with fail
  refine (counted1 (8 * m) w (by omega)).mono ?_
  rintro e w1 ⟨v, rfl, hown, hbel⟩
  obtain ⟨k, hk⟩ : ∃ k, nb (8 * m) = k := ⟨_, rfl⟩
  have hk9 : k ≤ 9 := by rw [← hk]; exact (nb_pos _).2
  have LF : Hid (cat (k + 1) (lf (8 * m)) f = sg m f) := by show cat (k + 1) (lf (8 * m)) f = sg m f; rw [← hk]; rfl
  have HK : Hid (k + 1 + m = sn m) := by show k + 1 + m = sn m; rw [← hk]; rfl
  rw [hk] at hown
  have HO := hid hown
  have HB := hid hbel
  have RP := hid (HR.out.below hbel)
  clear hown hbel hk
  go_wp2_with (at_builtin; go_must (refine wpList_cat rfl _ _ rfl w.heap.size (k + 1) m _ _ _ f rfl HO.out rfl RP.out (by omega) HB.out.size ?_))
  intro v' w2 hown hgrow
  have R1 : Hid (By.Own w2 w.heap.size v' (sn m) (sg m f)) := by
    rw [LF.out, HK.out] at hown
    exact hown
  have R2 : Hid (Below w.heap.size w w2) := below_grow HB.out HB.out.size HO.out hgrow
  clear hown hgrow HO HB RP LF
  go_wp2
  go_ret
  exact ⟨_, rfl, R1.out, R2.out⟩
/-- padded: of a width that may be. -/
theorem padded1 (m W : Nat) (f : Nat → Int) (p : Value) (w : World) (hr : By.RB w p m f) (hm : m ≤ 140737488355000) (h1 : 1 ≤ W) (h2 : W ≤ 256) :
    Calls Tryz.prog 211 #[p, .int .i64 W] w fun e w' => ∃ v, e = .returned v ∧ By.Own w' w.heap.size v (pN m W) (pg m f W) ∧ Below w.heap.size w w' := by
  have HR := hid hr
  obtain ⟨_, a, cap, rfl, -, -, -⟩ := hr
  go_enter Tryz.func211, Tryz.ntmps211
  go_wp2_with fail
  refine (counted1 W w (by omega)).mono ?_
  rintro e w1 ⟨v, rfl, hown, hbel⟩
  obtain ⟨k, hk⟩ : ∃ k, nb W = k := ⟨_, rfl⟩
  have hk9 : k ≤ 9 := by rw [← hk]; exact (nb_pos _).2
  have HK : Hid (k + 1 + m = pn m W) := by show k + 1 + m = pn m W; rw [← hk]; rfl
  have HKK := hid hk
  rw [hk] at hown
  have HO := hid hown
  have HB := hid hbel
  have RP := hid (HR.out.below hbel)
  clear hown hbel hk
  go_wp2_with (at_builtin; go_must (refine wpList_cat rfl _ _ rfl w.heap.size (k + 1) m _ _ _ f rfl HO.out rfl RP.out (by omega) HB.out.size ?_))
  intro v' w2 hown hgrow
  rw [HK.out] at hown
  obtain ⟨N, hN⟩ : ∃ N, pn m W = N := ⟨_, rfl⟩
  have hN2 : N ≤ 140737488355010 := by rw [← hN, ← HK.out]; omega
  have hN3 : 1 ≤ N := by rw [← hN, ← HK.out]; omega
  rw [hN] at hown
  have HNN := hid hN
  have O2 := hid hown
  have B2 := hid (below_grow HB.out HB.out.size HO.out hgrow)
  obtain ⟨a2, c2, rfl⟩ := own_slice hown
  clear hown hgrow HO HB RP hN
  have tm : ((N : Int)).tmod (W : Int) = ((N % W : Nat) : Int) := by rw [Int.tmod_eq_emod_of_nonneg (by omega)]; rfl
  have tm2 : ((N : Int)) % (W : Int) = ((N % W : Nat) : Int) := rfl
  have nW : ¬ (W : Int) = 0 := by omega
  have nW' : ¬ W = 0 := by omega
  obtain ⟨M, hM⟩ : ∃ M, N % W = M := ⟨_, rfl⟩
  have hMW : M < W := by rw [← hM]; exact Nat.mod_lt _ (by omega)
  rw [hM] at tm tm2
  have HM := hid hM
  clear hM
  by_cases hz : M = 0
  · subst hz
    have R1 : Hid (By.Own w2 w.heap.size (.slice a2 N c2) (pN m W) (pg m f W)) := by
      have e0 : pz m W = 0 := pz_zero m W (by rw [HNN.out]; exact HM.out)
      have e1 : pN m W = N := by unfold pN; rw [e0, HNN.out]; rfl
      rw [e1]
      refine own_congr O2.out (pg_b HR.out.1) (fun i hi => ?_)
      unfold pg
      rw [HNN.out, HKK.out]
      show _ = cat N _ _ i
      unfold cat
      rw [if_pos hi]
    clear O2 HM
    go_wp2
    go_ret
    exact ⟨_, rfl, R1.out, B2.out⟩
  · have e0 : Hid (pz m W = W - M) := by
      have := pz_some m W (by omega) (by rw [HNN.out, HM.out]; exact hz)
      rw [HNN.out, HM.out] at this
      exact this
    have hz2 : ¬ (M : Int) = 0 := by omega
    have eW : ((W : Int) - (M : Int)) = ((W - M : Nat) : Int) := by omega
    go_wp2_with (at_builtin; go_must (refine wpList_zeros rfl _ _ rfl w.heap.size N (W - M) _ _ rfl O2.out rfl (by omega) (by omega) B2.out.size ?_))
    intro v3 w3 hown3 hgrow3
    have R1 : Hid (By.Own w3 w.heap.size v3 (pN m W) (pg m f W)) := by
      have e1 : pN m W = N + (W - M) := by unfold pN; rw [e0.out, HNN.out]
      have e2 : pg m f W = cat N (cat (k + 1) (lf W) f) (fun _ => 0) := by unfold pg; rw [HNN.out, HKK.out]
      rw [e1, e2]
      exact hown3
    have R2 : Hid (Below w.heap.size w w3) := below_grow B2.out B2.out.size O2.out hgrow3
    clear hown3 hgrow3 O2 B2
    go_wp2
    go_ret
    exact ⟨_, rfl, R1.out, R2.out⟩
theorem padOk (m W : Nat) (f : Nat → Int) (p : Value) (w : World) (hr : By.RB w p m f) (hm : m ≤ 140737488355000) (h1 : 1 ≤ W) (h2 : W ≤ 256) :
    Calls Tryz.prog 159 #[p, .int .i64 W] w fun e w' => ∃ v, e = .returned (.tuple #[v, .int .i64 0]) ∧ By.Own w' w.heap.size v (pN m W) (pg m f W) ∧ Below w.heap.size w w' := by
  have HR := hid hr
  clear hr
  have n1 : ¬ (W : Int) < 1 := by omega
  have n2 : ¬ (256 : Int) < W := by omega
  go_enter Tryz.func159, Tryz.ntmps159
  go_wp2_with fail
  refine (padded1 m W f p w HR.out hm h1 h2).mono ?_
  rintro e w1 ⟨v, rfl, hown, hbel⟩
  have HO := hid hown
  have HB := hid hbel
  clear hown hbel
  go_wp2
  go_ret2
  exact ⟨_, rfl, HO.out, HB.out⟩
/- The document's. -/
end Go.Proofs.YtpohogpkfdebdaaGreatDoor.Kc
namespace Go.Proofs.YtpohogpkfdebdaaGreatDoor.Kc
open Go.Proofs.YtpohogpkfdebdaaGreatDoor.By
theorem lf_zero (n : Nat) : lf n 0 = ((nb n : Nat) : Int) := rfl
/-- Two strings, one behind the other. -/
def tn (a c : Nat) : Nat := sn a + sn c
def tg (a : Nat) (f : Nat → Int) (c : Nat) (h : Nat → Int) : Nat → Int := cat (sn a) (sg a f) (sg c h)
end Go.Proofs.YtpohogpkfdebdaaGreatDoor.Kc
