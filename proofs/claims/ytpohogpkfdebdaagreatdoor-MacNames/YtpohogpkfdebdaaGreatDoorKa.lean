/- Numbers and lists written as SHAKE wants them, as functions; no function of the program in it. The bytes of a number: what digits (the program) and number (the document) answer. The permutation of 25 words as functions of numbers: what the steps of a round make, that each can be taken back, and the words' bytes; no program in it. Blocks of cells: words, bytes; whole arrays loaded and stored at once; no function of the program in it. Noughts put behind a list of bytes that the call owns: append(b, make([]byte, m)...). What Left, Right, String and Pad answer, of the program and of the document. Nothing is taken for another thing: encodings of unlike numbers and lists are unlike; no function of the program in it. -/
import Derived.Test.YtpohogpkfdebdaaGreatDoorZa
import Derived.Deep.DeepCutAuto
import Derived.Test.YtpohogpkfdebdaaGreatDoorRows
import Derived.Deep.MidRow
import Derived.Deep.WholeRow
import Derived.Lib.AppendZeros
namespace Go.Proofs.YtpohogpkfdebdaaGreatDoor.Kc
open Go.Proofs.YtpohogpkfdebdaaGreatDoor.By
/-- How many bytes a number has, one at least. -/
def nbf : Nat → Nat → Nat
  | 0, _ => 1
  | k + 1, n => if n < 256 then 1 else nbf k (n / 256) + 1
def nb (n : Nat) : Nat := nbf 8 n
theorem nbf_eq (j : Nat) : ∀ (f n : Nat), j ≤ f → (j = 0 ∨ ¬ n / 256 ^ j = 0) → n / 256 ^ (j + 1) = 0 → nbf f n = j + 1 := by
  induction j with
  | zero =>
    intro f n _ _ h
    have hn : n < 256 := by simpa using h
    cases f with
    | zero => rfl
    | succ f => rw [nbf, if_pos hn]
  | succ j ih =>
    intro f n hf h0 h1
    obtain ⟨f, rfl⟩ : ∃ g, f = g + 1 := ⟨f - 1, by omega⟩
    have e : ∀ k, n / 256 / 256 ^ k = n / 256 ^ (k + 1) := fun k => by rw [Nat.div_div_eq_div_mul, Nat.pow_succ, Nat.mul_comm]
    have h2 : ¬ n / 256 ^ (j + 1) = 0 := by rcases h0 with h | h; · omega
                                            · exact h
    have hn : ¬ n < 256 := fun h => h2 (by rw [← e, Nat.div_eq_of_lt h, Nat.zero_div])
    rw [nbf, if_neg hn, ih f (n / 256) (by omega) (by right; rw [e]; exact h2) (by rw [e]; exact h1)]
theorem nb_eq (n j : Nat) (hj : j ≤ 8) (h0 : j = 0 ∨ ¬ n / 256 ^ j = 0) (h1 : n / 256 ^ (j + 1) = 0) : nb n = j + 1 := nbf_eq j 8 n hj h0 h1
theorem nbf_pos (f n : Nat) : 1 ≤ nbf f n ∧ nbf f n ≤ f + 1 := by
  induction f generalizing n with
  | zero => exact ⟨Nat.le_refl _, Nat.le_refl _⟩
  | succ f ih =>
    have := ih (n / 256)
    rw [nbf]; split <;> omega
theorem nb_pos (n : Nat) : 1 ≤ nb n ∧ nb n ≤ 9 := nbf_pos 8 n
/-- Byte i of a number in k bytes, the highest first. -/
def dg (n k i : Nat) : Int := ((n / 256 ^ (k - 1 - i) % 256 : Nat) : Int)
theorem dg_b (n k i : Nat) : 0 ≤ dg n k i ∧ dg n k i < 256 := by
  have := Nat.mod_lt (n / 256 ^ (k - 1 - i)) (show 0 < 256 by decide)
  unfold dg; omega
theorem one_b {x : Int} (h : 0 ≤ x ∧ x < 256) (i : Nat) : 0 ≤ (fun _ : Nat => x) i ∧ (fun _ : Nat => x) i < 256 := h
theorem dg_next (n j : Nat) (x : Int) (hx : x = ((n / 256 ^ j % 256 : Nat) : Int)) : cat 1 (fun _ => x) (dg n j) = dg n (j + 1) := by
  funext i
  unfold cat
  by_cases h : i < 1
  · rw [if_pos h, hx]
    have : i = 0 := by omega
    subst this
    rfl
  · rw [if_neg h]
    unfold dg
    rw [show j - 1 - (i - 1) = j + 1 - 1 - i from by omega]
/-- The bytes of a number. -/
def dnn (n : Nat) : Nat → Int := dg n (nb n)
theorem dnn_b (n i : Nat) : 0 ≤ dnn n i ∧ dnn n i < 256 := dg_b _ _ _
theorem nbi_b (n : Nat) : 0 ≤ ((nb n : Nat) : Int) ∧ ((nb n : Nat) : Int) < 256 := by have := nb_pos n; omega
/-- Left of a number: nb n + 1 bytes. -/
def lf (n : Nat) : Nat → Int := cat 1 (fun _ => ((nb n : Nat) : Int)) (dnn n)
theorem lf_b (n i : Nat) : 0 ≤ lf n i ∧ lf n i < 256 := cat_bound (one_b (nbi_b n)) (dnn_b n) i
/-- Right of a number. -/
def rt (n : Nat) : Nat → Int := cat (nb n) (dnn n) (fun _ => ((nb n : Nat) : Int))
theorem rt_b (n i : Nat) : 0 ≤ rt n i ∧ rt n i < 256 := cat_bound (dnn_b n) (one_b (nbi_b n)) i
/-- String of a list of m bytes f: how many, and they. -/
def sn (m : Nat) : Nat := nb (8 * m) + 1 + m
theorem sn_le' (m : Nat) : sn m ≤ m + 10 := by have := (nb_pos (8 * m)).2; unfold sn; omega
def sg (m : Nat) (f : Nat → Int) : Nat → Int := cat (nb (8 * m) + 1) (lf (8 * m)) f
theorem sg_b {m : Nat} {f : Nat → Int} (hf : ∀ i, 0 ≤ f i ∧ f i < 256) (i : Nat) : 0 ≤ sg m f i ∧ sg m f i < 256 := cat_bound (lf_b _) hf i
/-- Pad of a list of m bytes f: how many bytes stand ahead of the noughts, how many noughts, and all. -/
def pn (m w : Nat) : Nat := nb w + 1 + m
def pz (m w : Nat) : Nat := (w - pn m w % w) % w
def pg (m : Nat) (f : Nat → Int) (w : Nat) : Nat → Int := cat (pn m w) (cat (nb w + 1) (lf w) f) (fun _ => 0)
def pN (m w : Nat) : Nat := pn m w + pz m w
theorem pg_b {m w : Nat} {f : Nat → Int} (hf : ∀ i, 0 ≤ f i ∧ f i < 256) (i : Nat) : 0 ≤ pg m f w i ∧ pg m f w i < 256 := cat_bound (cat_bound (lf_b _) hf) (fun _ => by decide) i
theorem pz_lt (m w : Nat) (hw : 0 < w) : pz m w < w := Nat.mod_lt _ hw
theorem pz_zero (m w : Nat) (h : pn m w % w = 0) : pz m w = 0 := by unfold pz; rw [h]; simp
theorem pz_some (m w : Nat) (hw : 0 < w) (h : ¬ pn m w % w = 0) : pz m w = w - pn m w % w := by
  have := Nat.mod_lt (pn m w) hw
  unfold pz; exact Nat.mod_eq_of_lt (by omega)
theorem pN_mod (m w : Nat) (hw : 0 < w) : pN m w % w = 0 := by
  unfold pN
  by_cases h : pn m w % w = 0
  · rw [pz_zero m w h]; exact h
  · have h2 := Nat.mod_lt (pn m w) hw
    have e := Nat.div_add_mod (pn m w) w
    rw [pz_some m w hw h]
    rw [show pn m w + (w - pn m w % w) = w * (pn m w / w + 1) from by rw [Nat.mul_add, Nat.mul_one]; omega]
    exact Nat.mul_mod_right _ _
end Go.Proofs.YtpohogpkfdebdaaGreatDoor.Kc
namespace Go.Proofs.YtpohogpkfdebdaaGreatDoor.Kc
open Go.ChangeShapes Go.WideShapes Go.ChangeAt Go.RowKit
open Go.Proofs.YtpohogpkfdebdaaGreatDoor.By
theorem own_one (w : World) (x : Int) (hx : 0 ≤ x ∧ x < 256) : By.Own (w.alloc (.cells #[.int .u8 x] 5)) w.heap.size (.slice (some ⟨w.heap.size, 0, none⟩) 1 1) 1 (fun _ => x) :=
  own_lit w _ 1 _ (one_b hx) (by decide) rfl (bl_singleton x)
theorem own_slice {w : World} {base n : Nat} {v : Value} {f : Nat → Int} (h : By.Own w base v n f) : ∃ a c, v = .slice a n c := by
  rcases h.shape with ⟨rfl, rfl⟩ | ⟨g, cap, rfl, _⟩
  · exact ⟨_, _, rfl⟩
  · exact ⟨_, _, rfl⟩
theorem few (n k : Nat) (hn : n < 9223372036854775808) (h : ¬ n / 256 ^ k = 0) : k ≤ 7 := by
  apply Classical.byContradiction
  intro hk
  refine h (Nat.div_eq_of_lt (Nat.lt_of_lt_of_le hn ?_))
  exact Nat.le_trans (by decide : 9223372036854775808 ≤ 256 ^ 8) (Nat.pow_le_pow_right (by decide) (by omega))
set_option maxHeartbeats 1000000 in
theorem digits1 (n : Nat) (w : World) (hn : n < 9223372036854775808) :
    Calls Tryz.prog 250 #[.int .i64 n] w fun e w' => ∃ v, e = .returned v ∧ By.Own w' w.heap.size v (nb n) (dnn n) ∧ Below w.heap.size w w' := by
  have HN := hid hn
  clear hn
  go_enter Tryz.func250, Tryz.ntmps250
  go_wp2
  go_loopw [0, 3] (fun x v wr => ∃ j q : Nat, j ≤ 7 ∧ n / 256 ^ j = q ∧ x = .int .i64 q ∧ (j = 0 ∨ ¬ q = 0) ∧ By.Own wr w.heap.size v j (dg n j) ∧ Below w.heap.size w wr) (fun x _ _ => (intOf x).toNat)
  case atStart => exact ⟨0, n, by omega, by simp, rfl, .inl rfl, own_nil _ _ _ (dg_b n 0), Below.refl _ _⟩
  case round =>
    obtain ⟨j, q, hj, hq, rfl, h0, hown, hbel⟩ := hrel
    have hq2 : q < 9223372036854775808 := by rw [← hq]; exact Nat.lt_of_le_of_lt (Nat.div_le_self _ _) HN.out
    have HQ := hid hq
    have HO := hid hown
    have HB := hid hbel
    have H0 := hid h0
    clear hq hown hbel h0
    have HX : Hid (0 ≤ (q : Int) % 256 ∧ (q : Int) % 256 < 256) := by show 0 ≤ (q : Int) % 256 ∧ (q : Int) % 256 < 256; omega
    have OV := hid (own_below HO.out (below_alloc wr (.cells #[.int .u8 ((q : Int) % 256)] 5)))
    go_wp2_with (at_builtin; go_must (refine wpList_cat rfl _ _ rfl wr.heap.size 1 j _ _ (fun _ => (q : Int) % 256) (dg n j) rfl (own_one wr _ HX.out) rfl OV.out.reads (by omega) (by simp) ?_))
    intro v' w1 hown hgrow
    have HS : Hid (w.heap.size ≤ wr.heap.size) := HB.out.size
    have R1 : Hid (By.Own w1 w.heap.size v' (j + 1) (dg n (j + 1))) := by
      have h1 := own_mono hown HS.out
      rw [dg_next n j _ (by rw [HQ.out]; omega), Nat.add_comm] at h1
      exact h1
    have R2 : Hid (Below w.heap.size w w1) := (HB.out.alloc HS.out _).grown hgrow (by simp; have := HS.out; omega) (by intro k hk; simp [Value.ownBlock] at hk; have := HS.out; omega)
    clear hown hgrow HO HB OV HX HS
    by_cases hz : q / 256 = 0
    · go_wp2
      go_ret
      have e1 : n / 256 ^ (j + 1) = 0 := by rw [Nat.pow_succ, ← Nat.div_div_eq_div_mul, HQ.out]; exact hz
      have e2 : nb n = j + 1 := nb_eq n j (by omega) (by rw [HQ.out]; exact H0.out) e1
      refine ⟨_, rfl, ?_, R2.out⟩
      unfold dnn
      rw [e2]; exact R1.out
    · have e1 : n / 256 ^ (j + 1) = q / 256 := by rw [Nat.pow_succ, ← Nat.div_div_eq_div_mul, HQ.out]
      have e7 : Hid (j + 1 ≤ 7) := few n (j + 1) HN.out (by rw [e1]; exact hz)
      have E1 := hid e1
      clear e1
      go_wp2
      exact ⟨⟨j + 1, q / 256, e7.out, E1.out, rfl, .inr hz, R1.out, R2.out⟩, by simp [intOf]; omega⟩
set_option maxHeartbeats 1000000 in
theorem number1 (n : Nat) (w : World) (hn : n < 9223372036854775808) :
    Calls Tryz.prog 136 #[.int .i64 n] w fun e w' => ∃ v, e = .returned v ∧ By.Own w' w.heap.size v (nb n) (dnn n) ∧ Below w.heap.size w w' := by
  have HN := hid hn
  have HX : Hid (0 ≤ (n : Int) % 256 ∧ (n : Int) % 256 < 256) := by show 0 ≤ (n : Int) % 256 ∧ (n : Int) % 256 < 256; omega
  have O1 : Hid (By.Own (w.alloc (.cells #[.int .u8 ((n : Int) % 256)] 5)) w.heap.size (.slice (some ⟨w.heap.size, 0, none⟩) 1 1) 1 (dg n 1)) := by
    have h := own_one w _ HX.out
    exact own_congr h (dg_b n 1) (fun i hi => by
      obtain rfl : i = 0 := by omega
      show (n : Int) % 256 = ((n / 256 ^ 0 % 256 : Nat) : Int)
      rw [Nat.pow_zero, Nat.div_one]; omega)
  have B1 : Hid (Below w.heap.size w (w.alloc (.cells #[.int .u8 ((n : Int) % 256)] 5))) := below_alloc w _
  have t1 : ((n : Int)).tmod 256 = (n : Int) % 256 := Int.tmod_eq_emod_of_nonneg (by omega)
  have t2 : ((n : Int)).tdiv 256 = (n : Int) / 256 := Int.tdiv_eq_ediv_of_nonneg (by omega)
  go_enter Tryz.func136, Tryz.ntmps136
  go_wp2
  go_loopw [0, 3] (fun x v wr => ∃ j q : Nat, j ≤ 7 ∧ n / 256 ^ (j + 1) = q ∧ x = .int .i64 q ∧ (j = 0 ∨ ¬ n / 256 ^ j = 0) ∧ By.Own wr w.heap.size v (j + 1) (dg n (j + 1)) ∧ Below w.heap.size w wr) (fun x _ _ => (intOf x).toNat)
  case atStart => exact ⟨0, n / 256, by omega, by simp, rfl, .inl rfl, O1.out, B1.out⟩
  case round =>
    clear O1 B1 HX t1 t2
    obtain ⟨j, q, hj, hq, rfl, h0, hown, hbel⟩ := hrel
    have hq2 : q < 9223372036854775808 := by rw [← hq]; exact Nat.lt_of_le_of_lt (Nat.div_le_self _ _) HN.out
    have HQ := hid hq
    have HO := hid hown
    have HB := hid hbel
    have H0 := hid h0
    clear hq hown hbel h0
    by_cases hz : q = 0
    · subst hz
      have H1 : Hid (By.Own wr w.heap.size u3 (nb n) (dnn n)) := by
        have e2 : nb n = j + 1 := nb_eq n j (by omega) H0.out HQ.out
        show By.Own wr w.heap.size u3 (nb n) (dnn n)
        unfold dnn
        rw [e2]; exact HO.out
      clear HO
      go_wp2
      go_ret
      exact ⟨_, rfl, H1.out, HB.out⟩
    · have hz2 : (0 : Int) < q := by omega
      have t1 : ((q : Int)).tmod 256 = (q : Int) % 256 := Int.tmod_eq_emod_of_nonneg (by omega)
      have t2 : ((q : Int)).tdiv 256 = (q : Int) / 256 := Int.tdiv_eq_ediv_of_nonneg (by omega)
      have HX : Hid (0 ≤ (q : Int) % 256 ∧ (q : Int) % 256 < 256) := by show 0 ≤ (q : Int) % 256 ∧ (q : Int) % 256 < 256; omega
      have OV := hid (own_below HO.out (below_alloc wr (.cells #[.int .u8 ((q : Int) % 256)] 5)))
      go_wp2_with (at_builtin; go_must (refine wpList_cat rfl _ _ rfl wr.heap.size 1 (j + 1) _ _ (fun _ => (q : Int) % 256) (dg n (j + 1)) rfl (own_one wr _ HX.out) rfl OV.out.reads (by omega) (by simp) ?_))
      intro v' w1 hown hgrow
      have HS : Hid (w.heap.size ≤ wr.heap.size) := HB.out.size
      have R1 : Hid (By.Own w1 w.heap.size v' (j + 1 + 1) (dg n (j + 1 + 1))) := by
        have h1 := own_mono hown HS.out
        rw [dg_next n (j + 1) _ (by rw [HQ.out]; omega), Nat.add_comm] at h1
        exact h1
      have R2 : Hid (Below w.heap.size w w1) := (HB.out.alloc HS.out _).grown hgrow (by simp; have := HS.out; omega) (by intro k hk; simp [Value.ownBlock] at hk; have := HS.out; omega)
      clear hown hgrow HO HB OV HX HS
      have E1 : Hid (n / 256 ^ (j + 1 + 1) = q / 256) := by show n / 256 ^ (j + 1 + 1) = q / 256; rw [Nat.pow_succ 256 (j + 1), ← Nat.div_div_eq_div_mul, HQ.out]
      have e7 : Hid (j + 1 ≤ 7) := few n (j + 1) HN.out (by rw [HQ.out]; exact hz)
      go_wp2
      exact ⟨⟨j + 1, q / 256, e7.out, E1.out, rfl, .inr (by rw [HQ.out]; exact hz), R1.out, R2.out⟩, by simp [intOf]; omega⟩
end Go.Proofs.YtpohogpkfdebdaaGreatDoor.Kc
namespace Go.Proofs.YtpohogpkfdebdaaGreatDoor.Kc
open Go.Proofs.YtpohogpkfdebdaaGreatDoor.Wd

def W64 (x : Int) : Prop := 0 ≤ x ∧ x < 18446744073709551616
def xr (a b : Int) : Int := bits .xor .u64 a b
/-- The bits of a that are not in b. -/
def dn (a b : Int) : Int := bits .andNot .u64 a b
def rl (x n : Int) : Int := Rot 64 x n
theorem bits_w (op : BinOp) (a b : Int) : W64 (bits op .u64 a b) := by
  have h : ∀ n : Nat, W64 (IntKind.u64.wrap (n : Int)) := fun n => by rw [IntKind.wrap_u64]; unfold W64; omega
  unfold bits
  exact h _
theorem xr_w (a b : Int) : W64 (xr a b) := bits_w _ _ _
theorem dn_w (a b : Int) : W64 (dn a b) := bits_w _ _ _
theorem rl_w (x n : Int) (h : W64 x) : W64 (rl x n) := Rot64_bound x n h.1 h.2
theorem w0 : W64 0 := by unfold W64; decide

/-- Bit j of a word. -/
def bt (x : Int) (j : Nat) : Bool := x.toNat.testBit j
theorem bt_ext {x y : Int} (hx : W64 x) (hy : W64 y) (h : ∀ j, j < 64 → bt x j = bt y j) : x = y := by
  have h1 : x.toNat = y.toNat := by
    apply Nat.eq_of_testBit_eq
    intro j
    by_cases hj : j < 64
    · exact h j hj
    · have p : ∀ z : Int, W64 z → z.toNat.testBit j = false := fun z hz => Nat.testBit_lt_two_pow (Nat.lt_of_lt_of_le (show z.toNat < 2 ^ 64 by have := hz.1; have := hz.2; show z.toNat < 18446744073709551616; omega) (Nat.pow_le_pow_right (by omega) (by omega)))
      rw [p x hx, p y hy]
  have := hx.1; have := hy.1; omega
theorem bt_xr {a b : Int} (ha : W64 a) (hb : W64 b) (j : Nat) : bt (xr a b) j = (bt a j ^^ bt b j) := by
  obtain ⟨A, rfl⟩ := Int.eq_ofNat_of_zero_le ha.1
  obtain ⟨B, rfl⟩ := Int.eq_ofNat_of_zero_le hb.1
  have h1 := ha.2; have h2 := hb.2
  unfold xr bt
  rw [u64_xor_nat A B (by omega) (by omega)]
  simp [Nat.testBit_xor]
theorem bt_dn {a b : Int} (ha : W64 a) (hb : W64 b) (j : Nat) (hj : j < 64) : bt (dn a b) j = (bt a j && !bt b j) := by
  obtain ⟨A, rfl⟩ := Int.eq_ofNat_of_zero_le ha.1
  obtain ⟨B, rfl⟩ := Int.eq_ofNat_of_zero_le hb.1
  have h1 := ha.2; have h2 := hb.2
  unfold dn bt
  rw [u64_andNot_nat A B (by omega) (by omega)]
  simp only [Int.toNat_natCast, Nat.testBit_and]
  rw [show 18446744073709551615 - B = 2 ^ 64 - (B + 1) from by omega, Nat.testBit_two_pow_sub_succ (by show B < 18446744073709551616; omega)]
  simp [hj]
theorem bt_rl {x : Int} (hx : W64 x) (n : Nat) (j : Nat) (hj : j < 64) : bt (rl x n) j = bt x ((j + (64 - n % 64)) % 64) := by
  have hX : x.toNat < 2 ^ 64 := by have := hx.1; have := hx.2; show x.toNat < 18446744073709551616; omega
  unfold rl bt Rot
  rw [Int.toNat_natCast, show ((n : Int) % (64 : Nat)).toNat = n % 64 from by omega]
  have hl : n % 64 < 64 := Nat.mod_lt _ (by omega)
  generalize n % 64 = l at *
  rw [rotN_bit 64 l _ j (by omega) hX]
  split
  · congr 1; omega
  · rw [decide_eq_true hj, Bool.true_and]
    congr 1; omega
theorem rl_inj {x y : Int} (hx : W64 x) (hy : W64 y) (n : Nat) (h : rl x n = rl y n) : x = y := by
  refine bt_ext hx hy (fun j hj => ?_)
  have h1 := congrArg (fun z => bt z ((j + n % 64) % 64)) h
  rw [bt_rl hx n _ (Nat.mod_lt _ (by omega)), bt_rl hy n _ (Nat.mod_lt _ (by omega))] at h1
  rwa [show ((j + n % 64) % 64 + (64 - n % 64)) % 64 = j from by omega] at h1
theorem rl_zero {x : Int} (hx : W64 x) : rl x 0 = x := by
  refine bt_ext (rl_w x 0 hx) hx (fun j hj => ?_)
  have := bt_rl hx 0 j hj
  rw [show ((0 : Nat) : Int) = 0 from rfl] at this
  rw [this]; congr 1; omega

/-- Step 1: the columns, what each lane takes in, the lanes. -/
def col (a : Nat → Int) (x : Nat) : Int := xr (xr (xr (xr (a x) (a (x + 5))) (a (x + 10))) (a (x + 15))) (a (x + 20))
def dd (a : Nat → Int) (x : Nat) : Int := xr (col a ((x + 4) % 5)) (rl (col a ((x + 1) % 5)) 1)
def mix (a : Nat → Int) (i : Nat) : Int := xr (a i) (dd a (i % 5))
/-- Step 2: the places along the way, the lanes behind t of the moves. -/
def wyl : List Nat := [1, 10, 7, 11, 17, 18, 3, 5, 16, 8, 21, 24, 4, 15, 23, 19, 13, 12, 2, 20, 14, 22, 9, 6, 1]
def Wy (t : Nat) : Nat := wyl.getD t 0
def tri (t : Nat) : Nat := (t + 1) * (t + 2) / 2
def mvt (a : Nat → Int) : Nat → Nat → Int
  | 0 => fun i => if i = 0 then a 0 else 0
  | t + 1 => fun i => if i = Wy (t + 1) then rl (a (Wy t)) (tri t) else mvt a t i
def mv (a : Nat → Int) : Nat → Int := mvt a 24
/-- Step 3. -/
def n1 (i : Nat) : Nat := 5 * (i / 5) + (i % 5 + 1) % 5
def n2 (i : Nat) : Nat := 5 * (i / 5) + (i % 5 + 2) % 5
def jn (b : Nat → Int) (i : Nat) : Int := xr (b i) (dn (b (n2 i)) (b (n1 i)))
/-- Step 4. -/
def io (c : Int) (a : Nat → Int) (i : Nat) : Int := if i = 0 then xr (a 0) c else a i
def rd (c : Int) (a : Nat → Int) : Nat → Int := io c (jn (mv (mix a)))
def cl : List Int := [1, 32898, 9223372036854808714, 9223372039002292224, 32907, 2147483649, 9223372039002292353, 9223372036854808585, 138, 136, 2147516425, 2147483658, 2147516555, 9223372036854775947, 9223372036854808713, 9223372036854808579, 9223372036854808578, 9223372036854775936, 32778, 9223372039002259466, 9223372039002292353, 9223372036854808704, 2147483649, 9223372039002292232]
def RC (i : Nat) : Int := cl.getD i 0
def rds (a : Nat → Int) : Nat → Nat → Int
  | 0 => a
  | t + 1 => rd (RC t) (rds a t)
def perm (a : Nat → Int) : Nat → Int := rds a 24

def AW (a : Nat → Int) : Prop := ∀ i, W64 (a i)
theorem col_w (a : Nat → Int) (x : Nat) : W64 (col a x) := xr_w _ _
theorem dd_w (a : Nat → Int) (x : Nat) : W64 (dd a x) := xr_w _ _
theorem mix_w (a : Nat → Int) : AW (mix a) := fun _ => xr_w _ _
theorem mvt_w {a : Nat → Int} (h : AW a) (t : Nat) : AW (mvt a t) := by
  induction t with
  | zero => intro i; unfold mvt; split
            · exact h 0
            · exact w0
  | succ t ih => intro i; unfold mvt; split
                 · exact rl_w _ _ (h _)
                 · exact ih i
theorem mv_w {a : Nat → Int} (h : AW a) : AW (mv a) := mvt_w h 24
theorem jn_w (b : Nat → Int) : AW (jn b) := fun _ => xr_w _ _
theorem io_w {c : Int} {a : Nat → Int} (h : AW a) : AW (io c a) := fun i => by
  unfold io; split
  · exact xr_w _ _
  · exact h i
theorem rd_w (c : Int) (a : Nat → Int) : AW (rd c a) := io_w (jn_w _)
theorem rds_w {a : Nat → Int} (h : AW a) (t : Nat) : AW (rds a t) := by
  cases t with
  | zero => exact h
  | succ t => exact rd_w _ _
theorem perm_w {a : Nat → Int} (h : AW a) : AW (perm a) := rds_w h 24
theorem RC_w (i : Nat) : W64 (RC i) := by
  unfold RC
  by_cases h : i < 24
  · exact (show ∀ j, j < 24 → W64 (cl.getD j 0) from by unfold W64; decide) i h
  · rw [List.getD_eq_getElem?_getD, List.getElem?_eq_none (by show 24 ≤ i; omega)]; exact w0

/-- Of a plane of bits: C(x, j) with two others. -/
def FF (a b c : Nat) (C : Nat → Nat → Bool) (x j : Nat) : Bool := (C x j ^^ C (x + a) j) ^^ C (x + b) (j + c)
theorem FF_two (a b c : Nat) (C : Nat → Nat → Bool) (x j : Nat) : FF a b c (FF a b c C) x j = FF (2 * a) (2 * b) (2 * c) C x j := by
  unfold FF
  rw [show x + a + a = x + 2 * a from by omega, show x + b + a = x + a + b from by omega, show x + b + b = x + 2 * b from by omega, show j + c + c = j + 2 * c from by omega]
  generalize C x j = p
  generalize C (x + a) j = q
  generalize C (x + b) (j + c) = r
  generalize C (x + a + b) (j + c) = s
  generalize C (x + 2 * a) j = t
  generalize C (x + 2 * b) (j + 2 * c) = u
  revert p q r s t u
  decide
theorem FF_step {a b c : Nat} {C D : Nat → Nat → Bool} (h : ∀ x j, FF a b c C x j = FF a b c D x j) : ∀ x j, FF (2 * a) (2 * b) (2 * c) C x j = FF (2 * a) (2 * b) (2 * c) D x j := by
  intro x j
  have e : FF a b c C = FF a b c D := funext fun x => funext fun j => h x j
  rw [← FF_two, ← FF_two, e]
def Pd (C : Nat → Nat → Bool) : Prop := (∀ x j, C (x + 5) j = C x j) ∧ ∀ x j, C x (j + 64) = C x j
theorem Pd.x {C : Nat → Nat → Bool} (h : Pd C) (k x j : Nat) : C (x + 5 * k) j = C x j := by
  induction k with
  | zero => rfl
  | succ k ih => rw [show x + 5 * (k + 1) = x + 5 * k + 5 from by omega, h.1, ih]
theorem Pd.j {C : Nat → Nat → Bool} (h : Pd C) (k x j : Nat) : C x (j + 64 * k) = C x j := by
  induction k with
  | zero => rfl
  | succ k ih => rw [show j + 64 * (k + 1) = j + 64 * k + 64 from by omega, h.2, ih]
theorem FF_inj {C D : Nat → Nat → Bool} (hC : Pd C) (hD : Pd D) (h : ∀ x j, FF 4 1 63 C x j = FF 4 1 63 D x j) : ∀ x j, C x j = D x j := by
  have h6 : ∀ x j, FF 256 64 4032 C x j = FF 256 64 4032 D x j := FF_step (FF_step (FF_step (FF_step (FF_step (FF_step h)))))
  have r : ∀ {C : Nat → Nat → Bool}, Pd C → ∀ x j, FF 256 64 4032 C x j = FF 1 4 0 C x j := by
    intro C hC x j
    unfold FF
    rw [show x + 256 = x + 1 + 5 * 51 from by omega, show x + 64 = x + 4 + 5 * 12 from by omega, show j + 4032 = j + 64 * 63 from by omega, hC.x, hC.x, hC.j]; rfl
  have h1 : ∀ x j, FF 1 4 0 C x j = FF 1 4 0 D x j := fun x j => by rw [← r hC, ← r hD]; exact h6 x j
  have h2 : ∀ x j, FF 2 8 0 C x j = FF 2 8 0 D x j := FF_step h1
  have b : ∀ {C : Nat → Nat → Bool}, Pd C → ∀ x j, FF 1 4 0 (FF 2 8 0 C) x j = C x j := by
    intro C hC x j
    unfold FF
    simp only [Nat.add_zero]
    rw [show x + 8 = x + 3 + 5 from by omega, show x + 1 + 2 = x + 3 from by omega, show x + 1 + 8 = x + 4 + 5 from by omega, show x + 4 + 2 = x + 1 + 5 from by omega, show x + 4 + 8 = x + 2 + 5 + 5 from by omega]
    simp only [hC.1]
    generalize C x j = p
    generalize C (x + 1) j = q
    generalize C (x + 2) j = s
    generalize C (x + 3) j = t
    generalize C (x + 4) j = u
    revert p q s t u
    decide
  intro x j
  have e : FF 2 8 0 C = FF 2 8 0 D := funext fun x => funext fun j => h2 x j
  rw [← b hC, ← b hD, e]

theorem bt_col {a : Nat → Int} (h : AW a) (x j : Nat) : bt (col a x) j = ((((bt (a x) j ^^ bt (a (x + 5)) j) ^^ bt (a (x + 10)) j) ^^ bt (a (x + 15)) j) ^^ bt (a (x + 20)) j) := by
  unfold col
  rw [bt_xr (xr_w _ _) (h _), bt_xr (xr_w _ _) (h _), bt_xr (xr_w _ _) (h _), bt_xr (h _) (h _)]
/-- The columns' bits, as a plane. -/
def pl (a : Nat → Int) (x j : Nat) : Bool := bt (col a (x % 5)) (j % 64)
theorem pl_pd (a : Nat → Int) : Pd (pl a) := ⟨fun x j => by unfold pl; rw [Nat.add_mod_right], fun x j => by unfold pl; rw [Nat.add_mod_right]⟩
theorem pl_mix {a : Nat → Int} (h : AW a) (x j : Nat) : pl (mix a) x j = FF 4 1 63 (pl a) x j := by
  show bt (col (mix a) (x % 5)) (j % 64) = ((bt (col a (x % 5)) (j % 64) ^^ bt (col a ((x + 4) % 5)) (j % 64)) ^^ bt (col a ((x + 1) % 5)) ((j + 63) % 64))
  have hx : x % 5 < 5 := Nat.mod_lt _ (by omega)
  have hj : j % 64 < 64 := Nat.mod_lt _ (by omega)
  rw [show (x + 4) % 5 = (x % 5 + 4) % 5 from by omega, show (x + 1) % 5 = (x % 5 + 1) % 5 from by omega, show (j + 63) % 64 = (j % 64 + 63) % 64 from by omega]
  generalize x % 5 = X at *
  generalize j % 64 = J at *
  rw [bt_col (mix_w a), bt_col h X]
  have m : ∀ y, y < 5 → bt (mix a (X + 5 * y)) J = (bt (a (X + 5 * y)) J ^^ (bt (col a ((X + 4) % 5)) J ^^ bt (col a ((X + 1) % 5)) ((J + 63) % 64))) := by
    intro y hy
    unfold mix
    rw [show (X + 5 * y) % 5 = X from by omega, bt_xr (h _) (dd_w a X)]
    unfold dd
    have e := bt_rl (col_w a ((X + 1) % 5)) 1 J hj
    rw [show ((1 : Nat) : Int) = 1 from rfl] at e
    rw [bt_xr (col_w _ _) (rl_w _ _ (col_w _ _)), e]
  have m0 := m 0 (by omega)
  have m1 := m 1 (by omega)
  have m2 := m 2 (by omega)
  have m3 := m 3 (by omega)
  have m4 := m 4 (by omega)
  simp only [Nat.mul_zero, Nat.add_zero, Nat.mul_one, Nat.reduceMul] at m0 m1 m2 m3 m4
  rw [m0, m1, m2, m3, m4]
  generalize bt (a X) J = p
  generalize bt (a (X + 5)) J = q
  generalize bt (a (X + 10)) J = r
  generalize bt (a (X + 15)) J = s
  generalize bt (a (X + 20)) J = t
  generalize bt (col a ((X + 4) % 5)) J = u
  generalize bt (col a ((X + 1) % 5)) ((J + 63) % 64) = v
  revert p q r s t u v
  decide
theorem xr_cancel {a b d : Int} (ha : W64 a) (hb : W64 b) (hd : W64 d) (h : xr a d = xr b d) : a = b := by
  refine bt_ext ha hb (fun j hj => ?_)
  have h1 := congrArg (fun z => bt z j) h
  rw [bt_xr ha hd, bt_xr hb hd] at h1
  generalize bt a j = p at *
  generalize bt b j = q at *
  generalize bt d j = r at *
  revert p q r
  decide
/-- Alike at the 25 lanes. -/
def E25 (a b : Nat → Int) : Prop := ∀ i, i < 25 → a i = b i
theorem mix_inj {a b : Nat → Int} (ha : AW a) (hb : AW b) (h : E25 (mix a) (mix b)) : E25 a b := by
  have hc : ∀ x, x < 5 → col (mix a) x = col (mix b) x := fun x hx => by
    unfold col
    rw [h x (by omega), h (x + 5) (by omega), h (x + 10) (by omega), h (x + 15) (by omega), h (x + 20) (by omega)]
  have hp : ∀ x j, pl a x j = pl b x j := FF_inj (pl_pd a) (pl_pd b) (fun x j => by
    rw [← pl_mix ha, ← pl_mix hb]
    unfold pl
    rw [hc _ (Nat.mod_lt _ (by omega))])
  have hcol : ∀ x, x < 5 → col a x = col b x := fun x hx => bt_ext (col_w _ _) (col_w _ _) (fun j hj => by
    have := hp x j
    unfold pl at this
    rwa [Nat.mod_eq_of_lt hx, Nat.mod_eq_of_lt hj] at this)
  intro i hi
  have h1 := h i hi
  unfold mix at h1
  have hd : dd a (i % 5) = dd b (i % 5) := by
    unfold dd
    rw [hcol _ (Nat.mod_lt _ (by omega)), hcol _ (Nat.mod_lt _ (by omega))]
  rw [hd] at h1
  exact xr_cancel (ha i) (hb i) (dd_w _ _) h1

/-- Where a lane of step 2 comes from, and how far it is turned. -/
def srl : List Nat := [0, 6, 12, 18, 24, 3, 9, 10, 16, 22, 1, 7, 13, 19, 20, 4, 5, 11, 17, 23, 2, 8, 14, 15, 21]
def aml : List Nat := [0, 300, 171, 21, 78, 28, 276, 3, 45, 253, 1, 6, 153, 136, 210, 91, 36, 10, 15, 120, 190, 55, 231, 105, 66]
theorem mv_at (a : Nat → Int) : ∀ i, i < 25 → 0 < i → mv a i = rl (a (srl.getD i 0)) (aml.getD i 0 : Nat) := by
  intro i hi h0
  match i, hi, h0 with
  | 1, _, _ => rfl
  | 2, _, _ => rfl
  | 3, _, _ => rfl
  | 4, _, _ => rfl
  | 5, _, _ => rfl
  | 6, _, _ => rfl
  | 7, _, _ => rfl
  | 8, _, _ => rfl
  | 9, _, _ => rfl
  | 10, _, _ => rfl
  | 11, _, _ => rfl
  | 12, _, _ => rfl
  | 13, _, _ => rfl
  | 14, _, _ => rfl
  | 15, _, _ => rfl
  | 16, _, _ => rfl
  | 17, _, _ => rfl
  | 18, _, _ => rfl
  | 19, _, _ => rfl
  | 20, _, _ => rfl
  | 21, _, _ => rfl
  | 22, _, _ => rfl
  | 23, _, _ => rfl
  | 24, _, _ => rfl
  | i + 25, h, _ => omega
theorem mv_zero (a : Nat → Int) : mv a 0 = a 0 := rfl
theorem mv_inj {a b : Nat → Int} (ha : AW a) (hb : AW b) (h : E25 (mv a) (mv b)) : E25 a b := by
  intro i hi
  by_cases h0 : i = 0
  · subst h0; exact h 0 (by omega)
  · obtain ⟨k, hk, hk0, e⟩ : ∃ k, k < 25 ∧ 0 < k ∧ srl.getD k 0 = i := (show ∀ i, i < 25 → i ≠ 0 → ∃ k, k < 25 ∧ 0 < k ∧ srl.getD k 0 = i from by decide) i hi h0
    have h1 := h k hk
    rw [mv_at a k hk hk0, mv_at b k hk hk0, e] at h1
    exact rl_inj (ha i) (hb i) _ h1
theorem chi5 : ∀ a b c d e p q r s t : Bool, (a ^^ (c && !b)) = (p ^^ (r && !q)) → (b ^^ (d && !c)) = (q ^^ (s && !r)) → (c ^^ (e && !d)) = (r ^^ (t && !s)) → (d ^^ (a && !e)) = (s ^^ (p && !t)) → (e ^^ (b && !a)) = (t ^^ (q && !p)) → a = p ∧ b = q ∧ c = r ∧ d = s ∧ e = t := by decide +kernel
theorem bt_jn {b : Nat → Int} (hb : AW b) (i j : Nat) (hj : j < 64) : bt (jn b i) j = (bt (b i) j ^^ (bt (b (n2 i)) j && !bt (b (n1 i)) j)) := by
  unfold jn
  rw [bt_xr (hb _) (dn_w _ _), bt_dn (hb _) (hb _) j hj]
theorem jn_inj {a b : Nat → Int} (ha : AW a) (hb : AW b) (h : E25 (jn a) (jn b)) : E25 a b := by
  have row : ∀ y, y < 5 → ∀ x, x < 5 → a (5 * y + x) = b (5 * y + x) := by
    intro y hy x hx
    refine bt_ext (ha _) (hb _) (fun j hj => ?_)
    have e : ∀ x, x < 5 → (bt (a (5 * y + x)) j ^^ (bt (a (5 * y + (x + 2) % 5)) j && !bt (a (5 * y + (x + 1) % 5)) j)) = (bt (b (5 * y + x)) j ^^ (bt (b (5 * y + (x + 2) % 5)) j && !bt (b (5 * y + (x + 1) % 5)) j)) := by
      intro x hx
      have h1 := congrArg (fun z => bt z j) (h (5 * y + x) (by omega))
      rw [bt_jn ha _ j hj, bt_jn hb _ j hj] at h1
      rwa [show n2 (5 * y + x) = 5 * y + (x + 2) % 5 from by unfold n2; omega, show n1 (5 * y + x) = 5 * y + (x + 1) % 5 from by unfold n1; omega] at h1
    have c := chi5 _ _ _ _ _ _ _ _ _ _ (e 0 (by omega)) (e 1 (by omega)) (e 2 (by omega)) (e 3 (by omega)) (e 4 (by omega))
    match x, hx with
    | 0, _ => exact c.1
    | 1, _ => exact c.2.1
    | 2, _ => exact c.2.2.1
    | 3, _ => exact c.2.2.2.1
    | 4, _ => exact c.2.2.2.2
  intro i hi
  have := row (i / 5) (by omega) (i % 5) (by omega)
  rwa [show 5 * (i / 5) + i % 5 = i from by omega] at this
theorem io_inj {c : Int} {a b : Nat → Int} (hc : W64 c) (ha : AW a) (hb : AW b) (h : E25 (io c a) (io c b)) : E25 a b := by
  intro i hi
  have h1 := h i hi
  unfold io at h1
  by_cases h0 : i = 0
  · subst h0
    rw [if_pos rfl, if_pos rfl] at h1
    exact xr_cancel (ha 0) (hb 0) hc h1
  · rwa [if_neg h0, if_neg h0] at h1
theorem rd_inj {c : Int} {a b : Nat → Int} (hc : W64 c) (ha : AW a) (hb : AW b) (h : E25 (rd c a) (rd c b)) : E25 a b :=
  mix_inj ha hb (mv_inj (mix_w a) (mix_w b) (jn_inj (mv_w (mix_w a)) (mv_w (mix_w b)) (io_inj hc (jn_w _) (jn_w _) h)))
theorem rds_inj {a b : Nat → Int} (ha : AW a) (hb : AW b) (t : Nat) (h : E25 (rds a t) (rds b t)) : E25 a b := by
  induction t with
  | zero => exact h
  | succ t ih => exact ih (rd_inj (RC_w t) (rds_w ha t) (rds_w hb t) h)
theorem perm_inj {a b : Nat → Int} (ha : AW a) (hb : AW b) (h : E25 (perm a) (perm b)) : E25 a b := rds_inj ha hb 24 h
end Go.Proofs.YtpohogpkfdebdaaGreatDoor.Kc
namespace Go.Proofs.YtpohogpkfdebdaaGreatDoor.Kc
open Go.ChangeShapes Go.WideShapes Go.ChangeAt Go.RowKit
open Go.Proofs.YtpohogpkfdebdaaGreatDoor.By Go.Proofs.YtpohogpkfdebdaaGreatDoor.Wd
/-- n words as cells. -/
def wl (n : Nat) (g : Nat → Int) : List Value := (List.range n).map fun i => Value.int .u64 (g i)
theorem wl_length (n : Nat) (g : Nat → Int) : (wl n g).length = n := by simp [wl]
theorem wl_get (n : Nat) (g : Nat → Int) (i : Nat) (h : i < n) : (wl n g)[i]? = some (.int .u64 (g i)) := by simp [wl, h]
theorem wl_one (n : Nat) (g : Nat → Int) : ∀ u ∈ wl n g, u.oneCell' = true := by
  intro u hu
  simp [wl] at hu
  obtain ⟨i, _, rfl⟩ := hu
  rfl
theorem wl_congr (n : Nat) (f g : Nat → Int) (h : ∀ i, i < n → f i = g i) : wl n f = wl n g := by
  apply List.map_congr_left
  intro i hi
  rw [h i (List.mem_range.1 hi)]
theorem wl_set (n : Nat) (g : Nat → Int) (k : Nat) (x : Int) : (wl n g).set k (.int .u64 x) = wl n (fun i => if i = k then x else g i) := by
  apply List.ext_getElem?
  intro i
  rw [List.getElem?_set]
  by_cases h : i < n
  · by_cases e : k = i
    · subst e; rw [wl_get _ _ _ h]; simp [wl_length, h]; simp [wl]
    · have e' : ¬ i = k := fun h => e h.symm
      rw [wl_get _ _ _ h, wl_get _ _ _ h]; simp [e, e']
  · rw [List.getElem?_eq_none (by rw [wl_length]; omega), List.getElem?_eq_none (by rw [wl_length]; omega)]
    simp only [wl_length]; split
    · rw [if_neg (by omega)]
    · rfl
/-- Block g holds just the cells cs. -/
def Blk (w : World) (g : Nat) (cs : List Value) (t : TypeId) : Prop := w.heap[g]? = some (.cells cs.toArray t (0, 0))
theorem Blk.lt {w : World} {g : Nat} {cs : List Value} {t : TypeId} (h : Blk w g cs t) : g < w.heap.size := (Array.getElem?_eq_some_iff.1 h).1
theorem Blk.cell {w : World} {g : Nat} {cs : List Value} {t : TypeId} (h : Blk w g cs t) (i : Nat) (v : Value) (hi : cs[i]? = some v) : w.cell? ⟨g, i, none⟩ = some v := by
  rw [cell_of_row w g i _ t (0, 0) h]; simpa using hi
theorem Blk.range {w : World} {g : Nat} {cs : List Value} {t : TypeId} (h : Blk w g cs t) (o : Nat) (vs : List Value) (hv : ∀ j v, vs[j]? = some v → cs[o + j]? = some v) : w.rangeAt g o vs := fun j v hj => h.cell _ _ (hv j v hj)
theorem Blk.frozen {w : World} {g : Nat} {cs : List Value} {t : TypeId} (h : Blk w g cs t) (i : Nat) : w.frozen? ⟨g, i, none⟩ = false := frozen_of_row w g i _ t h
theorem Blk.there {w : World} {g : Nat} {cs : List Value} {t : TypeId} (h : Blk w g cs t) (o n : Nat) (hn : o + n ≤ cs.length) : w.there g o n := fun j hj => by
  refine ⟨?_, h.frozen _⟩
  rw [h.cell (o + j) _ (List.getElem?_eq_getElem (by omega))]; rfl
theorem Blk.kept {w w' : World} {g : Nat} {cs : List Value} {t : TypeId} {S : Nat → Prop} (h : Blk w g cs t) (hk : Kp S w w') (hn : ¬ S g) : Blk w' g cs t := (hk.block g h.lt hn).trans h
theorem Blk.below {w w' : World} {g : Nat} {cs : List Value} {t : TypeId} (h : Blk w g cs t) (hb : Below w.heap.size w w') : Blk w' g cs t := h.kept (Kp.of_below (fun _ => False) hb) id
theorem Blk.alloc {w : World} {g : Nat} {cs : List Value} {t : TypeId} (h : Blk w g cs t) (o : Obj) : Blk (w.alloc o) g cs t := h.below (below_alloc w o)
theorem Blk.new (w : World) (cs : List Value) (t : TypeId) : Blk (w.alloc (.cells cs.toArray t)) w.heap.size cs t := heap_alloc_last w _
theorem Blk.set {w : World} {g : Nat} {cs : List Value} {t : TypeId} (h : Blk w g cs t) (i : Nat) (u : Value) : Blk (w.setCell ⟨g, i, none⟩ u) g (cs.set i u) t := by
  have hb : w.heap[g]? = some (.cells cs.toArray t (0, 0)) := h
  simp only [Blk, World.setCell]
  rw [Array.getElem?_modify]
  simp [hb]
theorem Blk.other {w : World} {g g' : Nat} {cs : List Value} {t : TypeId} (h : Blk w g cs t) (hn : g ≠ g') (i : Nat) (u : Value) : Blk (w.setCell ⟨g', i, none⟩ u) g cs t := h.kept (Kp.setCell g' i u) hn
theorem Blk.drewN {w : World} {g : Nat} {cs : List Value} {t : TypeId} (h : Blk w g cs t) (d : Nat) : Blk (w.drewN d) g cs t := h
theorem Blk.ne {w : World} {g g' : Nat} {cs cs' : List Value} {t t' : TypeId} (h : Blk w g cs t) (h' : Blk w g' cs' t') (ht : t ≠ t') : g ≠ g' := by
  intro e; subst e
  have := Option.some.inj (h.symm.trans h')
  simp only [Obj.cells.injEq] at this
  exact ht this.2.1
theorem rb_blk {w : World} {g n : Nat} {f : Nat → Int} {t : TypeId} (h : Blk w g (bl n f) t) (hf : ∀ i, 0 ≤ f i ∧ f i < 256) (hn : n ≤ maxLen) : By.RB w (.slice (some ⟨g, 0, none⟩) n n) n f :=
  ⟨hf, _, _, rfl, Nat.le_refl _, hn, .inr ⟨g, 0, rfl, fun i hi => by rw [Nat.zero_add]; exact h.cell i _ (bl_get n f i hi)⟩⟩
theorem Kp.setRow {w : World} (g : Nat) (vs : Array Value) : Kp (fun k => k = g) w (w.setRow g vs) :=
  ⟨rfl, rfl, rfl, by simp [World.setRow], fun k _ hn => by simp only [World.setRow]; rw [Array.getElem?_modify, if_neg (fun e => hn e.symm)]⟩
theorem Blk.newAt (w : World) (a : Array Value) (cs : List Value) (t : TypeId) (g : Nat) (hg : g = w.heap.size) (ha : a = cs.toArray) : Blk (w.alloc (.cells a t)) g cs t := by
  subst hg; subst ha; exact Blk.new w cs t
theorem size_alloc (w : World) (o : Obj) : (w.alloc o).heap.size = w.heap.size + 1 := by simp
theorem below_set {B : Nat} {w w' : World} (h : Below B w w') (g i : Nat) (u : Value) (hg : B ≤ g) (hB : B ≤ w'.heap.size) : Below B w (w'.setCell ⟨g, i, none⟩ u) :=
  h.trans ((Kp.setCell g i u).below hB (fun k hk e => by omega))
theorem below_row {B : Nat} {w w' : World} (h : Below B w w') (g : Nat) (vs : Array Value) (hg : B ≤ g) (hB : B ≤ w'.heap.size) : Below B w (w'.setRow g vs) :=
  h.trans ((Kp.setRow g vs).below hB (fun k hk e => by omega))
theorem Blk.load {P : Program} {w : World} {g : Nat} {cs : List Value} {t ty : TypeId} (h : Blk w g cs t) (d : TypeDesc) (hu : P.underlying ty = some d) (hd : d.isRow = true) (hi : (P.info? ty).map (·.size) = some cs.length) :
    (Instr.loadAt ty (.pointer (some ⟨g, 0, none⟩))).run P w = .ok (.agg cs.toArray) w :=
  run_loadAt_mid w g 0 ty cs d (fun j v hv => by rw [Nat.zero_add]; exact h.cell j v hv) hu hd hi
theorem Blk.row {w : World} {g : Nat} {cs vs : List Value} {t : TypeId} (h : Blk w g cs t) : Blk (w.setRow g vs.toArray) g vs t := by
  have hb : w.heap[g]? = some (.cells cs.toArray t (0, 0)) := h
  simp only [Blk, World.setRow]
  rw [Array.getElem?_modify]
  simp [hb]
theorem Blk.store {P : Program} {w : World} {g : Nat} {cs vs : List Value} {t ty : TypeId} (h : Blk w g cs t) (hi : (P.info? ty).map (·.size) = some vs.length) (hl : cs.length = vs.length) (h1 : ∀ u ∈ vs, u.oneCell' = true) :
    (Instr.storeAt ty (.pointer (some ⟨g, 0, none⟩)) (.agg vs.toArray)).run P w = .ok () (w.setRow g vs.toArray) := by
  simp only [Instr.storeAt, Instr.sureAddr, Sem.run_bind, Sem.run_pure, Result.andThen_ok]
  exact run_storeVar_row w g t ty cs.toArray vs.toArray h (by simpa using hi) (by simpa using hl) (all_oneCell_toArray h1)
def LDt (a : Addr) : Sem Value := loadVar 212 a
def SVt (a : Addr) (v : Value) : Sem Unit := storeVar 212 a v
@[go_sem ↓ high] theorem ldt (a : Addr) : loadVar 212 a = LDt a := rfl
@[go_sem ↓ high] theorem svt (a : Addr) (v : Value) : storeVar 212 a v = SVt a v := rfl
theorem infot : (Tryz.prog.info? 212).map (·.size) = some 25 := by kernel_rfl
theorem LDt_run {w : World} {g o : Nat} {cs : List Value} (h : w.rangeAt g o cs) (hl : cs.length = 25) : (LDt ⟨g, o, none⟩).run Tryz.prog w = .ok (.agg cs.toArray) w :=
  run_loadVar_mid w g o _ cs _ h Tryz.underlying212 rfl (by rw [hl]; exact infot)
theorem SVt_run {w : World} {g o : Nat} {cs : List Value} (h : w.there g o 25) (hl : cs.length = 25) (h1 : ∀ u ∈ cs, u.oneCell' = true) : (SVt ⟨g, o, none⟩ (.agg cs.toArray)).run Tryz.prog w = .ok () (w.setCells g o cs) :=
  run_storeVar_mid w g o _ cs.toArray (by simpa [hl] using h) (by simpa [hl] using infot) (all_oneCell_toArray h1)
def LDk (a : Addr) : Sem Value := loadVar 290 a
def SVk (a : Addr) (v : Value) : Sem Unit := storeVar 290 a v
@[go_sem ↓ high] theorem ldk (a : Addr) : loadVar 290 a = LDk a := rfl
@[go_sem ↓ high] theorem svk (a : Addr) (v : Value) : storeVar 290 a v = SVk a v := rfl
theorem infok : (Tryz.prog.info? 290).map (·.size) = some 25 := by kernel_rfl
theorem LDk_run {w : World} {g o : Nat} {cs : List Value} (h : w.rangeAt g o cs) (hl : cs.length = 25) : (LDk ⟨g, o, none⟩).run Tryz.prog w = .ok (.agg cs.toArray) w :=
  run_loadVar_mid w g o _ cs _ h Tryz.underlying290 rfl (by rw [hl]; exact infok)
theorem SVk_run {w : World} {g o : Nat} {cs : List Value} (h : w.there g o 25) (hl : cs.length = 25) (h1 : ∀ u ∈ cs, u.oneCell' = true) : (SVk ⟨g, o, none⟩ (.agg cs.toArray)).run Tryz.prog w = .ok () (w.setCells g o cs) :=
  run_storeVar_mid w g o _ cs.toArray (by simpa [hl] using h) (by simpa [hl] using infok) (all_oneCell_toArray h1)
def LDb (a : Addr) : Sem Value := loadVar 167 a
def SVb (a : Addr) (v : Value) : Sem Unit := storeVar 167 a v
@[go_sem ↓ high] theorem ldb (a : Addr) : loadVar 167 a = LDb a := rfl
@[go_sem ↓ high] theorem svb (a : Addr) (v : Value) : storeVar 167 a v = SVb a v := rfl
theorem infob : (Tryz.prog.info? 167).map (·.size) = some 200 := by kernel_rfl
theorem LDb_run {w : World} {g o : Nat} {cs : List Value} (h : w.rangeAt g o cs) (hl : cs.length = 200) : (LDb ⟨g, o, none⟩).run Tryz.prog w = .ok (.agg cs.toArray) w :=
  run_loadVar_mid w g o _ cs _ h Tryz.underlying167 rfl (by rw [hl]; exact infob)
theorem SVb_run {w : World} {g o : Nat} {cs : List Value} (h : w.there g o 200) (hl : cs.length = 200) (h1 : ∀ u ∈ cs, u.oneCell' = true) : (SVb ⟨g, o, none⟩ (.agg cs.toArray)).run Tryz.prog w = .ok () (w.setCells g o cs) :=
  run_storeVar_mid w g o _ cs.toArray (by simpa [hl] using h) (by simpa [hl] using infob) (all_oneCell_toArray h1)
theorem results_cell1 {P : Program} {fn : Func} {p : Tmp} {ty : TypeId} {tmps : Array Value} {w : World} {a : Addr} {v : Value} (h : fn.results = #[.cell p ty]) (ha : tmps.getD p undef = .pointer (some a)) (hl : (loadVar ty a).run P w = .ok v w) :
    (results fn tmps).run P w = .ok v w := by
  have e1 : tmps[p]?.getD undef = .pointer (some a) := by rw [← ha]; simp [Array.getD_eq_getD_getElem?]
  simp only [results, h]
  simp [e1, asAddr, hl]
/-- Cells o, o + 1, .. of a list put in place of what was there. -/
def put (cs : List Value) (o : Nat) : List Value → List Value
  | [] => cs
  | v :: r => put (cs.set o v) (o + 1) r
theorem put_length (cs vs : List Value) (o : Nat) : (put cs o vs).length = cs.length := by
  induction vs generalizing cs o with
  | nil => rfl
  | cons v r ih => simp [put, ih]
theorem Blk.put {w : World} {g : Nat} {cs : List Value} {t : TypeId} (h : Blk w g cs t) (o : Nat) (vs : List Value) : Blk (w.setCells g o vs) g (put cs o vs) t := by
  induction vs generalizing w cs o with
  | nil => exact h
  | cons v r ih => exact ih (h.set o v) (o + 1)
theorem put_get (cs vs : List Value) (o i : Nat) (h : o + vs.length ≤ cs.length) : (put cs o vs)[i]? = if o ≤ i ∧ i < o + vs.length then vs[i - o]? else cs[i]? := by
  induction vs generalizing cs o with
  | nil => simp [Kc.put]; omega
  | cons v r ih =>
    simp only [List.length_cons] at h ⊢
    rw [Kc.put, ih _ _ (by simp; omega), List.getElem?_set]
    by_cases h1 : o = i
    · subst h1
      rw [if_neg (by omega), if_pos rfl, if_pos (by omega), if_pos (by omega)]; simp
    · by_cases h2 : o + 1 ≤ i ∧ i < o + 1 + r.length
      · rw [if_pos h2, if_pos (by omega)]
        rw [show i - o = (i - (o + 1)) + 1 from by omega]; rfl
      · rw [if_neg h2, if_neg h1, if_neg (by omega)]
theorem put_all (cs vs : List Value) (h : cs.length = vs.length) : put cs 0 vs = vs := by
  apply List.ext_getElem?
  intro i
  rw [put_get cs vs 0 i (by omega)]
  split
  · rfl
  · rw [List.getElem?_eq_none (by omega), List.getElem?_eq_none (by omega)]
theorem Kp.setCells {w : World} (g o : Nat) (vs : List Value) : Kp (fun k => k = g) w (w.setCells g o vs) := by
  induction vs generalizing w o with
  | nil => exact Kp.refl _ _
  | cons v r ih => exact (Kp.setCell g o v).trans (ih (o + 1)) (fun _ _ e => e)
theorem below_cells {B : Nat} {w w' : World} (h : Below B w w') (g o : Nat) (vs : List Value) (hg : B ≤ g) (hB : B ≤ w'.heap.size) : Below B w (w'.setCells g o vs) :=
  h.trans ((Kp.setCells g o vs).below hB (fun k hk e => by omega))
end Go.Proofs.YtpohogpkfdebdaaGreatDoor.Kc
namespace Go.Proofs.YtpohogpkfdebdaaGreatDoor.Kc
open Go.ChangeShapes Go.WideShapes Go.ChangeAt Go.RowKit
open Go.Proofs.YtpohogpkfdebdaaGreatDoor.By
theorem zeroCells_bl (m : Nat) : Builtin.zeroCells #[Value.int .u8 0] m = (bl m (fun _ => 0)).toArray := by
  apply Array.ext'
  apply List.ext_getElem?
  intro i
  by_cases h : i < m
  · rw [bl_get m _ i h]
    simp [Builtin.zeroCells, h, Nat.mod_one]
  · rw [List.getElem?_eq_none (by simp [Builtin.zeroCells]; omega), List.getElem?_eq_none (by rw [bl_length]; omega)]
theorem run_zeros (w : World) (ty : TypeId) (base g n cap m : Nat) (f : Nat → Int) (hown : By.Own w base (.slice (some ⟨g, 0, none⟩) n cap) n f) (h : n + m ≤ 140737488355328) (hb : base ≤ w.heap.size) :
    ∃ v' w', (Builtin.append_ #[23, 3] ty #[.slice (some ⟨g, 0, none⟩) n cap, .int .i64 (m : Int)]).run Tryz.prog w = .ok v' w' ∧ By.Own w' base v' (n + m) (cat n f (fun _ => 0)) ∧ w.grownBy w' (some g) := by
  obtain ⟨i0, hi, hz0, hz1, hz2⟩ := info_parts info5
  have hcat : bl n f ++ bl m (fun _ => 0) = bl (n + m) (cat n f (fun _ => 0)) := bl_append n m f _
  obtain ⟨hf, hl, hc | ⟨g', cap', cur, e, hbg, hg, hnc, hcm, hcs, htake⟩⟩ := hown
  · cases hc.1
  · simp only [Value.slice.injEq, Option.some.injEq, Addr.mk.injEq, and_true, true_and] at e
    obtain ⟨rfl, rfl⟩ := e
    rw [Nat.mul_one] at hcs htake
    have hw : IntKind.i64.wrap (m : Int) = m := by rw [IntKind.wrap_i64]; omega
    have hneg : ¬ ((m : Int) < 0) := by omega
    have hbk : Blk w g cur.toList 5 := by show w.heap[g]? = _; rw [hg]
    have h48i : ¬ (281474976710656 < (m : Int)) := by omega
    have htn : Tryz.prog.underlying 3 = some (.int .i64) := Tryz.underlying3
    by_cases hroom : n + m ≤ cap
    · have hst := run_storeCells_cells (P := Tryz.prog) g n (bl m (fun _ => 0)) 0 w (fun j hj => by rw [bl_length] at hj; exact (hbk.there n m (by simp; omega) j hj).1) (fun j hj => hbk.frozen _) (bl_one m _)
      refine ⟨.slice (some ⟨g, 0, none⟩) (n + m) cap, w.setCells g n (bl m (fun _ => 0)), ?_, ⟨cat_bound hf (fun _ => by decide), by rw [bl_length]; omega, .inr ⟨g, cap, (put cur.toList n (bl m (fun _ => 0))).toArray, rfl, hbg, hbk.put n _, hroom, hcm, ?_, ?_⟩⟩, ?_⟩
      · by_cases hm : m = 0
        · subst hm
          have hw0 : IntKind.i64.wrap 0 = 0 := by rw [IntKind.wrap_i64]; rfl
          simp [Builtin.append_, run_underlying Tryz.underlying23, run_underlying htn, sizeOf, typeInfo, zeroValue, hi, hz0, hz2, asInt, asIntOf, hw0, hnc, storeCells, World.setCells, bl]
        · have hns : ¬ (m * 1 = 0) := by omega
          simp [Builtin.append_, run_underlying Tryz.underlying23, run_underlying htn, sizeOf, typeInfo, zeroValue, hi, hz0, hz1, hz2, asInt, asIntOf, hw, hneg, h48i, hroom, hm, Value.cells, zeroCells_bl, By.add_plain]
          rw [Nat.add_zero] at hst
          rw [hst]
          rfl
      · simp [put_length, hcs]
      · rw [← hcat, Nat.mul_one]
        apply List.ext_getElem?
        intro i
        rw [List.getElem?_take]
        by_cases hi : i < n + m
        · rw [if_pos hi]
          show (put cur.toList n (bl m (fun _ => 0)))[i]? = _
          rw [put_get _ _ _ _ (by rw [bl_length]; simp; omega), bl_length]
          by_cases h2 : i < n
          · rw [if_neg (by omega), List.getElem?_append_left (by rw [bl_length]; omega), ← htake, List.getElem?_take, if_pos h2]
          · rw [if_pos (by omega), List.getElem?_append_right (by rw [bl_length]; omega), bl_length]
        · rw [if_neg hi, List.getElem?_eq_none (by rw [List.length_append, bl_length, bl_length]; omega)]
      · have hk := Kp.setCells (w := w) g n (bl m (fun _ => 0))
        exact ⟨hk.os, hk.tape, hk.output, hk.size, fun k hk' hne => hk.block k hk' (fun e => hne (by rw [show k = g from e]))⟩
    · have hge := grownCap_ge w (n + m) cap 5
      have hcm2 : grownCap w (n + m) cap 5 ≤ maxLen := grownCap_le_maxLen w (n + m) cap 5 (by simp [maxLen]; omega)
      have hfo := run_firstCells_some (P := Tryz.prog) w.drew 1 n ⟨g, 0, none⟩ n cap (bl n f) (by rw [bl_length]; omega) (fun j v hj => by
        obtain ⟨hj1, rfl⟩ := bl_get_inv _ _ _ _ hj
        rw [By.add_plain, Nat.zero_add]
        refine (hbk.drewN 1).cell j _ ?_
        have : (cur.toList.take n)[j]? = some (.int .u8 (f j)) := by rw [htake]; exact bl_get n f j hj1
        rwa [List.getElem?_take, if_pos hj1] at this)
      have h63' : ¬ (9223372036854775807 < ((n : Int) + (m : Int))) := by omega
      have h48' : ¬ (281474976710656 < Builtin.nextslicecap (n + m) cap * 1) := by
        have := growslice_fits (need := n + m) (old := cap) (bytes := 1) (by omega) (by omega); omega
      have hm : m ≠ 0 := by omega
      have hns : ¬ (m * 1 = 0) := by omega
      refine ⟨.slice (some ⟨w.heap.size, 0, none⟩) (n + m) (grownCap w (n + m) cap 5), w.drew.alloc (.cells ((bl n f).toArray ++ (bl m (fun _ => 0)).toArray ++ Builtin.zeroCells #[Value.int .u8 0] (grownCap w (n + m) cap 5 - (n + m))) 5), ?_, ⟨cat_bound hf (fun _ => by decide), by rw [bl_length]; omega, .inr ⟨w.heap.size, _, _, rfl, hb, heap_alloc_last w.drew _, hge, hcm2, ?_, ?_⟩⟩, ?_⟩
      · rw [Nat.mul_one] at h48'
        simp [Builtin.append_, run_underlying Tryz.underlying23, run_underlying htn, sizeOf, typeInfo, zeroValue, hi, hz0, hz1, hz2, asInt, asIntOf, hw, hneg, h48i, hroom, hm, Value.cells, h63', h48', Question.forced, hfo, newRow, grownCap, zeroCells_bl]
      · simp [size_zeroCells, bl_length]; omega
      · rw [← hcat, Nat.mul_one]
        simp only [Array.toList_append, List.append_assoc]
        rw [← List.append_assoc]
        rw [show n + m = (bl n f ++ bl m (fun _ => 0)).length from by rw [List.length_append, bl_length, bl_length]]
        exact List.take_left
      · exact ⟨rfl, rfl, rfl, by simp, fun k hk _ => heap_alloc_old w.drew _ hk⟩
/-- The same within a walk. -/
theorem wpList_zeros {w : World} {ops : Array Oper} {rest : List Oper} {o : Oper} {a : Act} {Q : Exit → Act → World → Prop} (hgd : o.guard = none) (s x : Operand)
    (ho : o.op = .call { callee := .builtin .append, args := #[s, x], argTypes := #[23, 3] })
    (base n m : Nat) (v : Value) (f : Nat → Int) (hs : a.eval s = v) (hv : By.Own w base v n f) (hx : a.eval x = .int .i64 (m : Int)) (h0 : 0 < n) (hn : n + m ≤ 140737488355328) (hb : base ≤ w.heap.size)
    (h : ∀ v' w', By.Own w' base v' (n + m) (cat n f (fun _ => 0)) → w.grownBy w' v.ownBlock → wpList Tryz.prog ops Q rest (a.put o.dst v') w') : wpList Tryz.prog ops Q (o :: rest) a w := by
  obtain ⟨g, cap, rfl, -⟩ := own_cells hv h0
  obtain ⟨v', w', hr, ho', hg'⟩ := run_zeros w o.type base g n cap m f hv hn hb
  exact Lib.wpList_append_run w hgd s x _ _ ho _ _ hs hx v' w' hr (h v' w' ho' hg')
end Go.Proofs.YtpohogpkfdebdaaGreatDoor.Kc
namespace Go.Proofs.YtpohogpkfdebdaaGreatDoor.Kc
open Go.ChangeShapes Go.WideShapes Go.ChangeAt Go.RowKit
open Go.Proofs.YtpohogpkfdebdaaGreatDoor.By
set_option maxHeartbeats 1000000 in
theorem counted1 (n : Nat) (w : World) (hn : n < 9223372036854775808) :
    Calls Tryz.prog 212 #[.int .i64 n] w fun e w' => ∃ v, e = .returned v ∧ By.Own w' w.heap.size v (nb n + 1) (lf n) ∧ Below w.heap.size w w' := by
  have HN := hid hn
  clear hn
  go_enter Tryz.func212, Tryz.ntmps212
  go_wp2_with fail
  refine (digits1 n w HN.out).mono ?_
  rintro e w1 ⟨v, rfl, hown, hbel⟩
  obtain ⟨k, hk⟩ : ∃ k, nb n = k := ⟨_, rfl⟩
  have hk9 : k ≤ 9 := by rw [← hk]; exact (nb_pos n).2
  have LF : Hid (cat 1 (fun _ => (k : Int)) (dnn n) = lf n) := by show cat 1 (fun _ => (k : Int)) (dnn n) = lf n; rw [← hk]; rfl
  rw [hk] at hown
  have HK := hid hk
  obtain ⟨a, c, rfl⟩ := own_slice hown
  have HO := hid hown
  have HB := hid hbel
  clear hown hbel hk
  have kw : (k : Int) % 256 = (k : Int) := by omega
  have OV := hid (own_below HO.out (below_alloc w1 (.cells #[.int .u8 (k : Int)] 5)))
  go_wp2_with (at_builtin; go_must (refine wpList_cat rfl _ _ rfl w1.heap.size 1 k _ _ (fun _ => (k : Int)) (dnn n) rfl (own_one w1 _ (by omega)) rfl OV.out.reads (by omega) (by simp) ?_))
  intro v' w2 hown hgrow
  have HS : Hid (w.heap.size ≤ w1.heap.size) := HB.out.size
  have R1 : Hid (By.Own w2 w.heap.size v' (k + 1) (lf n)) := by
    have h1 := own_mono hown HS.out
    rw [LF.out, Nat.add_comm] at h1
    exact h1
  have R2 : Hid (Below w.heap.size w w2) := (HB.out.alloc HS.out _).grown hgrow (by simp; have := HS.out; omega) (by intro k hk; simp [Value.ownBlock] at hk; have := HS.out; omega)
  clear hown hgrow HO HB OV HS LF
  go_wp2
  go_ret
  rw [HK.out]
  exact ⟨_, rfl, R1.out, R2.out⟩
theorem rightBad (n : Int) (w : World) (hn : n < 0) :
    Calls Tryz.prog 252 #[.int .i64 n] w fun e w' => e = .returned (.tuple #[.slice none 0 0, .int .i64 2]) ∧ w' = w := by
  go_enter Tryz.func252, Tryz.ntmps252
  go_wp2
  go_ret2
  exact ⟨rfl, rfl⟩
set_option maxHeartbeats 1000000 in
theorem rightOk (n : Nat) (w : World) (hn : n < 9223372036854775808) :
    Calls Tryz.prog 252 #[.int .i64 n] w fun e w' => ∃ v, e = .returned (.tuple #[v, .int .i64 0]) ∧ By.Own w' w.heap.size v (nb n + 1) (rt n) ∧ Below w.heap.size w w' := by
  have HN := hid hn
  clear hn
  go_enter Tryz.func252, Tryz.ntmps252
  go_wp2_with fail
  refine (digits1 n w HN.out).mono ?_
  rintro e w1 ⟨v, rfl, hown, hbel⟩
  obtain ⟨k, hk⟩ : ∃ k, nb n = k := ⟨_, rfl⟩
  have hk9 : k ≤ 9 := by rw [← hk]; exact (nb_pos n).2
  have LF : Hid (cat k (dnn n) (fun _ => (k : Int)) = rt n) := by show cat k (dnn n) (fun _ => (k : Int)) = rt n; rw [← hk]; rfl
  rw [hk] at hown
  have HK := hid hk
  obtain ⟨a, c, rfl⟩ := own_slice hown
  have HO := hid hown
  have HB := hid hbel
  clear hown hbel hk
  have kw : (k : Int) % 256 = (k : Int) := by omega
  have OV := hid (own_below HO.out (below_alloc w1 (.cells #[.int .u8 (k : Int)] 5)))
  have HS : Hid (w.heap.size ≤ w1.heap.size) := HB.out.size
  have OL := hid (own_one w1 (k : Int) (by omega))
  go_wp2_with (at_builtin; go_must (refine wpList_cat rfl _ _ rfl w.heap.size k 1 _ _ (dnn n) (fun _ => (k : Int)) rfl OV.out rfl OL.out.reads (by omega) (by simp; have := HS.out; omega) ?_))
  intro v' w2 hown hgrow
  have R1 : Hid (By.Own w2 w.heap.size v' (k + 1) (rt n)) := by
    rw [LF.out] at hown
    exact hown
  have R2 : Hid (Below w.heap.size w w2) := (HB.out.alloc HS.out _).grown hgrow (by simp; have := HS.out; omega) (own_row OV.out)
  clear hown hgrow HO HB OV HS LF OL
  go_wp2
  go_ret2
  rw [HK.out]
  exact ⟨_, rfl, R1.out, R2.out⟩
/-- String: of a list that reads as m bytes f. -/
theorem string1 (m : Nat) (f : Nat → Int) (p : Value) (w : World) (hr : By.RB w p m f) (hm : m ≤ 140737488355000) :
    Calls Tryz.prog 160 #[p] w fun e w' => ∃ v, e = .returned v ∧ By.Own w' w.heap.size v (sn m) (sg m f) ∧ Below w.heap.size w w' := by
  have HR := hid hr
  obtain ⟨_, a, cap, rfl, -, -, -⟩ := hr
  go_enter Tryz.func160, Tryz.ntmps160
  go_wp2_with fail
  refine (counted1 (8 * m) w (by omega)).mono ?_
  rintro e w1 ⟨v, rfl, hown, hbel⟩
  obtain ⟨k, hk⟩ : ∃ k, nb (8 * m) = k := ⟨_, rfl⟩
  have hk9 : k ≤ 9 := by rw [← hk]; exact (nb_pos _).2
  have LF : Hid (cat (k + 1) (lf (8 * m)) f = sg m f) := by show cat (k + 1) (lf (8 * m)) f = sg m f; rw [← hk]; rfl
  have HK : Hid (k + 1 + m = sn m) := by show k + 1 + m = sn m; rw [← hk]; rfl
  rw [hk] at hown
  have HO := hid hown
  have HB := hid hbel
  have RP := hid (HR.out.below hbel)
  clear hown hbel hk
  go_wp2_with (at_builtin; go_must (refine wpList_cat rfl _ _ rfl w.heap.size (k + 1) m _ _ _ f rfl HO.out rfl RP.out (by omega) HB.out.size ?_))
  intro v' w2 hown hgrow
  have R1 : Hid (By.Own w2 w.heap.size v' (sn m) (sg m f)) := by
    rw [LF.out, HK.out] at hown
    exact hown
  have R2 : Hid (Below w.heap.size w w2) := below_grow HB.out HB.out.size HO.out hgrow
  clear hown hgrow HO HB RP LF
  go_wp2
  go_ret
  exact ⟨_, rfl, R1.out, R2.out⟩
/-- padded: of a width that may be. -/
theorem padded1 (m W : Nat) (f : Nat → Int) (p : Value) (w : World) (hr : By.RB w p m f) (hm : m ≤ 140737488355000) (h1 : 1 ≤ W) (h2 : W ≤ 256) :
    Calls Tryz.prog 211 #[p, .int .i64 W] w fun e w' => ∃ v, e = .returned v ∧ By.Own w' w.heap.size v (pN m W) (pg m f W) ∧ Below w.heap.size w w' := by
  have HR := hid hr
  obtain ⟨_, a, cap, rfl, -, -, -⟩ := hr
  go_enter Tryz.func211, Tryz.ntmps211
  go_wp2_with fail
  refine (counted1 W w (by omega)).mono ?_
  rintro e w1 ⟨v, rfl, hown, hbel⟩
  obtain ⟨k, hk⟩ : ∃ k, nb W = k := ⟨_, rfl⟩
  have hk9 : k ≤ 9 := by rw [← hk]; exact (nb_pos _).2
  have HK : Hid (k + 1 + m = pn m W) := by show k + 1 + m = pn m W; rw [← hk]; rfl
  have HKK := hid hk
  rw [hk] at hown
  have HO := hid hown
  have HB := hid hbel
  have RP := hid (HR.out.below hbel)
  clear hown hbel hk
  go_wp2_with (at_builtin; go_must (refine wpList_cat rfl _ _ rfl w.heap.size (k + 1) m _ _ _ f rfl HO.out rfl RP.out (by omega) HB.out.size ?_))
  intro v' w2 hown hgrow
  rw [HK.out] at hown
  obtain ⟨N, hN⟩ : ∃ N, pn m W = N := ⟨_, rfl⟩
  have hN2 : N ≤ 140737488355010 := by rw [← hN, ← HK.out]; omega
  have hN3 : 1 ≤ N := by rw [← hN, ← HK.out]; omega
  rw [hN] at hown
  have HNN := hid hN
  have O2 := hid hown
  have B2 := hid (below_grow HB.out HB.out.size HO.out hgrow)
  obtain ⟨a2, c2, rfl⟩ := own_slice hown
  clear hown hgrow HO HB RP hN
  have tm : ((N : Int)).tmod (W : Int) = ((N % W : Nat) : Int) := by rw [Int.tmod_eq_emod_of_nonneg (by omega)]; rfl
  have tm2 : ((N : Int)) % (W : Int) = ((N % W : Nat) : Int) := rfl
  have nW : ¬ (W : Int) = 0 := by omega
  have nW' : ¬ W = 0 := by omega
  obtain ⟨M, hM⟩ : ∃ M, N % W = M := ⟨_, rfl⟩
  have hMW : M < W := by rw [← hM]; exact Nat.mod_lt _ (by omega)
  rw [hM] at tm tm2
  have HM := hid hM
  clear hM
  by_cases hz : M = 0
  · subst hz
    have R1 : Hid (By.Own w2 w.heap.size (.slice a2 N c2) (pN m W) (pg m f W)) := by
      have e0 : pz m W = 0 := pz_zero m W (by rw [HNN.out]; exact HM.out)
      have e1 : pN m W = N := by unfold pN; rw [e0, HNN.out]; rfl
      rw [e1]
      refine own_congr O2.out (pg_b HR.out.1) (fun i hi => ?_)
      unfold pg
      rw [HNN.out, HKK.out]
      show _ = cat N _ _ i
      unfold cat
      rw [if_pos hi]
    clear O2 HM
    go_wp2
    go_ret
    exact ⟨_, rfl, R1.out, B2.out⟩
  · have e0 : Hid (pz m W = W - M) := by
      have := pz_some m W (by omega) (by rw [HNN.out, HM.out]; exact hz)
      rw [HNN.out, HM.out] at this
      exact this
    have hz2 : ¬ (M : Int) = 0 := by omega
    have eW : ((W : Int) - (M : Int)) = ((W - M : Nat) : Int) := by omega
    go_wp2_with (at_builtin; go_must (refine wpList_zeros rfl _ _ rfl w.heap.size N (W - M) _ _ rfl O2.out rfl (by omega) (by omega) B2.out.size ?_))
    intro v3 w3 hown3 hgrow3
    have R1 : Hid (By.Own w3 w.heap.size v3 (pN m W) (pg m f W)) := by
      have e1 : pN m W = N + (W - M) := by unfold pN; rw [e0.out, HNN.out]
      have e2 : pg m f W = cat N (cat (k + 1) (lf W) f) (fun _ => 0) := by unfold pg; rw [HNN.out, HKK.out]
      rw [e1, e2]
      exact hown3
    have R2 : Hid (Below w.heap.size w w3) := below_grow B2.out B2.out.size O2.out hgrow3
    clear hown3 hgrow3 O2 B2
    go_wp2
    go_ret
    exact ⟨_, rfl, R1.out, R2.out⟩
theorem padBad (W : Int) (p : Value) (w : World) (h : W < 1 ∨ 256 < W) :
    Calls Tryz.prog 159 #[p, .int .i64 W] w fun e w' => e = .returned (.tuple #[.slice none 0 0, .int .i64 2]) ∧ w' = w := by
  by_cases h1 : W < 1
  · go_enter Tryz.func159, Tryz.ntmps159
    go_wp2
    go_ret2
    exact ⟨rfl, rfl⟩
  · have h2 : 256 < W := by omega
    go_enter Tryz.func159, Tryz.ntmps159
    go_wp2
    go_ret2
    exact ⟨rfl, rfl⟩
theorem padOk (m W : Nat) (f : Nat → Int) (p : Value) (w : World) (hr : By.RB w p m f) (hm : m ≤ 140737488355000) (h1 : 1 ≤ W) (h2 : W ≤ 256) :
    Calls Tryz.prog 159 #[p, .int .i64 W] w fun e w' => ∃ v, e = .returned (.tuple #[v, .int .i64 0]) ∧ By.Own w' w.heap.size v (pN m W) (pg m f W) ∧ Below w.heap.size w w' := by
  have HR := hid hr
  clear hr
  have n1 : ¬ (W : Int) < 1 := by omega
  have n2 : ¬ (256 : Int) < W := by omega
  go_enter Tryz.func159, Tryz.ntmps159
  go_wp2_with fail
  refine (padded1 m W f p w HR.out hm h1 h2).mono ?_
  rintro e w1 ⟨v, rfl, hown, hbel⟩
  have HO := hid hown
  have HB := hid hbel
  clear hown hbel
  go_wp2
  go_ret2
  exact ⟨_, rfl, HO.out, HB.out⟩
/- The document's. -/
theorem rleftBad (n : Int) (w : World) (hn : n < 0) :
    Calls Tryz.prog 124 #[.int .i64 n] w fun e w' => e = .returned (.tuple #[.slice none 0 0, .int .i64 2]) ∧ w' = w := by
  go_enter Tryz.func124, Tryz.ntmps124
  go_wp2
  go_ret2
  exact ⟨rfl, rfl⟩
set_option maxHeartbeats 1000000 in
theorem rleftOk (n : Nat) (w : World) (hn : n < 9223372036854775808) :
    Calls Tryz.prog 124 #[.int .i64 n] w fun e w' => ∃ v, e = .returned (.tuple #[v, .int .i64 0]) ∧ By.Own w' w.heap.size v (nb n + 1) (lf n) ∧ Below w.heap.size w w' := by
  have HN := hid hn
  clear hn
  go_enter Tryz.func124, Tryz.ntmps124
  go_wp2_with fail
  refine (number1 n w HN.out).mono ?_
  rintro e w1 ⟨v, rfl, hown, hbel⟩
  obtain ⟨k, hk⟩ : ∃ k, nb n = k := ⟨_, rfl⟩
  have hk9 : k ≤ 9 := by rw [← hk]; exact (nb_pos n).2
  have LF : Hid (cat 1 (fun _ => (k : Int)) (dnn n) = lf n) := by show cat 1 (fun _ => (k : Int)) (dnn n) = lf n; rw [← hk]; rfl
  rw [hk] at hown
  have HK := hid hk
  obtain ⟨a, c, rfl⟩ := own_slice hown
  have HO := hid hown
  have HB := hid hbel
  clear hown hbel hk
  have kw : (k : Int) % 256 = (k : Int) := by omega
  have OV := hid (own_below HO.out (below_alloc w1 (.cells #[.int .u8 (k : Int)] 5)))
  go_wp2_with (at_builtin; go_must (refine wpList_cat rfl _ _ rfl w1.heap.size 1 k _ _ (fun _ => (k : Int)) (dnn n) rfl (own_one w1 _ (by omega)) rfl OV.out.reads (by omega) (by simp) ?_))
  intro v' w2 hown hgrow
  have HS : Hid (w.heap.size ≤ w1.heap.size) := HB.out.size
  have R1 : Hid (By.Own w2 w.heap.size v' (k + 1) (lf n)) := by
    have h1 := own_mono hown HS.out
    rw [LF.out, Nat.add_comm] at h1
    exact h1
  have R2 : Hid (Below w.heap.size w w2) := (HB.out.alloc HS.out _).grown hgrow (by simp; have := HS.out; omega) (by intro k hk; simp [Value.ownBlock] at hk; have := HS.out; omega)
  clear hown hgrow HO HB OV HS LF
  go_wp2
  go_ret2
  rw [HK.out]
  exact ⟨_, rfl, R1.out, R2.out⟩
theorem rstring1 (m : Nat) (f : Nat → Int) (p : Value) (w : World) (hr : By.RB w p m f) (hm : m ≤ 140737488355000) :
    Calls Tryz.prog 97 #[p] w fun e w' => ∃ v, e = .returned v ∧ By.Own w' w.heap.size v (sn m) (sg m f) ∧ Below w.heap.size w w' := by
  have HR := hid hr
  obtain ⟨_, a, cap, rfl, -, -, -⟩ := hr
  go_enter Tryz.func97, Tryz.ntmps97
  go_wp2_with fail
  refine (rleftOk (8 * m) w (by omega)).mono ?_
  rintro e w1 ⟨v, rfl, hown, hbel⟩
  obtain ⟨k, hk⟩ : ∃ k, nb (8 * m) = k := ⟨_, rfl⟩
  have hk9 : k ≤ 9 := by rw [← hk]; exact (nb_pos _).2
  have LF : Hid (cat (k + 1) (lf (8 * m)) f = sg m f) := by show cat (k + 1) (lf (8 * m)) f = sg m f; rw [← hk]; rfl
  have HK : Hid (k + 1 + m = sn m) := by show k + 1 + m = sn m; rw [← hk]; rfl
  rw [hk] at hown
  have HO := hid hown
  have HB := hid hbel
  have RP := hid (HR.out.below hbel)
  clear hown hbel hk
  go_wp2_with (at_builtin; go_must (refine wpList_cat rfl _ _ rfl w.heap.size (k + 1) m _ _ _ f rfl HO.out rfl RP.out (by omega) HB.out.size ?_))
  intro v' w2 hown hgrow
  have R1 : Hid (By.Own w2 w.heap.size v' (sn m) (sg m f)) := by
    rw [LF.out, HK.out] at hown
    exact hown
  have R2 : Hid (Below w.heap.size w w2) := below_grow HB.out HB.out.size HO.out hgrow
  clear hown hgrow HO HB RP LF
  go_wp2
  go_ret
  exact ⟨_, rfl, R1.out, R2.out⟩
theorem rpadBad (W : Int) (p : Value) (w : World) (h : W < 1 ∨ 256 < W) :
    Calls Tryz.prog 96 #[p, .int .i64 W] w fun e w' => e = .returned (.tuple #[.slice none 0 0, .int .i64 2]) ∧ w' = w := by
  by_cases h1 : W < 1
  · go_enter Tryz.func96, Tryz.ntmps96
    go_wp2
    go_ret2
    exact ⟨rfl, rfl⟩
  · have h2 : 256 < W := by omega
    go_enter Tryz.func96, Tryz.ntmps96
    go_wp2
    go_ret2
    exact ⟨rfl, rfl⟩
theorem pz_first (m w i : Nat) (hw : 0 < w) (h : i < pz m w) : ¬ (pn m w + i) % w = 0 := by
  by_cases h0 : pn m w % w = 0
  · rw [pz_zero m w h0] at h; omega
  · rw [pz_some m w hw h0] at h
    have e := Nat.div_add_mod (pn m w) w
    rw [show pn m w + i = pn m w % w + i + w * (pn m w / w) from by omega, Nat.add_mul_mod_self_left, Nat.mod_eq_of_lt (by omega)]
    omega
set_option maxHeartbeats 1000000 in
theorem rpadOk (m W : Nat) (f : Nat → Int) (p : Value) (w : World) (hr : By.RB w p m f) (hm : m ≤ 140737488355000) (h1 : 1 ≤ W) (h2 : W ≤ 256) :
    Calls Tryz.prog 96 #[p, .int .i64 W] w fun e w' => ∃ v, e = .returned (.tuple #[v, .int .i64 0]) ∧ By.Own w' w.heap.size v (pN m W) (pg m f W) ∧ Below w.heap.size w w' := by
  have HR := hid hr
  obtain ⟨_, a, cap, rfl, -, -, -⟩ := hr
  have n1 : ¬ (W : Int) < 1 := by omega
  have n2 : ¬ (256 : Int) < W := by omega
  go_enter Tryz.func96, Tryz.ntmps96
  go_wp2_with fail
  refine (rleftOk W w (by omega)).mono ?_
  rintro e w1 ⟨v, rfl, hown, hbel⟩
  obtain ⟨k, hk⟩ : ∃ k, nb W = k := ⟨_, rfl⟩
  have hk9 : k ≤ 9 := by rw [← hk]; exact (nb_pos _).2
  have HK : Hid (k + 1 + m = pn m W) := by show k + 1 + m = pn m W; rw [← hk]; rfl
  have HKK := hid hk
  rw [hk] at hown
  have HO := hid hown
  have HB := hid hbel
  have RP := hid (HR.out.below hbel)
  clear hown hbel hk
  go_wp2_with (at_builtin; go_must (refine wpList_cat rfl _ _ rfl w.heap.size (k + 1) m _ _ _ f rfl HO.out rfl RP.out (by omega) HB.out.size ?_))
  intro v' w2 hown hgrow
  rw [HK.out] at hown
  obtain ⟨N, hN⟩ : ∃ N, pn m W = N := ⟨_, rfl⟩
  have hN2 : N ≤ 140737488355010 := by rw [← hN, ← HK.out]; omega
  have hN3 : 1 ≤ N := by rw [← hN, ← HK.out]; omega
  rw [hN] at hown
  have HNN := hid hN
  have O2 := hid hown
  have B2 := hid (below_grow HB.out HB.out.size HO.out hgrow)
  obtain ⟨a2, c2, rfl⟩ := own_slice hown
  have F2 := hid hown.1
  clear hown hgrow HO HB RP hN
  obtain ⟨F, hF⟩ : ∃ F, cat (k + 1) (lf W) f = F := ⟨_, rfl⟩
  have HF := hid hF
  rw [hF] at O2 F2
  clear hF
  obtain ⟨Z, hZ⟩ : ∃ Z, pz m W = Z := ⟨_, rfl⟩
  have hZ2 : Z < W := by rw [← hZ]; exact pz_lt m W (by omega)
  have HZ := hid hZ
  clear hZ
  go_wp2
  go_loopw [6] (fun v wr => ∃ (i : Nat) (A : Option Addr) (c : Nat), i ≤ Z ∧ v = .slice A (N + i) c ∧ By.Own wr w.heap.size v (N + i) (cat N F (fun _ => 0)) ∧ Below w.heap.size w wr) (fun v _ => N + Z - (match v with | .slice _ l _ => l | _ => 0))
  case atStart => exact ⟨0, a2, c2, by omega, rfl, own_congr O2.out (cat_bound F2.out (fun _ => by decide)) (fun i hi => by unfold cat; rw [if_pos (by omega)]), B2.out⟩
  case round =>
    clear O2 B2
    obtain ⟨i, A, c, hi, rfl, hown, hbel⟩ := hrel
    have HO := hid hown
    have HB := hid hbel
    clear hown hbel
    obtain ⟨K, hK⟩ : ∃ K, N + i = K := ⟨_, rfl⟩
    have hK2 : K ≤ 140737488355300 := by omega
    rw [hK] at HO
    rw [hK]
    have tm : ((K : Int)).tmod (W : Int) = ((K % W : Nat) : Int) := by rw [Int.tmod_eq_emod_of_nonneg (by omega)]; rfl
    have tm2 : ((K : Int)) % (W : Int) = ((K % W : Nat) : Int) := rfl
    have nW : ¬ (W : Int) = 0 := by omega
    have nW' : ¬ W = 0 := by omega
    obtain ⟨M, hM⟩ : ∃ M, K % W = M := ⟨_, rfl⟩
    rw [hM] at tm tm2
    have HM := hid hM
    have HKi := hid hK
    clear hM hK
    by_cases hz : i = Z
    · have hM0 : M = 0 := by
        rw [← HM.out, ← HKi.out, hz, ← HNN.out, ← HZ.out]
        exact pN_mod m W (by omega)
      subst hM0
      have R1 : Hid (By.Own wr w.heap.size (.slice A K c) (pN m W) (pg m f W)) := by
        have e1 : pN m W = K := by unfold pN; rw [HZ.out, HNN.out, ← HKi.out, hz]
        have e2 : pg m f W = cat N F (fun _ => 0) := by unfold pg; rw [HNN.out, HKK.out, HF.out]
        rw [e1, e2]
        exact HO.out
      clear HO HM
      go_wp2
      go_ret2
      exact ⟨_, rfl, R1.out, HB.out⟩
    · have hM0 : ¬ M = 0 := by
        rw [← HM.out, ← HKi.out, ← HNN.out]
        exact pz_first m W i (by omega) (by rw [HZ.out]; omega)
      have hM1 : ¬ (M : Int) = 0 := by omega
      have HS : Hid (w.heap.size ≤ wr.heap.size) := HB.out.size
      have OV := hid (own_below HO.out (below_alloc wr (.cells #[.int .u8 0] 5)))
      have OL := hid (own_one wr 0 (by decide))
      go_wp2_with (at_builtin; go_must (refine wpList_cat rfl _ _ rfl w.heap.size K 1 _ _ (cat N F (fun _ => 0)) (fun _ => 0) rfl OV.out rfl OL.out.reads (by omega) (by simp; have := HS.out; omega) ?_))
      intro v3 w3 hown3 hgrow3
      obtain ⟨A3, c3, rfl⟩ := own_slice hown3
      have R1 : Hid (By.Own w3 w.heap.size (.slice A3 (K + 1) c3) (K + 1) (cat N F (fun _ => 0))) := by
        refine own_congr hown3 (cat_bound F2.out (fun _ => by decide)) (fun j hj => ?_)
        have hNK : N ≤ K := by rw [← HKi.out]; omega
        unfold cat
        by_cases h1 : j < K
        · rw [if_pos h1]
        · rw [if_neg h1, if_neg (by omega)]
      have R2 : Hid (Below w.heap.size w w3) := (HB.out.alloc HS.out _).grown hgrow3 (by simp; have := HS.out; omega) (own_row OV.out)
      clear hown3 hgrow3 HO HB OV OL HS
      go_wp2
      have hKi := HKi.out
      refine ⟨⟨i + 1, A3, c3, by omega, by rw [← hKi]; rfl, by rw [← Nat.add_assoc, hKi]; exact R1.out, R2.out⟩, by simp; omega⟩
end Go.Proofs.YtpohogpkfdebdaaGreatDoor.Kc
namespace Go.Proofs.YtpohogpkfdebdaaGreatDoor.Kc
open Go.Proofs.YtpohogpkfdebdaaGreatDoor.By
theorem nbf_lt (f n : Nat) (h : n < 256 ^ (f + 1)) : n < 256 ^ nbf f n := by
  induction f generalizing n with
  | zero => exact h
  | succ f ih =>
    rw [nbf]
    split
    · rename_i h2; simpa using h2
    · have h3 : n / 256 < 256 ^ (f + 1) := by rw [Nat.div_lt_iff_lt_mul (by decide)]; rw [Nat.pow_succ] at h; exact h
      have := ih _ h3
      rw [Nat.div_lt_iff_lt_mul (by decide)] at this
      rw [Nat.pow_succ]; exact this
theorem nb_lt (n : Nat) (h : n < 256 ^ 9) : n < 256 ^ nb n := nbf_lt 8 n h
theorem dg_inj (n m k : Nat) (hn : n < 256 ^ k) (hm : m < 256 ^ k) (h : ∀ i, i < k → dg n k i = dg m k i) : n = m := by
  have H : ∀ j, j ≤ k → n / 256 ^ (k - j) = m / 256 ^ (k - j) := by
    intro j
    induction j with
    | zero => intro _; rw [Nat.sub_zero, Nat.div_eq_of_lt hn, Nat.div_eq_of_lt hm]
    | succ j ih =>
      intro hj
      have e := ih (by omega)
      have d := h j (by omega)
      unfold dg at d
      rw [show k - 1 - j = k - (j + 1) from by omega] at d
      have e1 : k - j = k - (j + 1) + 1 := by omega
      rw [e1, Nat.pow_succ, ← Nat.div_div_eq_div_mul, ← Nat.div_div_eq_div_mul] at e
      omega
  have := H k (Nat.le_refl _)
  simpa using this
theorem dnn_inj (n m : Nat) (hn : n < 256 ^ 9) (hm : m < 256 ^ 9) (e : nb n = nb m) (h : ∀ i, i < nb n → dnn n i = dnn m i) : n = m := by
  refine dg_inj n m (nb n) (nb_lt n hn) (by rw [e]; exact nb_lt m hm) (fun i hi => ?_)
  have := h i hi
  unfold dnn at this
  rw [← e] at this
  exact this
theorem lf_zero (n : Nat) : lf n 0 = ((nb n : Nat) : Int) := rfl
theorem lf_succ (n i : Nat) : lf n (i + 1) = dnn n i := by
  unfold lf cat; rw [if_neg (by omega)]; rfl
theorem lf_inj (n m : Nat) (hn : n < 256 ^ 9) (hm : m < 256 ^ 9) (h : ∀ i, i < nb n + 1 → i < nb m + 1 → lf n i = lf m i) : n = m := by
  have h0 := h 0 (by omega) (by omega)
  rw [lf_zero, lf_zero] at h0
  have e : nb n = nb m := by omega
  refine dnn_inj n m hn hm e (fun i hi => ?_)
  have := h (i + 1) (by omega) (by omega)
  rwa [lf_succ, lf_succ] at this
theorem rt_inj (n m : Nat) (hn : n < 256 ^ 9) (hm : m < 256 ^ 9) (hle : nb m ≤ nb n) (h : ∀ i, i < nb m + 1 → rt n (nb n - nb m + i) = rt m i) : n = m := by
  have h0 := h (nb m) (by omega)
  unfold rt cat at h0
  rw [if_neg (by omega), if_neg (by omega)] at h0
  have h0' : ((nb n : Nat) : Int) = ((nb m : Nat) : Int) := h0
  have e : nb n = nb m := by omega
  refine dnn_inj n m hn hm e (fun i hi => ?_)
  have := h i (by omega)
  unfold rt cat at this
  rw [if_pos (by omega), if_pos (by omega), show nb n - nb m + i = i from by omega] at this
  exact this
theorem sg_head (m : Nat) (f : Nat → Int) (i : Nat) (h : i < nb (8 * m) + 1) : sg m f i = lf (8 * m) i := by
  unfold sg cat; rw [if_pos h]
theorem sg_tail (m : Nat) (f : Nat → Int) (i : Nat) : sg m f (nb (8 * m) + 1 + i) = f i := by
  unfold sg cat; rw [if_neg (by omega), show nb (8 * m) + 1 + i - (nb (8 * m) + 1) = i from by omega]
theorem sg_inj (a b : Nat) (f g : Nat → Int) (ha : a < 2 ^ 60) (hb : b < 2 ^ 60) (h : ∀ i, i < sn a → i < sn b → sg a f i = sg b g i) : a = b ∧ ∀ i, i < a → f i = g i := by
  have e : 8 * a = 8 * b := by
    refine lf_inj _ _ (by omega) (by omega) (fun i h1 h2 => ?_)
    have := h i (by unfold sn; omega) (by unfold sn; omega)
    rwa [sg_head _ _ _ h1, sg_head _ _ _ h2] at this
  have e' : a = b := by omega
  subst e'
  refine ⟨rfl, fun i hi => ?_⟩
  have := h (nb (8 * a) + 1 + i) (by unfold sn; omega) (by unfold sn; omega)
  rwa [sg_tail, sg_tail] at this
theorem sg_congr (a : Nat) (f g : Nat → Int) (h : ∀ i, i < a → f i = g i) (i : Nat) (hi : i < sn a) : sg a f i = sg a g i := by
  unfold sn at hi
  unfold sg cat
  split
  · rfl
  · exact h _ (by omega)
/-- Two strings, one behind the other. -/
def tn (a c : Nat) : Nat := sn a + sn c
def tg (a : Nat) (f : Nat → Int) (c : Nat) (h : Nat → Int) : Nat → Int := cat (sn a) (sg a f) (sg c h)
theorem tg_b {a c : Nat} {f h : Nat → Int} (hf : ∀ i, 0 ≤ f i ∧ f i < 256) (hh : ∀ i, 0 ≤ h i ∧ h i < 256) (i : Nat) : 0 ≤ tg a f c h i ∧ tg a f c h i < 256 := cat_bound (sg_b hf) (sg_b hh) i
theorem tg_congr (a c : Nat) (f f' h h' : Nat → Int) (hf : ∀ i, i < a → f i = f' i) (hh : ∀ i, i < c → h i = h' i) (i : Nat) (hi : i < tn a c) : tg a f c h i = tg a f' c h' i := by
  unfold tn at hi
  unfold tg cat
  split
  · rename_i h2; exact sg_congr a f f' hf i h2
  · exact sg_congr c h h' hh _ (by omega)
theorem pg_head (m w : Nat) (f : Nat → Int) (i : Nat) (hi : i < m) : pg m f w (nb w + 1 + i) = f i := by
  unfold pg pn
  unfold cat
  rw [if_pos (by omega), if_neg (by omega), show nb w + 1 + i - (nb w + 1) = i from by omega]
theorem pg_congr (m w : Nat) (f g : Nat → Int) (h : ∀ i, i < m → f i = g i) (i : Nat) : pg m f w i = pg m g w i := by
  unfold pg pn
  unfold cat
  split
  · split
    · rfl
    · exact h _ (by omega)
  · rfl
theorem pad_inj (a b c d w : Nat) (fa fb fc fd : Nat → Int) (ha : a < 2 ^ 60) (hb : b < 2 ^ 60) (hc : c < 2 ^ 60) (hd : d < 2 ^ 60) (hN : pN (tn a c) w = pN (tn b d) w) (h : ∀ i, i < pN (tn a c) w → pg (tn a c) (tg a fa c fc) w i = pg (tn b d) (tg b fb d fd) w i) : (a = b ∧ ∀ i, i < a → fa i = fb i) ∧ (c = d ∧ ∀ i, i < c → fc i = fd i) := by
  have H : ∀ i, i < tn a c → i < tn b d → tg a fa c fc i = tg b fb d fd i := by
    intro i h1 h2
    have := h (nb w + 1 + i) (by unfold pN pn; omega)
    rwa [pg_head _ _ _ _ h1, pg_head _ _ _ _ h2] at this
  have A := sg_inj a b fa fb ha hb (fun i h1 h2 => by
    have := H i (by unfold tn; omega) (by unfold tn; omega)
    unfold tg cat at this
    rwa [if_pos h1, if_pos h2] at this)
  refine ⟨A, ?_⟩
  have e := A.1
  subst e
  refine sg_inj c d fc fd hc hd (fun i h1 h2 => ?_)
  have := H (sn a + i) (by unfold tn; omega) (by unfold tn; omega)
  unfold tg cat at this
  rwa [if_neg (by omega), if_neg (by omega), show sn a + i - sn a = i from by omega] at this
end Go.Proofs.YtpohogpkfdebdaaGreatDoor.Kc
