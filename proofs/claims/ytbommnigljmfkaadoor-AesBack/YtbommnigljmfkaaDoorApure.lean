/- AES as numbers: its steps, each with its opposite; round keys; no function of the program in it. -/
import Derived.Test.YtbommnigljmfkaaDoorGmath
namespace Go.Proofs.YtbommnigljmfkaaDoor.Gf
/-- Sixteen bytes are bytes. -/
def B16 (b : Nat → Nat) : Prop := ∀ i, i < 16 → b i < 256
/-- Two blocks are alike. -/
def E16 (a b : Nat → Nat) : Prop := ∀ i, i < 16 → a i = b i
theorem E16.refl (a : Nat → Nat) : E16 a a := fun _ _ => rfl
theorem E16.symm {a b : Nat → Nat} (h : E16 a b) : E16 b a := fun i hi => (h i hi).symm
theorem E16.trans {a b c : Nat → Nat} (h : E16 a b) (k : E16 b c) : E16 a c := fun i hi => (h i hi).trans (k i hi)
theorem B16.of {a b : Nat → Nat} (h : B16 a) (e : E16 a b) : B16 b := fun i hi => by rw [← e i hi]; exact h i hi
/-- The S-box, the rows turned, the columns mixed, a round key added. -/
def sub16 (b : Nat → Nat) (i : Nat) : Nat := box (b i)
def bak16 (b : Nat → Nat) (i : Nat) : Nat := back (b i)
def trn (y : Nat) (b : Nat → Nat) (i : Nat) : Nat := b (4 * ((i / 4 + i % 4 * y) % 4) + i % 4)
def L4 (v a : Nat → Nat) : Nat := mul (v 0) (a 0) ^^^ mul (v 1) (a 1) ^^^ mul (v 2) (a 2) ^^^ mul (v 3) (a 3)
def mix (m : Nat → Nat) (b : Nat → Nat) (i : Nat) : Nat := L4 (fun j => m ((j + 4 - i % 4) % 4)) (fun j => b (4 * (i / 4) + j))
def m1 (j : Nat) : Nat := [2, 3, 1, 1].getD j 0
def m2 (j : Nat) : Nat := [14, 11, 13, 9].getD j 0
def adk (k : Nat → Nat) (r : Nat) (b : Nat → Nat) (i : Nat) : Nat := b i ^^^ k (16 * r + i)
theorem sub16_b (b : Nat → Nat) : B16 (sub16 b) := fun _ _ => box_lt _
theorem bak16_b (b : Nat → Nat) : B16 (bak16 b) := fun _ _ => back_lt _
theorem trn_lt (y i : Nat) (_ : i < 16) : 4 * ((i / 4 + i % 4 * y) % 4) + i % 4 < 16 := by
  have := Nat.mod_lt (i / 4 + i % 4 * y) (show 0 < 4 by decide)
  omega
theorem trn_b {b : Nat → Nat} (y : Nat) (h : B16 b) : B16 (trn y b) := fun i hi => h _ (trn_lt y i hi)
theorem L4_lt (v a : Nat → Nat) : L4 v a < 256 := xor_lt _ _ (xor_lt _ _ (xor_lt _ _ (mul_lt _ _) (mul_lt _ _)) (mul_lt _ _)) (mul_lt _ _)
theorem mix_b (m b : Nat → Nat) : B16 (mix m b) := fun _ _ => L4_lt _ _
theorem adk_b {k b : Nat → Nat} (r : Nat) (hk : ∀ i, k i < 256) (h : B16 b) : B16 (adk k r b) := fun i hi => xor_lt _ _ (h i hi) (hk _)
theorem sub16_e {a b : Nat → Nat} (h : E16 a b) : E16 (sub16 a) (sub16 b) := fun i hi => by unfold sub16; rw [h i hi]
theorem bak16_e {a b : Nat → Nat} (h : E16 a b) : E16 (bak16 a) (bak16 b) := fun i hi => by unfold bak16; rw [h i hi]
theorem trn_e {a b : Nat → Nat} (y : Nat) (h : E16 a b) : E16 (trn y a) (trn y b) := fun i hi => h _ (trn_lt y i hi)
theorem mix_e {a b : Nat → Nat} (m : Nat → Nat) (h : E16 a b) : E16 (mix m a) (mix m b) := fun i hi => by
  unfold mix L4
  dsimp only
  rw [h (4 * (i / 4) + 0) (by omega), h (4 * (i / 4) + 1) (by omega), h (4 * (i / 4) + 2) (by omega), h (4 * (i / 4) + 3) (by omega)]
theorem adk_e {a b : Nat → Nat} (k : Nat → Nat) (r : Nat) (h : E16 a b) : E16 (adk k r a) (adk k r b) := fun i hi => by unfold adk; rw [h i hi]
/- Each step is taken back. -/
theorem bak_sub {b : Nat → Nat} (h : B16 b) : E16 (bak16 (sub16 b)) b := fun i hi => back_box _ (h i hi)
theorem sub_bak {b : Nat → Nat} (h : B16 b) : E16 (sub16 (bak16 b)) b := fun i hi => box_back _ (h i hi)
theorem trn_ix : ∀ i, i < 16 → (4 * (((4 * ((i / 4 + i % 4 * 3) % 4) + i % 4) / 4 + (4 * ((i / 4 + i % 4 * 3) % 4) + i % 4) % 4 * 1) % 4) + (4 * ((i / 4 + i % 4 * 3) % 4) + i % 4) % 4 = i) ∧ (4 * (((4 * ((i / 4 + i % 4 * 1) % 4) + i % 4) / 4 + (4 * ((i / 4 + i % 4 * 1) % 4) + i % 4) % 4 * 3) % 4) + (4 * ((i / 4 + i % 4 * 1) % 4) + i % 4) % 4 = i) := by decide
theorem trn_back (b : Nat → Nat) : E16 (trn 3 (trn 1 b)) b := fun i hi => by
  unfold trn
  rw [(trn_ix i hi).1]
theorem trn_forth (b : Nat → Nat) : E16 (trn 1 (trn 3 b)) b := fun i hi => by
  unfold trn
  rw [(trn_ix i hi).2]
theorem adk_back (k : Nat → Nat) (r : Nat) (b : Nat → Nat) : E16 (adk k r (adk k r b)) b := fun i _ => by
  unfold adk
  rw [Nat.xor_assoc, Nat.xor_self, Nat.xor_zero]
theorem mul4 (v : Nat) (hv : v < 256) (w a : Nat → Nat) (hw : ∀ j, w j < 256) (ha : ∀ j, j < 4 → a j < 256) : mul v (L4 w a) = L4 (fun j => mul v (w j)) a := by
  unfold L4
  rw [mul_add, mul_add, mul_add, ← mul_assoc v (w 0) (a 0) hv (hw 0) (ha 0 (by decide)), ← mul_assoc v (w 1) (a 1) hv (hw 1) (ha 1 (by decide)), ← mul_assoc v (w 2) (a 2) hv (hw 2) (ha 2 (by decide)), ← mul_assoc v (w 3) (a 3) hv (hw 3) (ha 3 (by decide))]
theorem L4_add (v w a : Nat → Nat) (hv : ∀ j, v j < 256) (hw : ∀ j, w j < 256) : L4 v a ^^^ L4 w a = L4 (fun j => v j ^^^ w j) a := by
  unfold L4
  rw [add_mul _ _ _ (hv 0) (hw 0), add_mul _ _ _ (hv 1) (hw 1), add_mul _ _ _ (hv 2) (hw 2), add_mul _ _ _ (hv 3) (hw 3)]
  rw [four, four (mul (v 0) (a 0) ^^^ mul (v 1) (a 1)) _ _ _, four (mul (v 0) (a 0)) _ _ _]
theorem L4_two (v : Nat → Nat) (w : Nat → Nat → Nat) (a : Nat → Nat) (hv : ∀ j, v j < 256) (hw : ∀ i j, w i j < 256) (ha : ∀ j, j < 4 → a j < 256) :
    L4 v (fun i => L4 (w i) a) = L4 (fun j => mul (v 0) (w 0 j) ^^^ mul (v 1) (w 1 j) ^^^ mul (v 2) (w 2 j) ^^^ mul (v 3) (w 3 j)) a := by
  have e : L4 v (fun i => L4 (w i) a) = L4 (fun j => mul (v 0) (w 0 j)) a ^^^ L4 (fun j => mul (v 1) (w 1 j)) a ^^^ L4 (fun j => mul (v 2) (w 2 j)) a ^^^ L4 (fun j => mul (v 3) (w 3 j)) a := by
    show mul (v 0) (L4 (w 0) a) ^^^ mul (v 1) (L4 (w 1) a) ^^^ mul (v 2) (L4 (w 2) a) ^^^ mul (v 3) (L4 (w 3) a) = _
    rw [mul4 _ (hv 0) _ _ (hw 0) ha, mul4 _ (hv 1) _ _ (hw 1) ha, mul4 _ (hv 2) _ _ (hw 2) ha, mul4 _ (hv 3) _ _ (hw 3) ha]
  rw [e, L4_add _ _ _ (fun _ => mul_lt _ _) (fun _ => mul_lt _ _), L4_add _ _ _ (fun _ => xor_lt _ _ (mul_lt _ _) (mul_lt _ _)) (fun _ => mul_lt _ _), L4_add _ _ _ (fun _ => xor_lt _ _ (xor_lt _ _ (mul_lt _ _) (mul_lt _ _)) (mul_lt _ _)) (fun _ => mul_lt _ _)]
theorem m1_lt : ∀ j, m1 j < 256 := fun j => by
  unfold m1
  match j with
  | 0 | 1 | 2 | 3 => decide
  | j + 4 => show 0 < 256; decide
theorem m2_lt : ∀ j, m2 j < 256 := fun j => by
  unfold m2
  match j with
  | 0 | 1 | 2 | 3 => decide
  | j + 4 => show 0 < 256; decide
def one4 (r j : Nat) : Nat := if j = r then 1 else 0
theorem coef21 : ∀ r, r < 4 → ∀ j, j < 4 → mul (m2 ((0 + 4 - r) % 4)) (m1 ((j + 4 - 0) % 4)) ^^^ mul (m2 ((1 + 4 - r) % 4)) (m1 ((j + 4 - 1) % 4)) ^^^ mul (m2 ((2 + 4 - r) % 4)) (m1 ((j + 4 - 2) % 4)) ^^^ mul (m2 ((3 + 4 - r) % 4)) (m1 ((j + 4 - 3) % 4)) = one4 r j := by decide +kernel
theorem coef12 : ∀ r, r < 4 → ∀ j, j < 4 → mul (m1 ((0 + 4 - r) % 4)) (m2 ((j + 4 - 0) % 4)) ^^^ mul (m1 ((1 + 4 - r) % 4)) (m2 ((j + 4 - 1) % 4)) ^^^ mul (m1 ((2 + 4 - r) % 4)) (m2 ((j + 4 - 2) % 4)) ^^^ mul (m1 ((3 + 4 - r) % 4)) (m2 ((j + 4 - 3) % 4)) = one4 r j := by decide +kernel
theorem L4_congr {v w : Nat → Nat} (a : Nat → Nat) (h : ∀ j, j < 4 → v j = w j) : L4 v a = L4 w a := by
  unfold L4
  rw [h 0 (by decide), h 1 (by decide), h 2 (by decide), h 3 (by decide)]
theorem L4_one (a : Nat → Nat) (ha : ∀ j, j < 4 → a j < 256) (r : Nat) (h : r < 4) : L4 (one4 r) a = a r := by
  have z := fun j hj => zero_mul (a j) (ha j hj)
  have o := fun j hj => one_mul (a j) (ha j hj)
  have z0 := z 0 (by decide)
  have z1 := z 1 (by decide)
  have z2 := z 2 (by decide)
  have z3 := z 3 (by decide)
  have o0 := o 0 (by decide)
  have o1 := o 1 (by decide)
  have o2 := o 2 (by decide)
  have o3 := o 3 (by decide)
  match r, h with
  | 0, _ => show mul 1 (a 0) ^^^ mul 0 (a 1) ^^^ mul 0 (a 2) ^^^ mul 0 (a 3) = a 0; rw [o0, z1, z2, z3]; simp
  | 1, _ => show mul 0 (a 0) ^^^ mul 1 (a 1) ^^^ mul 0 (a 2) ^^^ mul 0 (a 3) = a 1; rw [z0, o1, z2, z3]; simp
  | 2, _ => show mul 0 (a 0) ^^^ mul 0 (a 1) ^^^ mul 1 (a 2) ^^^ mul 0 (a 3) = a 2; rw [z0, z1, o2, z3]; simp
  | 3, _ => show mul 0 (a 0) ^^^ mul 0 (a 1) ^^^ mul 0 (a 2) ^^^ mul 1 (a 3) = a 3; rw [z0, z1, z2, o3]; simp
theorem mix_two (p q : Nat → Nat) (hp : ∀ j, p j < 256) (hq : ∀ j, q j < 256) (hc : ∀ r, r < 4 → ∀ j, j < 4 → mul (p ((0 + 4 - r) % 4)) (q ((j + 4 - 0) % 4)) ^^^ mul (p ((1 + 4 - r) % 4)) (q ((j + 4 - 1) % 4)) ^^^ mul (p ((2 + 4 - r) % 4)) (q ((j + 4 - 2) % 4)) ^^^ mul (p ((3 + 4 - r) % 4)) (q ((j + 4 - 3) % 4)) = one4 r j) {b : Nat → Nat} (h : B16 b) : E16 (mix p (mix q b)) b := fun i hi => by
  have ha : ∀ j, j < 4 → b (4 * (i / 4) + j) < 256 := fun j hj => h _ (by omega)
  have e : mix p (mix q b) i = L4 (fun j => p ((j + 4 - i % 4) % 4)) (fun c => L4 (fun j => q ((j + 4 - c) % 4)) (fun j => b (4 * (i / 4) + j))) := by
    unfold mix
    have in4 : ∀ c, c < 4 → L4 (fun j => q ((j + 4 - (4 * (i / 4) + c) % 4) % 4)) (fun j => b (4 * ((4 * (i / 4) + c) / 4) + j)) = L4 (fun j => q ((j + 4 - c) % 4)) (fun j => b (4 * (i / 4) + j)) := fun c hc => by
      rw [show (4 * (i / 4) + c) % 4 = c from by omega, show (4 * (i / 4) + c) / 4 = i / 4 from by omega]
    have fin : ∀ v f g : Nat → Nat, (∀ c, c < 4 → f c = g c) → L4 v f = L4 v g := fun v f g q => by
      unfold L4
      rw [q 0 (by decide), q 1 (by decide), q 2 (by decide), q 3 (by decide)]
    exact fin _ _ _ in4
  rw [e, L4_two _ (fun c j => q ((j + 4 - c) % 4)) _ (fun _ => hp _) (fun _ _ => hq _) ha, L4_congr _ (fun j hj => hc (i % 4) (by omega) j hj), L4_one _ ha _ (by omega)]
  congr 1
  omega
theorem mix_back {b : Nat → Nat} (h : B16 b) : E16 (mix m2 (mix m1 b)) b := mix_two m2 m1 m2_lt m1_lt coef21 h
theorem mix_forth {b : Nat → Nat} (h : B16 b) : E16 (mix m1 (mix m2 b)) b := mix_two m1 m2 m1_lt m2_lt coef12 h
/-- One round of n, and its opposite. -/
def rnd (k : Nat → Nat) (n r : Nat) (b : Nat → Nat) : Nat → Nat := adk k r (if r < n then mix m1 (trn 1 (sub16 b)) else trn 1 (sub16 b))
def dnr (k : Nat → Nat) (n r : Nat) (b : Nat → Nat) : Nat → Nat := bak16 (trn 3 (if r < n then mix m2 (adk k r b) else adk k r b))
theorem rnd_b {k b : Nat → Nat} (hk : ∀ i, k i < 256) (n r : Nat) : B16 (rnd k n r b) := by
  unfold rnd
  split
  · exact adk_b r hk (mix_b _ _)
  · exact adk_b r hk (trn_b 1 (sub16_b _))
theorem dnr_b (k b : Nat → Nat) (n r : Nat) : B16 (dnr k n r b) := bak16_b _
theorem rnd_e {a b : Nat → Nat} (k : Nat → Nat) (n r : Nat) (h : E16 a b) : E16 (rnd k n r a) (rnd k n r b) := by
  unfold rnd
  split
  · exact adk_e k r (mix_e m1 (trn_e 1 (sub16_e h)))
  · exact adk_e k r (trn_e 1 (sub16_e h))
theorem dnr_e {a b : Nat → Nat} (k : Nat → Nat) (n r : Nat) (h : E16 a b) : E16 (dnr k n r a) (dnr k n r b) := by
  unfold dnr
  split
  · exact bak16_e (trn_e 3 (mix_e m2 (adk_e k r h)))
  · exact bak16_e (trn_e 3 (adk_e k r h))
theorem dnr_rnd {k b : Nat → Nat} (n r : Nat) (h : B16 b) : E16 (dnr k n r (rnd k n r b)) b := by
  unfold dnr rnd
  by_cases hr : r < n
  · rw [if_pos hr, if_pos hr]
    refine (bak16_e (trn_e 3 ((mix_e m2 (adk_back k r _)).trans (mix_back (trn_b 1 (sub16_b b)))))).trans ?_
    exact (bak16_e (trn_back _)).trans (bak_sub h)
  · rw [if_neg hr, if_neg hr]
    exact (bak16_e ((trn_e 3 (adk_back k r _)).trans (trn_back _))).trans (bak_sub h)
theorem rnd_dnr {k b : Nat → Nat} (hk : ∀ i, k i < 256) (n r : Nat) (h : B16 b) : E16 (rnd k n r (dnr k n r b)) b := by
  unfold dnr rnd
  by_cases hr : r < n
  · rw [if_pos hr, if_pos hr]
    have h1 : E16 (trn 1 (sub16 (bak16 (trn 3 (mix m2 (adk k r b)))))) (mix m2 (adk k r b)) := (trn_e 1 (sub_bak (trn_b 3 (mix_b _ _)))).trans (trn_forth _)
    exact (adk_e k r ((mix_e m1 h1).trans (mix_forth (adk_b r hk h)))).trans (adk_back k r b)
  · rw [if_neg hr, if_neg hr]
    have h1 : E16 (trn 1 (sub16 (bak16 (trn 3 (adk k r b))))) (adk k r b) := (trn_e 1 (sub_bak (trn_b 3 (adk_b r hk h)))).trans (trn_forth _)
    exact (adk_e k r h1).trans (adk_back k r b)
/-- Enciphered behind r rounds of n; deciphered from the round r on. -/
def encTo (k : Nat → Nat) (n : Nat) (b : Nat → Nat) : Nat → (Nat → Nat)
  | 0 => adk k 0 b
  | r + 1 => rnd k n (r + 1) (encTo k n b r)
def decFrom (k : Nat → Nat) (n : Nat) : Nat → (Nat → Nat) → (Nat → Nat)
  | 0, b => adk k 0 b
  | r + 1, b => decFrom k n r (dnr k n (r + 1) b)
def enc (k : Nat → Nat) (n : Nat) (b : Nat → Nat) : Nat → Nat := encTo k n b n
def dec (k : Nat → Nat) (n : Nat) (b : Nat → Nat) : Nat → Nat := decFrom k n n b
theorem encTo_b {k b : Nat → Nat} (hk : ∀ i, k i < 256) (n r : Nat) (h : B16 b) : B16 (encTo k n b r) := by
  cases r with
  | zero => exact adk_b 0 hk h
  | succ r => exact rnd_b hk n _
theorem encTo_e {a b : Nat → Nat} (k : Nat → Nat) (n r : Nat) (h : E16 a b) : E16 (encTo k n a r) (encTo k n b r) := by
  induction r with
  | zero => exact adk_e k 0 h
  | succ r ih => exact rnd_e k n _ ih
theorem decFrom_e {a b : Nat → Nat} (k : Nat → Nat) (n r : Nat) (h : E16 a b) : E16 (decFrom k n r a) (decFrom k n r b) := by
  induction r generalizing a b with
  | zero => exact adk_e k 0 h
  | succ r ih => exact ih (dnr_e k n _ h)
theorem decFrom_b {k b : Nat → Nat} (hk : ∀ i, k i < 256) (n r : Nat) (h : B16 b) : B16 (decFrom k n r b) := by
  induction r generalizing b with
  | zero => exact adk_b 0 hk h
  | succ r ih => exact ih (dnr_b k b n _)
/-- What is enciphered is deciphered. -/
theorem dec_encTo {k b : Nat → Nat} (hk : ∀ i, k i < 256) (n r : Nat) (h : B16 b) : E16 (decFrom k n r (encTo k n b r)) b := by
  induction r with
  | zero => exact adk_back k 0 b
  | succ r ih => exact (decFrom_e k n r (dnr_rnd n (r + 1) (encTo_b hk n r h))).trans ih
theorem enc_decFrom {k b : Nat → Nat} (hk : ∀ i, k i < 256) (n r : Nat) (h : B16 b) : E16 (encTo k n (decFrom k n r b) r) b := by
  induction r generalizing b with
  | zero => exact adk_back k 0 b
  | succ r ih => exact (rnd_e k n (r + 1) (ih (dnr_b k b n (r + 1)))).trans (rnd_dnr hk n (r + 1) h)
theorem dec_enc {k b : Nat → Nat} (hk : ∀ i, k i < 256) (n : Nat) (h : B16 b) : E16 (dec k n (enc k n b)) b := dec_encTo hk n n h
theorem enc_dec {k b : Nat → Nat} (hk : ∀ i, k i < 256) (n : Nat) (h : B16 b) : E16 (enc k n (dec k n b)) b := enc_decFrom hk n n h
theorem enc_inj {k a b : Nat → Nat} (hk : ∀ i, k i < 256) (n : Nat) (ha : B16 a) (hb : B16 b) : E16 (enc k n a) (enc k n b) ↔ E16 a b :=
  ⟨fun h => ((dec_enc hk n ha).symm.trans (decFrom_e k n n h)).trans (dec_enc hk n hb), fun h => encTo_e k n n h⟩
/-- The round keys' bytes: of a key of 4 k bytes, the first n words. -/
def pw : Nat → Nat
  | 0 => 1
  | i + 1 => mul (pw i) 2
def nxt (k i : Nat) (f : Nat → Nat) (j : Nat) : Nat :=
  f (4 * (i - k) + j) ^^^ (if i % k = 0 then box (f (4 * (i - 1) + (j + 1) % 4)) ^^^ (if j = 0 then pw (i / k - 1) else 0) else if k = 8 ∧ i % 8 = 4 then box (f (4 * (i - 1) + j)) else f (4 * (i - 1) + j))
def wds (k : Nat) (key : Nat → Nat) : Nat → (Nat → Nat)
  | 0 => key
  | n + 1 => fun p => if p / 4 = k + n then nxt k (k + n) (wds k key n) (p % 4) else wds k key n p
theorem wds_old (k : Nat) (key : Nat → Nat) (n p : Nat) (h : p / 4 < k + n) : wds k key (n + 1) p = wds k key n p := by
  show (if p / 4 = k + n then _ else _) = _
  rw [if_neg (by omega)]
theorem wds_key (k : Nat) (key : Nat → Nat) (n p : Nat) (h : p < 4 * k) : wds k key n p = key p := by
  induction n with
  | zero => rfl
  | succ n ih => rw [wds_old k key n p (by omega), ih]
theorem wds_keep (k : Nat) (key : Nat → Nat) (n m p : Nat) (h : p / 4 < k + n) : wds k key (n + m) p = wds k key n p := by
  induction m with
  | zero => rfl
  | succ m ih => rw [← Nat.add_assoc, wds_old k key (n + m) p (by omega), ih]
theorem pw_lt (i : Nat) : pw i < 256 := by
  cases i with
  | zero => decide
  | succ i => exact mul_lt _ _
theorem wds_lt (k : Nat) (key : Nat → Nat) (hk : ∀ i, key i < 256) (n p : Nat) : wds k key n p < 256 := by
  induction n generalizing p with
  | zero => exact hk p
  | succ n ih =>
    show (if p / 4 = k + n then _ else _) < 256
    split
    · unfold nxt
      refine xor_lt _ _ (ih _) ?_
      split
      · refine xor_lt _ _ (box_lt _) ?_
        split
        · exact pw_lt _
        · decide
      · split
        · exact box_lt _
        · exact ih _
    · exact ih p
/-- Unlike keys have unlike round keys. -/
theorem nxt_e (k i : Nat) (hk : 0 < k) (hi : k ≤ i) {f g : Nat → Nat} (h : ∀ p, p < 4 * i → f p = g p) (j : Nat) (hj : j < 4) : nxt k i f j = nxt k i g j := by
  have m : (j + 1) % 4 < 4 := Nat.mod_lt _ (by decide)
  unfold nxt
  rw [h (4 * (i - k) + j) (by omega), h (4 * (i - 1) + j) (by omega), h (4 * (i - 1) + (j + 1) % 4) (by omega)]
theorem wds_inj (k n : Nat) (hk : 0 < k) (key other : Nat → Nat) : (∀ p, p < 4 * k → key p = other p) ↔ ∀ p, p < 4 * (k + n) → wds k key n p = wds k other n p := by
  refine ⟨fun h => ?_, fun h p hp => ?_⟩
  · induction n with
    | zero => exact fun p hp => h p (by omega)
    | succ n ih =>
      intro p hp
      by_cases e : p / 4 = k + n
      · show (if p / 4 = k + n then _ else _) = (if p / 4 = k + n then _ else _)
        rw [if_pos e, if_pos e]
        exact nxt_e k (k + n) hk (by omega) ih (p % 4) (Nat.mod_lt _ (by decide))
      · rw [wds_old k key n p (by omega), wds_old k other n p (by omega)]
        exact ih p (by omega)
  · have := h p (by omega)
    rwa [wds_key k key n p hp, wds_key k other n p hp] at this
end Go.Proofs.YtbommnigljmfkaaDoor.Gf
