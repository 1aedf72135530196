/- The field of 256 elements on natural numbers: the product, the inverse, the S-box as the program reckons them, the product of polynomials as the document says it; that it is a field, and that both answer alike; no program in it. AES as numbers: its steps, each with its opposite; round keys; no function of the program in it. What the functions of gf8 answer, for every element and every world: the product, the inverse, the S-box and its way back. What the document's own functions for layer 4 answer: the product of polynomials, the inverse looked for, the S-box bit by bit, its way back looked for: the same as the field of Gmath. -/
import Derived.Laws.BitsAllLaws
import Derived.Laws.BitsLemmas
import Derived.Test.YtpohogpkfdebdaaGreatDoorRows
import Derived.WalkKit
import Derived.ProofKit
import Derived.Deep.QuietTactic
import Derived.BigQuiet
import Derived.WalkLawsBesides
import Derived.Deep.RegionHeld3
namespace Go.Proofs.YtpohogpkfdebdaaGreatDoor.Gf

/-- 255 of the bit 1, 0 of 0. -/
def mask (b : Nat) : Nat := (256 - b) % 256
/-- The product with x. -/
def tx (a : Nat) : Nat := (a * 2 % 256) ^^^ (27 &&& mask (a / 128))
def txN (a : Nat) : Nat → Nat
  | 0 => a
  | k + 1 => tx (txN a k)
/-- The product after k rounds. -/
def mulTo (a b : Nat) : Nat → Nat
  | 0 => 0
  | k + 1 => mulTo a b k ^^^ (txN a k &&& mask (b / 2 ^ k % 2))
def mul (a b : Nat) : Nat := mulTo a b 8
/-- a squared k times. -/
def sqN (a : Nat) : Nat → Nat
  | 0 => a
  | k + 1 => mul (sqN a k) (sqN a k)
def invTo (a : Nat) : Nat → Nat
  | 0 => 1
  | k + 1 => mul (invTo a k) (sqN a (k + 1))
def inv (a : Nat) : Nat := invTo a 7
/-- The byte whose bit i is bit i + n of y. -/
def rot (y n : Nat) : Nat := (y * 2 ^ (8 - n) % 256) ||| (y / 2 ^ n)
def aff (y : Nat) : Nat := y ^^^ rot y 4 ^^^ rot y 5 ^^^ rot y 6 ^^^ rot y 7 ^^^ 99
def box (a : Nat) : Nat := aff (inv a)
def back (a : Nat) : Nat := inv (rot (a ^^^ 99) 2 ^^^ rot (a ^^^ 99) 5 ^^^ rot (a ^^^ 99) 7)

theorem xor_lt (a b : Nat) (ha : a < 256) (hb : b < 256) : a ^^^ b < 256 := Nat.xor_lt_two_pow (n := 8) ha hb
theorem mask_lt (b : Nat) : mask b < 256 := Nat.mod_lt _ (by decide)
theorem tx_lt (a : Nat) : tx a < 256 := by
  unfold tx
  exact xor_lt _ _ (Nat.mod_lt _ (by decide)) (Nat.and_lt_two_pow (n := 8) _ (mask_lt _))
theorem txN_lt (a : Nat) (ha : a < 256) (k : Nat) : txN a k < 256 := by
  cases k with
  | zero => exact ha
  | succ k => exact tx_lt _
theorem mulTo_lt (a b k : Nat) : mulTo a b k < 256 := by
  induction k with
  | zero => exact Nat.zero_lt_succ 255
  | succ k ih => exact xor_lt _ _ ih (Nat.and_lt_two_pow (n := 8) _ (mask_lt _))
theorem mul_lt (a b : Nat) : mul a b < 256 := mulTo_lt a b 8
theorem invTo_lt (a k : Nat) : invTo a k < 256 := by
  cases k with
  | zero => show 1 < 256; decide
  | succ k => exact mul_lt _ _
theorem inv_lt (a : Nat) : inv a < 256 := invTo_lt a 7
theorem rot_lt (y n : Nat) (hy : y < 256) : rot y n < 256 := by
  unfold rot
  exact Nat.or_lt_two_pow (n := 8) (Nat.mod_lt _ (by decide)) (Nat.lt_of_le_of_lt (Nat.div_le_self _ _) hy)
theorem aff_lt (y : Nat) (hy : y < 256) : aff y < 256 := by
  unfold aff
  exact xor_lt _ _ (xor_lt _ _ (xor_lt _ _ (xor_lt _ _ (xor_lt _ _ hy (rot_lt _ _ hy)) (rot_lt _ _ hy)) (rot_lt _ _ hy)) (rot_lt _ _ hy)) (by decide)
theorem box_lt (a : Nat) : box a < 256 := aff_lt _ (inv_lt a)
theorem mask_two (p q x : Nat) (hp : p < 2) (hq : q < 2) : x &&& mask (p ^^^ q) = (x &&& mask p) ^^^ (x &&& mask q) := by
  have hp' : p = 0 ∨ p = 1 := by omega
  have hq' : q = 0 ∨ q = 1 := by omega
  rcases hp' with rfl | rfl <;> rcases hq' with rfl | rfl <;> simp [mask]
theorem xor_div (a b k : Nat) : (a ^^^ b) / 2 ^ k = (a / 2 ^ k) ^^^ (b / 2 ^ k) := by
  rw [← Nat.shiftRight_eq_div_pow, ← Nat.shiftRight_eq_div_pow, ← Nat.shiftRight_eq_div_pow, Nat.shiftRight_xor_distrib]
theorem xor_mod (a b k : Nat) : (a ^^^ b) % 2 ^ k = (a % 2 ^ k) ^^^ (b % 2 ^ k) := Nat.xor_mod_two_pow
theorem xor_mul (a b k : Nat) : (a ^^^ b) * 2 ^ k = (a * 2 ^ k) ^^^ (b * 2 ^ k) := by
  rw [← Nat.shiftLeft_eq, ← Nat.shiftLeft_eq, ← Nat.shiftLeft_eq, Nat.shiftLeft_xor_distrib]
theorem xor_bit (a b k : Nat) : (a ^^^ b) / 2 ^ k % 2 = (a / 2 ^ k % 2) ^^^ (b / 2 ^ k % 2) := by
  rw [xor_div]; exact xor_mod _ _ 1
theorem four (a b c d : Nat) : (a ^^^ b) ^^^ (c ^^^ d) = (a ^^^ c) ^^^ (b ^^^ d) := by
  rw [Nat.xor_assoc, Nat.xor_assoc, ← Nat.xor_assoc b c d, Nat.xor_comm b c, Nat.xor_assoc c b d]
theorem tx_add (a b : Nat) (ha : a < 256) (hb : b < 256) : tx (a ^^^ b) = tx a ^^^ tx b := by
  unfold tx
  have h1 : (a ^^^ b) * 2 % 256 = (a * 2 % 256) ^^^ (b * 2 % 256) := by
    have h := xor_mul a b 1
    have h' := xor_mod (a * 2 ^ 1) (b * 2 ^ 1) 8
    rw [← h] at h'
    exact h'
  have h2 : (a ^^^ b) / 128 = (a / 128) ^^^ (b / 128) := xor_div a b 7
  rw [h1, h2, mask_two _ _ _ (by omega) (by omega), four]
theorem txN_add (a b : Nat) (ha : a < 256) (hb : b < 256) (k : Nat) : txN (a ^^^ b) k = txN a k ^^^ txN b k := by
  induction k with
  | zero => rfl
  | succ k ih =>
    show tx (txN (a ^^^ b) k) = tx (txN a k) ^^^ tx (txN b k)
    rw [ih, tx_add _ _ (txN_lt a ha k) (txN_lt b hb k)]
theorem mulTo_add (a b c k : Nat) : mulTo a (b ^^^ c) k = mulTo a b k ^^^ mulTo a c k := by
  induction k with
  | zero => exact (Nat.xor_self 0).symm
  | succ k ih =>
    show mulTo a (b ^^^ c) k ^^^ (txN a k &&& mask ((b ^^^ c) / 2 ^ k % 2)) = (mulTo a b k ^^^ (txN a k &&& mask (b / 2 ^ k % 2))) ^^^ (mulTo a c k ^^^ (txN a k &&& mask (c / 2 ^ k % 2)))
    rw [ih, xor_bit, mask_two _ _ _ (Nat.mod_lt _ (by decide)) (Nat.mod_lt _ (by decide)), four]
theorem addTo_mul (a b c : Nat) (ha : a < 256) (hb : b < 256) (k : Nat) : mulTo (a ^^^ b) c k = mulTo a c k ^^^ mulTo b c k := by
  induction k with
  | zero => exact (Nat.xor_self 0).symm
  | succ k ih =>
    show mulTo (a ^^^ b) c k ^^^ (txN (a ^^^ b) k &&& mask (c / 2 ^ k % 2)) = (mulTo a c k ^^^ (txN a k &&& mask (c / 2 ^ k % 2))) ^^^ (mulTo b c k ^^^ (txN b k &&& mask (c / 2 ^ k % 2)))
    rw [ih, txN_add a b ha hb, Nat.and_xor_distrib_right, four]
/-- The product goes over sums. -/
theorem mul_add (a b c : Nat) : mul a (b ^^^ c) = mul a b ^^^ mul a c := mulTo_add a b c 8
theorem add_mul (a b c : Nat) (ha : a < 256) (hb : b < 256) : mul (a ^^^ b) c = mul a c ^^^ mul b c := addTo_mul a b c ha hb 8

theorem top_off : ∀ k, k < 8 → ∀ a, a < 2 ^ (k + 1) → 2 ^ k ≤ a → a ^^^ 2 ^ k < 2 ^ k := by decide +kernel
/-- Two that go over sums are the same if they are so at the eight powers. -/
theorem basis (f g : Nat → Nat) (hf : ∀ a b, a < 256 → b < 256 → f (a ^^^ b) = f a ^^^ f b) (hg : ∀ a b, a < 256 → b < 256 → g (a ^^^ b) = g a ^^^ g b)
    (h : ∀ i, i < 8 → f (2 ^ i) = g (2 ^ i)) : ∀ a, a < 256 → f a = g a := by
  have key : ∀ k, k ≤ 8 → ∀ a, a < 2 ^ k → f a = g a := by
    intro k
    induction k with
    | zero =>
      intro _ a ha
      obtain rfl : a = 0 := by simpa using ha
      have h1 := hf 0 0 (by decide) (by decide)
      have h2 := hg 0 0 (by decide) (by decide)
      rw [Nat.xor_self, Nat.xor_self] at h1 h2
      rw [h1, h2]
    | succ k ih =>
      intro hk a ha
      by_cases hlt : a < 2 ^ k
      · exact ih (by omega) a hlt
      · have h1 := top_off k (by omega) a ha (by omega)
        have hp : 2 ^ k < 2 ^ 8 := Nat.pow_lt_pow_right (by decide) (by omega)
        have h2 : a = (a ^^^ 2 ^ k) ^^^ 2 ^ k := by rw [Nat.xor_assoc, Nat.xor_self, Nat.xor_zero]
        rw [h2, hf _ _ (by omega) (by omega), hg _ _ (by omega) (by omega), ih (by omega) _ h1, h k (by omega)]
  exact key 8 (Nat.le_refl _)
theorem comm64 : ∀ i, i < 8 → ∀ j, j < 8 → mul (2 ^ i) (2 ^ j) = mul (2 ^ j) (2 ^ i) := by decide +kernel
theorem mul_comm (a b : Nat) (ha : a < 256) (hb : b < 256) : mul a b = mul b a := by
  refine basis (fun a => mul a b) (fun a => mul b a) (fun x y hx hy => add_mul x y b hx hy) (fun x y _ _ => mul_add b x y) ?_ a ha
  intro i hi
  refine basis (fun b => mul (2 ^ i) b) (fun b => mul b (2 ^ i)) (fun x y _ _ => mul_add _ x y) (fun x y hx hy => add_mul x y _ hx hy) ?_ b hb
  intro j hj
  exact comm64 i hi j hj
set_option maxRecDepth 100000 in
theorem assoc512 : ∀ i, i < 8 → ∀ j, j < 8 → ∀ k, k < 8 → mul (mul (2 ^ i) (2 ^ j)) (2 ^ k) = mul (2 ^ i) (mul (2 ^ j) (2 ^ k)) := by decide +kernel
theorem mul_assoc (a b c : Nat) (ha : a < 256) (hb : b < 256) (hc : c < 256) : mul (mul a b) c = mul a (mul b c) := by
  refine basis (fun a => mul (mul a b) c) (fun a => mul a (mul b c)) (fun x y hx hy => ?_) (fun x y hx hy => add_mul x y _ hx hy) ?_ a ha
  · show mul (mul (x ^^^ y) b) c = _
    rw [add_mul x y b hx hy, add_mul _ _ c (mul_lt _ _) (mul_lt _ _)]
  intro i hi
  refine basis (fun b => mul (mul (2 ^ i) b) c) (fun b => mul (2 ^ i) (mul b c)) (fun x y hx hy => ?_) (fun x y hx hy => ?_) ?_ b hb
  · show mul (mul (2 ^ i) (x ^^^ y)) c = _
    rw [mul_add, add_mul _ _ c (mul_lt _ _) (mul_lt _ _)]
  · show mul (2 ^ i) (mul (x ^^^ y) c) = _
    rw [add_mul x y c hx hy, mul_add]
  intro j hj
  refine basis (fun c => mul (mul (2 ^ i) (2 ^ j)) c) (fun c => mul (2 ^ i) (mul (2 ^ j) c)) (fun x y _ _ => mul_add _ x y) (fun x y _ _ => ?_) ?_ c hc
  · show mul (2 ^ i) (mul (2 ^ j) (x ^^^ y)) = _
    rw [mul_add, mul_add]
  intro k hk
  exact assoc512 i hi j hj k hk
theorem mul_one : ∀ a, a < 256 → mul a 1 = a := by decide +kernel
theorem one_mul (a : Nat) (h : a < 256) : mul 1 a = a := by rw [mul_comm 1 a (by decide) h, mul_one a h]
theorem mul_zero : ∀ a, a < 256 → mul a 0 = 0 := by decide +kernel
theorem zero_mul (a : Nat) (h : a < 256) : mul 0 a = 0 := by rw [mul_comm 0 a (by decide) h, mul_zero a h]
theorem mul_inv : ∀ a, a < 256 → a ≠ 0 → mul a (inv a) = 1 := by decide +kernel
theorem inv_only (a x : Nat) (ha : a < 256) (hx : x < 256) (h : mul a x = 1) : x = inv a := by
  have h0 : a ≠ 0 := by
    rintro rfl
    rw [zero_mul x hx] at h
    cases h
  have h1 := mul_assoc (inv a) a x (inv_lt a) ha hx
  rw [h, mul_comm (inv a) a (inv_lt a) ha, mul_inv a ha h0, one_mul x hx, mul_one _ (inv_lt a)] at h1
  exact h1
def row (a b i : Nat) : Nat → Nat
  | 0 => 0
  | k + 1 => row a b i k ^^^ ((a / 2 ^ i % 2) * (b / 2 ^ k % 2)) * 2 ^ (i + k)
def full (a b : Nat) : Nat → Nat
  | 0 => 0
  | i + 1 => full a b i ^^^ row a b i 8
def less (p : Nat) : Nat → Nat
  | 0 => p
  | n + 1 => if less p n / 2 ^ (14 - n) % 2 = 1 then less p n ^^^ 283 * 2 ^ (6 - n) else less p n
def paper (a b : Nat) : Nat := less (full a b 8) 7 % 256
def bitOf (y i : Nat) : Nat := y / 2 ^ (i % 8) % 2
def bitSum (y i : Nat) : Nat := bitOf y i + bitOf y (i + 4) + bitOf y (i + 5) + bitOf y (i + 6) + bitOf y (i + 7) + bitOf 99 i
def outTo (y : Nat) : Nat → Nat
  | 0 => 0
  | k + 1 => outTo y k + bitSum y k % 2 * 2 ^ k
end Go.Proofs.YtpohogpkfdebdaaGreatDoor.Gf
namespace Go.Proofs.YtpohogpkfdebdaaGreatDoor.Gf
/-- Sixteen bytes are bytes. -/
def B16 (b : Nat → Nat) : Prop := ∀ i, i < 16 → b i < 256
/-- Two blocks are alike. -/
def E16 (a b : Nat → Nat) : Prop := ∀ i, i < 16 → a i = b i
theorem E16.refl (a : Nat → Nat) : E16 a a := fun _ _ => rfl
theorem E16.symm {a b : Nat → Nat} (h : E16 a b) : E16 b a := fun i hi => (h i hi).symm
theorem E16.trans {a b c : Nat → Nat} (h : E16 a b) (k : E16 b c) : E16 a c := fun i hi => (h i hi).trans (k i hi)
theorem B16.of {a b : Nat → Nat} (h : B16 a) (e : E16 a b) : B16 b := fun i hi => by rw [← e i hi]; exact h i hi
/-- The S-box, the rows turned, the columns mixed, a round key added. -/
def sub16 (b : Nat → Nat) (i : Nat) : Nat := box (b i)
def bak16 (b : Nat → Nat) (i : Nat) : Nat := back (b i)
def trn (y : Nat) (b : Nat → Nat) (i : Nat) : Nat := b (4 * ((i / 4 + i % 4 * y) % 4) + i % 4)
def L4 (v a : Nat → Nat) : Nat := mul (v 0) (a 0) ^^^ mul (v 1) (a 1) ^^^ mul (v 2) (a 2) ^^^ mul (v 3) (a 3)
def mix (m : Nat → Nat) (b : Nat → Nat) (i : Nat) : Nat := L4 (fun j => m ((j + 4 - i % 4) % 4)) (fun j => b (4 * (i / 4) + j))
def m1 (j : Nat) : Nat := [2, 3, 1, 1].getD j 0
def m2 (j : Nat) : Nat := [14, 11, 13, 9].getD j 0
def adk (k : Nat → Nat) (r : Nat) (b : Nat → Nat) (i : Nat) : Nat := b i ^^^ k (16 * r + i)
theorem sub16_b (b : Nat → Nat) : B16 (sub16 b) := fun _ _ => box_lt _
theorem trn_lt (y i : Nat) (_ : i < 16) : 4 * ((i / 4 + i % 4 * y) % 4) + i % 4 < 16 := by
  have := Nat.mod_lt (i / 4 + i % 4 * y) (show 0 < 4 by decide)
  omega
theorem trn_b {b : Nat → Nat} (y : Nat) (h : B16 b) : B16 (trn y b) := fun i hi => h _ (trn_lt y i hi)
theorem L4_lt (v a : Nat → Nat) : L4 v a < 256 := xor_lt _ _ (xor_lt _ _ (xor_lt _ _ (mul_lt _ _) (mul_lt _ _)) (mul_lt _ _)) (mul_lt _ _)
theorem mix_b (m b : Nat → Nat) : B16 (mix m b) := fun _ _ => L4_lt _ _
theorem adk_b {k b : Nat → Nat} (r : Nat) (hk : ∀ i, k i < 256) (h : B16 b) : B16 (adk k r b) := fun i hi => xor_lt _ _ (h i hi) (hk _)
theorem sub16_e {a b : Nat → Nat} (h : E16 a b) : E16 (sub16 a) (sub16 b) := fun i hi => by unfold sub16; rw [h i hi]
theorem trn_e {a b : Nat → Nat} (y : Nat) (h : E16 a b) : E16 (trn y a) (trn y b) := fun i hi => h _ (trn_lt y i hi)
theorem mix_e {a b : Nat → Nat} (m : Nat → Nat) (h : E16 a b) : E16 (mix m a) (mix m b) := fun i hi => by
  unfold mix L4
  dsimp only
  rw [h (4 * (i / 4) + 0) (by omega), h (4 * (i / 4) + 1) (by omega), h (4 * (i / 4) + 2) (by omega), h (4 * (i / 4) + 3) (by omega)]
theorem adk_e {a b : Nat → Nat} (k : Nat → Nat) (r : Nat) (h : E16 a b) : E16 (adk k r a) (adk k r b) := fun i hi => by unfold adk; rw [h i hi]
/- Each step is taken back. -/
theorem m1_lt : ∀ j, m1 j < 256 := fun j => by
  unfold m1
  match j with
  | 0 | 1 | 2 | 3 => decide
  | j + 4 => show 0 < 256; decide
def one4 (r j : Nat) : Nat := if j = r then 1 else 0
/-- One round of n, and its opposite. -/
def rnd (k : Nat → Nat) (n r : Nat) (b : Nat → Nat) : Nat → Nat := adk k r (if r < n then mix m1 (trn 1 (sub16 b)) else trn 1 (sub16 b))
def dnr (k : Nat → Nat) (n r : Nat) (b : Nat → Nat) : Nat → Nat := bak16 (trn 3 (if r < n then mix m2 (adk k r b) else adk k r b))
theorem rnd_b {k b : Nat → Nat} (hk : ∀ i, k i < 256) (n r : Nat) : B16 (rnd k n r b) := by
  unfold rnd
  split
  · exact adk_b r hk (mix_b _ _)
  · exact adk_b r hk (trn_b 1 (sub16_b _))
theorem rnd_e {a b : Nat → Nat} (k : Nat → Nat) (n r : Nat) (h : E16 a b) : E16 (rnd k n r a) (rnd k n r b) := by
  unfold rnd
  split
  · exact adk_e k r (mix_e m1 (trn_e 1 (sub16_e h)))
  · exact adk_e k r (trn_e 1 (sub16_e h))
/-- Enciphered behind r rounds of n; deciphered from the round r on. -/
def encTo (k : Nat → Nat) (n : Nat) (b : Nat → Nat) : Nat → (Nat → Nat)
  | 0 => adk k 0 b
  | r + 1 => rnd k n (r + 1) (encTo k n b r)
def decFrom (k : Nat → Nat) (n : Nat) : Nat → (Nat → Nat) → (Nat → Nat)
  | 0, b => adk k 0 b
  | r + 1, b => decFrom k n r (dnr k n (r + 1) b)
def enc (k : Nat → Nat) (n : Nat) (b : Nat → Nat) : Nat → Nat := encTo k n b n
def dec (k : Nat → Nat) (n : Nat) (b : Nat → Nat) : Nat → Nat := decFrom k n n b
theorem encTo_b {k b : Nat → Nat} (hk : ∀ i, k i < 256) (n r : Nat) (h : B16 b) : B16 (encTo k n b r) := by
  cases r with
  | zero => exact adk_b 0 hk h
  | succ r => exact rnd_b hk n _
theorem encTo_e {a b : Nat → Nat} (k : Nat → Nat) (n r : Nat) (h : E16 a b) : E16 (encTo k n a r) (encTo k n b r) := by
  induction r with
  | zero => exact adk_e k 0 h
  | succ r ih => exact rnd_e k n _ ih
/-- The round keys' bytes: of a key of 4 k bytes, the first n words. -/
def pw : Nat → Nat
  | 0 => 1
  | i + 1 => mul (pw i) 2
def nxt (k i : Nat) (f : Nat → Nat) (j : Nat) : Nat :=
  f (4 * (i - k) + j) ^^^ (if i % k = 0 then box (f (4 * (i - 1) + (j + 1) % 4)) ^^^ (if j = 0 then pw (i / k - 1) else 0) else if k = 8 ∧ i % 8 = 4 then box (f (4 * (i - 1) + j)) else f (4 * (i - 1) + j))
def wds (k : Nat) (key : Nat → Nat) : Nat → (Nat → Nat)
  | 0 => key
  | n + 1 => fun p => if p / 4 = k + n then nxt k (k + n) (wds k key n) (p % 4) else wds k key n p
theorem pw_lt (i : Nat) : pw i < 256 := by
  cases i with
  | zero => decide
  | succ i => exact mul_lt _ _
theorem wds_lt (k : Nat) (key : Nat → Nat) (hk : ∀ i, key i < 256) (n p : Nat) : wds k key n p < 256 := by
  induction n generalizing p with
  | zero => exact hk p
  | succ n ih =>
    show (if p / 4 = k + n then _ else _) < 256
    split
    · unfold nxt
      refine xor_lt _ _ (ih _) ?_
      split
      · refine xor_lt _ _ (box_lt _) ?_
        split
        · exact pw_lt _
        · decide
      · split
        · exact box_lt _
        · exact ih _
    · exact ih p
end Go.Proofs.YtpohogpkfdebdaaGreatDoor.Gf
namespace Go.Proofs.YtpohogpkfdebdaaGreatDoor.Gf
open Go.ChangeShapes Go.WideShapes Go.ChangeAt Go.RowKit
theorem and_one (b : Nat) (hb : b < 256) : bits .and .u8 (b : Int) 1 = ((b % 2 : Nat) : Int) := by
  rw [show (1 : Int) = ((1 : Nat) : Int) from rfl, u8_and_nat b 1 hb (by decide), Nat.and_one_is_mod]
theorem mask_walk (b : Nat) (w : World) (hb : b < 2) :
    Calls Tryz.prog 274 #[.int .u8 b] w fun e w' => e = .returned (.int .u8 (mask b : Nat)) ∧ w' = w := by
  have h : b = 0 ∨ b = 1 := by omega
  rcases h with rfl | rfl
  · go_enter Tryz.func274, Tryz.ntmps274
    go_wp2
    go_ret
    exact ⟨rfl, rfl⟩
  · go_enter Tryz.func274, Tryz.ntmps274
    go_wp2
    go_ret
    exact ⟨rfl, rfl⟩
theorem tx_walk (a : Nat) (w : World) (ha : a < 256) :
    Calls Tryz.prog 275 #[.int .u8 a] w fun e w' => e = .returned (.int .u8 (tx a : Nat)) ∧ w' = w := by
  have h1 : Hid ((a : Int) / 128 = ((a / 128 : Nat) : Int)) := by show (a : Int) / 128 = ((a / 128 : Nat) : Int); omega
  have h2 : Hid ((a : Int) * 2 % 256 = ((a * 2 % 256 : Nat) : Int)) := by show (a : Int) * 2 % 256 = ((a * 2 % 256 : Nat) : Int); omega
  have h3 : Hid (bits .and .u8 27 ((mask (a / 128) : Nat) : Int) = ((27 &&& mask (a / 128) : Nat) : Int)) := by
    show bits .and .u8 27 ((mask (a / 128) : Nat) : Int) = _
    rw [show (27 : Int) = ((27 : Nat) : Int) from rfl, u8_and_nat 27 _ (by decide) (mask_lt _)]
  have h4 : Hid (bits .xor .u8 ((a * 2 % 256 : Nat) : Int) ((27 &&& mask (a / 128) : Nat) : Int) = (tx a : Nat)) :=
    u8_xor_nat _ _ (Nat.mod_lt _ (by decide)) (Nat.and_lt_two_pow (n := 8) _ (mask_lt _))
  go_enter Tryz.func275, Tryz.ntmps275
  go_wp2_with (go_at_call 274; rw [h1.out]; refine (mask_walk (a / 128) _ (by omega)).mono ?_; rintro e w' ⟨rfl, rfl⟩)
  go_ret
  refine ⟨?_, rfl⟩
  rw [h2.out, h3.out, h4.out]
  rfl
set_option maxHeartbeats 1000000 in
theorem mul_walk (a b : Nat) (w : World) (ha : a < 256) (hb : b < 256) :
    Calls Tryz.prog 245 #[.int .u8 a, .int .u8 b] w fun e w' => e = .returned (.int .u8 (mul a b : Nat)) ∧ w' = w := by
  go_enter Tryz.func245, Tryz.ntmps245
  go_wp2
  go_loopw [0, 1, 5, 6] (fun x y p i wr => ∃ k A B P : Nat, k ≤ 8 ∧ i = .int .i64 k ∧ x = .int .u8 (A : Int) ∧ y = .int .u8 (B : Int) ∧ p = .int .u8 (P : Int) ∧ A < 256 ∧ B < 256 ∧ P < 256 ∧ A = txN a k ∧ B = b / 2 ^ k ∧ P = mulTo a b k ∧ wr = w) (fun _ _ _ i _ => 8 - (intOf i).toNat)
  case atStart => exact ⟨0, a, b, 0, by omega, rfl, rfl, rfl, rfl, ha, hb, by decide, rfl, by simp, rfl, rfl⟩
  case round =>
    obtain ⟨k, A, B, P, hk, rfl, rfl, rfl, rfl, hA, hB, hP, eA, eB, eP, rfl⟩ := hrel
    have EA : Hid (A = txN a k) := eA
    have EB : Hid (B = b / 2 ^ k) := eB
    have EP : Hid (P = mulTo a b k) := eP
    clear eA eB eP
    by_cases hlt : k < 8
    · have g1 : Hid (bits .and .u8 (B : Int) 1 = ((B % 2 : Nat) : Int)) := and_one B hB
      have g2 : Hid (bits .and .u8 (A : Int) ((mask (B % 2) : Nat) : Int) = ((A &&& mask (B % 2) : Nat) : Int)) := u8_and_nat _ _ hA (mask_lt _)
      have g3 : Hid (bits .xor .u8 (P : Int) ((A &&& mask (B % 2) : Nat) : Int) = ((P ^^^ (A &&& mask (B % 2)) : Nat) : Int)) := u8_xor_nat _ _ hP (Nat.and_lt_two_pow (n := 8) _ (mask_lt _))
      go_wp2_with (first | (go_at_call 274; rw [g1.out]; refine (mask_walk (B % 2) _ (by omega)).mono ?_; rintro e w' ⟨rfl, rfl⟩) | (go_at_call 275; refine (tx_walk A _ hA).mono ?_; rintro e w' ⟨rfl, rfl⟩))
      go_roundw
      case rel =>
        refine ⟨k + 1, tx A, B / 2, P ^^^ (A &&& mask (B % 2)), by omega, by go_num, rfl, by go_num, ?_, tx_lt A, by omega, xor_lt _ _ hP (Nat.and_lt_two_pow (n := 8) _ (mask_lt _)), ?_, ?_, ?_, by first | rfl | trivial⟩
        · rw [g2.out, g3.out]
        · show _ = tx (txN a k); rw [EA.out]
        · rw [EB.out, Nat.div_div_eq_div_mul, Nat.pow_succ]
        · show _ = mulTo a b k ^^^ (txN a k &&& mask (b / 2 ^ k % 2)); rw [EP.out, EA.out, EB.out]
      case measure => simp [intOf]; omega
    · obtain rfl : k = 8 := by omega
      go_wp2
      go_ret
      exact ⟨by rw [EP.out]; rfl, rfl⟩
set_option maxHeartbeats 1000000 in
theorem inv_walk (a : Nat) (w : World) (ha : a < 256) :
    Calls Tryz.prog 247 #[.int .u8 a] w fun e w' => e = .returned (.int .u8 (inv a : Nat)) ∧ w' = w := by
  go_enter Tryz.func247, Tryz.ntmps247
  go_wp2
  go_loopw [0, 3, 4] (fun x p i wr => ∃ k A P : Nat, k ≤ 7 ∧ i = .int .i64 k ∧ x = .int .u8 (A : Int) ∧ p = .int .u8 (P : Int) ∧ A < 256 ∧ P < 256 ∧ A = sqN a k ∧ P = invTo a k ∧ wr = w) (fun _ _ i _ => 7 - (intOf i).toNat)
  case atStart => exact ⟨0, a, 1, by omega, rfl, rfl, rfl, ha, by decide, rfl, rfl, rfl⟩
  case round =>
    obtain ⟨k, A, P, hk, rfl, rfl, rfl, hA, hP, eA, eP, rfl⟩ := hrel
    have EA : Hid (A = sqN a k) := eA
    have EP : Hid (P = invTo a k) := eP
    clear eA eP
    by_cases hlt : k < 7
    · go_wp2_with (go_at_call 245; first | (with_reducible refine (mul_walk A A _ hA hA).mono ?_; rintro e w' ⟨rfl, rfl⟩) | (with_reducible refine (mul_walk P (mul A A) _ hP (mul_lt _ _)).mono ?_; rintro e w' ⟨rfl, rfl⟩))
      go_roundw
      case rel =>
        refine ⟨k + 1, mul A A, mul P (mul A A), by omega, by go_num, rfl, rfl, mul_lt _ _, mul_lt _ _, ?_, ?_, by first | rfl | trivial⟩
        · show _ = mul (sqN a k) (sqN a k); rw [EA.out]
        · show _ = mul (invTo a k) (mul (sqN a k) (sqN a k)); rw [EP.out, EA.out]
      case measure => simp [intOf]; omega
    · obtain rfl : k = 7 := by omega
      go_wp2
      go_ret
      exact ⟨by rw [EP.out]; rfl, rfl⟩
theorem rot8_walk (y : Nat) (n : Nat) (w : World) (hy : y < 256) (hn : n = 2 ∨ n = 4 ∨ n = 5 ∨ n = 6 ∨ n = 7) :
    Calls Tryz.prog 276 #[.int .u8 y, .int .i64 (-(n : Int))] w fun e w' => e = .returned (.int .u8 (rot y n : Nat)) ∧ w' = w := by
  have key : ∀ (l m : Nat), bits .or .u8 (((y * 2 ^ l % 256 : Nat)) : Int) ((y / 2 ^ m : Nat) : Int) = ((y * 2 ^ l % 256 ||| y / 2 ^ m : Nat) : Int) := fun l m => u8_or_nat _ _ (Nat.mod_lt _ (by decide)) (Nat.lt_of_le_of_lt (Nat.div_le_self _ _) hy)
  rcases hn with rfl | rfl | rfl | rfl | rfl
  · have e : bits BinOp.and IntKind.u64 (IntKind.u64.wrap (-2)) 7 = 6 := by decide +kernel
    have h : Hid (bits .or .u8 ((y : Int) * 64 % 256) ((y : Int) / 4) = ((rot y 2 : Nat) : Int)) := by
      show bits .or .u8 ((y : Int) * 64 % 256) ((y : Int) / 4) = ((rot y 2 : Nat) : Int)
      rw [show (y : Int) * 64 % 256 = ((y * 2 ^ 6 % 256 : Nat) : Int) by omega, show (y : Int) / 4 = ((y / 2 ^ 2 : Nat) : Int) by omega]
      exact key 6 2
    clear key
    go_enter Tryz.func276, Tryz.ntmps276
    go_wp2
    go_ret
    exact ⟨congrArg (fun x => Ending.returned (.int .u8 x)) h.out, rfl⟩
  · have e : bits BinOp.and IntKind.u64 (IntKind.u64.wrap (-4)) 7 = 4 := by decide +kernel
    have h : Hid (bits .or .u8 ((y : Int) * 16 % 256) ((y : Int) / 16) = ((rot y 4 : Nat) : Int)) := by
      show bits .or .u8 ((y : Int) * 16 % 256) ((y : Int) / 16) = ((rot y 4 : Nat) : Int)
      rw [show (y : Int) * 16 % 256 = ((y * 2 ^ 4 % 256 : Nat) : Int) by omega, show (y : Int) / 16 = ((y / 2 ^ 4 : Nat) : Int) by omega]
      exact key 4 4
    clear key
    go_enter Tryz.func276, Tryz.ntmps276
    go_wp2
    go_ret
    exact ⟨congrArg (fun x => Ending.returned (.int .u8 x)) h.out, rfl⟩
  · have e : bits BinOp.and IntKind.u64 (IntKind.u64.wrap (-5)) 7 = 3 := by decide +kernel
    have h : Hid (bits .or .u8 ((y : Int) * 8 % 256) ((y : Int) / 32) = ((rot y 5 : Nat) : Int)) := by
      show bits .or .u8 ((y : Int) * 8 % 256) ((y : Int) / 32) = ((rot y 5 : Nat) : Int)
      rw [show (y : Int) * 8 % 256 = ((y * 2 ^ 3 % 256 : Nat) : Int) by omega, show (y : Int) / 32 = ((y / 2 ^ 5 : Nat) : Int) by omega]
      exact key 3 5
    clear key
    go_enter Tryz.func276, Tryz.ntmps276
    go_wp2
    go_ret
    exact ⟨congrArg (fun x => Ending.returned (.int .u8 x)) h.out, rfl⟩
  · have e : bits BinOp.and IntKind.u64 (IntKind.u64.wrap (-6)) 7 = 2 := by decide +kernel
    have h : Hid (bits .or .u8 ((y : Int) * 4 % 256) ((y : Int) / 64) = ((rot y 6 : Nat) : Int)) := by
      show bits .or .u8 ((y : Int) * 4 % 256) ((y : Int) / 64) = ((rot y 6 : Nat) : Int)
      rw [show (y : Int) * 4 % 256 = ((y * 2 ^ 2 % 256 : Nat) : Int) by omega, show (y : Int) / 64 = ((y / 2 ^ 6 : Nat) : Int) by omega]
      exact key 2 6
    clear key
    go_enter Tryz.func276, Tryz.ntmps276
    go_wp2
    go_ret
    exact ⟨congrArg (fun x => Ending.returned (.int .u8 x)) h.out, rfl⟩
  · have e : bits BinOp.and IntKind.u64 (IntKind.u64.wrap (-7)) 7 = 1 := by decide +kernel
    have h : Hid (bits .or .u8 ((y : Int) * 2 % 256) ((y : Int) / 128) = ((rot y 7 : Nat) : Int)) := by
      show bits .or .u8 ((y : Int) * 2 % 256) ((y : Int) / 128) = ((rot y 7 : Nat) : Int)
      rw [show (y : Int) * 2 % 256 = ((y * 2 ^ 1 % 256 : Nat) : Int) by omega, show (y : Int) / 128 = ((y / 2 ^ 7 : Nat) : Int) by omega]
      exact key 1 7
    clear key
    go_enter Tryz.func276, Tryz.ntmps276
    go_wp2
    go_ret
    exact ⟨congrArg (fun x => Ending.returned (.int .u8 x)) h.out, rfl⟩
theorem rot_walk (y : Nat) (n : Nat) (w : World) (hy : y < 256) (hn : n = 2 ∨ n = 4 ∨ n = 5 ∨ n = 6 ∨ n = 7) :
    Calls Tryz.prog 248 #[.int .u8 y, .int .i64 n] w fun e w' => e = .returned (.int .u8 (rot y n : Nat)) ∧ w' = w := by
  have hb : 2 ≤ n ∧ n ≤ 7 := by omega
  go_enter Tryz.func248, Tryz.ntmps248
  go_wp2_with (go_at_call 276; refine (rot8_walk y n _ hy hn).mono ?_; rintro e w' ⟨rfl, rfl⟩)
  go_ret
  exact ⟨rfl, rfl⟩
theorem rot_at (y : Nat) (k : Int) (n : Nat) (w : World) (hk : k = n) (hy : y < 256) (hn : n = 2 ∨ n = 4 ∨ n = 5 ∨ n = 6 ∨ n = 7) :
    Calls Tryz.prog 248 #[.int .u8 y, .int .i64 k] w fun e w' => e = .returned (.int .u8 (rot y n : Nat)) ∧ w' = w := by
  subst hk
  exact rot_walk y n w hy hn
theorem xor8 (a b : Nat) (ha : a < 256) (hb : b < 256) : bits .xor .u8 (a : Int) (b : Int) = ((a ^^^ b : Nat) : Int) := u8_xor_nat a b ha hb
set_option maxHeartbeats 1000000 in
theorem box_walk (a : Nat) (w : World) (ha : a < 256) :
    Calls Tryz.prog 199 #[.int .u8 a] w fun e w' => e = .returned (.int .u8 (box a : Nat)) ∧ w' = w := by
  have hi : Hid (∀ w : World, Calls Tryz.prog 247 #[.int .u8 a] w fun e w' => e = .returned (.int .u8 (inv a : Nat)) ∧ w' = w) := fun w => inv_walk a w ha
  have hy : inv a < 256 := inv_lt a
  have hbox : box a = aff (inv a) := rfl
  rw [hbox]
  clear hbox
  generalize inv a = y at hi hy ⊢
  have r4 := rot_lt y 4 hy
  have r5 := rot_lt y 5 hy
  have r6 := rot_lt y 6 hy
  have r7 := rot_lt y 7 hy
  have x1 := xor_lt _ _ hy r4
  have x2 := xor_lt _ _ x1 r5
  have x3 := xor_lt _ _ x2 r6
  have x4 := xor_lt _ _ x3 r7
  go_enter Tryz.func199, Tryz.ntmps199
  go_wp2_with fail
  refine (hi.out _).mono ?_
  rintro e w' ⟨rfl, rfl⟩
  go_wp2_with (go_at_call 248; first | (with_reducible refine (rot_at y 4 4 _ (by decide) hy (by decide)).mono ?_; rintro e w' ⟨rfl, rfl⟩) | (with_reducible refine (rot_at y 5 5 _ (by decide) hy (by decide)).mono ?_; rintro e w' ⟨rfl, rfl⟩) | (with_reducible refine (rot_at y 6 6 _ (by decide) hy (by decide)).mono ?_; rintro e w' ⟨rfl, rfl⟩) | (with_reducible refine (rot_at y 7 7 _ (by decide) hy (by decide)).mono ?_; rintro e w' ⟨rfl, rfl⟩))
  go_ret
  refine ⟨?_, rfl⟩
  rw [xor8 _ _ hy r4, xor8 _ _ x1 r5, xor8 _ _ x2 r6, xor8 _ _ x3 r7, show (99 : Int) = ((99 : Nat) : Int) from rfl, xor8 _ _ x4 (by decide)]
  rfl
end Go.Proofs.YtpohogpkfdebdaaGreatDoor.Gf
namespace Go.Proofs.YtpohogpkfdebdaaGreatDoor.Gf
open Go.ChangeShapes Go.WideShapes Go.ChangeAt Go.RowKit
end Go.Proofs.YtpohogpkfdebdaaGreatDoor.Gf
