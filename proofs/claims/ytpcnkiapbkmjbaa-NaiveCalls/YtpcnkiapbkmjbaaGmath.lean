/- The field of 256 elements on natural numbers: the product, the inverse, the S-box as the program reckons them, the product of polynomials as the document says it; that it is a field, and that both answer alike; no program in it. -/
import Derived.Laws.BitsAllLaws
import Derived.Laws.BitsLemmas
namespace Go.Proofs.Ytpcnkiapbkmjbaa.Gf

/-- 255 of the bit 1, 0 of 0. -/
def mask (b : Nat) : Nat := (256 - b) % 256
/-- The product with x. -/
def tx (a : Nat) : Nat := (a * 2 % 256) ^^^ (27 &&& mask (a / 128))
def txN (a : Nat) : Nat → Nat
  | 0 => a
  | k + 1 => tx (txN a k)
/-- The product after k rounds. -/
def mulTo (a b : Nat) : Nat → Nat
  | 0 => 0
  | k + 1 => mulTo a b k ^^^ (txN a k &&& mask (b / 2 ^ k % 2))
def mul (a b : Nat) : Nat := mulTo a b 8
/-- a squared k times. -/
def sqN (a : Nat) : Nat → Nat
  | 0 => a
  | k + 1 => mul (sqN a k) (sqN a k)
def invTo (a : Nat) : Nat → Nat
  | 0 => 1
  | k + 1 => mul (invTo a k) (sqN a (k + 1))
def inv (a : Nat) : Nat := invTo a 7
/-- The byte whose bit i is bit i + n of y. -/
def rot (y n : Nat) : Nat := (y * 2 ^ (8 - n) % 256) ||| (y / 2 ^ n)
def aff (y : Nat) : Nat := y ^^^ rot y 4 ^^^ rot y 5 ^^^ rot y 6 ^^^ rot y 7 ^^^ 99
def box (a : Nat) : Nat := aff (inv a)
def back (a : Nat) : Nat := inv (rot (a ^^^ 99) 2 ^^^ rot (a ^^^ 99) 5 ^^^ rot (a ^^^ 99) 7)

theorem xor_lt (a b : Nat) (ha : a < 256) (hb : b < 256) : a ^^^ b < 256 := Nat.xor_lt_two_pow (n := 8) ha hb
theorem mask_lt (b : Nat) : mask b < 256 := Nat.mod_lt _ (by decide)
theorem tx_lt (a : Nat) : tx a < 256 := by
  unfold tx
  exact xor_lt _ _ (Nat.mod_lt _ (by decide)) (Nat.and_lt_two_pow (n := 8) _ (mask_lt _))
theorem txN_lt (a : Nat) (ha : a < 256) (k : Nat) : txN a k < 256 := by
  cases k with
  | zero => exact ha
  | succ k => exact tx_lt _
theorem mulTo_lt (a b k : Nat) : mulTo a b k < 256 := by
  induction k with
  | zero => exact Nat.zero_lt_succ 255
  | succ k ih => exact xor_lt _ _ ih (Nat.and_lt_two_pow (n := 8) _ (mask_lt _))
theorem mul_lt (a b : Nat) : mul a b < 256 := mulTo_lt a b 8
theorem sqN_lt (a : Nat) (ha : a < 256) (k : Nat) : sqN a k < 256 := by
  cases k with
  | zero => exact ha
  | succ k => exact mul_lt _ _
theorem invTo_lt (a k : Nat) : invTo a k < 256 := by
  cases k with
  | zero => show 1 < 256; decide
  | succ k => exact mul_lt _ _
theorem inv_lt (a : Nat) : inv a < 256 := invTo_lt a 7
theorem rot_lt (y n : Nat) (hy : y < 256) : rot y n < 256 := by
  unfold rot
  exact Nat.or_lt_two_pow (n := 8) (Nat.mod_lt _ (by decide)) (Nat.lt_of_le_of_lt (Nat.div_le_self _ _) hy)
theorem aff_lt (y : Nat) (hy : y < 256) : aff y < 256 := by
  unfold aff
  exact xor_lt _ _ (xor_lt _ _ (xor_lt _ _ (xor_lt _ _ (xor_lt _ _ hy (rot_lt _ _ hy)) (rot_lt _ _ hy)) (rot_lt _ _ hy)) (rot_lt _ _ hy)) (by decide)
theorem box_lt (a : Nat) : box a < 256 := aff_lt _ (inv_lt a)
theorem back_lt (a : Nat) : back a < 256 := inv_lt _

/-! ### Over sums -/
theorem mask_two (p q x : Nat) (hp : p < 2) (hq : q < 2) : x &&& mask (p ^^^ q) = (x &&& mask p) ^^^ (x &&& mask q) := by
  have hp' : p = 0 ∨ p = 1 := by omega
  have hq' : q = 0 ∨ q = 1 := by omega
  rcases hp' with rfl | rfl <;> rcases hq' with rfl | rfl <;> simp [mask]
theorem xor_div (a b k : Nat) : (a ^^^ b) / 2 ^ k = (a / 2 ^ k) ^^^ (b / 2 ^ k) := by
  rw [← Nat.shiftRight_eq_div_pow, ← Nat.shiftRight_eq_div_pow, ← Nat.shiftRight_eq_div_pow, Nat.shiftRight_xor_distrib]
theorem xor_mod (a b k : Nat) : (a ^^^ b) % 2 ^ k = (a % 2 ^ k) ^^^ (b % 2 ^ k) := Nat.xor_mod_two_pow
theorem xor_mul (a b k : Nat) : (a ^^^ b) * 2 ^ k = (a * 2 ^ k) ^^^ (b * 2 ^ k) := by
  rw [← Nat.shiftLeft_eq, ← Nat.shiftLeft_eq, ← Nat.shiftLeft_eq, Nat.shiftLeft_xor_distrib]
theorem xor_bit (a b k : Nat) : (a ^^^ b) / 2 ^ k % 2 = (a / 2 ^ k % 2) ^^^ (b / 2 ^ k % 2) := by
  rw [xor_div]; exact xor_mod _ _ 1
theorem four (a b c d : Nat) : (a ^^^ b) ^^^ (c ^^^ d) = (a ^^^ c) ^^^ (b ^^^ d) := by
  rw [Nat.xor_assoc, Nat.xor_assoc, ← Nat.xor_assoc b c d, Nat.xor_comm b c, Nat.xor_assoc c b d]
theorem tx_add (a b : Nat) (ha : a < 256) (hb : b < 256) : tx (a ^^^ b) = tx a ^^^ tx b := by
  unfold tx
  have h1 : (a ^^^ b) * 2 % 256 = (a * 2 % 256) ^^^ (b * 2 % 256) := by
    have h := xor_mul a b 1
    have h' := xor_mod (a * 2 ^ 1) (b * 2 ^ 1) 8
    rw [← h] at h'
    exact h'
  have h2 : (a ^^^ b) / 128 = (a / 128) ^^^ (b / 128) := xor_div a b 7
  rw [h1, h2, mask_two _ _ _ (by omega) (by omega), four]
theorem txN_add (a b : Nat) (ha : a < 256) (hb : b < 256) (k : Nat) : txN (a ^^^ b) k = txN a k ^^^ txN b k := by
  induction k with
  | zero => rfl
  | succ k ih =>
    show tx (txN (a ^^^ b) k) = tx (txN a k) ^^^ tx (txN b k)
    rw [ih, tx_add _ _ (txN_lt a ha k) (txN_lt b hb k)]
theorem mulTo_add (a b c k : Nat) : mulTo a (b ^^^ c) k = mulTo a b k ^^^ mulTo a c k := by
  induction k with
  | zero => exact (Nat.xor_self 0).symm
  | succ k ih =>
    show mulTo a (b ^^^ c) k ^^^ (txN a k &&& mask ((b ^^^ c) / 2 ^ k % 2)) = (mulTo a b k ^^^ (txN a k &&& mask (b / 2 ^ k % 2))) ^^^ (mulTo a c k ^^^ (txN a k &&& mask (c / 2 ^ k % 2)))
    rw [ih, xor_bit, mask_two _ _ _ (Nat.mod_lt _ (by decide)) (Nat.mod_lt _ (by decide)), four]
theorem addTo_mul (a b c : Nat) (ha : a < 256) (hb : b < 256) (k : Nat) : mulTo (a ^^^ b) c k = mulTo a c k ^^^ mulTo b c k := by
  induction k with
  | zero => exact (Nat.xor_self 0).symm
  | succ k ih =>
    show mulTo (a ^^^ b) c k ^^^ (txN (a ^^^ b) k &&& mask (c / 2 ^ k % 2)) = (mulTo a c k ^^^ (txN a k &&& mask (c / 2 ^ k % 2))) ^^^ (mulTo b c k ^^^ (txN b k &&& mask (c / 2 ^ k % 2)))
    rw [ih, txN_add a b ha hb, Nat.and_xor_distrib_right, four]
/-- The product goes over sums. -/
theorem mul_add (a b c : Nat) : mul a (b ^^^ c) = mul a b ^^^ mul a c := mulTo_add a b c 8
theorem add_mul (a b c : Nat) (ha : a < 256) (hb : b < 256) : mul (a ^^^ b) c = mul a c ^^^ mul b c := addTo_mul a b c ha hb 8

theorem top_off : ∀ k, k < 8 → ∀ a, a < 2 ^ (k + 1) → 2 ^ k ≤ a → a ^^^ 2 ^ k < 2 ^ k := by decide +kernel
/-- Two that go over sums are the same if they are so at the eight powers. -/
theorem basis (f g : Nat → Nat) (hf : ∀ a b, a < 256 → b < 256 → f (a ^^^ b) = f a ^^^ f b) (hg : ∀ a b, a < 256 → b < 256 → g (a ^^^ b) = g a ^^^ g b)
    (h : ∀ i, i < 8 → f (2 ^ i) = g (2 ^ i)) : ∀ a, a < 256 → f a = g a := by
  have key : ∀ k, k ≤ 8 → ∀ a, a < 2 ^ k → f a = g a := by
    intro k
    induction k with
    | zero =>
      intro _ a ha
      obtain rfl : a = 0 := by simpa using ha
      have h1 := hf 0 0 (by decide) (by decide)
      have h2 := hg 0 0 (by decide) (by decide)
      rw [Nat.xor_self, Nat.xor_self] at h1 h2
      rw [h1, h2]
    | succ k ih =>
      intro hk a ha
      by_cases hlt : a < 2 ^ k
      · exact ih (by omega) a hlt
      · have h1 := top_off k (by omega) a ha (by omega)
        have hp : 2 ^ k < 2 ^ 8 := Nat.pow_lt_pow_right (by decide) (by omega)
        have h2 : a = (a ^^^ 2 ^ k) ^^^ 2 ^ k := by rw [Nat.xor_assoc, Nat.xor_self, Nat.xor_zero]
        rw [h2, hf _ _ (by omega) (by omega), hg _ _ (by omega) (by omega), ih (by omega) _ h1, h k (by omega)]
  exact key 8 (Nat.le_refl _)
theorem pow_lt (i : Nat) (h : i < 8) : 2 ^ i < 256 := Nat.pow_lt_pow_right (a := 2) (m := i) (n := 8) (by decide) h
/-! ### A field -/
theorem comm64 : ∀ i, i < 8 → ∀ j, j < 8 → mul (2 ^ i) (2 ^ j) = mul (2 ^ j) (2 ^ i) := by decide +kernel
theorem mul_comm (a b : Nat) (ha : a < 256) (hb : b < 256) : mul a b = mul b a := by
  refine basis (fun a => mul a b) (fun a => mul b a) (fun x y hx hy => add_mul x y b hx hy) (fun x y _ _ => mul_add b x y) ?_ a ha
  intro i hi
  refine basis (fun b => mul (2 ^ i) b) (fun b => mul b (2 ^ i)) (fun x y _ _ => mul_add _ x y) (fun x y hx hy => add_mul x y _ hx hy) ?_ b hb
  intro j hj
  exact comm64 i hi j hj
set_option maxRecDepth 100000 in
theorem assoc512 : ∀ i, i < 8 → ∀ j, j < 8 → ∀ k, k < 8 → mul (mul (2 ^ i) (2 ^ j)) (2 ^ k) = mul (2 ^ i) (mul (2 ^ j) (2 ^ k)) := by decide +kernel
theorem mul_assoc (a b c : Nat) (ha : a < 256) (hb : b < 256) (hc : c < 256) : mul (mul a b) c = mul a (mul b c) := by
  refine basis (fun a => mul (mul a b) c) (fun a => mul a (mul b c)) (fun x y hx hy => ?_) (fun x y hx hy => add_mul x y _ hx hy) ?_ a ha
  · show mul (mul (x ^^^ y) b) c = _
    rw [add_mul x y b hx hy, add_mul _ _ c (mul_lt _ _) (mul_lt _ _)]
  intro i hi
  refine basis (fun b => mul (mul (2 ^ i) b) c) (fun b => mul (2 ^ i) (mul b c)) (fun x y hx hy => ?_) (fun x y hx hy => ?_) ?_ b hb
  · show mul (mul (2 ^ i) (x ^^^ y)) c = _
    rw [mul_add, add_mul _ _ c (mul_lt _ _) (mul_lt _ _)]
  · show mul (2 ^ i) (mul (x ^^^ y) c) = _
    rw [add_mul x y c hx hy, mul_add]
  intro j hj
  refine basis (fun c => mul (mul (2 ^ i) (2 ^ j)) c) (fun c => mul (2 ^ i) (mul (2 ^ j) c)) (fun x y _ _ => mul_add _ x y) (fun x y _ _ => ?_) ?_ c hc
  · show mul (2 ^ i) (mul (2 ^ j) (x ^^^ y)) = _
    rw [mul_add, mul_add]
  intro k hk
  exact assoc512 i hi j hj k hk
theorem mul_one : ∀ a, a < 256 → mul a 1 = a := by decide +kernel
theorem one_mul (a : Nat) (h : a < 256) : mul 1 a = a := by rw [mul_comm 1 a (by decide) h, mul_one a h]
theorem mul_zero : ∀ a, a < 256 → mul a 0 = 0 := by decide +kernel
theorem zero_mul (a : Nat) (h : a < 256) : mul 0 a = 0 := by rw [mul_comm 0 a (by decide) h, mul_zero a h]
theorem mul_inv : ∀ a, a < 256 → a ≠ 0 → mul a (inv a) = 1 := by decide +kernel
theorem inv_inv : ∀ a, a < 256 → inv (inv a) = a := by decide +kernel
theorem inv_zero : inv 0 = 0 := by decide +kernel
theorem inv_only (a x : Nat) (ha : a < 256) (hx : x < 256) (h : mul a x = 1) : x = inv a := by
  have h0 : a ≠ 0 := by
    rintro rfl
    rw [zero_mul x hx] at h
    cases h
  have h1 := mul_assoc (inv a) a x (inv_lt a) ha hx
  rw [h, mul_comm (inv a) a (inv_lt a) ha, mul_inv a ha h0, one_mul x hx, mul_one _ (inv_lt a)] at h1
  exact h1
theorem mul_none (a b : Nat) (ha : a < 256) (hb : b < 256) : mul a b = 0 ↔ a = 0 ∨ b = 0 := by
  constructor
  · intro h
    by_cases h0 : a = 0
    · exact .inl h0
    · right
      have h1 := mul_assoc (inv a) a b (inv_lt a) ha hb
      rw [h, mul_comm (inv a) a (inv_lt a) ha, mul_inv a ha h0, one_mul b hb, mul_zero _ (inv_lt a)] at h1
      exact h1
  · rintro (rfl | rfl)
    · exact zero_mul b hb
    · exact mul_zero a ha
/-! ### The S-box -/
theorem back_box : ∀ a, a < 256 → back (box a) = a := by decide +kernel
theorem box_back : ∀ a, a < 256 → box (back a) = a := by decide +kernel
theorem box_ne : ∀ a, a < 256 → box a ≠ a := by decide +kernel
theorem box_not : ∀ a, a < 256 → box a ≠ 255 - a := by decide +kernel
theorem box_inj (a b : Nat) (ha : a < 256) (hb : b < 256) : box a = box b ↔ a = b := by
  constructor
  · intro h
    rw [← back_box a ha, h, back_box b hb]
  · rintro rfl; rfl
/-! ### The document's product -/
def row (a b i : Nat) : Nat → Nat
  | 0 => 0
  | k + 1 => row a b i k ^^^ ((a / 2 ^ i % 2) * (b / 2 ^ k % 2)) * 2 ^ (i + k)
def full (a b : Nat) : Nat → Nat
  | 0 => 0
  | i + 1 => full a b i ^^^ row a b i 8
def less (p : Nat) : Nat → Nat
  | 0 => p
  | n + 1 => if less p n / 2 ^ (14 - n) % 2 = 1 then less p n ^^^ 283 * 2 ^ (6 - n) else less p n
theorem row_lt (a b i k : Nat) (hi : i < 8) (hk : k ≤ 8) : row a b i k < 2 ^ 15 := by
  induction k with
  | zero => exact Nat.two_pow_pos 15
  | succ k ih =>
    refine Nat.xor_lt_two_pow (ih (by omega)) ?_
    have h1 : a / 2 ^ i % 2 = 0 ∨ a / 2 ^ i % 2 = 1 := by omega
    have h2 : b / 2 ^ k % 2 = 0 ∨ b / 2 ^ k % 2 = 1 := by omega
    have h3 : 2 ^ (i + k) < 2 ^ 15 := Nat.pow_lt_pow_right (by decide) (by omega)
    rcases h1 with h1 | h1 <;> rcases h2 with h2 | h2 <;> rw [h1, h2] <;> simp <;> omega
theorem full_lt (a b i : Nat) (hi : i ≤ 8) : full a b i < 2 ^ 15 := by
  induction i with
  | zero => exact Nat.two_pow_pos 15
  | succ i ih => exact Nat.xor_lt_two_pow (ih (by omega)) (row_lt a b i 8 (by omega) (by omega))
theorem less_lt (p n : Nat) (hp : p < 2 ^ 15) (hn : n ≤ 7) : less p n < 2 ^ 15 := by
  induction n with
  | zero => exact hp
  | succ n ih =>
    unfold less
    split
    · refine Nat.xor_lt_two_pow (ih (by omega)) ?_
      have h3 : 2 ^ (6 - n) ≤ 2 ^ 6 := Nat.pow_le_pow_right (by decide) (by omega)
      have : 283 * 2 ^ (6 - n) ≤ 283 * 2 ^ 6 := Nat.mul_le_mul_left _ h3
      omega
    · exact ih (by omega)
theorem row_add (a b c i k : Nat) : row a (b ^^^ c) i k = row a b i k ^^^ row a c i k := by
  induction k with
  | zero => exact (Nat.xor_self 0).symm
  | succ k ih =>
    show row a (b ^^^ c) i k ^^^ ((a / 2 ^ i % 2) * ((b ^^^ c) / 2 ^ k % 2)) * 2 ^ (i + k) = (row a b i k ^^^ ((a / 2 ^ i % 2) * (b / 2 ^ k % 2)) * 2 ^ (i + k)) ^^^ (row a c i k ^^^ ((a / 2 ^ i % 2) * (c / 2 ^ k % 2)) * 2 ^ (i + k))
    have h : (a / 2 ^ i % 2) * ((b ^^^ c) / 2 ^ k % 2) = (a / 2 ^ i % 2) * (b / 2 ^ k % 2) ^^^ (a / 2 ^ i % 2) * (c / 2 ^ k % 2) := by
      rw [xor_bit]
      have h1 : a / 2 ^ i % 2 = 0 ∨ a / 2 ^ i % 2 = 1 := by omega
      rcases h1 with h1 | h1 <;> rw [h1] <;> simp
    rw [ih, h, xor_mul, four]
theorem add_row (a b c i k : Nat) : row (a ^^^ b) c i k = row a c i k ^^^ row b c i k := by
  induction k with
  | zero => exact (Nat.xor_self 0).symm
  | succ k ih =>
    show row (a ^^^ b) c i k ^^^ (((a ^^^ b) / 2 ^ i % 2) * (c / 2 ^ k % 2)) * 2 ^ (i + k) = (row a c i k ^^^ ((a / 2 ^ i % 2) * (c / 2 ^ k % 2)) * 2 ^ (i + k)) ^^^ (row b c i k ^^^ ((b / 2 ^ i % 2) * (c / 2 ^ k % 2)) * 2 ^ (i + k))
    have h : ((a ^^^ b) / 2 ^ i % 2) * (c / 2 ^ k % 2) = (a / 2 ^ i % 2) * (c / 2 ^ k % 2) ^^^ (b / 2 ^ i % 2) * (c / 2 ^ k % 2) := by
      rw [xor_bit]
      have h1 : c / 2 ^ k % 2 = 0 ∨ c / 2 ^ k % 2 = 1 := by omega
      rcases h1 with h1 | h1 <;> rw [h1] <;> simp
    rw [ih, h, xor_mul, four]
theorem full_add (a b c i : Nat) : full a (b ^^^ c) i = full a b i ^^^ full a c i := by
  induction i with
  | zero => exact (Nat.xor_self 0).symm
  | succ i ih =>
    show full a (b ^^^ c) i ^^^ row a (b ^^^ c) i 8 = (full a b i ^^^ row a b i 8) ^^^ (full a c i ^^^ row a c i 8)
    rw [ih, row_add, four]
theorem add_full (a b c i : Nat) : full (a ^^^ b) c i = full a c i ^^^ full b c i := by
  induction i with
  | zero => exact (Nat.xor_self 0).symm
  | succ i ih =>
    show full (a ^^^ b) c i ^^^ row (a ^^^ b) c i 8 = (full a c i ^^^ row a c i 8) ^^^ (full b c i ^^^ row b c i 8)
    rw [ih, add_row, four]
theorem less_add (p q n : Nat) : less (p ^^^ q) n = less p n ^^^ less q n := by
  induction n with
  | zero => rfl
  | succ n ih =>
    unfold less
    rw [ih, xor_bit]
    have h1 : less p n / 2 ^ (14 - n) % 2 = 0 ∨ less p n / 2 ^ (14 - n) % 2 = 1 := by omega
    have h2 : less q n / 2 ^ (14 - n) % 2 = 0 ∨ less q n / 2 ^ (14 - n) % 2 = 1 := by omega
    generalize 283 * 2 ^ (6 - n) = m
    rcases h1 with h1 | h1 <;> rcases h2 with h2 | h2 <;> rw [h1, h2] <;> simp
    · rw [Nat.xor_assoc]
    · rw [Nat.xor_assoc, Nat.xor_assoc, Nat.xor_comm m]
    · rw [four, Nat.xor_self, Nat.xor_zero]
def paper (a b : Nat) : Nat := less (full a b 8) 7 % 256
theorem paper64 : ∀ i, i < 8 → ∀ j, j < 8 → paper (2 ^ i) (2 ^ j) = mul (2 ^ i) (2 ^ j) := by decide +kernel
theorem paper_mul (a b : Nat) (ha : a < 256) (hb : b < 256) : paper a b = mul a b := by
  refine basis (fun a => paper a b) (fun a => mul a b) (fun x y _ _ => ?_) (fun x y hx hy => add_mul x y b hx hy) ?_ a ha
  · show less (full (x ^^^ y) b 8) 7 % 256 = (less (full x b 8) 7 % 256) ^^^ (less (full y b 8) 7 % 256)
    rw [add_full, less_add]; exact xor_mod _ _ 8
  intro i hi
  refine basis (fun b => paper (2 ^ i) b) (fun b => mul (2 ^ i) b) (fun x y _ _ => ?_) (fun x y _ _ => mul_add _ x y) ?_ b hb
  · show less (full (2 ^ i) (x ^^^ y) 8) 7 % 256 = (less (full (2 ^ i) x 8) 7 % 256) ^^^ (less (full (2 ^ i) y 8) 7 % 256)
    rw [full_add, less_add]; exact xor_mod _ _ 8
  intro j hj
  exact paper64 i hi j hj
/-! ### The document's S-box -/
def bitOf (y i : Nat) : Nat := y / 2 ^ (i % 8) % 2
def bitSum (y i : Nat) : Nat := bitOf y i + bitOf y (i + 4) + bitOf y (i + 5) + bitOf y (i + 6) + bitOf y (i + 7) + bitOf 99 i
def outTo (y : Nat) : Nat → Nat
  | 0 => 0
  | k + 1 => outTo y k + bitSum y k % 2 * 2 ^ k
theorem out_lt (y k : Nat) : outTo y k < 2 ^ k := by
  induction k with
  | zero => exact Nat.zero_lt_one
  | succ k ih =>
    unfold outTo
    have h : bitSum y k % 2 = 0 ∨ bitSum y k % 2 = 1 := by omega
    rcases h with h | h <;> rw [h] <;> omega
theorem out_aff : ∀ y, y < 256 → outTo y 8 = aff y := by decide +kernel
end Go.Proofs.Ytpcnkiapbkmjbaa.Gf
