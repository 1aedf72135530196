/- The permutation of 25 words as functions of numbers: what the steps of a round make, that each can be taken back, and the words' bytes; no program in it. -/
import Derived.Test.YtidejhkajabdfaaDoorKmath
namespace Go.Proofs.YtidejhkajabdfaaDoor.Kc
open Go.Proofs.YtidejhkajabdfaaDoor.Wd

def W64 (x : Int) : Prop := 0 ≤ x ∧ x < 18446744073709551616
def xr (a b : Int) : Int := bits .xor .u64 a b
/-- The bits of a that are not in b. -/
def dn (a b : Int) : Int := bits .andNot .u64 a b
def rl (x n : Int) : Int := Rot 64 x n
theorem bits_w (op : BinOp) (a b : Int) : W64 (bits op .u64 a b) := by
  have h : ∀ n : Nat, W64 (IntKind.u64.wrap (n : Int)) := fun n => by rw [IntKind.wrap_u64]; unfold W64; omega
  unfold bits
  exact h _
theorem xr_w (a b : Int) : W64 (xr a b) := bits_w _ _ _
theorem dn_w (a b : Int) : W64 (dn a b) := bits_w _ _ _
theorem rl_w (x n : Int) (h : W64 x) : W64 (rl x n) := Rot64_bound x n h.1 h.2
theorem w0 : W64 0 := by unfold W64; decide

/-- Bit j of a word. -/
def bt (x : Int) (j : Nat) : Bool := x.toNat.testBit j
theorem bt_ext {x y : Int} (hx : W64 x) (hy : W64 y) (h : ∀ j, j < 64 → bt x j = bt y j) : x = y := by
  have h1 : x.toNat = y.toNat := by
    apply Nat.eq_of_testBit_eq
    intro j
    by_cases hj : j < 64
    · exact h j hj
    · have p : ∀ z : Int, W64 z → z.toNat.testBit j = false := fun z hz => Nat.testBit_lt_two_pow (Nat.lt_of_lt_of_le (show z.toNat < 2 ^ 64 by have := hz.1; have := hz.2; show z.toNat < 18446744073709551616; omega) (Nat.pow_le_pow_right (by omega) (by omega)))
      rw [p x hx, p y hy]
  have := hx.1; have := hy.1; omega
theorem bt_xr {a b : Int} (ha : W64 a) (hb : W64 b) (j : Nat) : bt (xr a b) j = (bt a j ^^ bt b j) := by
  obtain ⟨A, rfl⟩ := Int.eq_ofNat_of_zero_le ha.1
  obtain ⟨B, rfl⟩ := Int.eq_ofNat_of_zero_le hb.1
  have h1 := ha.2; have h2 := hb.2
  unfold xr bt
  rw [u64_xor_nat A B (by omega) (by omega)]
  simp [Nat.testBit_xor]
theorem bt_dn {a b : Int} (ha : W64 a) (hb : W64 b) (j : Nat) (hj : j < 64) : bt (dn a b) j = (bt a j && !bt b j) := by
  obtain ⟨A, rfl⟩ := Int.eq_ofNat_of_zero_le ha.1
  obtain ⟨B, rfl⟩ := Int.eq_ofNat_of_zero_le hb.1
  have h1 := ha.2; have h2 := hb.2
  unfold dn bt
  rw [u64_andNot_nat A B (by omega) (by omega)]
  simp only [Int.toNat_natCast, Nat.testBit_and]
  rw [show 18446744073709551615 - B = 2 ^ 64 - (B + 1) from by omega, Nat.testBit_two_pow_sub_succ (by show B < 18446744073709551616; omega)]
  simp [hj]
theorem bt_rl {x : Int} (hx : W64 x) (n : Nat) (j : Nat) (hj : j < 64) : bt (rl x n) j = bt x ((j + (64 - n % 64)) % 64) := by
  have hX : x.toNat < 2 ^ 64 := by have := hx.1; have := hx.2; show x.toNat < 18446744073709551616; omega
  unfold rl bt Rot
  rw [Int.toNat_natCast, show ((n : Int) % (64 : Nat)).toNat = n % 64 from by omega]
  have hl : n % 64 < 64 := Nat.mod_lt _ (by omega)
  generalize n % 64 = l at *
  rw [rotN_bit 64 l _ j (by omega) hX]
  split
  · congr 1; omega
  · rw [decide_eq_true hj, Bool.true_and]
    congr 1; omega
theorem rl_inj {x y : Int} (hx : W64 x) (hy : W64 y) (n : Nat) (h : rl x n = rl y n) : x = y := by
  refine bt_ext hx hy (fun j hj => ?_)
  have h1 := congrArg (fun z => bt z ((j + n % 64) % 64)) h
  rw [bt_rl hx n _ (Nat.mod_lt _ (by omega)), bt_rl hy n _ (Nat.mod_lt _ (by omega))] at h1
  rwa [show ((j + n % 64) % 64 + (64 - n % 64)) % 64 = j from by omega] at h1
theorem rl_zero {x : Int} (hx : W64 x) : rl x 0 = x := by
  refine bt_ext (rl_w x 0 hx) hx (fun j hj => ?_)
  have := bt_rl hx 0 j hj
  rw [show ((0 : Nat) : Int) = 0 from rfl] at this
  rw [this]; congr 1; omega

/-- Step 1: the columns, what each lane takes in, the lanes. -/
def col (a : Nat → Int) (x : Nat) : Int := xr (xr (xr (xr (a x) (a (x + 5))) (a (x + 10))) (a (x + 15))) (a (x + 20))
def dd (a : Nat → Int) (x : Nat) : Int := xr (col a ((x + 4) % 5)) (rl (col a ((x + 1) % 5)) 1)
def mix (a : Nat → Int) (i : Nat) : Int := xr (a i) (dd a (i % 5))
/-- Step 2: the places along the way, the lanes behind t of the moves. -/
def wyl : List Nat := [1, 10, 7, 11, 17, 18, 3, 5, 16, 8, 21, 24, 4, 15, 23, 19, 13, 12, 2, 20, 14, 22, 9, 6, 1]
def Wy (t : Nat) : Nat := wyl.getD t 0
def tri (t : Nat) : Nat := (t + 1) * (t + 2) / 2
def mvt (a : Nat → Int) : Nat → Nat → Int
  | 0 => fun i => if i = 0 then a 0 else 0
  | t + 1 => fun i => if i = Wy (t + 1) then rl (a (Wy t)) (tri t) else mvt a t i
def mv (a : Nat → Int) : Nat → Int := mvt a 24
/-- Step 3. -/
def n1 (i : Nat) : Nat := 5 * (i / 5) + (i % 5 + 1) % 5
def n2 (i : Nat) : Nat := 5 * (i / 5) + (i % 5 + 2) % 5
def jn (b : Nat → Int) (i : Nat) : Int := xr (b i) (dn (b (n2 i)) (b (n1 i)))
/-- Step 4. -/
def io (c : Int) (a : Nat → Int) (i : Nat) : Int := if i = 0 then xr (a 0) c else a i
def rd (c : Int) (a : Nat → Int) : Nat → Int := io c (jn (mv (mix a)))
def cl : List Int := [1, 32898, 9223372036854808714, 9223372039002292224, 32907, 2147483649, 9223372039002292353, 9223372036854808585, 138, 136, 2147516425, 2147483658, 2147516555, 9223372036854775947, 9223372036854808713, 9223372036854808579, 9223372036854808578, 9223372036854775936, 32778, 9223372039002259466, 9223372039002292353, 9223372036854808704, 2147483649, 9223372039002292232]
def RC (i : Nat) : Int := cl.getD i 0
def rds (a : Nat → Int) : Nat → Nat → Int
  | 0 => a
  | t + 1 => rd (RC t) (rds a t)
def perm (a : Nat → Int) : Nat → Int := rds a 24

def AW (a : Nat → Int) : Prop := ∀ i, W64 (a i)
theorem col_w (a : Nat → Int) (x : Nat) : W64 (col a x) := xr_w _ _
theorem dd_w (a : Nat → Int) (x : Nat) : W64 (dd a x) := xr_w _ _
theorem mix_w (a : Nat → Int) : AW (mix a) := fun _ => xr_w _ _
theorem mvt_w {a : Nat → Int} (h : AW a) (t : Nat) : AW (mvt a t) := by
  induction t with
  | zero => intro i; unfold mvt; split
            · exact h 0
            · exact w0
  | succ t ih => intro i; unfold mvt; split
                 · exact rl_w _ _ (h _)
                 · exact ih i
theorem mv_w {a : Nat → Int} (h : AW a) : AW (mv a) := mvt_w h 24
theorem jn_w (b : Nat → Int) : AW (jn b) := fun _ => xr_w _ _
theorem io_w {c : Int} {a : Nat → Int} (h : AW a) : AW (io c a) := fun i => by
  unfold io; split
  · exact xr_w _ _
  · exact h i
theorem rd_w (c : Int) (a : Nat → Int) : AW (rd c a) := io_w (jn_w _)
theorem rds_w {a : Nat → Int} (h : AW a) (t : Nat) : AW (rds a t) := by
  cases t with
  | zero => exact h
  | succ t => exact rd_w _ _
theorem perm_w {a : Nat → Int} (h : AW a) : AW (perm a) := rds_w h 24
theorem RC_w (i : Nat) : W64 (RC i) := by
  unfold RC
  by_cases h : i < 24
  · exact (show ∀ j, j < 24 → W64 (cl.getD j 0) from by unfold W64; decide) i h
  · rw [List.getD_eq_getElem?_getD, List.getElem?_eq_none (by show 24 ≤ i; omega)]; exact w0

/-- Of a plane of bits: C(x, j) with two others. -/
def FF (a b c : Nat) (C : Nat → Nat → Bool) (x j : Nat) : Bool := (C x j ^^ C (x + a) j) ^^ C (x + b) (j + c)
theorem FF_two (a b c : Nat) (C : Nat → Nat → Bool) (x j : Nat) : FF a b c (FF a b c C) x j = FF (2 * a) (2 * b) (2 * c) C x j := by
  unfold FF
  rw [show x + a + a = x + 2 * a from by omega, show x + b + a = x + a + b from by omega, show x + b + b = x + 2 * b from by omega, show j + c + c = j + 2 * c from by omega]
  generalize C x j = p
  generalize C (x + a) j = q
  generalize C (x + b) (j + c) = r
  generalize C (x + a + b) (j + c) = s
  generalize C (x + 2 * a) j = t
  generalize C (x + 2 * b) (j + 2 * c) = u
  revert p q r s t u
  decide
theorem FF_step {a b c : Nat} {C D : Nat → Nat → Bool} (h : ∀ x j, FF a b c C x j = FF a b c D x j) : ∀ x j, FF (2 * a) (2 * b) (2 * c) C x j = FF (2 * a) (2 * b) (2 * c) D x j := by
  intro x j
  have e : FF a b c C = FF a b c D := funext fun x => funext fun j => h x j
  rw [← FF_two, ← FF_two, e]
def Pd (C : Nat → Nat → Bool) : Prop := (∀ x j, C (x + 5) j = C x j) ∧ ∀ x j, C x (j + 64) = C x j
theorem Pd.x {C : Nat → Nat → Bool} (h : Pd C) (k x j : Nat) : C (x + 5 * k) j = C x j := by
  induction k with
  | zero => rfl
  | succ k ih => rw [show x + 5 * (k + 1) = x + 5 * k + 5 from by omega, h.1, ih]
theorem Pd.j {C : Nat → Nat → Bool} (h : Pd C) (k x j : Nat) : C x (j + 64 * k) = C x j := by
  induction k with
  | zero => rfl
  | succ k ih => rw [show j + 64 * (k + 1) = j + 64 * k + 64 from by omega, h.2, ih]
theorem FF_inj {C D : Nat → Nat → Bool} (hC : Pd C) (hD : Pd D) (h : ∀ x j, FF 4 1 63 C x j = FF 4 1 63 D x j) : ∀ x j, C x j = D x j := by
  have h6 : ∀ x j, FF 256 64 4032 C x j = FF 256 64 4032 D x j := FF_step (FF_step (FF_step (FF_step (FF_step (FF_step h)))))
  have r : ∀ {C : Nat → Nat → Bool}, Pd C → ∀ x j, FF 256 64 4032 C x j = FF 1 4 0 C x j := by
    intro C hC x j
    unfold FF
    rw [show x + 256 = x + 1 + 5 * 51 from by omega, show x + 64 = x + 4 + 5 * 12 from by omega, show j + 4032 = j + 64 * 63 from by omega, hC.x, hC.x, hC.j]; rfl
  have h1 : ∀ x j, FF 1 4 0 C x j = FF 1 4 0 D x j := fun x j => by rw [← r hC, ← r hD]; exact h6 x j
  have h2 : ∀ x j, FF 2 8 0 C x j = FF 2 8 0 D x j := FF_step h1
  have b : ∀ {C : Nat → Nat → Bool}, Pd C → ∀ x j, FF 1 4 0 (FF 2 8 0 C) x j = C x j := by
    intro C hC x j
    unfold FF
    simp only [Nat.add_zero]
    rw [show x + 8 = x + 3 + 5 from by omega, show x + 1 + 2 = x + 3 from by omega, show x + 1 + 8 = x + 4 + 5 from by omega, show x + 4 + 2 = x + 1 + 5 from by omega, show x + 4 + 8 = x + 2 + 5 + 5 from by omega]
    simp only [hC.1]
    generalize C x j = p
    generalize C (x + 1) j = q
    generalize C (x + 2) j = s
    generalize C (x + 3) j = t
    generalize C (x + 4) j = u
    revert p q s t u
    decide
  intro x j
  have e : FF 2 8 0 C = FF 2 8 0 D := funext fun x => funext fun j => h2 x j
  rw [← b hC, ← b hD, e]

theorem bt_col {a : Nat → Int} (h : AW a) (x j : Nat) : bt (col a x) j = ((((bt (a x) j ^^ bt (a (x + 5)) j) ^^ bt (a (x + 10)) j) ^^ bt (a (x + 15)) j) ^^ bt (a (x + 20)) j) := by
  unfold col
  rw [bt_xr (xr_w _ _) (h _), bt_xr (xr_w _ _) (h _), bt_xr (xr_w _ _) (h _), bt_xr (h _) (h _)]
/-- The columns' bits, as a plane. -/
def pl (a : Nat → Int) (x j : Nat) : Bool := bt (col a (x % 5)) (j % 64)
theorem pl_pd (a : Nat → Int) : Pd (pl a) := ⟨fun x j => by unfold pl; rw [Nat.add_mod_right], fun x j => by unfold pl; rw [Nat.add_mod_right]⟩
theorem pl_mix {a : Nat → Int} (h : AW a) (x j : Nat) : pl (mix a) x j = FF 4 1 63 (pl a) x j := by
  show bt (col (mix a) (x % 5)) (j % 64) = ((bt (col a (x % 5)) (j % 64) ^^ bt (col a ((x + 4) % 5)) (j % 64)) ^^ bt (col a ((x + 1) % 5)) ((j + 63) % 64))
  have hx : x % 5 < 5 := Nat.mod_lt _ (by omega)
  have hj : j % 64 < 64 := Nat.mod_lt _ (by omega)
  rw [show (x + 4) % 5 = (x % 5 + 4) % 5 from by omega, show (x + 1) % 5 = (x % 5 + 1) % 5 from by omega, show (j + 63) % 64 = (j % 64 + 63) % 64 from by omega]
  generalize x % 5 = X at *
  generalize j % 64 = J at *
  rw [bt_col (mix_w a), bt_col h X]
  have m : ∀ y, y < 5 → bt (mix a (X + 5 * y)) J = (bt (a (X + 5 * y)) J ^^ (bt (col a ((X + 4) % 5)) J ^^ bt (col a ((X + 1) % 5)) ((J + 63) % 64))) := by
    intro y hy
    unfold mix
    rw [show (X + 5 * y) % 5 = X from by omega, bt_xr (h _) (dd_w a X)]
    unfold dd
    have e := bt_rl (col_w a ((X + 1) % 5)) 1 J hj
    rw [show ((1 : Nat) : Int) = 1 from rfl] at e
    rw [bt_xr (col_w _ _) (rl_w _ _ (col_w _ _)), e]
  have m0 := m 0 (by omega)
  have m1 := m 1 (by omega)
  have m2 := m 2 (by omega)
  have m3 := m 3 (by omega)
  have m4 := m 4 (by omega)
  simp only [Nat.mul_zero, Nat.add_zero, Nat.mul_one, Nat.reduceMul] at m0 m1 m2 m3 m4
  rw [m0, m1, m2, m3, m4]
  generalize bt (a X) J = p
  generalize bt (a (X + 5)) J = q
  generalize bt (a (X + 10)) J = r
  generalize bt (a (X + 15)) J = s
  generalize bt (a (X + 20)) J = t
  generalize bt (col a ((X + 4) % 5)) J = u
  generalize bt (col a ((X + 1) % 5)) ((J + 63) % 64) = v
  revert p q r s t u v
  decide
theorem xr_cancel {a b d : Int} (ha : W64 a) (hb : W64 b) (hd : W64 d) (h : xr a d = xr b d) : a = b := by
  refine bt_ext ha hb (fun j hj => ?_)
  have h1 := congrArg (fun z => bt z j) h
  rw [bt_xr ha hd, bt_xr hb hd] at h1
  generalize bt a j = p at *
  generalize bt b j = q at *
  generalize bt d j = r at *
  revert p q r
  decide
/-- Alike at the 25 lanes. -/
def E25 (a b : Nat → Int) : Prop := ∀ i, i < 25 → a i = b i
theorem mix_inj {a b : Nat → Int} (ha : AW a) (hb : AW b) (h : E25 (mix a) (mix b)) : E25 a b := by
  have hc : ∀ x, x < 5 → col (mix a) x = col (mix b) x := fun x hx => by
    unfold col
    rw [h x (by omega), h (x + 5) (by omega), h (x + 10) (by omega), h (x + 15) (by omega), h (x + 20) (by omega)]
  have hp : ∀ x j, pl a x j = pl b x j := FF_inj (pl_pd a) (pl_pd b) (fun x j => by
    rw [← pl_mix ha, ← pl_mix hb]
    unfold pl
    rw [hc _ (Nat.mod_lt _ (by omega))])
  have hcol : ∀ x, x < 5 → col a x = col b x := fun x hx => bt_ext (col_w _ _) (col_w _ _) (fun j hj => by
    have := hp x j
    unfold pl at this
    rwa [Nat.mod_eq_of_lt hx, Nat.mod_eq_of_lt hj] at this)
  intro i hi
  have h1 := h i hi
  unfold mix at h1
  have hd : dd a (i % 5) = dd b (i % 5) := by
    unfold dd
    rw [hcol _ (Nat.mod_lt _ (by omega)), hcol _ (Nat.mod_lt _ (by omega))]
  rw [hd] at h1
  exact xr_cancel (ha i) (hb i) (dd_w _ _) h1

/-- Where a lane of step 2 comes from, and how far it is turned. -/
def srl : List Nat := [0, 6, 12, 18, 24, 3, 9, 10, 16, 22, 1, 7, 13, 19, 20, 4, 5, 11, 17, 23, 2, 8, 14, 15, 21]
def aml : List Nat := [0, 300, 171, 21, 78, 28, 276, 3, 45, 253, 1, 6, 153, 136, 210, 91, 36, 10, 15, 120, 190, 55, 231, 105, 66]
theorem mv_at (a : Nat → Int) : ∀ i, i < 25 → 0 < i → mv a i = rl (a (srl.getD i 0)) (aml.getD i 0 : Nat) := by
  intro i hi h0
  match i, hi, h0 with
  | 1, _, _ => rfl
  | 2, _, _ => rfl
  | 3, _, _ => rfl
  | 4, _, _ => rfl
  | 5, _, _ => rfl
  | 6, _, _ => rfl
  | 7, _, _ => rfl
  | 8, _, _ => rfl
  | 9, _, _ => rfl
  | 10, _, _ => rfl
  | 11, _, _ => rfl
  | 12, _, _ => rfl
  | 13, _, _ => rfl
  | 14, _, _ => rfl
  | 15, _, _ => rfl
  | 16, _, _ => rfl
  | 17, _, _ => rfl
  | 18, _, _ => rfl
  | 19, _, _ => rfl
  | 20, _, _ => rfl
  | 21, _, _ => rfl
  | 22, _, _ => rfl
  | 23, _, _ => rfl
  | 24, _, _ => rfl
  | i + 25, h, _ => omega
theorem mv_zero (a : Nat → Int) : mv a 0 = a 0 := rfl
theorem mv_inj {a b : Nat → Int} (ha : AW a) (hb : AW b) (h : E25 (mv a) (mv b)) : E25 a b := by
  intro i hi
  by_cases h0 : i = 0
  · subst h0; exact h 0 (by omega)
  · obtain ⟨k, hk, hk0, e⟩ : ∃ k, k < 25 ∧ 0 < k ∧ srl.getD k 0 = i := (show ∀ i, i < 25 → i ≠ 0 → ∃ k, k < 25 ∧ 0 < k ∧ srl.getD k 0 = i from by decide) i hi h0
    have h1 := h k hk
    rw [mv_at a k hk hk0, mv_at b k hk hk0, e] at h1
    exact rl_inj (ha i) (hb i) _ h1
theorem chi5 : ∀ a b c d e p q r s t : Bool, (a ^^ (c && !b)) = (p ^^ (r && !q)) → (b ^^ (d && !c)) = (q ^^ (s && !r)) → (c ^^ (e && !d)) = (r ^^ (t && !s)) → (d ^^ (a && !e)) = (s ^^ (p && !t)) → (e ^^ (b && !a)) = (t ^^ (q && !p)) → a = p ∧ b = q ∧ c = r ∧ d = s ∧ e = t := by decide +kernel
theorem bt_jn {b : Nat → Int} (hb : AW b) (i j : Nat) (hj : j < 64) : bt (jn b i) j = (bt (b i) j ^^ (bt (b (n2 i)) j && !bt (b (n1 i)) j)) := by
  unfold jn
  rw [bt_xr (hb _) (dn_w _ _), bt_dn (hb _) (hb _) j hj]
theorem jn_inj {a b : Nat → Int} (ha : AW a) (hb : AW b) (h : E25 (jn a) (jn b)) : E25 a b := by
  have row : ∀ y, y < 5 → ∀ x, x < 5 → a (5 * y + x) = b (5 * y + x) := by
    intro y hy x hx
    refine bt_ext (ha _) (hb _) (fun j hj => ?_)
    have e : ∀ x, x < 5 → (bt (a (5 * y + x)) j ^^ (bt (a (5 * y + (x + 2) % 5)) j && !bt (a (5 * y + (x + 1) % 5)) j)) = (bt (b (5 * y + x)) j ^^ (bt (b (5 * y + (x + 2) % 5)) j && !bt (b (5 * y + (x + 1) % 5)) j)) := by
      intro x hx
      have h1 := congrArg (fun z => bt z j) (h (5 * y + x) (by omega))
      rw [bt_jn ha _ j hj, bt_jn hb _ j hj] at h1
      rwa [show n2 (5 * y + x) = 5 * y + (x + 2) % 5 from by unfold n2; omega, show n1 (5 * y + x) = 5 * y + (x + 1) % 5 from by unfold n1; omega] at h1
    have c := chi5 _ _ _ _ _ _ _ _ _ _ (e 0 (by omega)) (e 1 (by omega)) (e 2 (by omega)) (e 3 (by omega)) (e 4 (by omega))
    match x, hx with
    | 0, _ => exact c.1
    | 1, _ => exact c.2.1
    | 2, _ => exact c.2.2.1
    | 3, _ => exact c.2.2.2.1
    | 4, _ => exact c.2.2.2.2
  intro i hi
  have := row (i / 5) (by omega) (i % 5) (by omega)
  rwa [show 5 * (i / 5) + i % 5 = i from by omega] at this
theorem io_inj {c : Int} {a b : Nat → Int} (hc : W64 c) (ha : AW a) (hb : AW b) (h : E25 (io c a) (io c b)) : E25 a b := by
  intro i hi
  have h1 := h i hi
  unfold io at h1
  by_cases h0 : i = 0
  · subst h0
    rw [if_pos rfl, if_pos rfl] at h1
    exact xr_cancel (ha 0) (hb 0) hc h1
  · rwa [if_neg h0, if_neg h0] at h1
theorem rd_inj {c : Int} {a b : Nat → Int} (hc : W64 c) (ha : AW a) (hb : AW b) (h : E25 (rd c a) (rd c b)) : E25 a b :=
  mix_inj ha hb (mv_inj (mix_w a) (mix_w b) (jn_inj (mv_w (mix_w a)) (mv_w (mix_w b)) (io_inj hc (jn_w _) (jn_w _) h)))
theorem rds_inj {a b : Nat → Int} (ha : AW a) (hb : AW b) (t : Nat) (h : E25 (rds a t) (rds b t)) : E25 a b := by
  induction t with
  | zero => exact h
  | succ t ih => exact ih (rd_inj (RC_w t) (rds_w ha t) (rds_w hb t) h)
theorem perm_inj {a b : Nat → Int} (ha : AW a) (hb : AW b) (h : E25 (perm a) (perm b)) : E25 a b := rds_inj ha hb 24 h
end Go.Proofs.YtidejhkajabdfaaDoor.Kc
