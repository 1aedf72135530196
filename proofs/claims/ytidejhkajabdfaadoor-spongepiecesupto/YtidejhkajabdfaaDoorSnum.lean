/- A sponge as numbers: bytes taken in, bytes told, how often it is permuted; no function of the program in it. -/
import Derived.Test.YtidejhkajabdfaaDoorQfrom
namespace Go.Proofs.YtidejhkajabdfaaDoor.Kc
open Go.Proofs.YtidejhkajabdfaaDoor.By Go.Proofs.YtidejhkajabdfaaDoor.Wd
/-- 200 bytes permuted. -/
def psp (f : Nat → Int) : Nat → Int := bf (perm (fl f))
theorem psp_b (f : Nat → Int) : BB (psp f) := bf_b _
def xb (a b : Int) : Int := bits .xor .u8 a b
theorem xb_b (a b : Int) : 0 ≤ xb a b ∧ xb a b < 256 := by
  unfold xb bits
  split <;> rw [IntKind.wrap_u8] <;> omega
/-- One byte exclusive-ored. -/
def mx (f : Nat → Int) (i : Nat) (x : Int) : Nat → Int := fun j => if j = i then xb (f i) x else f j
theorem mx_b {f : Nat → Int} (h : BB f) (i : Nat) (x : Int) : BB (mx f i x) := fun j => by
  unfold mx; split
  · exact xb_b _ _
  · exact h j
/-- The bytes, the place, how often it was permuted. -/
structure Z where
  f : Nat → Int
  p : Nat
  c : Nat
def Z.turn (z : Z) : Z := ⟨psp z.f, 0, z.c + 1⟩
def Z.inn (r : Nat) (z : Z) (x : Int) : Z := if z.p + 1 = r then ⟨psp (mx z.f z.p x), 0, z.c + 1⟩ else ⟨mx z.f z.p x, z.p + 1, z.c⟩
/-- n bytes taken in. -/
def Z.ins (r : Nat) (z : Z) (g : Nat → Int) : Nat → Z
  | 0 => z
  | k + 1 => (Z.ins r z g k).inn r (g k)
def Z.rdy (r : Nat) (z : Z) : Z := if z.p = r then z.turn else z
/-- n bytes told. -/
def Z.out (r : Nat) (z : Z) : Nat → Z
  | 0 => z
  | k + 1 => ⟨((Z.out r z k).rdy r).f, ((Z.out r z k).rdy r).p + 1, ((Z.out r z k).rdy r).c⟩
/-- The byte i that is told. -/
def Z.say (r : Nat) (z : Z) (i : Nat) : Int := ((Z.out r z i).rdy r).f ((Z.out r z i).rdy r).p
def Z.fin (r : Nat) (sf : Int) (z : Z) : Z := ⟨psp (mx (mx z.f z.p sf) (r - 1) 128), 0, z.c + 1⟩
/-- n bytes exclusive-ored from p on. -/
def mxs (f : Nat → Int) (p : Nat) (g : Nat → Int) (n : Nat) : Nat → Int := fun j => if p ≤ j ∧ j < p + n then xb (f j) (g (j - p)) else f j
theorem mxs_zero (f : Nat → Int) (p : Nat) (g : Nat → Int) : mxs f p g 0 = f := by
  funext j; unfold mxs; rw [if_neg (by omega)]
theorem mxs_next (f : Nat → Int) (p : Nat) (g : Nat → Int) (n : Nat) : mxs f p g (n + 1) = mx (mxs f p g n) (p + n) (g n) := by
  funext j; unfold mx mxs
  by_cases h : j = p + n
  · subst h
    rw [if_pos (by omega), if_pos rfl, if_neg (by omega), show p + n - p = n from by omega]
  · rw [if_neg h]
    by_cases h2 : p ≤ j ∧ j < p + n
    · rw [if_pos h2, if_pos (by omega)]
    · rw [if_neg h2, if_neg (by omega)]
theorem mxs_b {f : Nat → Int} (h : BB f) (p : Nat) (g : Nat → Int) (n : Nat) : BB (mxs f p g n) := fun j => by
  unfold mxs; split
  · exact xb_b _ _
  · exact h j
theorem ins_part (r : Nat) (z : Z) (g : Nat → Int) (n : Nat) (h : z.p + n < r) : Z.ins r z g n = ⟨mxs z.f z.p g n, z.p + n, z.c⟩ := by
  induction n with
  | zero => rw [mxs_zero]; rfl
  | succ n ih =>
    rw [Z.ins, ih (by omega), Z.inn, mxs_next]
    rw [if_neg (by show ¬ z.p + n + 1 = r; omega)]; rfl
theorem ins_full (r : Nat) (z : Z) (g : Nat → Int) (n : Nat) (h : z.p + n = r) (hn : 0 < n) : Z.ins r z g n = ⟨psp (mxs z.f z.p g n), 0, z.c + 1⟩ := by
  obtain ⟨m, rfl⟩ : ∃ m, n = m + 1 := ⟨n - 1, by omega⟩
  rw [Z.ins, ins_part r z g m (by omega), Z.inn, mxs_next, if_pos (by show z.p + m + 1 = r; omega)]
theorem ins_add (r : Nat) (z : Z) (g : Nat → Int) (a b : Nat) : Z.ins r z g (a + b) = Z.ins r (Z.ins r z g a) (fun i => g (a + i)) b := by
  induction b with
  | zero => rfl
  | succ b ih => rw [← Nat.add_assoc, Z.ins, ih]; rfl
theorem ins_congr (r : Nat) (z : Z) (g h : Nat → Int) (n : Nat) (e : ∀ i, i < n → g i = h i) : Z.ins r z g n = Z.ins r z h n := by
  induction n with
  | zero => rfl
  | succ n ih => rw [Z.ins, Z.ins, ih (fun i hi => e i (by omega)), e n (by omega)]
theorem out_add (r : Nat) (z : Z) (a b : Nat) : Z.out r z (a + b) = Z.out r (Z.out r z a) b := by
  induction b with
  | zero => rfl
  | succ b ih => rw [← Nat.add_assoc, Z.out, ih]; rfl
theorem say_add (r : Nat) (z : Z) (a i : Nat) : Z.say r z (a + i) = Z.say r (Z.out r z a) i := by
  unfold Z.say; rw [out_add]
theorem rdy_rdy (r : Nat) (z : Z) (hr : 0 < r) : (z.rdy r).rdy r = z.rdy r := by
  unfold Z.rdy
  by_cases h : z.p = r
  · rw [if_pos h, if_neg (by show ¬ 0 = r; omega)]
  · rw [if_neg h, if_neg h]
theorem out_rdy (r : Nat) (z : Z) (n : Nat) (hr : 0 < r) (hn : 0 < n) : Z.out r z n = Z.out r (z.rdy r) n := by
  obtain ⟨m, rfl⟩ : ∃ m, n = m + 1 := ⟨n - 1, by omega⟩
  clear hn
  induction m with
  | zero => simp only [Z.out]; rw [rdy_rdy r z hr]
  | succ m ih => rw [Z.out, ih]; rfl
theorem out_part (r : Nat) (z : Z) (n : Nat) (h : z.p + n ≤ r) : Z.out r z n = ⟨z.f, z.p + n, z.c⟩ := by
  induction n with
  | zero => rfl
  | succ n ih =>
    rw [Z.out, ih (by omega)]
    have e : Z.rdy r ⟨z.f, z.p + n, z.c⟩ = ⟨z.f, z.p + n, z.c⟩ := by unfold Z.rdy; rw [if_neg (by show ¬ z.p + n = r; omega)]
    rw [e]; rfl
theorem say_part (r : Nat) (z : Z) (i : Nat) (h : z.p + i < r) : Z.say r z i = z.f (z.p + i) := by
  unfold Z.say
  rw [out_part r z i (by omega)]
  have e : Z.rdy r ⟨z.f, z.p + i, z.c⟩ = ⟨z.f, z.p + i, z.c⟩ := by unfold Z.rdy; rw [if_neg (by show ¬ z.p + i = r; omega)]
  rw [e]
theorem say_rdy (r : Nat) (z : Z) (i : Nat) (hr : 0 < r) : Z.say r z i = Z.say r (z.rdy r) i := by
  unfold Z.say
  cases i with
  | zero => simp only [Z.out]; rw [rdy_rdy r z hr]
  | succ m => rw [out_rdy r z (m + 1) hr (by omega)]
/-- What holds of every sponge: bytes, the place. -/
structure Z.Ok (r : Nat) (sh : Bool) (z : Z) : Prop where
  b : BB z.f
  p : z.p ≤ r
  o : sh = false → z.p < r
theorem Z.Ok.inn {r : Nat} {z : Z} (h : z.Ok r false) (hr : 0 < r) (x : Int) : (z.inn r x).Ok r false := by
  have := h.o rfl
  unfold Z.inn
  split
  · exact ⟨psp_b _, Nat.zero_le _, fun _ => hr⟩
  · exact ⟨mx_b h.b _ _, by show z.p + 1 ≤ r; omega, fun _ => by show z.p + 1 < r; omega⟩
theorem Z.Ok.ins {r : Nat} {z : Z} (h : z.Ok r false) (hr : 0 < r) (g : Nat → Int) (n : Nat) : (Z.ins r z g n).Ok r false := by
  induction n with
  | zero => exact h
  | succ n ih => exact ih.inn hr _
theorem Z.Ok.rdy {r : Nat} {z : Z} {sh : Bool} (h : z.Ok r sh) (hr : 0 < r) : (z.rdy r).Ok r false := by
  have := h.p
  unfold Z.rdy
  split
  · exact ⟨psp_b _, Nat.zero_le _, fun _ => hr⟩
  · exact ⟨h.b, h.p, fun _ => by omega⟩
theorem Z.Ok.shut {r : Nat} {z : Z} {sh : Bool} (h : z.Ok r sh) : z.Ok r true := ⟨h.b, h.p, fun e => by cases e⟩
theorem Z.Ok.out {r : Nat} {z : Z} (h : z.Ok r true) (hr : 0 < r) (n : Nat) : (Z.out r z n).Ok r true := by
  induction n with
  | zero => exact h
  | succ n ih =>
    have := ih.rdy hr
    have h2 := this.o rfl
    exact ⟨this.b, by show (Z.rdy r (Z.out r z n)).p + 1 ≤ r; omega, fun e => by cases e⟩
theorem Z.Ok.fin {r : Nat} (z : Z) (sh : Bool) (sf : Int) (hr : 0 < r) : (z.fin r sf).Ok r sh := ⟨psp_b _, Nat.zero_le _, fun _ => hr⟩
theorem say_b {r : Nat} {z : Z} (h : z.Ok r true) (hr : 0 < r) (i : Nat) : 0 ≤ Z.say r z i ∧ Z.say r z i < 256 := ((h.out hr i).rdy hr).b _
/-- How often: bytes in. -/
theorem ins_count {r : Nat} {z : Z} (h : z.p < r) (g : Nat → Int) (n : Nat) : (Z.ins r z g n).c = z.c + (z.p + n) / r ∧ (Z.ins r z g n).p = (z.p + n) % r := by
  induction n with
  | zero => exact ⟨by rw [Nat.add_zero, Nat.div_eq_of_lt h]; rfl, by rw [Nat.add_zero, Nat.mod_eq_of_lt h]; rfl⟩
  | succ n ih =>
    have hr : 0 < r := by omega
    have e := Nat.div_add_mod (z.p + n) r
    have hm := Nat.mod_lt (z.p + n) hr
    rw [Z.ins, Z.inn, ih.2]
    by_cases hf : (z.p + n) % r + 1 = r
    · rw [if_pos hf]
      have e1 : z.p + (n + 1) = ((z.p + n) / r + 1) * r := by rw [Nat.succ_mul, Nat.mul_comm]; omega
      rw [e1, Nat.mul_div_cancel _ hr, Nat.mul_mod_left]
      exact ⟨by show (Z.ins r z g n).c + 1 = _; rw [ih.1]; omega, rfl⟩
    · rw [if_neg hf]
      have e1 : z.p + (n + 1) = ((z.p + n) % r + 1) + r * ((z.p + n) / r) := by omega
      have e2 : (z.p + (n + 1)) / r = (z.p + n) / r := by
        rw [e1, Nat.add_mul_div_left _ _ hr, Nat.div_eq_of_lt (by omega)]; omega
      have e3 : (z.p + (n + 1)) % r = (z.p + n) % r + 1 := by
        rw [e1, Nat.add_mul_mod_self_left, Nat.mod_eq_of_lt (by omega)]
      rw [e2, e3]
      exact ⟨ih.1, rfl⟩
/-- How often: bytes told, by a sponge that was just shut. -/
theorem out_count {r : Nat} {z : Z} (hr : 0 < r) (h : z.p = 0) (n : Nat) : (Z.out r z (n + 1)).c = z.c + n / r ∧ (Z.out r z (n + 1)).p = n % r + 1 := by
  induction n with
  | zero =>
    have e : z.rdy r = z := by unfold Z.rdy; rw [if_neg (by omega)]
    simp only [Z.out]
    rw [e, h]; simp
  | succ n ih =>
    have e := Nat.div_add_mod n r
    have hm := Nat.mod_lt n hr
    rw [Z.out]
    unfold Z.rdy
    rw [ih.2]
    by_cases hf : n % r + 1 = r
    · rw [if_pos hf]
      have e1 : n + 1 = (n / r + 1) * r := by rw [Nat.succ_mul, Nat.mul_comm]; omega
      have e2 : (n + 1) / r = n / r + 1 := by rw [e1, Nat.mul_div_cancel _ hr]
      have e3 : (n + 1) % r = 0 := by rw [e1, Nat.mul_mod_left]
      rw [e2, e3]
      refine ⟨?_, rfl⟩
      show (Z.out r z (n + 1)).c + 1 = _
      rw [ih.1]; omega
    · rw [if_neg hf]
      have e1 : n + 1 = (n % r + 1) + r * (n / r) := by omega
      have e2 : (n + 1) / r = n / r := by
        rw [e1, Nat.add_mul_div_left _ _ hr, Nat.div_eq_of_lt (by omega)]; omega
      have e3 : (n + 1) % r = n % r + 1 := by
        rw [e1, Nat.add_mul_mod_self_left, Nat.mod_eq_of_lt (by omega)]
      rw [e2, e3]
      exact ⟨ih.1, by rw [ih.2]⟩
end Go.Proofs.YtidejhkajabdfaaDoor.Kc
