/- The program's words: turned, taken out of a list, laid as bytes, the lowest byte first (words of 64 bits): what they answer, for every word, list, place and world. Lanes and bytes: numbers; what the document's From answers, and the statements' state of any list. A sponge as numbers: bytes taken in, bytes told, how often it is permuted; no function of the program in it. -/
import Derived.Test.YtpohogpkfdebdaaGreatDoorZa
import Derived.Test.YtpohogpkfdebdaaGreatDoorRows
import Derived.WalkKit
import Derived.ProofKit
import Derived.Deep.QuietTactic
import Derived.BigQuiet
import Derived.WalkLawsBesides
import Derived.Test.YtpohogpkfdebdaaGreatDoorKa
namespace Go.Proofs.YtpohogpkfdebdaaGreatDoor.Wd
open Go.ChangeShapes Go.WideShapes Go.ChangeAt Go.RowKit
open Go.Proofs.YtpohogpkfdebdaaGreatDoor.By
theorem or_le (p b : Nat) (k : Nat) (h1 : p < 256 ^ k) : p ||| b * 256 ^ k = p + b * 256 ^ k := by
  rw [Nat.or_comm, pow256, nat_join (8 * k) _ _ (Nat.mul_mod_left _ _) (by rw [← pow256]; exact h1)]
  omega
theorem or_le64 (p b : Int) (k : Nat) (hk : k < 8) (h0 : 0 ≤ p) (h1 : p < 256 ^ k) (b0 : 0 ≤ b) (b1 : b < 256) : bits .or .u64 p (b * 2 ^ (8 * k) % 18446744073709551616) = p + b * 256 ^ k := by
  obtain ⟨P, rfl⟩ := Int.eq_ofNat_of_zero_le h0
  obtain ⟨B, rfl⟩ := Int.eq_ofNat_of_zero_le b0
  have hp : P < 256 ^ k := by
    have e : ((256 ^ k : Nat) : Int) = 256 ^ k := Int.natCast_pow 256 k
    omega
  have hle : 256 ^ k * 256 ≤ 256 ^ 8 := by rw [← Nat.pow_succ]; exact Nat.pow_le_pow_right (by omega) hk
  have hB : B * 256 ^ k < 18446744073709551616 := by
    have h3 : B * 256 ^ k < 256 * 256 ^ k := Nat.mul_lt_mul_of_pos_right (by omega) (Nat.pow_pos (by omega))
    omega
  have e1 : (B : Int) * 2 ^ (8 * k) = ((B * 256 ^ k : Nat) : Int) := by rw [pow256, Int.natCast_mul, Int.natCast_pow]; rfl
  have e2 : (P : Int) + (B : Int) * 256 ^ k = ((P + B * 256 ^ k : Nat) : Int) := by rw [Int.natCast_add, Int.natCast_mul, Int.natCast_pow]; rfl
  rw [e1, e2, Int.emod_eq_of_lt (by omega) (by omega), u64_or_nat _ _ (by omega) hB, or_le P B k hp]
theorem LE_congr (g h : Nat → Int) (k : Nat) (e : ∀ i, i < k → g i = h i) : LE g k = LE h k := by
  induction k with
  | zero => rfl
  | succ k ih => simp only [By.LE]; rw [ih (fun i hi => e i (by omega)), e k (by omega)]
set_option maxHeartbeats 400000 in
theorem takeLE64_go (v : Value) (n : Nat) (f : Nat → Int) (at' : Int) (w : World) (hr : RB w v n f) (hn : n ≤ 140737488355328) (a0 : -9223372036854775808 ≤ at') (a1 : at' < 9223372036854775808)
    (P : Nat → Int) (hP0 : P 0 = 0) (hP : ∀ k, k ≤ 8 → 0 ≤ P k ∧ P k < 18446744073709551616) (hst : Hid (∀ k, k < 8 → bits .or .u64 (P k) (Byt f n (at' + k) * 2 ^ (8 * k) % 18446744073709551616) = P (k + 1))) :
    Calls Tryz.prog 294 #[v, .int .i64 at'] w fun e w' => e = .returned (.int .u64 (P 8)) ∧ w' = w := by
  have hB := fun i => Byt_bound f n (at' + i) hr.1
  have HR : Hid (RB w v n f) := hr
  clear hr
  go_enter Tryz.func294, Tryz.ntmps294
  go_wp2_with (go_at_call 297; refine (size51 _).mono ?_; rintro e w' ⟨rfl, rfl⟩)
  go_loop [5, 8] (fun y i => ∃ k : Nat, k ≤ 8 ∧ i = .int .i64 k ∧ y = .int .u64 (P k)) (fun _ i => 8 - (intOf i).toNat)
  case atStart => exact ⟨0, Nat.zero_le _, rfl, by rw [hP0]⟩
  case round =>
    obtain ⟨k, hk, rfl, rfl⟩ := hrel
    have hb := hP k hk
    have hB := hB k
    clear hP hP0
    by_cases hlt : k < 8
    · go_wp2_with (go_at_call 273; refine (byteBehind_any _ _ f _ _ _ HR.out hn (by omega) (by omega) a0 a1).mono ?_; rintro e w' ⟨rfl, rfl⟩)
      exact ⟨⟨k + 1, by omega, by go_num, congrArg (Value.int IntKind.u64) (hst.out k hlt)⟩, by simp [intOf]; omega⟩
    · go_wp2
      go_ret
      exact ⟨by rw [show k = 8 from by omega]; rfl, rfl⟩
theorem takeLE64 (v : Value) (n : Nat) (f : Nat → Int) (at' : Int) (w : World) (hr : RB w v n f) (hn : n ≤ 140737488355328) (a0 : -9223372036854775808 ≤ at') (a1 : at' < 9223372036854775808) :
    Calls Tryz.prog 294 #[v, .int .i64 at'] w fun e w' => e = .returned (.int .u64 (LE (fun i => Byt f n (at' + i)) 8)) ∧ w' = w := by
  have hB := fun i : Nat => Byt_bound f n (at' + i) hr.1
  have hb := fun k => LE_bound (fun i => Byt f n (at' + i)) hB k
  refine takeLE64_go v n f at' w hr hn a0 a1 (LE (fun i => Byt f n (at' + i))) rfl (fun k hk => ⟨(hb k).1, ?_⟩) ?_
  · have h1 := hb k
    have h2 := pow_le_of k 8 hk
    omega
  · intro k hk
    exact or_le64 _ _ k hk (hb k).1 (hb k).2 (hB k).1 (hB k).2

set_option maxHeartbeats 1000000 in
theorem layLE64_go (x : Int) (w : World) (h0 : 0 ≤ x) (h1 : x < 18446744073709551616) :
    Calls Tryz.prog 290 #[.int .u64 x] w fun e w' => e = .returned (.slice (some ⟨w.heap.size, 0, none⟩) 8 8) ∧ w' = w.alloc (.cells #[.int .u8 (x % 256), .int .u8 (x / 256 % 256), .int .u8 (x / 65536 % 256), .int .u8 (x / 16777216 % 256), .int .u8 (x / 4294967296 % 256), .int .u8 (x / 1099511627776 % 256), .int .u8 (x / 281474976710656 % 256), .int .u8 (x / 72057594037927936)] 5) := by
  have hmk := make8
  go_enter Tryz.func290, Tryz.ntmps290
  go_wp2_with (go_at_call 297; refine (size51 _).mono ?_; rintro e w' ⟨rfl, rfl⟩)
  refine wp_loop_rounds 9 ?_
  iterate 9 (rw [rounds_succ]; go_wp2)
  go_ret
  exact ⟨rfl, rfl⟩
end Go.Proofs.YtpohogpkfdebdaaGreatDoor.Wd
namespace Go.Proofs.YtpohogpkfdebdaaGreatDoor.Kc
open Go.ChangeShapes Go.WideShapes Go.ChangeAt Go.RowKit
open Go.Proofs.YtpohogpkfdebdaaGreatDoor.By Go.Proofs.YtpohogpkfdebdaaGreatDoor.Wd
/-- 200 noughts. -/
def zc200 : Array Value := (bl 200 (fun _ => 0)).toArray
theorem zc200_size : zc200.size = 200 := by simp [zc200, bl]
@[go_sem high] theorem zc200_ne : ¬ zc200 = #[] := by
  intro h
  have := congrArg Array.size h
  rw [zc200_size] at this
  simp at this
@[go_sem high] theorem zv200 (w : World) : (zeroValue 167).run Tryz.prog w = .ok (.agg zc200) w := by kernel_rfl
theorem y25 : #[Value.int .u64 0, .int .u64 0, .int .u64 0, .int .u64 0, .int .u64 0, .int .u64 0, .int .u64 0, .int .u64 0, .int .u64 0, .int .u64 0, .int .u64 0, .int .u64 0, .int .u64 0, .int .u64 0, .int .u64 0, .int .u64 0, .int .u64 0, .int .u64 0, .int .u64 0, .int .u64 0, .int .u64 0, .int .u64 0, .int .u64 0, .int .u64 0, .int .u64 0] = (wl 25 (fun _ => 0)).toArray := by kernel_rfl
def BB (f : Nat → Int) : Prop := ∀ i, 0 ≤ f i ∧ f i < 256
/-- The lanes of bytes; the bytes of lanes. -/
def fl (f : Nat → Int) (j : Nat) : Int := By.LE (fun i => f (8 * j + i)) 8
def bf (a : Nat → Int) (i : Nat) : Int := leByte (a (i / 8)) (i % 8)
theorem fl_w {f : Nat → Int} (h : BB f) : AW (fl f) := fun j => LE_bound (fun i => f (8 * j + i)) (fun _ => h _) 8
theorem bf_b (a : Nat → Int) : BB (bf a) := fun _ => leByte_bound _ _
/-- The lanes behind n of the bytes. -/
def fr (f : Nat → Int) (n j : Nat) : Int := By.LE (fun i => f (8 * j + i)) (min 8 (n - 8 * j))
end Go.Proofs.YtpohogpkfdebdaaGreatDoor.Kc
namespace Go.Proofs.YtpohogpkfdebdaaGreatDoor.Kc
open Go.Proofs.YtpohogpkfdebdaaGreatDoor.By Go.Proofs.YtpohogpkfdebdaaGreatDoor.Wd
/-- 200 bytes permuted. -/
def psp (f : Nat → Int) : Nat → Int := bf (perm (fl f))
theorem psp_b (f : Nat → Int) : BB (psp f) := bf_b _
def xb (a b : Int) : Int := bits .xor .u8 a b
theorem xb_b (a b : Int) : 0 ≤ xb a b ∧ xb a b < 256 := by
  unfold xb bits
  split <;> rw [IntKind.wrap_u8] <;> omega
/-- One byte exclusive-ored. -/
def mx (f : Nat → Int) (i : Nat) (x : Int) : Nat → Int := fun j => if j = i then xb (f i) x else f j
theorem mx_b {f : Nat → Int} (h : BB f) (i : Nat) (x : Int) : BB (mx f i x) := fun j => by
  unfold mx; split
  · exact xb_b _ _
  · exact h j
/-- The bytes, the place, how often it was permuted. -/
structure Z where
  f : Nat → Int
  p : Nat
  c : Nat
def Z.turn (z : Z) : Z := ⟨psp z.f, 0, z.c + 1⟩
def Z.inn (r : Nat) (z : Z) (x : Int) : Z := if z.p + 1 = r then ⟨psp (mx z.f z.p x), 0, z.c + 1⟩ else ⟨mx z.f z.p x, z.p + 1, z.c⟩
/-- n bytes taken in. -/
def Z.ins (r : Nat) (z : Z) (g : Nat → Int) : Nat → Z
  | 0 => z
  | k + 1 => (Z.ins r z g k).inn r (g k)
def Z.rdy (r : Nat) (z : Z) : Z := if z.p = r then z.turn else z
/-- n bytes told. -/
def Z.out (r : Nat) (z : Z) : Nat → Z
  | 0 => z
  | k + 1 => ⟨((Z.out r z k).rdy r).f, ((Z.out r z k).rdy r).p + 1, ((Z.out r z k).rdy r).c⟩
/-- The byte i that is told. -/
def Z.say (r : Nat) (z : Z) (i : Nat) : Int := ((Z.out r z i).rdy r).f ((Z.out r z i).rdy r).p
def Z.fin (r : Nat) (sf : Int) (z : Z) : Z := ⟨psp (mx (mx z.f z.p sf) (r - 1) 128), 0, z.c + 1⟩
/-- n bytes exclusive-ored from p on. -/
def mxs (f : Nat → Int) (p : Nat) (g : Nat → Int) (n : Nat) : Nat → Int := fun j => if p ≤ j ∧ j < p + n then xb (f j) (g (j - p)) else f j
theorem mxs_zero (f : Nat → Int) (p : Nat) (g : Nat → Int) : mxs f p g 0 = f := by
  funext j; unfold mxs; rw [if_neg (by omega)]
theorem mxs_next (f : Nat → Int) (p : Nat) (g : Nat → Int) (n : Nat) : mxs f p g (n + 1) = mx (mxs f p g n) (p + n) (g n) := by
  funext j; unfold mx mxs
  by_cases h : j = p + n
  · subst h
    rw [if_pos (by omega), if_pos rfl, if_neg (by omega), show p + n - p = n from by omega]
  · rw [if_neg h]
    by_cases h2 : p ≤ j ∧ j < p + n
    · rw [if_pos h2, if_pos (by omega)]
    · rw [if_neg h2, if_neg (by omega)]
theorem mxs_b {f : Nat → Int} (h : BB f) (p : Nat) (g : Nat → Int) (n : Nat) : BB (mxs f p g n) := fun j => by
  unfold mxs; split
  · exact xb_b _ _
  · exact h j
theorem ins_part (r : Nat) (z : Z) (g : Nat → Int) (n : Nat) (h : z.p + n < r) : Z.ins r z g n = ⟨mxs z.f z.p g n, z.p + n, z.c⟩ := by
  induction n with
  | zero => rw [mxs_zero]; rfl
  | succ n ih =>
    rw [Z.ins, ih (by omega), Z.inn, mxs_next]
    rw [if_neg (by show ¬ z.p + n + 1 = r; omega)]; rfl
theorem ins_full (r : Nat) (z : Z) (g : Nat → Int) (n : Nat) (h : z.p + n = r) (hn : 0 < n) : Z.ins r z g n = ⟨psp (mxs z.f z.p g n), 0, z.c + 1⟩ := by
  obtain ⟨m, rfl⟩ : ∃ m, n = m + 1 := ⟨n - 1, by omega⟩
  rw [Z.ins, ins_part r z g m (by omega), Z.inn, mxs_next, if_pos (by show z.p + m + 1 = r; omega)]
theorem ins_add (r : Nat) (z : Z) (g : Nat → Int) (a b : Nat) : Z.ins r z g (a + b) = Z.ins r (Z.ins r z g a) (fun i => g (a + i)) b := by
  induction b with
  | zero => rfl
  | succ b ih => rw [← Nat.add_assoc, Z.ins, ih]; rfl
theorem out_add (r : Nat) (z : Z) (a b : Nat) : Z.out r z (a + b) = Z.out r (Z.out r z a) b := by
  induction b with
  | zero => rfl
  | succ b ih => rw [← Nat.add_assoc, Z.out, ih]; rfl
theorem say_add (r : Nat) (z : Z) (a i : Nat) : Z.say r z (a + i) = Z.say r (Z.out r z a) i := by
  unfold Z.say; rw [out_add]
theorem rdy_rdy (r : Nat) (z : Z) (hr : 0 < r) : (z.rdy r).rdy r = z.rdy r := by
  unfold Z.rdy
  by_cases h : z.p = r
  · rw [if_pos h, if_neg (by show ¬ 0 = r; omega)]
  · rw [if_neg h, if_neg h]
theorem out_rdy (r : Nat) (z : Z) (n : Nat) (hr : 0 < r) (hn : 0 < n) : Z.out r z n = Z.out r (z.rdy r) n := by
  obtain ⟨m, rfl⟩ : ∃ m, n = m + 1 := ⟨n - 1, by omega⟩
  clear hn
  induction m with
  | zero => simp only [Z.out]; rw [rdy_rdy r z hr]
  | succ m ih => rw [Z.out, ih]; rfl
theorem out_part (r : Nat) (z : Z) (n : Nat) (h : z.p + n ≤ r) : Z.out r z n = ⟨z.f, z.p + n, z.c⟩ := by
  induction n with
  | zero => rfl
  | succ n ih =>
    rw [Z.out, ih (by omega)]
    have e : Z.rdy r ⟨z.f, z.p + n, z.c⟩ = ⟨z.f, z.p + n, z.c⟩ := by unfold Z.rdy; rw [if_neg (by show ¬ z.p + n = r; omega)]
    rw [e]; rfl
theorem say_part (r : Nat) (z : Z) (i : Nat) (h : z.p + i < r) : Z.say r z i = z.f (z.p + i) := by
  unfold Z.say
  rw [out_part r z i (by omega)]
  have e : Z.rdy r ⟨z.f, z.p + i, z.c⟩ = ⟨z.f, z.p + i, z.c⟩ := by unfold Z.rdy; rw [if_neg (by show ¬ z.p + i = r; omega)]
  rw [e]
theorem say_rdy (r : Nat) (z : Z) (i : Nat) (hr : 0 < r) : Z.say r z i = Z.say r (z.rdy r) i := by
  unfold Z.say
  cases i with
  | zero => simp only [Z.out]; rw [rdy_rdy r z hr]
  | succ m => rw [out_rdy r z (m + 1) hr (by omega)]
/-- What holds of every sponge: bytes, the place. -/
structure Z.Ok (r : Nat) (sh : Bool) (z : Z) : Prop where
  b : BB z.f
  p : z.p ≤ r
  o : sh = false → z.p < r
theorem Z.Ok.inn {r : Nat} {z : Z} (h : z.Ok r false) (hr : 0 < r) (x : Int) : (z.inn r x).Ok r false := by
  have := h.o rfl
  unfold Z.inn
  split
  · exact ⟨psp_b _, Nat.zero_le _, fun _ => hr⟩
  · exact ⟨mx_b h.b _ _, by show z.p + 1 ≤ r; omega, fun _ => by show z.p + 1 < r; omega⟩
theorem Z.Ok.ins {r : Nat} {z : Z} (h : z.Ok r false) (hr : 0 < r) (g : Nat → Int) (n : Nat) : (Z.ins r z g n).Ok r false := by
  induction n with
  | zero => exact h
  | succ n ih => exact ih.inn hr _
theorem Z.Ok.rdy {r : Nat} {z : Z} {sh : Bool} (h : z.Ok r sh) (hr : 0 < r) : (z.rdy r).Ok r false := by
  have := h.p
  unfold Z.rdy
  split
  · exact ⟨psp_b _, Nat.zero_le _, fun _ => hr⟩
  · exact ⟨h.b, h.p, fun _ => by omega⟩
theorem Z.Ok.shut {r : Nat} {z : Z} {sh : Bool} (h : z.Ok r sh) : z.Ok r true := ⟨h.b, h.p, fun e => by cases e⟩
theorem Z.Ok.out {r : Nat} {z : Z} (h : z.Ok r true) (hr : 0 < r) (n : Nat) : (Z.out r z n).Ok r true := by
  induction n with
  | zero => exact h
  | succ n ih =>
    have := ih.rdy hr
    have h2 := this.o rfl
    exact ⟨this.b, by show (Z.rdy r (Z.out r z n)).p + 1 ≤ r; omega, fun e => by cases e⟩
theorem Z.Ok.fin {r : Nat} (z : Z) (sh : Bool) (sf : Int) (hr : 0 < r) : (z.fin r sf).Ok r sh := ⟨psp_b _, Nat.zero_le _, fun _ => hr⟩
theorem say_b {r : Nat} {z : Z} (h : z.Ok r true) (hr : 0 < r) (i : Nat) : 0 ≤ Z.say r z i ∧ Z.say r z i < 256 := ((h.out hr i).rdy hr).b _
/-- How often: bytes in. -/
theorem ins_count {r : Nat} {z : Z} (h : z.p < r) (g : Nat → Int) (n : Nat) : (Z.ins r z g n).c = z.c + (z.p + n) / r ∧ (Z.ins r z g n).p = (z.p + n) % r := by
  induction n with
  | zero => exact ⟨by rw [Nat.add_zero, Nat.div_eq_of_lt h]; rfl, by rw [Nat.add_zero, Nat.mod_eq_of_lt h]; rfl⟩
  | succ n ih =>
    have hr : 0 < r := by omega
    have e := Nat.div_add_mod (z.p + n) r
    have hm := Nat.mod_lt (z.p + n) hr
    rw [Z.ins, Z.inn, ih.2]
    by_cases hf : (z.p + n) % r + 1 = r
    · rw [if_pos hf]
      have e1 : z.p + (n + 1) = ((z.p + n) / r + 1) * r := by rw [Nat.succ_mul, Nat.mul_comm]; omega
      rw [e1, Nat.mul_div_cancel _ hr, Nat.mul_mod_left]
      exact ⟨by show (Z.ins r z g n).c + 1 = _; rw [ih.1]; omega, rfl⟩
    · rw [if_neg hf]
      have e1 : z.p + (n + 1) = ((z.p + n) % r + 1) + r * ((z.p + n) / r) := by omega
      have e2 : (z.p + (n + 1)) / r = (z.p + n) / r := by
        rw [e1, Nat.add_mul_div_left _ _ hr, Nat.div_eq_of_lt (by omega)]; omega
      have e3 : (z.p + (n + 1)) % r = (z.p + n) % r + 1 := by
        rw [e1, Nat.add_mul_mod_self_left, Nat.mod_eq_of_lt (by omega)]
      rw [e2, e3]
      exact ⟨ih.1, rfl⟩
end Go.Proofs.YtpohogpkfdebdaaGreatDoor.Kc
