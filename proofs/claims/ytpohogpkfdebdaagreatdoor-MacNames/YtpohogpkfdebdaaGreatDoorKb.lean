/- The program's words: turned, taken out of a list, laid as bytes, the lowest byte first (words of 64 bits): what they answer, for every word, list, place and world. Lanes and bytes: numbers; what the document's From answers, and the statements' state of any list. A sponge as numbers: bytes taken in, bytes told, how often it is permuted; no function of the program in it. -/
import Derived.Test.YtpohogpkfdebdaaGreatDoorZa
import Derived.Test.YtpohogpkfdebdaaGreatDoorRows
import Derived.WalkKit
import Derived.ProofKit
import Derived.Deep.QuietTactic
import Derived.BigQuiet
import Derived.WalkLawsBesides
import Derived.Test.YtpohogpkfdebdaaGreatDoorKa
namespace Go.Proofs.YtpohogpkfdebdaaGreatDoor.Wd
open Go.ChangeShapes Go.WideShapes Go.ChangeAt Go.RowKit
open Go.Proofs.YtpohogpkfdebdaaGreatDoor.By
theorem or_le (p b : Nat) (k : Nat) (h1 : p < 256 ^ k) : p ||| b * 256 ^ k = p + b * 256 ^ k := by
  rw [Nat.or_comm, pow256, nat_join (8 * k) _ _ (Nat.mul_mod_left _ _) (by rw [← pow256]; exact h1)]
  omega
theorem or_le64 (p b : Int) (k : Nat) (hk : k < 8) (h0 : 0 ≤ p) (h1 : p < 256 ^ k) (b0 : 0 ≤ b) (b1 : b < 256) : bits .or .u64 p (b * 2 ^ (8 * k) % 18446744073709551616) = p + b * 256 ^ k := by
  obtain ⟨P, rfl⟩ := Int.eq_ofNat_of_zero_le h0
  obtain ⟨B, rfl⟩ := Int.eq_ofNat_of_zero_le b0
  have hp : P < 256 ^ k := by
    have e : ((256 ^ k : Nat) : Int) = 256 ^ k := Int.natCast_pow 256 k
    omega
  have hle : 256 ^ k * 256 ≤ 256 ^ 8 := by rw [← Nat.pow_succ]; exact Nat.pow_le_pow_right (by omega) hk
  have hB : B * 256 ^ k < 18446744073709551616 := by
    have h3 : B * 256 ^ k < 256 * 256 ^ k := Nat.mul_lt_mul_of_pos_right (by omega) (Nat.pow_pos (by omega))
    omega
  have e1 : (B : Int) * 2 ^ (8 * k) = ((B * 256 ^ k : Nat) : Int) := by rw [pow256, Int.natCast_mul, Int.natCast_pow]; rfl
  have e2 : (P : Int) + (B : Int) * 256 ^ k = ((P + B * 256 ^ k : Nat) : Int) := by rw [Int.natCast_add, Int.natCast_mul, Int.natCast_pow]; rfl
  rw [e1, e2, Int.emod_eq_of_lt (by omega) (by omega), u64_or_nat _ _ (by omega) hB, or_le P B k hp]
theorem LE_congr (g h : Nat → Int) (k : Nat) (e : ∀ i, i < k → g i = h i) : LE g k = LE h k := by
  induction k with
  | zero => rfl
  | succ k ih => simp only [By.LE]; rw [ih (fun i hi => e i (by omega)), e k (by omega)]
set_option maxHeartbeats 400000 in
theorem takeLE64_go (v : Value) (n : Nat) (f : Nat → Int) (at' : Int) (w : World) (hr : RB w v n f) (hn : n ≤ 140737488355328) (a0 : -9223372036854775808 ≤ at') (a1 : at' < 9223372036854775808)
    (P : Nat → Int) (hP0 : P 0 = 0) (hP : ∀ k, k ≤ 8 → 0 ≤ P k ∧ P k < 18446744073709551616) (hst : Hid (∀ k, k < 8 → bits .or .u64 (P k) (Byt f n (at' + k) * 2 ^ (8 * k) % 18446744073709551616) = P (k + 1))) :
    Calls Tryz.prog 294 #[v, .int .i64 at'] w fun e w' => e = .returned (.int .u64 (P 8)) ∧ w' = w := by
  have hB := fun i => Byt_bound f n (at' + i) hr.1
  have HR : Hid (RB w v n f) := hr
  clear hr
  go_enter Tryz.func294, Tryz.ntmps294
  go_wp2_with (go_at_call 297; refine (size51 _).mono ?_; rintro e w' ⟨rfl, rfl⟩)
  go_loop [5, 8] (fun y i => ∃ k : Nat, k ≤ 8 ∧ i = .int .i64 k ∧ y = .int .u64 (P k)) (fun _ i => 8 - (intOf i).toNat)
  case atStart => exact ⟨0, Nat.zero_le _, rfl, by rw [hP0]⟩
  case round =>
    obtain ⟨k, hk, rfl, rfl⟩ := hrel
    have hb := hP k hk
    have hB := hB k
    clear hP hP0
    by_cases hlt : k < 8
    · go_wp2_with (go_at_call 273; refine (byteBehind_any _ _ f _ _ _ HR.out hn (by omega) (by omega) a0 a1).mono ?_; rintro e w' ⟨rfl, rfl⟩)
      exact ⟨⟨k + 1, by omega, by go_num, congrArg (Value.int IntKind.u64) (hst.out k hlt)⟩, by simp [intOf]; omega⟩
    · go_wp2
      go_ret
      exact ⟨by rw [show k = 8 from by omega]; rfl, rfl⟩
theorem takeLE64 (v : Value) (n : Nat) (f : Nat → Int) (at' : Int) (w : World) (hr : RB w v n f) (hn : n ≤ 140737488355328) (a0 : -9223372036854775808 ≤ at') (a1 : at' < 9223372036854775808) :
    Calls Tryz.prog 294 #[v, .int .i64 at'] w fun e w' => e = .returned (.int .u64 (LE (fun i => Byt f n (at' + i)) 8)) ∧ w' = w := by
  have hB := fun i : Nat => Byt_bound f n (at' + i) hr.1
  have hb := fun k => LE_bound (fun i => Byt f n (at' + i)) hB k
  refine takeLE64_go v n f at' w hr hn a0 a1 (LE (fun i => Byt f n (at' + i))) rfl (fun k hk => ⟨(hb k).1, ?_⟩) ?_
  · have h1 := hb k
    have h2 := pow_le_of k 8 hk
    omega
  · intro k hk
    exact or_le64 _ _ k hk (hb k).1 (hb k).2 (hB k).1 (hB k).2

set_option maxHeartbeats 1000000 in
theorem layLE64_go (x : Int) (w : World) (h0 : 0 ≤ x) (h1 : x < 18446744073709551616) :
    Calls Tryz.prog 290 #[.int .u64 x] w fun e w' => e = .returned (.slice (some ⟨w.heap.size, 0, none⟩) 8 8) ∧ w' = w.alloc (.cells #[.int .u8 (x % 256), .int .u8 (x / 256 % 256), .int .u8 (x / 65536 % 256), .int .u8 (x / 16777216 % 256), .int .u8 (x / 4294967296 % 256), .int .u8 (x / 1099511627776 % 256), .int .u8 (x / 281474976710656 % 256), .int .u8 (x / 72057594037927936)] 5) := by
  have hmk := make8
  go_enter Tryz.func290, Tryz.ntmps290
  go_wp2_with (go_at_call 297; refine (size51 _).mono ?_; rintro e w' ⟨rfl, rfl⟩)
  refine wp_loop_rounds 9 ?_
  iterate 9 (rw [rounds_succ]; go_wp2)
  go_ret
  exact ⟨rfl, rfl⟩
theorem layLE64 (x : Int) (w : World) (h0 : 0 ≤ x) (h1 : x < 18446744073709551616) :
    Calls Tryz.prog 290 #[.int .u64 x] w fun e w' => ∃ v, e = .returned v ∧ Own w' w.heap.size v 8 (leByte x) ∧ Below w.heap.size w w' := by
  refine (layLE64_go x w h0 h1).mono ?_
  rintro e w' ⟨rfl, rfl⟩
  refine ⟨_, rfl, own_lit w _ 8 (leByte x) (leByte_bound x) (by simp [maxLen]) rfl ?_, (Below.refl _ _).alloc (Nat.le_refl _) _⟩
  have e0 : x / 72057594037927936 = x / 72057594037927936 % 256 := by omega
  rw [bl8]
  simp [leByte]
  omega

end Go.Proofs.YtpohogpkfdebdaaGreatDoor.Wd
namespace Go.Proofs.YtpohogpkfdebdaaGreatDoor.Kc
open Go.ChangeShapes Go.WideShapes Go.ChangeAt Go.RowKit
open Go.Proofs.YtpohogpkfdebdaaGreatDoor.By Go.Proofs.YtpohogpkfdebdaaGreatDoor.Wd
/-- 200 noughts. -/
def zc200 : Array Value := (bl 200 (fun _ => 0)).toArray
theorem zc200_size : zc200.size = 200 := by simp [zc200, bl]
@[go_sem high] theorem zc200_ne : ¬ zc200 = #[] := by
  intro h
  have := congrArg Array.size h
  rw [zc200_size] at this
  simp at this
@[go_sem high] theorem zv200 (w : World) : (zeroValue 167).run Tryz.prog w = .ok (.agg zc200) w := by kernel_rfl
theorem y25 : #[Value.int .u64 0, .int .u64 0, .int .u64 0, .int .u64 0, .int .u64 0, .int .u64 0, .int .u64 0, .int .u64 0, .int .u64 0, .int .u64 0, .int .u64 0, .int .u64 0, .int .u64 0, .int .u64 0, .int .u64 0, .int .u64 0, .int .u64 0, .int .u64 0, .int .u64 0, .int .u64 0, .int .u64 0, .int .u64 0, .int .u64 0, .int .u64 0, .int .u64 0] = (wl 25 (fun _ => 0)).toArray := by kernel_rfl
def BB (f : Nat → Int) : Prop := ∀ i, 0 ≤ f i ∧ f i < 256
/-- The lanes of bytes; the bytes of lanes. -/
def fl (f : Nat → Int) (j : Nat) : Int := By.LE (fun i => f (8 * j + i)) 8
def bf (a : Nat → Int) (i : Nat) : Int := leByte (a (i / 8)) (i % 8)
theorem fl_w {f : Nat → Int} (h : BB f) : AW (fl f) := fun j => LE_bound (fun i => f (8 * j + i)) (fun _ => h _) 8
theorem bf_b (a : Nat → Int) : BB (bf a) := fun _ => leByte_bound _ _
theorem le_back {x : Int} (h : W64 x) : By.LE (fun i => leByte x i) 8 = x := by
  have h1 := h.1
  have h2 := h.2
  simp only [By.LE, leByte]
  simp only [Int.reducePow]
  omega
theorem le_byte (g : Nat → Int) (h : BB g) (k : Nat) (hk : k < 8) : leByte (By.LE g 8) k = g k := by
  have h0 := h 0
  have h1 := h 1
  have h2 := h 2
  have h3 := h 3
  have h4 := h 4
  have h5 := h 5
  have h6 := h 6
  have h7 := h 7
  simp only [By.LE, leByte]
  match k, hk with
  | 0, _ => simp only [Int.reducePow]; omega
  | 1, _ => simp only [Int.reducePow]; omega
  | 2, _ => simp only [Int.reducePow]; omega
  | 3, _ => simp only [Int.reducePow]; omega
  | 4, _ => simp only [Int.reducePow]; omega
  | 5, _ => simp only [Int.reducePow]; omega
  | 6, _ => simp only [Int.reducePow]; omega
  | 7, _ => simp only [Int.reducePow]; omega
theorem fl_bf {a : Nat → Int} (h : AW a) (j : Nat) : fl (bf a) j = a j := by
  unfold fl
  rw [LE_congr _ (fun i => leByte (a j) i) 8 (fun i hi => by
    show leByte (a ((8 * j + i) / 8)) ((8 * j + i) % 8) = _
    rw [show (8 * j + i) / 8 = j from by omega, show (8 * j + i) % 8 = i from by omega])]
  exact le_back (h j)
theorem bf_fl {f : Nat → Int} (h : BB f) (i : Nat) : bf (fl f) i = f i := by
  unfold bf fl
  rw [le_byte (fun k => f (8 * (i / 8) + k)) (fun k => h _) (i % 8) (Nat.mod_lt _ (by omega))]
  show f _ = f i
  congr 1; omega
theorem bf_congr {a b : Nat → Int} (h : ∀ i, i < 25 → a i = b i) : ∀ i, i < 200 → bf a i = bf b i := fun i hi => by
  unfold bf
  rw [h (i / 8) (by omega)]
/-- The lanes behind n of the bytes. -/
def fr (f : Nat → Int) (n j : Nat) : Int := By.LE (fun i => f (8 * j + i)) (min 8 (n - 8 * j))
theorem fr_zero (f : Nat → Int) : wl 25 (fun _ => (0 : Int)) = wl 25 (fr f 0) := wl_congr 25 _ _ (fun j _ => by unfold fr; rw [Nat.zero_sub]; rfl)
theorem fr_end (f : Nat → Int) : wl 25 (fr f 200) = wl 25 (fl f) := wl_congr 25 _ _ (fun j hj => by unfold fr fl; rw [show min 8 (200 - 8 * j) = 8 from by omega])
theorem fr_at (f : Nat → Int) (n : Nat) : fr f (n + 1) (n / 8) = fr f n (n / 8) + f n * 256 ^ (n % 8) := by
  unfold fr
  rw [show min 8 (n + 1 - 8 * (n / 8)) = n % 8 + 1 from by omega, show min 8 (n - 8 * (n / 8)) = n % 8 from by omega, By.LE]
  show _ + f (8 * (n / 8) + n % 8) * _ = _
  rw [show 8 * (n / 8) + n % 8 = n from by omega]
theorem fr_next (f : Nat → Int) (n : Nat) (x : Int) (hx : x = fr f (n + 1) (n / 8)) : (wl 25 (fr f n)).set (n / 8) (.int .u64 x) = wl 25 (fr f (n + 1)) := by
  rw [wl_set]
  refine wl_congr 25 _ _ (fun j hj => ?_)
  by_cases h : j = n / 8
  · rw [if_pos h, h, hx]
  · rw [if_neg h]
    unfold fr
    rw [show min 8 (n + 1 - 8 * j) = min 8 (n - 8 * j) from by omega]
theorem fr_b {f : Nat → Int} (h : BB f) (n j : Nat) : W64 (fr f n j) := by
  have h1 := LE_bound (fun i => f (8 * j + i)) (fun i => h _) (min 8 (n - 8 * j))
  have h2 := pow_le_of (min 8 (n - 8 * j)) 8 (by omega)
  unfold fr W64
  omega
theorem fr_add {f : Nat → Int} (h : BB f) (n : Nat) (v : Int) (hv : f n = v) : IntKind.u64.wrap (fr f n (n / 8) + IntKind.u64.wrap (v * 2 ^ (8 * (n % 8)))) = fr f (n + 1) (n / 8) := by
  subst hv
  have e := fr_at f n
  have b := fr_b h (n + 1) (n / 8)
  have b0 := fr_b h n (n / 8)
  have p : (2 : Int) ^ (8 * (n % 8)) = 256 ^ (n % 8) := by rw [Int.pow_mul]; rfl
  have q : 0 ≤ f n * (256 : Int) ^ (n % 8) := Int.mul_nonneg (h n).1 (Int.pow_nonneg (by omega))
  have b1 := b.2
  have b2 := b0.1
  rw [p]
  rw [e] at b1 ⊢
  generalize f n * (256 : Int) ^ (n % 8) = z at *
  rw [IntKind.wrap_u64, IntKind.wrap_u64]
  omega
set_option maxRecDepth 4000 in
set_option maxHeartbeats 2000000 in
theorem refFrom1 (f : Nat → Int) (hf : BB f) (w : World) :
    Calls Tryz.prog 174 #[.agg (bl 200 f).toArray] w fun e w' => e = .returned (.agg (wl 25 (fl f)).toArray) ∧ Below w.heap.size w w' := by
  have HF := hid hf
  clear hf
  go_enter Tryz.func174, Tryz.ntmps174
  go_wp2_with fail
  go_loopw [4] (fun i wr => ∃ n : Nat, n ≤ 200 ∧ i = .int .i64 n ∧ Blk wr w.heap.size (bl 200 f) 167 ∧ Blk wr (w.heap.size + 1) (wl 25 (fun _ => 0)) 212 ∧ Blk wr (w.heap.size + 1 + 1) (wl 25 (fr f n)) 212 ∧ Below w.heap.size w wr) (fun i _ => 200 - (intOf i).toNat)
  case atStart =>
    refine ⟨0, Nat.zero_le _, rfl, ((Blk.new w _ _).alloc _).alloc _, (Blk.newAt _ _ _ _ _ (by rw [size_alloc]) y25).alloc _, Blk.newAt _ _ _ _ _ (by rw [size_alloc, size_alloc]) (by rw [← fr_zero]; exact y25), ?_⟩
    exact below_next (below_next (below_alloc w _) (below_alloc _ _)) (below_alloc _ _)
  case round =>
    obtain ⟨n, hn, rfl, b0, b1, b2, hbel⟩ := hrel
    have B0 := hid b0
    have B1 := hid b1
    have B2 := hid b2
    have HB := hid hbel
    have HZ := hid b2.lt
    clear b0 b1 b2 hbel
    by_cases hlt : n < 200
    · have c0 := B0.out.cell n _ (bl_get 200 f n hlt)
      have c2 := B2.out.cell (n / 8) _ (wl_get 25 _ (n / 8) (by omega))
      have f2 := B2.out.frozen (n / 8)
      have eq : ((n : Int)).tdiv 8 = ((n / 8 : Nat) : Int) := by rw [Int.tdiv_eq_ediv_of_nonneg (by omega)]; omega
      have er : ((n : Int)).tmod 8 = ((n % 8 : Nat) : Int) := by rw [Int.tmod_eq_emod_of_nonneg (by omega)]; omega
      have hv := HF.out n
      have HN := hid (fr_next f n _ (fr_add HF.out n _ rfl))
      have hq : n / 8 < 25 := by omega
      have hr : n % 8 < 8 := by omega
      have i0 : ((n / 8 : Nat) : Int) < 25 := by omega
      obtain ⟨v, ev⟩ : ∃ z, f n = z := ⟨_, rfl⟩
      obtain ⟨m, em⟩ : ∃ z, fr f n (n / 8) = z := ⟨_, rfl⟩
      have hm := fr_b HF.out n (n / 8)
      rw [em] at hm
      have hm0 := hm.1
      have hm1 := hm.2
      clear hm
      rw [ev] at c0 hv HN
      rw [em] at c2 HN
      clear ev em
      generalize n / 8 = q at *
      generalize n % 8 = r at *
      go_wp2_with fail
      go_region
      go_wp2_with fail
      have hz := HZ.out
      refine ⟨⟨n + 1, by omega, by go_num, (B0.out.other (by omega) _ _).drewN _, (B1.out.other (by omega) _ _).drewN _, ?_, below_drew' (below_set HB.out _ _ _ (by omega) (by omega)) _⟩, by simp [intOf]; omega⟩
      rw [← HN.out]
      exact (B2.out.set _ _).drewN _
    · have ek : n = 200 := by omega
      subst ek
      rw [fr_end] at B2
      have l1 := LDt_run (B2.out.range 0 _ (fun j v h => by rw [Nat.zero_add]; exact h)) (wl_length _ _)
      have s1 := SVt_run (cs := wl 25 (fl f)) (B1.out.there 0 25 (by rw [wl_length]; omega)) (wl_length _ _) (wl_one _ _)
      have b3 := B1.out.put 0 (wl 25 (fl f))
      rw [put_all _ _ (by rw [wl_length, wl_length])] at b3
      have l2 := hid (LDt_run (b3.range 0 _ (fun j v h => by rw [Nat.zero_add]; exact h)) (wl_length _ _))
      clear b3
      go_wp2
      have hz := HZ.out
      refine bodyPost_ret (v := .agg (wl 25 (fl f)).toArray) ?_ rfl ⟨rfl, below_cells HB.out _ _ _ (by omega) (by omega)⟩
      exact results_cell1 Tryz.results174 rfl l2.out
end Go.Proofs.YtpohogpkfdebdaaGreatDoor.Kc
namespace Go.Proofs.YtpohogpkfdebdaaGreatDoor.Kc
open Go.Proofs.YtpohogpkfdebdaaGreatDoor.By Go.Proofs.YtpohogpkfdebdaaGreatDoor.Wd
/-- 200 bytes permuted. -/
def psp (f : Nat → Int) : Nat → Int := bf (perm (fl f))
theorem psp_b (f : Nat → Int) : BB (psp f) := bf_b _
def xb (a b : Int) : Int := bits .xor .u8 a b
theorem xb_b (a b : Int) : 0 ≤ xb a b ∧ xb a b < 256 := by
  unfold xb bits
  split <;> rw [IntKind.wrap_u8] <;> omega
/-- One byte exclusive-ored. -/
def mx (f : Nat → Int) (i : Nat) (x : Int) : Nat → Int := fun j => if j = i then xb (f i) x else f j
theorem mx_b {f : Nat → Int} (h : BB f) (i : Nat) (x : Int) : BB (mx f i x) := fun j => by
  unfold mx; split
  · exact xb_b _ _
  · exact h j
/-- The bytes, the place, how often it was permuted. -/
structure Z where
  f : Nat → Int
  p : Nat
  c : Nat
def Z.turn (z : Z) : Z := ⟨psp z.f, 0, z.c + 1⟩
def Z.inn (r : Nat) (z : Z) (x : Int) : Z := if z.p + 1 = r then ⟨psp (mx z.f z.p x), 0, z.c + 1⟩ else ⟨mx z.f z.p x, z.p + 1, z.c⟩
/-- n bytes taken in. -/
def Z.ins (r : Nat) (z : Z) (g : Nat → Int) : Nat → Z
  | 0 => z
  | k + 1 => (Z.ins r z g k).inn r (g k)
def Z.rdy (r : Nat) (z : Z) : Z := if z.p = r then z.turn else z
/-- n bytes told. -/
def Z.out (r : Nat) (z : Z) : Nat → Z
  | 0 => z
  | k + 1 => ⟨((Z.out r z k).rdy r).f, ((Z.out r z k).rdy r).p + 1, ((Z.out r z k).rdy r).c⟩
/-- The byte i that is told. -/
def Z.say (r : Nat) (z : Z) (i : Nat) : Int := ((Z.out r z i).rdy r).f ((Z.out r z i).rdy r).p
def Z.fin (r : Nat) (sf : Int) (z : Z) : Z := ⟨psp (mx (mx z.f z.p sf) (r - 1) 128), 0, z.c + 1⟩
/-- n bytes exclusive-ored from p on. -/
def mxs (f : Nat → Int) (p : Nat) (g : Nat → Int) (n : Nat) : Nat → Int := fun j => if p ≤ j ∧ j < p + n then xb (f j) (g (j - p)) else f j
theorem mxs_zero (f : Nat → Int) (p : Nat) (g : Nat → Int) : mxs f p g 0 = f := by
  funext j; unfold mxs; rw [if_neg (by omega)]
theorem mxs_next (f : Nat → Int) (p : Nat) (g : Nat → Int) (n : Nat) : mxs f p g (n + 1) = mx (mxs f p g n) (p + n) (g n) := by
  funext j; unfold mx mxs
  by_cases h : j = p + n
  · subst h
    rw [if_pos (by omega), if_pos rfl, if_neg (by omega), show p + n - p = n from by omega]
  · rw [if_neg h]
    by_cases h2 : p ≤ j ∧ j < p + n
    · rw [if_pos h2, if_pos (by omega)]
    · rw [if_neg h2, if_neg (by omega)]
theorem mxs_b {f : Nat → Int} (h : BB f) (p : Nat) (g : Nat → Int) (n : Nat) : BB (mxs f p g n) := fun j => by
  unfold mxs; split
  · exact xb_b _ _
  · exact h j
theorem ins_part (r : Nat) (z : Z) (g : Nat → Int) (n : Nat) (h : z.p + n < r) : Z.ins r z g n = ⟨mxs z.f z.p g n, z.p + n, z.c⟩ := by
  induction n with
  | zero => rw [mxs_zero]; rfl
  | succ n ih =>
    rw [Z.ins, ih (by omega), Z.inn, mxs_next]
    rw [if_neg (by show ¬ z.p + n + 1 = r; omega)]; rfl
theorem ins_full (r : Nat) (z : Z) (g : Nat → Int) (n : Nat) (h : z.p + n = r) (hn : 0 < n) : Z.ins r z g n = ⟨psp (mxs z.f z.p g n), 0, z.c + 1⟩ := by
  obtain ⟨m, rfl⟩ : ∃ m, n = m + 1 := ⟨n - 1, by omega⟩
  rw [Z.ins, ins_part r z g m (by omega), Z.inn, mxs_next, if_pos (by show z.p + m + 1 = r; omega)]
theorem ins_add (r : Nat) (z : Z) (g : Nat → Int) (a b : Nat) : Z.ins r z g (a + b) = Z.ins r (Z.ins r z g a) (fun i => g (a + i)) b := by
  induction b with
  | zero => rfl
  | succ b ih => rw [← Nat.add_assoc, Z.ins, ih]; rfl
theorem ins_congr (r : Nat) (z : Z) (g h : Nat → Int) (n : Nat) (e : ∀ i, i < n → g i = h i) : Z.ins r z g n = Z.ins r z h n := by
  induction n with
  | zero => rfl
  | succ n ih => rw [Z.ins, Z.ins, ih (fun i hi => e i (by omega)), e n (by omega)]
theorem out_add (r : Nat) (z : Z) (a b : Nat) : Z.out r z (a + b) = Z.out r (Z.out r z a) b := by
  induction b with
  | zero => rfl
  | succ b ih => rw [← Nat.add_assoc, Z.out, ih]; rfl
theorem say_add (r : Nat) (z : Z) (a i : Nat) : Z.say r z (a + i) = Z.say r (Z.out r z a) i := by
  unfold Z.say; rw [out_add]
theorem rdy_rdy (r : Nat) (z : Z) (hr : 0 < r) : (z.rdy r).rdy r = z.rdy r := by
  unfold Z.rdy
  by_cases h : z.p = r
  · rw [if_pos h, if_neg (by show ¬ 0 = r; omega)]
  · rw [if_neg h, if_neg h]
theorem out_rdy (r : Nat) (z : Z) (n : Nat) (hr : 0 < r) (hn : 0 < n) : Z.out r z n = Z.out r (z.rdy r) n := by
  obtain ⟨m, rfl⟩ : ∃ m, n = m + 1 := ⟨n - 1, by omega⟩
  clear hn
  induction m with
  | zero => simp only [Z.out]; rw [rdy_rdy r z hr]
  | succ m ih => rw [Z.out, ih]; rfl
theorem out_part (r : Nat) (z : Z) (n : Nat) (h : z.p + n ≤ r) : Z.out r z n = ⟨z.f, z.p + n, z.c⟩ := by
  induction n with
  | zero => rfl
  | succ n ih =>
    rw [Z.out, ih (by omega)]
    have e : Z.rdy r ⟨z.f, z.p + n, z.c⟩ = ⟨z.f, z.p + n, z.c⟩ := by unfold Z.rdy; rw [if_neg (by show ¬ z.p + n = r; omega)]
    rw [e]; rfl
theorem say_part (r : Nat) (z : Z) (i : Nat) (h : z.p + i < r) : Z.say r z i = z.f (z.p + i) := by
  unfold Z.say
  rw [out_part r z i (by omega)]
  have e : Z.rdy r ⟨z.f, z.p + i, z.c⟩ = ⟨z.f, z.p + i, z.c⟩ := by unfold Z.rdy; rw [if_neg (by show ¬ z.p + i = r; omega)]
  rw [e]
theorem say_rdy (r : Nat) (z : Z) (i : Nat) (hr : 0 < r) : Z.say r z i = Z.say r (z.rdy r) i := by
  unfold Z.say
  cases i with
  | zero => simp only [Z.out]; rw [rdy_rdy r z hr]
  | succ m => rw [out_rdy r z (m + 1) hr (by omega)]
/-- What holds of every sponge: bytes, the place. -/
structure Z.Ok (r : Nat) (sh : Bool) (z : Z) : Prop where
  b : BB z.f
  p : z.p ≤ r
  o : sh = false → z.p < r
theorem Z.Ok.inn {r : Nat} {z : Z} (h : z.Ok r false) (hr : 0 < r) (x : Int) : (z.inn r x).Ok r false := by
  have := h.o rfl
  unfold Z.inn
  split
  · exact ⟨psp_b _, Nat.zero_le _, fun _ => hr⟩
  · exact ⟨mx_b h.b _ _, by show z.p + 1 ≤ r; omega, fun _ => by show z.p + 1 < r; omega⟩
theorem Z.Ok.ins {r : Nat} {z : Z} (h : z.Ok r false) (hr : 0 < r) (g : Nat → Int) (n : Nat) : (Z.ins r z g n).Ok r false := by
  induction n with
  | zero => exact h
  | succ n ih => exact ih.inn hr _
theorem Z.Ok.rdy {r : Nat} {z : Z} {sh : Bool} (h : z.Ok r sh) (hr : 0 < r) : (z.rdy r).Ok r false := by
  have := h.p
  unfold Z.rdy
  split
  · exact ⟨psp_b _, Nat.zero_le _, fun _ => hr⟩
  · exact ⟨h.b, h.p, fun _ => by omega⟩
theorem Z.Ok.shut {r : Nat} {z : Z} {sh : Bool} (h : z.Ok r sh) : z.Ok r true := ⟨h.b, h.p, fun e => by cases e⟩
theorem Z.Ok.out {r : Nat} {z : Z} (h : z.Ok r true) (hr : 0 < r) (n : Nat) : (Z.out r z n).Ok r true := by
  induction n with
  | zero => exact h
  | succ n ih =>
    have := ih.rdy hr
    have h2 := this.o rfl
    exact ⟨this.b, by show (Z.rdy r (Z.out r z n)).p + 1 ≤ r; omega, fun e => by cases e⟩
theorem Z.Ok.fin {r : Nat} (z : Z) (sh : Bool) (sf : Int) (hr : 0 < r) : (z.fin r sf).Ok r sh := ⟨psp_b _, Nat.zero_le _, fun _ => hr⟩
theorem say_b {r : Nat} {z : Z} (h : z.Ok r true) (hr : 0 < r) (i : Nat) : 0 ≤ Z.say r z i ∧ Z.say r z i < 256 := ((h.out hr i).rdy hr).b _
/-- How often: bytes in. -/
theorem ins_count {r : Nat} {z : Z} (h : z.p < r) (g : Nat → Int) (n : Nat) : (Z.ins r z g n).c = z.c + (z.p + n) / r ∧ (Z.ins r z g n).p = (z.p + n) % r := by
  induction n with
  | zero => exact ⟨by rw [Nat.add_zero, Nat.div_eq_of_lt h]; rfl, by rw [Nat.add_zero, Nat.mod_eq_of_lt h]; rfl⟩
  | succ n ih =>
    have hr : 0 < r := by omega
    have e := Nat.div_add_mod (z.p + n) r
    have hm := Nat.mod_lt (z.p + n) hr
    rw [Z.ins, Z.inn, ih.2]
    by_cases hf : (z.p + n) % r + 1 = r
    · rw [if_pos hf]
      have e1 : z.p + (n + 1) = ((z.p + n) / r + 1) * r := by rw [Nat.succ_mul, Nat.mul_comm]; omega
      rw [e1, Nat.mul_div_cancel _ hr, Nat.mul_mod_left]
      exact ⟨by show (Z.ins r z g n).c + 1 = _; rw [ih.1]; omega, rfl⟩
    · rw [if_neg hf]
      have e1 : z.p + (n + 1) = ((z.p + n) % r + 1) + r * ((z.p + n) / r) := by omega
      have e2 : (z.p + (n + 1)) / r = (z.p + n) / r := by
        rw [e1, Nat.add_mul_div_left _ _ hr, Nat.div_eq_of_lt (by omega)]; omega
      have e3 : (z.p + (n + 1)) % r = (z.p + n) % r + 1 := by
        rw [e1, Nat.add_mul_mod_self_left, Nat.mod_eq_of_lt (by omega)]
      rw [e2, e3]
      exact ⟨ih.1, rfl⟩
/-- How often: bytes told, by a sponge that was just shut. -/
theorem out_count {r : Nat} {z : Z} (hr : 0 < r) (h : z.p = 0) (n : Nat) : (Z.out r z (n + 1)).c = z.c + n / r ∧ (Z.out r z (n + 1)).p = n % r + 1 := by
  induction n with
  | zero =>
    have e : z.rdy r = z := by unfold Z.rdy; rw [if_neg (by omega)]
    simp only [Z.out]
    rw [e, h]; simp
  | succ n ih =>
    have e := Nat.div_add_mod n r
    have hm := Nat.mod_lt n hr
    rw [Z.out]
    unfold Z.rdy
    rw [ih.2]
    by_cases hf : n % r + 1 = r
    · rw [if_pos hf]
      have e1 : n + 1 = (n / r + 1) * r := by rw [Nat.succ_mul, Nat.mul_comm]; omega
      have e2 : (n + 1) / r = n / r + 1 := by rw [e1, Nat.mul_div_cancel _ hr]
      have e3 : (n + 1) % r = 0 := by rw [e1, Nat.mul_mod_left]
      rw [e2, e3]
      refine ⟨?_, rfl⟩
      show (Z.out r z (n + 1)).c + 1 = _
      rw [ih.1]; omega
    · rw [if_neg hf]
      have e1 : n + 1 = (n % r + 1) + r * (n / r) := by omega
      have e2 : (n + 1) / r = n / r := by
        rw [e1, Nat.add_mul_div_left _ _ hr, Nat.div_eq_of_lt (by omega)]; omega
      have e3 : (n + 1) % r = n % r + 1 := by
        rw [e1, Nat.add_mul_mod_self_left, Nat.mod_eq_of_lt (by omega)]
      rw [e2, e3]
      exact ⟨ih.1, by rw [ih.2]⟩
end Go.Proofs.YtpohogpkfdebdaaGreatDoor.Kc
