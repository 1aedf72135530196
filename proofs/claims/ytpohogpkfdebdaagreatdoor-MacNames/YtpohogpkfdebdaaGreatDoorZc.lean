/- Plain facts on bytes: the exclusive or, the mask, which of two lists is less (the highest byte first); no program in it. What the program's functions on lists of bytes answer (Equal, Less, IsZero, Mask), for every list, whatever the ledger's note does: the note's own contract is a premise. -/
import Derived.Laws.BitsAllLaws
import Derived.Laws.BitsLemmas
import Derived.Test.YtpohogpkfdebdaaGreatDoorZa
namespace Go.Proofs.YtpohogpkfdebdaaGreatDoor.By

theorem or_bound (a b : Int) (ha : 0 ≤ a ∧ a < 256) (hb : 0 ≤ b ∧ b < 256) : 0 ≤ bits .or .u8 a b ∧ bits .or .u8 a b < 256 := by
  obtain ⟨A, rfl⟩ := Int.eq_ofNat_of_zero_le ha.1
  obtain ⟨B, rfl⟩ := Int.eq_ofNat_of_zero_le hb.1
  rw [u8_or_nat A B (by omega) (by omega)]
  have : A ||| B < 2 ^ 8 := Nat.or_lt_two_pow (by omega) (by omega)
  omega
theorem xor_bound (a b : Int) (ha : 0 ≤ a ∧ a < 256) (hb : 0 ≤ b ∧ b < 256) : 0 ≤ bits .xor .u8 a b ∧ bits .xor .u8 a b < 256 := by
  obtain ⟨A, rfl⟩ := Int.eq_ofNat_of_zero_le ha.1
  obtain ⟨B, rfl⟩ := Int.eq_ofNat_of_zero_le hb.1
  rw [u8_xor_nat A B (by omega) (by omega)]
  have : A ^^^ B < 2 ^ 8 := Nat.xor_lt_two_pow (by omega) (by omega)
  omega
theorem or_zero (a b : Int) (ha : 0 ≤ a ∧ a < 256) (hb : 0 ≤ b ∧ b < 256) : bits .or .u8 a b = 0 ↔ a = 0 ∧ b = 0 := by
  obtain ⟨A, rfl⟩ := Int.eq_ofNat_of_zero_le ha.1
  obtain ⟨B, rfl⟩ := Int.eq_ofNat_of_zero_le hb.1
  rw [u8_or_nat A B (by omega) (by omega)]
  have h : A ||| B = 0 ↔ A = 0 ∧ B = 0 := Nat.or_eq_zero_iff
  omega
theorem xor_zero (a b : Int) (ha : 0 ≤ a ∧ a < 256) (hb : 0 ≤ b ∧ b < 256) : bits .xor .u8 a b = 0 ↔ a = b := by
  obtain ⟨A, rfl⟩ := Int.eq_ofNat_of_zero_le ha.1
  obtain ⟨B, rfl⟩ := Int.eq_ofNat_of_zero_le hb.1
  rw [u8_xor_nat A B (by omega) (by omega)]
  have h : A ^^^ B = 0 ↔ A = B := ⟨fun e => by have := congrArg (· ^^^ B) e; simpa [Nat.xor_assoc] using this, fun e => by subst e; exact Nat.xor_self A⟩
  omega
/-- What a mask lets pass. -/
theorem pick_yes (a b : Int) (ha : 0 ≤ a ∧ a < 256) (hb : 0 ≤ b ∧ b < 256) : bits .xor .u8 (bits .and .u8 (bits .xor .u8 a b) 255) b = a := by
  obtain ⟨A, rfl⟩ := Int.eq_ofNat_of_zero_le ha.1
  obtain ⟨B, rfl⟩ := Int.eq_ofNat_of_zero_le hb.1
  have h1 : A ^^^ B < 2 ^ 8 := Nat.xor_lt_two_pow (by omega) (by omega)
  have h2 : (A ^^^ B) &&& 255 = A ^^^ B := by
    have := Nat.and_two_pow_sub_one_eq_mod (A ^^^ B) 8
    rw [Nat.mod_eq_of_lt h1] at this
    exact this
  rw [u8_xor_nat A B (by omega) (by omega), show (255 : Int) = ((255 : Nat) : Int) from rfl, u8_and_nat _ 255 (by omega) (by omega), h2, u8_xor_nat _ B (by omega) (by omega), Nat.xor_assoc, Nat.xor_self, Nat.xor_zero]
theorem pick_no (a b : Int) (ha : 0 ≤ a ∧ a < 256) (hb : 0 ≤ b ∧ b < 256) : bits .xor .u8 (bits .and .u8 (bits .xor .u8 a b) 0) b = b := by
  obtain ⟨A, rfl⟩ := Int.eq_ofNat_of_zero_le ha.1
  obtain ⟨B, rfl⟩ := Int.eq_ofNat_of_zero_le hb.1
  have h1 : A ^^^ B < 2 ^ 8 := Nat.xor_lt_two_pow (by omega) (by omega)
  rw [u8_xor_nat A B (by omega) (by omega), show (0 : Int) = ((0 : Nat) : Int) from rfl, u8_and_nat _ 0 (by omega) (by omega), Nat.and_zero, u8_xor_nat 0 B (by omega) (by omega), Nat.zero_xor]

/-- Are the first n bytes the same? -/
def eqB (f g : Nat → Int) (n : Nat) : Bool := decide (∀ i, i < n → f i = g i)
theorem eqB_iff {f g : Nat → Int} {n : Nat} : eqB f g n = true ↔ ∀ i, i < n → f i = g i := by simp [eqB]
theorem eqB_succ (f g : Nat → Int) (n : Nat) : eqB f g (n + 1) = (eqB f g n && decide (f n = g n)) := by
  rw [Bool.eq_iff_iff, Bool.and_eq_true, eqB_iff, eqB_iff, decide_eq_true_iff]
  constructor
  · intro h; exact ⟨fun i hi => h i (by omega), h n (by omega)⟩
  · rintro ⟨h1, h2⟩ i hi
    by_cases e : i = n
    · subst e; exact h2
    · exact h1 i (by omega)
theorem eqB_zero (f g : Nat → Int) : eqB f g 0 = true := eqB_iff.2 (fun i hi => by omega)
/-- Are the first n bytes all 0? -/
def zeroB (f : Nat → Int) (n : Nat) : Bool := eqB f (fun _ => 0) n

/-- Of the last j of n bytes: is f less than g? -/
def lsB (f g : Nat → Int) (n : Nat) : Nat → Bool
  | 0 => false
  | j + 1 => if f (n - 1 - j) < g (n - 1 - j) then true else if f (n - 1 - j) = g (n - 1 - j) then lsB f g n j else false
/-- Is f less than g? -/
def less (f g : Nat → Int) (n : Nat) : Bool := lsB f g n n
def bo (b : Bool) : Int := if b then 1 else 0
theorem bo_bound (b : Bool) : 0 ≤ bo b ∧ bo b ≤ 1 := by cases b <;> simp [bo]
theorem bo_one (b : Bool) : decide (bo b = 1) = b := by cases b <;> rfl
theorem lsB_step (f g : Nat → Int) (n j : Nat) (hf : ∀ i, 0 ≤ f i ∧ f i < 256) (hg : ∀ i, 0 ≤ g i ∧ g i < 256) :
    ((f (n - 1 - j) - g (n - 1 - j) - bo (lsB f g n j)) % 65536) / 32768 = bo (lsB f g n (j + 1)) := by
  have h1 := hf (n - 1 - j)
  have h2 := hg (n - 1 - j)
  have h3 := bo_bound (lsB f g n j)
  rw [show lsB f g n (j + 1) = if f (n - 1 - j) < g (n - 1 - j) then true else if f (n - 1 - j) = g (n - 1 - j) then lsB f g n j else false from rfl]
  generalize lsB f g n j = z at *
  generalize f (n - 1 - j) = x at *
  generalize g (n - 1 - j) = y at *
  by_cases a : x < y
  · rw [if_pos a]; show _ = (1 : Int); omega
  · rw [if_neg a]
    by_cases b : x = y
    · rw [if_pos b]; omega
    · rw [if_neg b]
      show _ = (0 : Int)
      omega
theorem lsB_iff (f g : Nat → Int) (n : Nat) : ∀ j, j ≤ n → (lsB f g n j = true ↔ ∃ i, n - j ≤ i ∧ i < n ∧ f i < g i ∧ ∀ m, n - j ≤ m → m < i → f m = g m) := by
  intro j
  induction j with
  | zero => intro _; simp [lsB]; intro i h1 h2; omega
  | succ j ih =>
    intro hj
    have ih := ih (by omega)
    have e : n - (j + 1) = n - 1 - j := by omega
    have e2 : n - j = n - 1 - j + 1 := by omega
    rw [e2] at ih
    rw [e]
    unfold lsB
    have hk : n - 1 - j < n := by omega
    generalize n - 1 - j = k at *
    by_cases a : f k < g k
    · rw [if_pos a]
      simp only [true_iff]
      exact ⟨k, Nat.le_refl _, hk, a, fun m h1 h2 => by omega⟩
    · rw [if_neg a]
      by_cases b : f k = g k
      · rw [if_pos b, ih]
        constructor
        · rintro ⟨i, h1, h2, h3, h4⟩
          refine ⟨i, by omega, h2, h3, fun m hm1 hm2 => ?_⟩
          by_cases em : m = k
          · subst em; exact b
          · exact h4 m (by omega) hm2
        · rintro ⟨i, h1, h2, h3, h4⟩
          have hne : i ≠ k := by intro e; subst e; exact a h3
          exact ⟨i, by omega, h2, h3, fun m hm1 hm2 => h4 m (by omega) hm2⟩
      · rw [if_neg b]
        simp only [Bool.false_eq_true, false_iff]
        rintro ⟨i, h1, h2, h3, h4⟩
        by_cases hik : i = k
        · subst hik; exact a h3
        · exact b (h4 k (Nat.le_refl _) (by omega))
theorem less_iff (f g : Nat → Int) (n : Nat) : less f g n = true ↔ ∃ i, i < n ∧ f i < g i ∧ ∀ m, m < i → f m = g m := by
  unfold less
  rw [lsB_iff f g n n (Nat.le_refl _)]
  simp
theorem less_at {f g : Nat → Int} {n k : Nat} (h : ∀ i, i < k → f i = g i) (hk : k < n) (hne : f k ≠ g k) : less f g n = decide (f k < g k) := by
  rw [Bool.eq_iff_iff, less_iff, decide_eq_true_iff]
  constructor
  · rintro ⟨i, h1, h2, h3⟩
    rcases Nat.lt_trichotomy i k with h4 | h4 | h4
    · have := h i h4; omega
    · subst h4; exact h2
    · exact absurd (h3 k h4) hne
  · intro hl; exact ⟨k, hk, hl, h⟩
theorem less_same {f g : Nat → Int} {n : Nat} (h : ∀ i, i < n → f i = g i) : less f g n = false := by
  rw [Bool.eq_false_iff]
  intro hl
  obtain ⟨i, h1, h2, _⟩ := (less_iff _ _ _).1 hl
  have := h i h1
  omega
theorem first_diff (f g : Nat → Int) : ∀ n, ¬ (∀ i, i < n → f i = g i) → ∃ k, k < n ∧ f k ≠ g k ∧ ∀ i, i < k → f i = g i := by
  intro n
  induction n with
  | zero => intro h; exact absurd (fun i hi => by omega) h
  | succ n ih =>
    intro h
    by_cases hn : ∀ i, i < n → f i = g i
    · refine ⟨n, by omega, fun e => h (fun i hi => ?_), hn⟩
      by_cases ei : i = n
      · subst ei; exact e
      · exact hn i (by omega)
    · obtain ⟨k, h1, h2, h3⟩ := ih hn
      exact ⟨k, by omega, h2, h3⟩
theorem eqB_false {f g : Nat → Int} {n : Nat} : eqB f g n = false ↔ ¬ ∀ i, i < n → f i = g i := by
  rw [Bool.eq_false_iff]; exact not_congr eqB_iff
/-- Just one of three. -/
theorem one_of_three (f g : Nat → Int) (n : Nat) : (eqB f g n = true ∧ less f g n = false ∧ less g f n = false) ∨ (eqB f g n = false ∧ less f g n = true ∧ less g f n = false) ∨ (eqB f g n = false ∧ less f g n = false ∧ less g f n = true) := by
  by_cases h : ∀ i, i < n → f i = g i
  · exact .inl ⟨eqB_iff.2 h, less_same h, less_same (fun i hi => (h i hi).symm)⟩
  · obtain ⟨k, h1, h2, h3⟩ := first_diff f g n h
    have a := less_at h3 h1 h2
    have b := less_at (f := g) (g := f) (fun i hi => (h3 i hi).symm) h1 (fun e => h2 e.symm)
    by_cases hl : f k < g k
    · exact .inr (.inl ⟨eqB_false.2 h, a.trans (decide_eq_true hl), b.trans (decide_eq_false (by omega))⟩)
    · exact .inr (.inr ⟨eqB_false.2 h, a.trans (decide_eq_false hl), b.trans (decide_eq_true (by omega))⟩)
theorem less_trans {f g h : Nat → Int} {n : Nat} (a : less f g n = true) (b : less g h n = true) : less f h n = true := by
  obtain ⟨i, i1, i2, i3⟩ := (less_iff _ _ _).1 a
  obtain ⟨j, j1, j2, j3⟩ := (less_iff _ _ _).1 b
  rw [less_iff]
  rcases Nat.lt_trichotomy i j with e | e | e
  · exact ⟨i, i1, by rw [← j3 i e]; exact i2, fun m hm => by rw [i3 m hm, j3 m (by omega)]⟩
  · subst e; exact ⟨i, i1, by omega, fun m hm => by rw [i3 m hm, j3 m hm]⟩
  · exact ⟨j, j1, by rw [i3 j e]; exact j2, fun m hm => by rw [i3 m (by omega), j3 m hm]⟩
theorem less_congr {f f' g : Nat → Int} {n : Nat} (h : ∀ i, i < n → f i = f' i) : less f g n = less f' g n := by
  rw [Bool.eq_iff_iff, less_iff, less_iff]
  constructor
  · rintro ⟨i, h1, h2, h3⟩; exact ⟨i, h1, by rw [← h i h1]; exact h2, fun m hm => by rw [← h m (by omega)]; exact h3 m hm⟩
  · rintro ⟨i, h1, h2, h3⟩; exact ⟨i, h1, by rw [h i h1]; exact h2, fun m hm => by rw [h m (by omega)]; exact h3 m hm⟩
theorem eqB_comm (f g : Nat → Int) (n : Nat) : eqB f g n = eqB g f n := by
  rw [Bool.eq_iff_iff, eqB_iff, eqB_iff]
  exact ⟨fun h i hi => (h i hi).symm, fun h i hi => (h i hi).symm⟩
theorem eqB_trans {f g h : Nat → Int} {n : Nat} (a : eqB f g n = true) (b : eqB g h n = true) : eqB f h n = true := by
  rw [eqB_iff] at *
  exact fun i hi => (a i hi).trans (b i hi)
theorem eqB_refl (f : Nat → Int) (n : Nat) : eqB f f n = true := eqB_iff.2 (fun _ _ => rfl)
end Go.Proofs.YtpohogpkfdebdaaGreatDoor.By
namespace Go.Proofs.YtpohogpkfdebdaaGreatDoor.By
open Go.ChangeShapes Go.WideShapes Go.ChangeAt Go.RowKit

/-- What the ledger's note does, as far as the caller knows: it returns, and R holds then. -/
def Notes (w : World) (lp : Value) (k s : Int) (R : World → Prop) : Prop :=
  Calls Tryz.prog 88 #[lp, .int .u8 k, .int .i64 s] w fun e w' => e = .returned (.tuple #[]) ∧ R w'

theorem RB.cellsAt {w : World} {a : Option Addr} {n m cap k : Nat} {f : Nat → Int} (h : RB w (.slice a m cap) n f) (hk : k < n) : ∃ b off, a = some ⟨b, off, none⟩ ∧ w.cell? ⟨b, off + k, none⟩ = some (.int .u8 (f k)) := by
  obtain ⟨_, a', cap', he, _, _, h0 | ⟨b, off, rfl, hc⟩⟩ := h
  · omega
  · simp only [Value.slice.injEq] at he
    obtain ⟨rfl, _, _⟩ := he
    exact ⟨b, off, rfl, hc k hk⟩
theorem RB.isSlice {w : World} {v : Value} {n : Nat} {f : Nat → Int} (h : RB w v n f) : ∃ a cap, v = .slice a n cap := by
  obtain ⟨_, a, cap, e, _⟩ := h
  exact ⟨a, cap, e⟩

set_option maxRecDepth 100000 in
set_option maxHeartbeats 1200000 in
theorem equal12 (lp va vb : Value) (n : Nat) (f g : Nat → Int) (w : World) (R : World → Prop) (hN : Notes w lp 6 n R) (sa : ∃ a c, va = .slice a n c) (sb : ∃ a c, vb = .slice a n c)
    (ha : ∀ w', R w' → RB w' va n f) (hb : ∀ w', R w' → RB w' vb n g) (hn : n ≤ 140737488355999) :
    Calls Tryz.prog 63 #[lp, va, vb] w fun e w' => e = .returned (.bool (eqB f g n)) ∧ ∃ w1 d, R w1 ∧ w' = w1.drewN d := by
  obtain ⟨a, c, rfl⟩ := sa
  obtain ⟨b, c', rfl⟩ := sb
  have HN := hid hN
  have HA := hid ha
  have HB := hid hb
  clear hN ha hb
  go_enter Tryz.func63, Tryz.ntmps63
  go_wp2_with fail
  refine HN.out.mono ?_
  rintro e w1 ⟨rfl, hR⟩
  have HR := hid hR
  have RA := hid (HA.out w1 hR)
  have RBb := hid (HB.out w1 hR)
  clear hR HA HB HN
  go_wp2
  go_loopw [7, 20] (fun u x wr => ∃ k : Nat, k ≤ n ∧ x = .int .i64 k ∧ (∃ z, u = .int .u8 z ∧ (0 ≤ z ∧ z < 256) ∧ (z = 0 ↔ ∀ i, i < k → f i = g i)) ∧ ∃ d, wr = w1.drewN d) (fun _ x _ => n - (intOf x).toNat)
  case atStart => exact ⟨0, Nat.zero_le _, rfl, ⟨0, rfl, by omega, by simp⟩, 0, rfl⟩
  case round =>
    obtain ⟨k, hk, rfl, ⟨z, rfl, hz, hiff⟩, d, rfl⟩ := hrel
    have HZ := hid hz
    have HI := hid hiff
    clear hz hiff
    by_cases hlt : k < n
    · obtain ⟨b1, o1, rfl, c1⟩ := RA.out.cellsAt hlt
      obtain ⟨b2, o2, rfl, c2⟩ := RBb.out.cellsAt hlt
      have l1 : (k : Int) < n := by omega
      have l0 : (0 : Int) ≤ k := by omega
      go_wp2
      go_quiet (fail)
      go_wp2
      go_roundw
      case rel =>
        have hf := RA.out.1 k
        have hg := RBb.out.1 k
        refine ⟨k + 1, by omega, by go_num, ⟨_, rfl, or_bound _ _ HZ.out (xor_bound _ _ hf hg), ?_⟩, _, rfl⟩
        rw [or_zero _ _ HZ.out (xor_bound _ _ hf hg), xor_zero _ _ hf hg, HI.out]
        constructor
        · rintro ⟨h1, h2⟩ i hi
          by_cases e : i = k
          · subst e; exact h2
          · exact h1 i (by omega)
        · intro h; exact ⟨fun i hi => h i (by omega), h k (by omega)⟩
      case measure => simp [intOf]; omega
    · have e : k = n := by omega
      subst e
      have E : Hid ((z == 0) = eqB f g k) := by show _ = _; rw [Bool.eq_iff_iff, beq_iff_eq, eqB_iff]; exact HI.out
      go_wp2
      go_ret
      exact ⟨by rw [← E.out]; rfl, w1, d, HR.out, rfl⟩
set_option maxHeartbeats 1200000 in
theorem equal12x (lp va vb : Value) (n m : Nat) (w : World) (sa : ∃ a c, va = .slice a n c) (sb : ∃ a c, vb = .slice a m c) (hnm : n ≠ m) :
    Calls Tryz.prog 63 #[lp, va, vb] w fun e w' => e = .returned (.bool false) ∧ w' = w := by
  obtain ⟨a, c, rfl⟩ := sa
  obtain ⟨b, c', rfl⟩ := sb
  have h : ¬ (n : Int) = m := by omega
  go_enter Tryz.func63, Tryz.ntmps63
  go_wp2
  go_ret
  exact ⟨rfl, rfl⟩
/-- The mask. -/
def msk (y : Bool) : Int := if y then 255 else 0
/-- One of two bytes, as the mask lets it pass. -/
def pick (y : Bool) (a b : Int) : Int := bits .xor .u8 (bits .and .u8 (bits .xor .u8 a b) (msk y)) b
theorem pick_eq (y : Bool) (a b : Int) (ha : 0 ≤ a ∧ a < 256) (hb : 0 ≤ b ∧ b < 256) : pick y a b = (if y then a else b) := by
  cases y
  · exact pick_no a b ha hb
  · exact pick_yes a b ha hb
/-- One of two lists. -/
def sel (y : Bool) (f g : Nat → Int) (i : Nat) : Int := if y then f i else g i
theorem sel_bound (y : Bool) (f g : Nat → Int) (hf : ∀ i, 0 ≤ f i ∧ f i < 256) (hg : ∀ i, 0 ≤ g i ∧ g i < 256) (i : Nat) : 0 ≤ sel y f g i ∧ sel y f g i < 256 := by
  unfold sel; split
  · exact hf i
  · exact hg i
/-- Behind k bytes. -/
def pickTo (y : Bool) (f g : Nat → Int) (k i : Nat) : Int := if i < k then sel y f g i else 0
theorem pickTo_bound (y : Bool) (f g : Nat → Int) (hf : ∀ i, 0 ≤ f i ∧ f i < 256) (hg : ∀ i, 0 ≤ g i ∧ g i < 256) (k i : Nat) : 0 ≤ pickTo y f g k i ∧ pickTo y f g k i < 256 := by
  have := sel_bound y f g hf hg i
  unfold pickTo; split <;> omega
theorem pickTo_step {k : Nat} {w : World} {B G N cap : Nat} {y : Bool} {f g : Nat → Int} (h : Own w B (.slice (some ⟨G, 0, none⟩) N cap) N (pickTo y f g k)) (hf : ∀ i, 0 ≤ f i ∧ f i < 256) (hg : ∀ i, 0 ≤ g i ∧ g i < 256) (x : Int) (hx : x = pick y (f k) (g k)) :
    Own (w.setCell ⟨G, k, none⟩ (.int .u8 x)) B (.slice (some ⟨G, 0, none⟩) N cap) N (pickTo y f g (k + 1)) ∧ w.grownBy (w.setCell ⟨G, k, none⟩ (.int .u8 x)) (some G) := by
  have e : x = sel y f g k := by rw [hx]; exact pick_eq y _ _ (hf k) (hg k)
  have S := own_store h k x (by rw [e]; exact sel_bound y f g hf hg k)
  refine ⟨own_congr S.1 (pickTo_bound y f g hf hg (k + 1)) (fun i hi => ?_), S.2⟩
  show (if i = k then x else pickTo y f g k i) = pickTo y f g (k + 1) i
  unfold pickTo
  by_cases h : i = k
  · subst h; rw [if_pos rfl, if_pos (show i < i + 1 by omega), e]
  · rw [if_neg h]
    by_cases h2 : i < k
    · rw [if_pos h2, if_pos (show i < k + 1 by omega)]
    · rw [if_neg h2, if_neg (show ¬ i < k + 1 by omega)]
end Go.Proofs.YtpohogpkfdebdaaGreatDoor.By
