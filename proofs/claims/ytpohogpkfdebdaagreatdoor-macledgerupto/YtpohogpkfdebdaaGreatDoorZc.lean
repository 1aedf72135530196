/- Plain facts on bytes: the exclusive or, the mask, which of two lists is less (the highest byte first); no program in it. What the program's functions on lists of bytes answer (Equal, Less, IsZero, Mask), for every list, whatever the ledger's note does: the note's own contract is a premise. -/
import Derived.Laws.BitsAllLaws
import Derived.Laws.BitsLemmas
import Derived.Test.YtpohogpkfdebdaaGreatDoorZa
namespace Go.Proofs.YtpohogpkfdebdaaGreatDoor.By

theorem or_bound (a b : Int) (ha : 0 ≤ a ∧ a < 256) (hb : 0 ≤ b ∧ b < 256) : 0 ≤ bits .or .u8 a b ∧ bits .or .u8 a b < 256 := by
  obtain ⟨A, rfl⟩ := Int.eq_ofNat_of_zero_le ha.1
  obtain ⟨B, rfl⟩ := Int.eq_ofNat_of_zero_le hb.1
  rw [u8_or_nat A B (by omega) (by omega)]
  have : A ||| B < 2 ^ 8 := Nat.or_lt_two_pow (by omega) (by omega)
  omega
theorem xor_bound (a b : Int) (ha : 0 ≤ a ∧ a < 256) (hb : 0 ≤ b ∧ b < 256) : 0 ≤ bits .xor .u8 a b ∧ bits .xor .u8 a b < 256 := by
  obtain ⟨A, rfl⟩ := Int.eq_ofNat_of_zero_le ha.1
  obtain ⟨B, rfl⟩ := Int.eq_ofNat_of_zero_le hb.1
  rw [u8_xor_nat A B (by omega) (by omega)]
  have : A ^^^ B < 2 ^ 8 := Nat.xor_lt_two_pow (by omega) (by omega)
  omega
theorem or_zero (a b : Int) (ha : 0 ≤ a ∧ a < 256) (hb : 0 ≤ b ∧ b < 256) : bits .or .u8 a b = 0 ↔ a = 0 ∧ b = 0 := by
  obtain ⟨A, rfl⟩ := Int.eq_ofNat_of_zero_le ha.1
  obtain ⟨B, rfl⟩ := Int.eq_ofNat_of_zero_le hb.1
  rw [u8_or_nat A B (by omega) (by omega)]
  have h : A ||| B = 0 ↔ A = 0 ∧ B = 0 := Nat.or_eq_zero_iff
  omega
theorem xor_zero (a b : Int) (ha : 0 ≤ a ∧ a < 256) (hb : 0 ≤ b ∧ b < 256) : bits .xor .u8 a b = 0 ↔ a = b := by
  obtain ⟨A, rfl⟩ := Int.eq_ofNat_of_zero_le ha.1
  obtain ⟨B, rfl⟩ := Int.eq_ofNat_of_zero_le hb.1
  rw [u8_xor_nat A B (by omega) (by omega)]
  have h : A ^^^ B = 0 ↔ A = B := ⟨fun e => by have := congrArg (· ^^^ B) e; simpa [Nat.xor_assoc] using this, fun e => by subst e; exact Nat.xor_self A⟩
  omega
/-- Are the first n bytes the same? -/
def eqB (f g : Nat → Int) (n : Nat) : Bool := decide (∀ i, i < n → f i = g i)
theorem eqB_iff {f g : Nat → Int} {n : Nat} : eqB f g n = true ↔ ∀ i, i < n → f i = g i := by simp [eqB]
/-- Are the first n bytes all 0? -/
def zeroB (f : Nat → Int) (n : Nat) : Bool := eqB f (fun _ => 0) n

/-- Of the last j of n bytes: is f less than g? -/
def lsB (f g : Nat → Int) (n : Nat) : Nat → Bool
  | 0 => false
  | j + 1 => if f (n - 1 - j) < g (n - 1 - j) then true else if f (n - 1 - j) = g (n - 1 - j) then lsB f g n j else false
/-- Is f less than g? -/
def less (f g : Nat → Int) (n : Nat) : Bool := lsB f g n n
def bo (b : Bool) : Int := if b then 1 else 0
theorem eqB_false {f g : Nat → Int} {n : Nat} : eqB f g n = false ↔ ¬ ∀ i, i < n → f i = g i := by
  rw [Bool.eq_false_iff]; exact not_congr eqB_iff
theorem eqB_refl (f : Nat → Int) (n : Nat) : eqB f f n = true := eqB_iff.2 (fun _ _ => rfl)
end Go.Proofs.YtpohogpkfdebdaaGreatDoor.By
namespace Go.Proofs.YtpohogpkfdebdaaGreatDoor.By
open Go.ChangeShapes Go.WideShapes Go.ChangeAt Go.RowKit

/-- What the ledger's note does, as far as the caller knows: it returns, and R holds then. -/
def Notes (w : World) (lp : Value) (k s : Int) (R : World → Prop) : Prop :=
  Calls Tryz.prog 88 #[lp, .int .u8 k, .int .i64 s] w fun e w' => e = .returned (.tuple #[]) ∧ R w'

theorem RB.cellsAt {w : World} {a : Option Addr} {n m cap k : Nat} {f : Nat → Int} (h : RB w (.slice a m cap) n f) (hk : k < n) : ∃ b off, a = some ⟨b, off, none⟩ ∧ w.cell? ⟨b, off + k, none⟩ = some (.int .u8 (f k)) := by
  obtain ⟨_, a', cap', he, _, _, h0 | ⟨b, off, rfl, hc⟩⟩ := h
  · omega
  · simp only [Value.slice.injEq] at he
    obtain ⟨rfl, _, _⟩ := he
    exact ⟨b, off, rfl, hc k hk⟩
theorem RB.isSlice {w : World} {v : Value} {n : Nat} {f : Nat → Int} (h : RB w v n f) : ∃ a cap, v = .slice a n cap := by
  obtain ⟨_, a, cap, e, _⟩ := h
  exact ⟨a, cap, e⟩

set_option maxRecDepth 100000 in
set_option maxHeartbeats 1200000 in
theorem equal12 (lp va vb : Value) (n : Nat) (f g : Nat → Int) (w : World) (R : World → Prop) (hN : Notes w lp 6 n R) (sa : ∃ a c, va = .slice a n c) (sb : ∃ a c, vb = .slice a n c)
    (ha : ∀ w', R w' → RB w' va n f) (hb : ∀ w', R w' → RB w' vb n g) (hn : n ≤ 140737488355999) :
    Calls Tryz.prog 63 #[lp, va, vb] w fun e w' => e = .returned (.bool (eqB f g n)) ∧ ∃ w1 d, R w1 ∧ w' = w1.drewN d := by
  obtain ⟨a, c, rfl⟩ := sa
  obtain ⟨b, c', rfl⟩ := sb
  have HN := hid hN
  have HA := hid ha
  have HB := hid hb
  clear hN ha hb
  go_enter Tryz.func63, Tryz.ntmps63
  go_wp2_with fail
  refine HN.out.mono ?_
  rintro e w1 ⟨rfl, hR⟩
  have HR := hid hR
  have RA := hid (HA.out w1 hR)
  have RBb := hid (HB.out w1 hR)
  clear hR HA HB HN
  go_wp2
  go_loopw [7, 20] (fun u x wr => ∃ k : Nat, k ≤ n ∧ x = .int .i64 k ∧ (∃ z, u = .int .u8 z ∧ (0 ≤ z ∧ z < 256) ∧ (z = 0 ↔ ∀ i, i < k → f i = g i)) ∧ ∃ d, wr = w1.drewN d) (fun _ x _ => n - (intOf x).toNat)
  case atStart => exact ⟨0, Nat.zero_le _, rfl, ⟨0, rfl, by omega, by simp⟩, 0, rfl⟩
  case round =>
    obtain ⟨k, hk, rfl, ⟨z, rfl, hz, hiff⟩, d, rfl⟩ := hrel
    have HZ := hid hz
    have HI := hid hiff
    clear hz hiff
    by_cases hlt : k < n
    · obtain ⟨b1, o1, rfl, c1⟩ := RA.out.cellsAt hlt
      obtain ⟨b2, o2, rfl, c2⟩ := RBb.out.cellsAt hlt
      have l1 : (k : Int) < n := by omega
      have l0 : (0 : Int) ≤ k := by omega
      go_wp2
      go_quiet (fail)
      go_wp2
      go_roundw
      case rel =>
        have hf := RA.out.1 k
        have hg := RBb.out.1 k
        refine ⟨k + 1, by omega, by go_num, ⟨_, rfl, or_bound _ _ HZ.out (xor_bound _ _ hf hg), ?_⟩, _, rfl⟩
        rw [or_zero _ _ HZ.out (xor_bound _ _ hf hg), xor_zero _ _ hf hg, HI.out]
        constructor
        · rintro ⟨h1, h2⟩ i hi
          by_cases e : i = k
          · subst e; exact h2
          · exact h1 i (by omega)
        · intro h; exact ⟨fun i hi => h i (by omega), h k (by omega)⟩
      case measure => simp [intOf]; omega
    · have e : k = n := by omega
      subst e
      have E : Hid ((z == 0) = eqB f g k) := by show _ = _; rw [Bool.eq_iff_iff, beq_iff_eq, eqB_iff]; exact HI.out
      go_wp2
      go_ret
      exact ⟨by rw [← E.out]; rfl, w1, d, HR.out, rfl⟩
/-- The mask. -/
def msk (y : Bool) : Int := if y then 255 else 0
/-- One of two bytes, as the mask lets it pass. -/
def pick (y : Bool) (a b : Int) : Int := bits .xor .u8 (bits .and .u8 (bits .xor .u8 a b) (msk y)) b
/-- One of two lists. -/
def sel (y : Bool) (f g : Nat → Int) (i : Nat) : Int := if y then f i else g i
/-- Behind k bytes. -/
def pickTo (y : Bool) (f g : Nat → Int) (k i : Nat) : Int := if i < k then sel y f g i else 0
end Go.Proofs.YtpohogpkfdebdaaGreatDoor.By
