/- What the program's functions on lists of bytes answer (Equal, Less, IsZero, Mask), for every list, whatever the ledger's note does: the note's own contract is a premise. -/
import Derived.Test.YthoklddoeoedgaaBkit
import Derived.Test.YthoklddoeoedgaaCmath
namespace Go.Proofs.Ythoklddoeoedgaa.By
open Go.ChangeShapes Go.WideShapes Go.ChangeAt Go.RowKit

/-- What the ledger's note does, as far as the caller knows: it returns, and R holds then. -/
def Notes (w : World) (lp : Value) (k s : Int) (R : World → Prop) : Prop :=
  Calls Try.prog 40 #[lp, .int .u8 k, .int .i64 s] w fun e w' => e = .returned (.tuple #[]) ∧ R w'

theorem RB.cellsAt {w : World} {a : Option Addr} {n m cap k : Nat} {f : Nat → Int} (h : RB w (.slice a m cap) n f) (hk : k < n) : ∃ b off, a = some ⟨b, off, none⟩ ∧ w.cell? ⟨b, off + k, none⟩ = some (.int .u8 (f k)) := by
  obtain ⟨_, a', cap', he, _, _, h0 | ⟨b, off, rfl, hc⟩⟩ := h
  · omega
  · simp only [Value.slice.injEq] at he
    obtain ⟨rfl, _, _⟩ := he
    exact ⟨b, off, rfl, hc k hk⟩
theorem RB.isSlice {w : World} {v : Value} {n : Nat} {f : Nat → Int} (h : RB w v n f) : ∃ a cap, v = .slice a n cap := by
  obtain ⟨_, a, cap, e, _⟩ := h
  exact ⟨a, cap, e⟩

set_option maxRecDepth 100000 in
set_option maxHeartbeats 1200000 in
theorem equal12 (lp va vb : Value) (n : Nat) (f g : Nat → Int) (w : World) (R : World → Prop) (hN : Notes w lp 6 n R) (sa : ∃ a c, va = .slice a n c) (sb : ∃ a c, vb = .slice a n c)
    (ha : ∀ w', R w' → RB w' va n f) (hb : ∀ w', R w' → RB w' vb n g) (hn : n ≤ 140737488355999) :
    Calls Try.prog 38 #[lp, va, vb] w fun e w' => e = .returned (.bool (eqB f g n)) ∧ ∃ w1 d, R w1 ∧ w' = w1.drewN d := by
  obtain ⟨a, c, rfl⟩ := sa
  obtain ⟨b, c', rfl⟩ := sb
  have HN := hid hN
  have HA := hid ha
  have HB := hid hb
  clear hN ha hb
  go_enter Try.func38, Try.ntmps38
  go_wp2_with fail
  refine HN.out.mono ?_
  rintro e w1 ⟨rfl, hR⟩
  have HR := hid hR
  have RA := hid (HA.out w1 hR)
  have RBb := hid (HB.out w1 hR)
  clear hR HA HB HN
  go_wp2
  go_loopw [7, 20] (fun u x wr => ∃ k : Nat, k ≤ n ∧ x = .int .i64 k ∧ (∃ z, u = .int .u8 z ∧ (0 ≤ z ∧ z < 256) ∧ (z = 0 ↔ ∀ i, i < k → f i = g i)) ∧ ∃ d, wr = w1.drewN d) (fun _ x _ => n - (intOf x).toNat)
  case atStart => exact ⟨0, Nat.zero_le _, rfl, ⟨0, rfl, by omega, by simp⟩, 0, rfl⟩
  case round =>
    obtain ⟨k, hk, rfl, ⟨z, rfl, hz, hiff⟩, d, rfl⟩ := hrel
    have HZ := hid hz
    have HI := hid hiff
    clear hz hiff
    by_cases hlt : k < n
    · obtain ⟨b1, o1, rfl, c1⟩ := RA.out.cellsAt hlt
      obtain ⟨b2, o2, rfl, c2⟩ := RBb.out.cellsAt hlt
      have l1 : (k : Int) < n := by omega
      have l0 : (0 : Int) ≤ k := by omega
      go_wp2
      go_quiet (fail)
      go_wp2
      go_roundw
      case rel =>
        have hf := RA.out.1 k
        have hg := RBb.out.1 k
        refine ⟨k + 1, by omega, by go_num, ⟨_, rfl, or_bound _ _ HZ.out (xor_bound _ _ hf hg), ?_⟩, _, rfl⟩
        rw [or_zero _ _ HZ.out (xor_bound _ _ hf hg), xor_zero _ _ hf hg, HI.out]
        constructor
        · rintro ⟨h1, h2⟩ i hi
          by_cases e : i = k
          · subst e; exact h2
          · exact h1 i (by omega)
        · intro h; exact ⟨fun i hi => h i (by omega), h k (by omega)⟩
      case measure => simp [intOf]; omega
    · have e : k = n := by omega
      subst e
      have E : Hid ((z == 0) = eqB f g k) := by show _ = _; rw [Bool.eq_iff_iff, beq_iff_eq, eqB_iff]; exact HI.out
      go_wp2
      go_ret
      exact ⟨by rw [← E.out]; rfl, w1, d, HR.out, rfl⟩
set_option maxHeartbeats 1200000 in
theorem equal12x (lp va vb : Value) (n m : Nat) (w : World) (sa : ∃ a c, va = .slice a n c) (sb : ∃ a c, vb = .slice a m c) (hnm : n ≠ m) :
    Calls Try.prog 38 #[lp, va, vb] w fun e w' => e = .returned (.bool false) ∧ w' = w := by
  obtain ⟨a, c, rfl⟩ := sa
  obtain ⟨b, c', rfl⟩ := sb
  have h : ¬ (n : Int) = m := by omega
  go_enter Try.func38, Try.ntmps38
  go_wp2
  go_ret
  exact ⟨rfl, rfl⟩
/-- The mask. -/
def msk (y : Bool) : Int := if y then 255 else 0
/-- One of two bytes, as the mask lets it pass. -/
def pick (y : Bool) (a b : Int) : Int := bits .xor .u8 (bits .and .u8 (bits .xor .u8 a b) (msk y)) b
theorem pick_eq (y : Bool) (a b : Int) (ha : 0 ≤ a ∧ a < 256) (hb : 0 ≤ b ∧ b < 256) : pick y a b = (if y then a else b) := by
  cases y
  · exact pick_no a b ha hb
  · exact pick_yes a b ha hb
/-- One of two lists. -/
def sel (y : Bool) (f g : Nat → Int) (i : Nat) : Int := if y then f i else g i
theorem sel_bound (y : Bool) (f g : Nat → Int) (hf : ∀ i, 0 ≤ f i ∧ f i < 256) (hg : ∀ i, 0 ≤ g i ∧ g i < 256) (i : Nat) : 0 ≤ sel y f g i ∧ sel y f g i < 256 := by
  unfold sel; split
  · exact hf i
  · exact hg i
/-- Behind k bytes. -/
def pickTo (y : Bool) (f g : Nat → Int) (k i : Nat) : Int := if i < k then sel y f g i else 0
theorem pickTo_bound (y : Bool) (f g : Nat → Int) (hf : ∀ i, 0 ≤ f i ∧ f i < 256) (hg : ∀ i, 0 ≤ g i ∧ g i < 256) (k i : Nat) : 0 ≤ pickTo y f g k i ∧ pickTo y f g k i < 256 := by
  have := sel_bound y f g hf hg i
  unfold pickTo; split <;> omega
theorem pickTo_step {k : Nat} {w : World} {B G N cap : Nat} {y : Bool} {f g : Nat → Int} (h : Own w B (.slice (some ⟨G, 0, none⟩) N cap) N (pickTo y f g k)) (hf : ∀ i, 0 ≤ f i ∧ f i < 256) (hg : ∀ i, 0 ≤ g i ∧ g i < 256) (x : Int) (hx : x = pick y (f k) (g k)) :
    Own (w.setCell ⟨G, k, none⟩ (.int .u8 x)) B (.slice (some ⟨G, 0, none⟩) N cap) N (pickTo y f g (k + 1)) ∧ w.grownBy (w.setCell ⟨G, k, none⟩ (.int .u8 x)) (some G) := by
  have e : x = sel y f g k := by rw [hx]; exact pick_eq y _ _ (hf k) (hg k)
  have S := own_store h k x (by rw [e]; exact sel_bound y f g hf hg k)
  refine ⟨own_congr S.1 (pickTo_bound y f g hf hg (k + 1)) (fun i hi => ?_), S.2⟩
  show (if i = k then x else pickTo y f g k i) = pickTo y f g (k + 1) i
  unfold pickTo
  by_cases h : i = k
  · subst h; rw [if_pos rfl, if_pos (show i < i + 1 by omega), e]
  · rw [if_neg h]
    by_cases h2 : i < k
    · rw [if_pos h2, if_pos (show i < k + 1 by omega)]
    · rw [if_neg h2, if_neg (show ¬ i < k + 1 by omega)]
end Go.Proofs.Ythoklddoeoedgaa.By
