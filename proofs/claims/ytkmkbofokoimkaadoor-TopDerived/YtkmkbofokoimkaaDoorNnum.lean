/- PBKDF2 as numbers: the tags, the block, what is told, what is recorded; no function of the program in it. -/
import Derived.Test.YtkmkbofokoimkaaDoorInum
namespace Go.Proofs.YtkmkbofokoimkaaDoor.Dg
open Go.ChangeShapes Go.WideShapes Go.ChangeAt Go.RowKit
open Go.Proofs.YtkmkbofokoimkaaDoor.By
/-- A number in four bytes. -/
def i4 (i : Nat) (j : Nat) : Int := ((i / 256 ^ (3 - j) % 256 : Nat) : Int)
theorem i4_b (i : Nat) : BB (i4 i) := fun j => by unfold i4; have := Nat.mod_lt (i / 256 ^ (3 - j)) (show 0 < 256 by decide); omega
/-- The first message: the salt, and the number behind it. -/
def sm (ns : Nat) (f : Nat → Int) (i : Nat) : Nat → Int := cat ns f (i4 i)
/-- The tag of number k + 1. -/
def uu (a : Bool) (K : Nat → Int) (ns : Nat) (f : Nat → Int) (i : Nat) : Nat → Nat → Int
  | 0 => hm a K (ns + 4) (sm ns f i)
  | k + 1 => hm a K (sz a) (uu a K ns f i k)
theorem uu_b (a : Bool) (K : Nat → Int) (ns : Nat) (f : Nat → Int) (i k : Nat) : BB (uu a K ns f i k) := by
  cases k with
  | zero => exact hm_b _ _ _ _
  | succ k => exact hm_b _ _ _ _
theorem sm_congr (ns : Nat) (f g : Nat → Int) (i : Nat) (h : ∀ j, j < ns → f j = g j) (j : Nat) : sm ns f i j = sm ns g i j := by
  show (if j < ns then f j else _) = (if j < ns then g j else _)
  split
  · rename_i hj; exact h j hj
  · rfl
theorem uu_congr (a : Bool) (K : Nat → Int) (ns : Nat) (f g : Nat → Int) (i : Nat) (h : ∀ j, j < ns → f j = g j) (k : Nat) : uu a K ns f i k = uu a K ns g i k := by
  induction k with
  | zero => exact hm_congr a K (ns + 4) _ _ (fun j _ => sm_congr ns f g i h j)
  | succ k ih => show hm a K (sz a) _ = hm a K (sz a) _; rw [ih]
/-- The exclusive or of the tags 1 to k + 1. -/
def xs (a : Bool) (K : Nat → Int) (ns : Nat) (f : Nat → Int) (i : Nat) : Nat → Nat → Int
  | 0 => uu a K ns f i 0
  | k + 1 => fun j => bx (xs a K ns f i k j) (uu a K ns f i (k + 1) j)
theorem xs_b (a : Bool) (K : Nat → Int) (ns : Nat) (f : Nat → Int) (i k : Nat) : BB (xs a K ns f i k) := by
  cases k with
  | zero => exact uu_b _ _ _ _ _ _
  | succ k => exact fun _ => bx_b _ _
theorem xs_congr (a : Bool) (K : Nat → Int) (ns : Nat) (f g : Nat → Int) (i : Nat) (h : ∀ j, j < ns → f j = g j) (k : Nat) : xs a K ns f i k = xs a K ns g i k := by
  induction k with
  | zero => exact uu_congr a K ns f g i h 0
  | succ k ih => funext j; show bx (xs a K ns f i k j) _ = bx (xs a K ns g i k j) _; rw [ih, uu_congr a K ns f g i h (k + 1)]
theorem bx_zero (x : Int) (h : 0 ≤ x ∧ x < 256) : bx 0 x = x := by
  have key : ∀ n : Fin 256, bx 0 ((n.val : Nat) : Int) = ((n.val : Nat) : Int) := by decide +kernel
  have := key ⟨x.toNat, by omega⟩
  simp only at this
  rw [show ((x.toNat : Nat) : Int) = x from by omega] at this
  exact this
/-- What is told. -/
def dk (a : Bool) (K : Nat → Int) (ns : Nat) (f : Nat → Int) (c : Nat) (i : Nat) : Int := xs a K ns f (i / sz a + 1) (c - 1) (i % sz a)
theorem dk_b (a : Bool) (K : Nat → Int) (ns : Nat) (f : Nat → Int) (c : Nat) : BB (dk a K ns f c) := fun _ => xs_b _ _ _ _ _ _ _
theorem dk_at (a : Bool) (K : Nat → Int) (ns : Nat) (f : Nat → Int) (c k j : Nat) (h : j < sz a) : dk a K ns f c (k * sz a + j) = xs a K ns f (k + 1) (c - 1) j := by
  unfold dk
  have h1 : (k * sz a + j) / sz a = k := by
    rw [Nat.mul_comm, Nat.mul_add_div (sz_pos a), Nat.div_eq_of_lt h]; omega
  have h2 : (k * sz a + j) % sz a = j := by
    rw [Nat.mul_comm, Nat.mul_add_mod, Nat.mod_eq_of_lt h]
  rw [h1, h2]
/-- What is told, and a block more of it. -/
theorem dk_cat (a : Bool) (K : Nat → Int) (ns : Nat) (f : Nat → Int) (c k d : Nat) (hd : d ≤ sz a) (i : Nat) (hi : i < k * sz a + d) : cat (k * sz a) (dk a K ns f c) (xs a K ns f (k + 1) (c - 1)) i = dk a K ns f c i := by
  show (if i < k * sz a then dk a K ns f c i else xs a K ns f (k + 1) (c - 1) (i - k * sz a)) = _
  split
  · rfl
  · obtain ⟨j, hj⟩ : ∃ j, i = k * sz a + j := ⟨i - k * sz a, by omega⟩
    subst hj
    rw [dk_at a K ns f c k j (by omega), show k * sz a + j - k * sz a = j from by omega]
theorem dk_congr (a : Bool) (K : Nat → Int) (ns : Nat) (f g : Nat → Int) (c : Nat) (h : ∀ j, j < ns → f j = g j) : dk a K ns f c = dk a K ns g c := by
  funext i; unfold dk; rw [xs_congr a K ns f g _ h]
/-- What one tag of m bytes records; what a block does. -/
def ue (a : Bool) (m : Nat) : Nat := m / bk a + (last a m + 1)
def be (a : Bool) (ns c : Nat) : Nat := ue a (ns + 4) + (c - 1) * ue a (sz a)
theorem ue_le (a : Bool) (m : Nat) (h : m ≤ 1000004) : ue a m ≤ 15640 := by
  have h1 := (last_le a m).1
  have h3 := bk_div a m
  unfold ue
  omega
theorem ue_sz (a : Bool) : ue a (sz a) ≤ 4 := by cases a <;> decide
theorem be_le (a : Bool) (ns c : Nat) (hn : ns ≤ 1000000) (hc : c ≤ 1048576) : be a ns c ≤ 4300000 := by
  have h1 := ue_le a (ns + 4) (by omega)
  have h2 : (c - 1) * ue a (sz a) ≤ 1048575 * 4 := Nat.mul_le_mul (by omega) (ue_sz a)
  unfold be
  omega
/-- What u(1) to u(k + 1) record. -/
def bq (a : Bool) (ns k : Nat) : Nat := ue a (ns + 4) + k * ue a (sz a)
theorem bq_succ (a : Bool) (ns k : Nat) : bq a ns k + ue a (sz a) = bq a ns (k + 1) := by
  unfold bq; rw [Nat.add_mul]; omega
theorem bq_be (a : Bool) (ns c : Nat) : bq a ns (c - 1) = be a ns c := rfl
theorem bq_le (a : Bool) (ns k : Nat) (hn : ns ≤ 1000000) (hk : k ≤ 1048576) : bq a ns k ≤ 4300000 := by
  have h1 := ue_le a (ns + 4) (by omega)
  have h2 : k * ue a (sz a) ≤ 1048576 * 4 := Nat.mul_le_mul (by omega) (ue_sz a)
  unfold bq
  omega
theorem bes_le (a : Bool) (ns c q : Nat) (hn : ns ≤ 1000000) (hc : c ≤ 1048576) (hq : q ≤ 511) : q * be a ns c ≤ 2200000000 := by
  have h1 := be_le a ns c hn hc
  have h2 : q * be a ns c ≤ 511 * 4300000 := Nat.mul_le_mul hq h1
  omega
theorem bes_fine (a : Bool) {L : List Rn} (h : Pos L) (ns c q : Nat) (hb : tq L ≤ 4000000000) (hn : ns ≤ 1000000) (hc : c ≤ 1048576) (hq : q ≤ 511) : tq (evs a L (q * be a ns c)) ≤ tq L + 2100 := by
  have h1 := bes_le a ns c q hn hc hq
  have := evs_fine a h (q * be a ns c) (by omega) (by omega)
  have h2 : q * be a ns c / 1048576 ≤ 2200000000 / 1048576 := Nat.div_le_div_right h1
  omega
/-- What Key records, in q blocks. -/
def del (a : Bool) (L : List Rn) (np ns c q : Nat) : List Rn := evs a (kev a L np) (q * be a ns c)
theorem delP (a : Bool) {L : List Rn} (h : Pos L) (np ns c q : Nat) : Pos (del a L np ns c q) := evsP a (kevP a h np) _
theorem del_fine (a : Bool) {L : List Rn} (h : Pos L) (np ns c q : Nat) (hb : tq L ≤ 3000000000) (hp : np ≤ 140737488353328) (hn : ns ≤ 1000000) (hc : c ≤ 1048576) (hq : q ≤ 511) : tq (del a L np ns c q) ≤ tq L + 2100000 := by
  have h1 := kev_fine a h np hp (by omega)
  have h2 := bes_fine a (kevP a h np) ns c q (by omega) hn hc hq
  unfold del
  omega
theorem qp_511 (a : Bool) (N : Nat) (h : N ≤ 16320) : qp a N ≤ 510 := by
  have h1 := qp_spec a N
  have h2 : 32 ≤ sz a := by cases a <;> decide
  have h4 : sz a ≤ 64 := sz_le a
  apply Classical.byContradiction
  intro h3
  cases a
  · have e : sz false = 32 := rfl
    rw [e] at h1; omega
  · have e : sz true = 64 := rfl
    rw [e] at h1; omega
end Go.Proofs.YtkmkbofokoimkaaDoor.Dg
