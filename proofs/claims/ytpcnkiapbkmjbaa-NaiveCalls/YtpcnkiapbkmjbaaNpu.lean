/- What naive's functions come to, as plain facts: choices as runs, how far a row of truths goes, powers bit by bit; no function of the program in it. -/
import Derived.Test.YtpcnkiapbkmjbaaRled
namespace Go.Proofs.Ytpcnkiapbkmjbaa.Nv
open Go.Proofs.Ytpcnkiapbkmjbaa
/-- A choice as a run. -/
def br (b : Bool) : Rn := ⟨9, if b then 1 else 0, 1⟩
def nts (L : List Rn) (bs : List Bool) : List Rn := bs.foldl (fun L b => putL L (br b)) L
theorem nts_app (L : List Rn) (a b : List Bool) : nts L (a ++ b) = nts (nts L a) b := List.foldl_append
theorem nts_snoc (L : List Rn) (a : List Bool) (b : Bool) : nts L (a ++ [b]) = putL (nts L a) (br b) := by rw [nts_app]; rfl
theorem br_ok (b : Bool) : (br b).Ok := by cases b <;> (unfold Rn.Ok; decide)
theorem br_c (b : Bool) : (br b).c = 1 := rfl
theorem nts_len (L : List Rn) (bs : List Bool) : (nts L bs).length ≤ L.length + bs.length := by
  induction bs generalizing L with
  | nil => exact Nat.le_refl _
  | cons b bs ih =>
    have h1 := ih (putL L (br b))
    have h2 := (putL_len (L := L) (r := br b)).1
    show (nts (putL L (br b)) bs).length ≤ _
    simp only [List.length_cons]; omega
theorem nts_pos {L : List Rn} (h : Pos L) (bs : List Bool) : Pos (nts L bs) := by
  induction bs generalizing L with
  | nil => exact h
  | cons b bs ih => exact ih (putL_pos h)
theorem nts_tot {L : List Rn} (h : Pos L) (bs : List Bool) (hb : tot L + bs.length ≤ 9223372036854775807) : tot (nts L bs) = tot L + bs.length := by
  induction bs generalizing L with
  | nil => simp [nts]
  | cons b bs ih =>
    simp only [List.length_cons] at hb ⊢
    have e := tot_put (L := L) (r := br b) h (by decide +revert) (by show tot L + 1 ≤ _; omega)
    rw [br_c] at e
    have := ih (L := putL L (br b)) (putL_pos h) (by omega)
    show tot (nts (putL L (br b)) bs) = _
    omega
/-- How many events are choices of size 1. -/
def one? (r : Rn) : Int := if r.k = 9 ∧ r.s = 1 then r.c else 0
def ones : List Rn → Int
  | [] => 0
  | r :: L => one? r + ones L
theorem ones_app (L M : List Rn) : ones (L ++ M) = ones L + ones M := by
  induction L with
  | nil => simp [ones]
  | cons r L ih => simp [ones, ih]; omega
theorem ones_set {L : List Rn} : ∀ {i : Nat} {q : Rn} (r : Rn), L[i]? = some q → ones (L.set i r) = ones L - one? q + one? r := by
  induction L with
  | nil => intro i q r h; simp at h
  | cons x L ih =>
    intro i q r h
    cases i with
    | zero => simp at h; subst h; simp [ones]; omega
    | succ i => simp at h; simp [ones, ih r h]; omega
theorem ones_bound {L : List Rn} (h : Pos L) : 0 ≤ ones L ∧ ones L ≤ tot L := by
  induction L with
  | nil => simp [ones, tot]
  | cons r L ih =>
    have h1 := ih (fun q hq => h q (List.mem_cons_of_mem _ hq))
    have h2 := h r (List.mem_cons_self ..)
    simp only [ones, one?, tot]; split <;> omega
theorem ones_put {L : List Rn} (b : Bool) (h : Pos L) (hb : tot L + 1 ≤ 9223372036854775807) : ones (putL L (br b)) = ones L + if b then 1 else 0 := by
  have hbr : one? (br b) = if b then 1 else 0 := by cases b <;> rfl
  unfold putL
  rw [if_neg (by rw [br_c]; omega)]
  split
  · rename_i q hq
    rw [List.getLast?_eq_getElem?] at hq
    have hm := tot_mem h (List.mem_of_getElem? hq)
    split
    · rename_i he
      rw [ones_set _ hq]
      have e : one? ⟨q.k, q.s, sm q.c (br b).c⟩ = one? q + one? (br b) := by
        rw [br_c]
        unfold sm
        rw [if_pos (by omega)]
        simp only [one?, he.1, he.2, br_c]
        split <;> omega
      rw [e, hbr]; omega
    · rw [ones_app]; simp [ones, hbr]
  · rename_i hq
    rw [List.getLast?_eq_none_iff] at hq
    subst hq; simp [ones, hbr]
def nt (bs : List Bool) : Nat := bs.count true
theorem nt_snoc (bs : List Bool) (b : Bool) : nt (bs ++ [b]) = nt bs + if b then 1 else 0 := by
  unfold nt; rw [List.count_append]; cases b <;> rfl
theorem nt_app (a b : List Bool) : nt (a ++ b) = nt a + nt b := List.count_append
theorem ones_nts {L : List Rn} (h : Pos L) (bs : List Bool) (hb : tot L + bs.length ≤ 9223372036854775807) : ones (nts L bs) = ones L + nt bs := by
  induction bs generalizing L with
  | nil => simp [nts, nt]
  | cons b bs ih =>
    simp only [List.length_cons] at hb
    have e := tot_put (L := L) (r := br b) h (by rw [br_c]; omega) (by show tot L + 1 ≤ _; omega)
    rw [br_c] at e
    have := ih (L := putL L (br b)) (putL_pos h) (by omega)
    show ones (nts (putL L (br b)) bs) = _
    rw [this, ones_put b h (by omega), show b :: bs = [b] ++ bs from rfl, nt_app]
    cases b <;> simp [nt] <;> omega
/-- How far a row of truths goes, below n. -/
def far (p : Nat → Bool) : Nat → Nat
  | 0 => 0
  | n + 1 => if far p n = n ∧ p n = true then n + 1 else far p n
theorem far_le (p : Nat → Bool) (n : Nat) : far p n ≤ n := by
  induction n with
  | zero => exact Nat.le_refl _
  | succ n ih => rw [far]; split <;> omega
theorem far_all {p : Nat → Bool} {n : Nat} (h : ∀ j, j < n → p j = true) : far p n = n := by
  induction n with
  | zero => rfl
  | succ n ih => rw [far, if_pos ⟨ih fun j hj => h j (by omega), h n (by omega)⟩]
theorem far_at {p : Nat → Bool} {n i : Nat} (hi : i < n) (h : ∀ j, j < i → p j = true) (hn : p i = false) : far p n = i := by
  induction n with
  | zero => omega
  | succ n ih =>
    by_cases e : i = n
    · subst e
      rw [far, if_neg (by simp [hn]), far_all h]
    · have := ih (by omega)
      rw [far, if_neg (by omega), this]
theorem far_lt {p : Nat → Bool} {n : Nat} : ∀ j, j < far p n → p j = true := by
  induction n with
  | zero => intro j hj; exact absurd hj (Nat.not_lt_zero _)
  | succ n ih =>
    intro j hj
    rw [far] at hj
    split at hj
    · rename_i h
      by_cases e : j = n
      · subst e; exact h.2
      · exact ih j (by omega)
    · exact ih j hj
theorem far_stop {p : Nat → Bool} {n : Nat} (h : far p n < n) : p (far p n) = false := by
  induction n with
  | zero => omega
  | succ n ih =>
    rw [far] at h ⊢
    split at h
    · omega
    · rename_i hc
      rw [if_neg hc]
      have := far_le p n
      by_cases e : far p n = n
      · rw [e]
        cases hp : p n with
        | false => rfl
        | true => exact absurd ⟨e, hp⟩ hc
      · exact ih (by omega)
/-- What Equal and Find record: b as often as the row goes, then once the other, if it stops. -/
def upTo (b : Bool) (p : Nat → Bool) (n : Nat) : List Bool := List.replicate (far p n) b ++ if far p n = n then [] else [!b]
theorem upTo_all {b : Bool} {p : Nat → Bool} {n : Nat} (h : ∀ j, j < n → p j = true) : upTo b p n = List.replicate n b := by
  unfold upTo; rw [far_all h]; simp
theorem upTo_at {b : Bool} {p : Nat → Bool} {n i : Nat} (hi : i < n) (h : ∀ j, j < i → p j = true) (hn : p i = false) : upTo b p n = List.replicate i b ++ [!b] := by
  unfold upTo; rw [far_at hi h hn, if_neg (by omega)]
theorem upTo_len (b : Bool) (p : Nat → Bool) (n : Nat) : (upTo b p n).length = min (far p n + 1) n := by
  have := far_le p n
  unfold upTo; split <;> simp <;> omega
theorem rep_snoc (n : Nat) (b : Bool) : List.replicate n b ++ [b] = List.replicate (n + 1) b := (List.replicate_succ' ..).symm
/-- A power, bit by bit from the highest on: behind the first j of 64 bits. -/
def pwr (b e m : Nat) : Nat → Nat
  | 0 => 1 % m
  | j + 1 => if e / 2 ^ (63 - j) % 2 = 1 then pwr b e m j * pwr b e m j % m * b % m else pwr b e m j * pwr b e m j % m
def pbit (e : Nat) (j : Nat) : Bool := decide (e / 2 ^ (63 - j) % 2 = 1)
def pbits (e : Nat) (j : Nat) : List Bool := (List.range j).map (pbit e)
theorem pbits_succ (e j : Nat) : pbits e (j + 1) = pbits e j ++ [pbit e j] := by simp [pbits, List.range_succ]
theorem pbits_len (e j : Nat) : (pbits e j).length = j := by simp [pbits]
theorem pwr_lt (b e m : Nat) (hm : 0 < m) (j : Nat) : pwr b e m j < m := by
  cases j with
  | zero => exact Nat.mod_lt _ hm
  | succ j => rw [pwr]; split <;> exact Nat.mod_lt _ hm
theorem pwr_mod (b e m : Nat) (j : Nat) : pwr (b % m) e m j = pwr b e m j := by
  induction j with
  | zero => rfl
  | succ j ih => rw [pwr, pwr, ih]; split <;> simp [Nat.mul_mod]
theorem pwr_eq (b e m : Nat) (he : e < 2 ^ 64) (j : Nat) (hj : j ≤ 64) : pwr b e m j = b ^ (e / 2 ^ (64 - j)) % m := by
  induction j with
  | zero => rw [pwr, Nat.div_eq_of_lt he]; rfl
  | succ j ih =>
    have ih := ih (by omega)
    have e1 : e / 2 ^ (64 - j) = e / 2 ^ (63 - j) / 2 := by
      rw [Nat.div_div_eq_div_mul, ← Nat.pow_succ]; congr 2; omega
    rw [e1] at ih
    have e2 : 64 - (j + 1) = 63 - j := by omega
    rw [pwr, e2, ih]
    generalize e / 2 ^ (63 - j) = x
    have hx : x = x / 2 + x / 2 + x % 2 := by omega
    have key : b ^ (x / 2) % m * (b ^ (x / 2) % m) % m = b ^ (x / 2 + x / 2) % m := by rw [← Nat.mul_mod, Nat.pow_add]
    split
    · rename_i h1
      rw [key]
      conv => rhs; rw [hx, h1, Nat.pow_succ]
      simp [Nat.mul_mod]
    · rename_i h1
      rw [key]
      conv => rhs; rw [hx, show x % 2 = 0 by omega, Nat.add_zero]
theorem pwr_64 (b e m : Nat) (he : e < 2 ^ 64) : pwr b e m 64 = b ^ e % m := by
  rw [pwr_eq b e m he 64 (Nat.le_refl _)]; simp
theorem nt_pbits (e j : Nat) : nt (pbits e j) = ((List.range j).map fun i => e / 2 ^ (63 - i) % 2).sum := by
  induction j with
  | zero => rfl
  | succ j ih =>
    rw [pbits_succ, nt_snoc, ih, List.range_succ, List.map_append, List.sum_append]
    simp [pbit]
    split <;> omega
/-- A product modulo m by doubling: behind the first j of b's bits. -/
def tms (a b m : Nat) : Nat → Nat
  | 0 => 0
  | j + 1 => if b / 2 ^ (63 - j) % 2 = 1 then ((tms a b m j + tms a b m j) % m + a) % m else (tms a b m j + tms a b m j) % m
theorem tms_lt (a b m : Nat) (hm : 0 < m) (j : Nat) : tms a b m j < m := by
  cases j with
  | zero => exact hm
  | succ j => rw [tms]; split <;> exact Nat.mod_lt _ hm
theorem tms_eq (a b m : Nat) (hb : b < 2 ^ 64) (j : Nat) (hj : j ≤ 64) : tms a b m j = a * (b / 2 ^ (64 - j)) % m := by
  induction j with
  | zero => rw [tms, Nat.div_eq_of_lt hb]; simp
  | succ j ih =>
    have ih := ih (by omega)
    have e1 : b / 2 ^ (64 - j) = b / 2 ^ (63 - j) / 2 := by
      rw [Nat.div_div_eq_div_mul, ← Nat.pow_succ]; congr 2; omega
    rw [e1] at ih
    have e2 : 64 - (j + 1) = 63 - j := by omega
    rw [tms, e2, ih]
    generalize b / 2 ^ (63 - j) = x
    have hx : x = x / 2 + x / 2 + x % 2 := by omega
    have key : (a * (x / 2) % m + a * (x / 2) % m) % m = a * (x / 2 + x / 2) % m := by rw [← Nat.add_mod, Nat.mul_add]
    split
    · rename_i h1
      rw [key]
      conv => rhs; rw [hx, h1, Nat.mul_add, Nat.mul_one]
      simp [Nat.add_mod]
    · rename_i h1
      rw [key]
      conv => rhs; rw [hx, show x % 2 = 0 by omega, Nat.add_zero]
theorem tms_64 (a b m : Nat) (hb : b < 2 ^ 64) : tms a b m 64 = a * b % m := by
  rw [tms_eq a b m hb 64 (Nat.le_refl _)]; simp
end Go.Proofs.Ytpcnkiapbkmjbaa.Nv
