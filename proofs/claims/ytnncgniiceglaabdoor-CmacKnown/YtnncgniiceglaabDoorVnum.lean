/- CMAC as numbers: the double of a block, a message's blocks, what waits, the chain, the last block, the tag; no function of the program in it. -/
import Derived.Test.YtnncgniiceglaabDoorYg
namespace Go.Proofs.YtnncgniiceglaabDoor.Vm
open Go.ChangeShapes Go.WideShapes Go.ChangeAt Go.RowKit
open Go.Proofs.YtnncgniiceglaabDoor.By Go.Proofs.YtnncgniiceglaabDoor.Gf Go.Proofs.YtnncgniiceglaabDoor.Ae
theorem bl16_e {a b : Nat → Nat} (h : E16 a b) : bl 16 (cb a) = bl 16 (cb b) := bl_congr _ _ _ (fun i hi => by show ((a i : Nat) : Int) = _; rw [h i hi])
theorem bv_e {a b : Nat → Nat} (h : E16 a b) : bv a = bv b := by unfold bv; rw [bl16_e h]
/-- The double of a block. -/
def dbl (b : Nat → Nat) (i : Nat) : Nat :=
  if i < 15 then 2 * b i % 256 + b (i + 1) / 128 else (2 * b 15 % 256) ^^^ (if 128 ≤ b 0 then 135 else 0)
theorem dbl_lt {b : Nat → Nat} (h : B16 b) (i : Nat) : dbl b i < 256 := by
  unfold dbl
  split
  · have := h (i + 1) (by omega); omega
  · refine xor_lt _ _ (by omega) ?_
    split <;> decide
theorem dbl_b {b : Nat → Nat} (h : B16 b) : B16 (dbl b) := fun i _ => dbl_lt h i
theorem dbl_e {a b : Nat → Nat} (h : E16 a b) : E16 (dbl a) (dbl b) := fun i hi => by
  unfold dbl
  rw [h 0 (by decide), h 15 (by decide)]
  split
  · rw [h i hi, h (i + 1) (by omega)]
  · rfl
theorem xr_b {a b : Nat → Nat} (ha : B16 a) (hb : B16 b) : B16 (xr a b) := fun i hi => xor_lt _ _ (ha i hi) (hb i hi)
theorem xr_e {a b c d : Nat → Nat} (h : E16 a b) (k : E16 c d) : E16 (xr a c) (xr b d) := fun i hi => by unfold xr; rw [h i hi, k i hi]
theorem enc_b {k b : Nat → Nat} (hk : ∀ i, k i < 256) (n : Nat) (h : B16 b) : B16 (enc k n b) := encTo_b hk n n h
theorem enc_e {a b : Nat → Nat} (k : Nat → Nat) (n : Nat) (h : E16 a b) : E16 (enc k n a) (enc k n b) := encTo_e k n n h
/-- Noughts. -/
def nought (_ : Nat) : Nat := 0
theorem nought_b : B16 nought := fun _ _ => Nat.zero_lt_succ _
/-- How many blocks are enciphered of a message of n bytes; how many bytes wait. -/
def nbl (n : Nat) : Nat := (n - 1) / 16
def ctn (n : Nat) : Nat := n - 16 * nbl n
theorem ctn_le (n : Nat) : ctn n ≤ 16 := by unfold ctn nbl; omega
theorem nbl_le (n : Nat) : 16 * nbl n ≤ n := by unfold nbl; omega
theorem nbl_ct (n : Nat) : 16 * nbl n + ctn n = n := by unfold ctn nbl; omega
theorem nbl_full {n t : Nat} (h : ctn n = 16) (h1 : 1 ≤ t) (h2 : t ≤ 16) : nbl (n + t) = nbl n + 1 ∧ ctn (n + t) = t := by
  unfold ctn nbl at *; omega
theorem nbl_part {n t : Nat} (h1 : 1 ≤ t) (h2 : ctn n + t ≤ 16) : nbl (n + t) = nbl n ∧ ctn (n + t) = ctn n + t := by
  unfold ctn nbl at *; omega
/-- Block j of a message; what waits. -/
def mbk (m : Nat → Nat) (j i : Nat) : Nat := m (16 * j + i)
def wtn (m : Nat → Nat) (n i : Nat) : Nat := if i < ctn n then m (16 * nbl n + i) else 0
theorem wtn_lt {m : Nat → Nat} (h : ∀ i, m i < 256) (n i : Nat) : wtn m n i < 256 := by
  unfold wtn; split
  · exact h _
  · decide
theorem wtn_b {m : Nat → Nat} (h : ∀ i, m i < 256) (n : Nat) : B16 (wtn m n) := fun i _ => wtn_lt h n i
theorem wtn_full {m : Nat → Nat} {n : Nat} (h : ctn n = 16) : E16 (wtn m n) (mbk m (nbl n)) := fun i hi => by unfold wtn mbk; rw [if_pos (by omega)]
/-- The chain behind j blocks. -/
def chn (ws : Nat → Nat) (r : Nat) (m : Nat → Nat) : Nat → (Nat → Nat)
  | 0 => nought
  | j + 1 => enc ws r (xr (chn ws r m j) (mbk m j))
theorem chn_b {ws m : Nat → Nat} (hw : ∀ i, ws i < 256) (hm : ∀ i, m i < 256) (r j : Nat) : B16 (chn ws r m j) := by
  induction j with
  | zero => exact nought_b
  | succ j ih => exact enc_b hw _ (xr_b ih (fun i _ => hm _))
theorem chn_e (ws : Nat → Nat) (r : Nat) {m m' : Nat → Nat} (j : Nat) (h : ∀ i, i < 16 * j → m i = m' i) : E16 (chn ws r m j) (chn ws r m' j) := by
  induction j with
  | zero => exact E16.refl _
  | succ j ih => exact enc_e _ _ (xr_e (ih (fun i hi => h i (by omega))) (fun i hi => h _ (by omega)))
theorem chn_full {ws m : Nat → Nat} {r n : Nat} (h : ctn n = 16) : E16 (enc ws r (xr (chn ws r m (nbl n)) (wtn m n))) (chn ws r m (nbl n + 1)) := enc_e _ _ (xr_e (E16.refl _) (wtn_full h))
theorem wtn_e {m m' : Nat → Nat} {n : Nat} (h : ∀ i, i < n → m i = m' i) : ∀ i, wtn m n i = wtn m' n i := fun i => by
  have := nbl_ct n
  unfold wtn; split
  · exact h _ (by omega)
  · rfl
/-- The subkeys; the message's last block; the tag. -/
def sk1 (ws : Nat → Nat) (r : Nat) : Nat → Nat := dbl (enc ws r nought)
def sk2 (ws : Nat → Nat) (r : Nat) : Nat → Nat := dbl (sk1 ws r)
theorem sk1_b {ws : Nat → Nat} (hw : ∀ i, ws i < 256) (r : Nat) : B16 (sk1 ws r) := dbl_b (enc_b hw r nought_b)
theorem sk2_b {ws : Nat → Nat} (hw : ∀ i, ws i < 256) (r : Nat) : B16 (sk2 ws r) := dbl_b (sk1_b hw r)
def mrk (m : Nat → Nat) (n i : Nat) : Nat := if i = ctn n then 128 else wtn m n i
theorem mrk_b {m : Nat → Nat} (h : ∀ i, m i < 256) (n : Nat) : B16 (mrk m n) := fun i _ => by
  unfold mrk; split
  · decide
  · exact wtn_lt h _ _
def lstb (ws : Nat → Nat) (r : Nat) (m : Nat → Nat) (n : Nat) : Nat → Nat := if ctn n = 16 then xr (wtn m n) (sk1 ws r) else xr (mrk m n) (sk2 ws r)
theorem lstb_b {ws m : Nat → Nat} (hw : ∀ i, ws i < 256) (hm : ∀ i, m i < 256) (r n : Nat) : B16 (lstb ws r m n) := by
  unfold lstb; split
  · exact xr_b (wtn_b hm n) (sk1_b hw r)
  · exact xr_b (mrk_b hm n) (sk2_b hw r)
def tgn (ws : Nat → Nat) (r : Nat) (m : Nat → Nat) (n : Nat) : Nat → Nat := enc ws r (xr (chn ws r m (nbl n)) (lstb ws r m n))
theorem tgn_b {ws m : Nat → Nat} (hw : ∀ i, ws i < 256) (hm : ∀ i, m i < 256) (r n : Nat) : B16 (tgn ws r m n) := enc_b hw _ (xr_b (chn_b hw hm _ _) (lstb_b hw hm _ _))
theorem lstb_e (ws : Nat → Nat) (r : Nat) {m m' : Nat → Nat} {n : Nat} (h : ∀ i, i < n → m i = m' i) : E16 (lstb ws r m n) (lstb ws r m' n) := by
  have e := wtn_e h
  unfold lstb; split
  · exact xr_e (fun i _ => e i) (E16.refl _)
  · refine xr_e (fun i _ => ?_) (E16.refl _)
    unfold mrk; rw [e i]
theorem tgn_e (ws : Nat → Nat) (r : Nat) {m m' : Nat → Nat} {n : Nat} (h : ∀ i, i < n → m i = m' i) : E16 (tgn ws r m n) (tgn ws r m' n) :=
  enc_e _ _ (xr_e (chn_e ws r _ (fun i hi => h i (by have := nbl_le n; omega))) (lstb_e ws r h))
/-- A message gone on with. -/
def ct2 (n : Nat) (f g : Nat → Nat) (i : Nat) : Nat := if i < n then f i else g (i - n)
theorem ct2_lt {f g : Nat → Nat} (hf : ∀ i, f i < 256) (hg : ∀ i, g i < 256) (n i : Nat) : ct2 n f g i < 256 := by
  unfold ct2; split
  · exact hf _
  · exact hg _
end Go.Proofs.YtnncgniiceglaabDoor.Vm
