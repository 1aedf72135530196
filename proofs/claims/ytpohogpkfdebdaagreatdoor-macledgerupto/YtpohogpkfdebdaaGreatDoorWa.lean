/- CMAC as numbers: the double of a block, a message's blocks, what waits, the chain, the last block, the tag; no function of the program in it. What the program's Double answers. What the program's xored and Double answer. -/
import Derived.Test.YtpohogpkfdebdaaGreatDoorYg
namespace Go.Proofs.YtpohogpkfdebdaaGreatDoor.Vm
open Go.ChangeShapes Go.WideShapes Go.ChangeAt Go.RowKit
open Go.Proofs.YtpohogpkfdebdaaGreatDoor.By Go.Proofs.YtpohogpkfdebdaaGreatDoor.Gf Go.Proofs.YtpohogpkfdebdaaGreatDoor.Ae
/-- The double of a block. -/
def dbl (b : Nat → Nat) (i : Nat) : Nat :=
  if i < 15 then 2 * b i % 256 + b (i + 1) / 128 else (2 * b 15 % 256) ^^^ (if 128 ≤ b 0 then 135 else 0)
theorem dbl_lt {b : Nat → Nat} (h : B16 b) (i : Nat) : dbl b i < 256 := by
  unfold dbl
  split
  · have := h (i + 1) (by omega); omega
  · refine xor_lt _ _ (by omega) ?_
    split <;> decide
theorem dbl_b {b : Nat → Nat} (h : B16 b) : B16 (dbl b) := fun i _ => dbl_lt h i
theorem xr_b {a b : Nat → Nat} (ha : B16 a) (hb : B16 b) : B16 (xr a b) := fun i hi => xor_lt _ _ (ha i hi) (hb i hi)
theorem xr_e {a b c d : Nat → Nat} (h : E16 a b) (k : E16 c d) : E16 (xr a c) (xr b d) := fun i hi => by unfold xr; rw [h i hi, k i hi]
theorem enc_b {k b : Nat → Nat} (hk : ∀ i, k i < 256) (n : Nat) (h : B16 b) : B16 (enc k n b) := encTo_b hk n n h
theorem enc_e {a b : Nat → Nat} (k : Nat → Nat) (n : Nat) (h : E16 a b) : E16 (enc k n a) (enc k n b) := encTo_e k n n h
/-- Noughts. -/
def nought (_ : Nat) : Nat := 0
theorem nought_b : B16 nought := fun _ _ => Nat.zero_lt_succ _
/-- How many blocks are enciphered of a message of n bytes; how many bytes wait. -/
def nbl (n : Nat) : Nat := (n - 1) / 16
def ctn (n : Nat) : Nat := n - 16 * nbl n
theorem ctn_le (n : Nat) : ctn n ≤ 16 := by unfold ctn nbl; omega
theorem nbl_le (n : Nat) : 16 * nbl n ≤ n := by unfold nbl; omega
theorem nbl_ct (n : Nat) : 16 * nbl n + ctn n = n := by unfold ctn nbl; omega
/-- Block j of a message; what waits. -/
def mbk (m : Nat → Nat) (j i : Nat) : Nat := m (16 * j + i)
def wtn (m : Nat → Nat) (n i : Nat) : Nat := if i < ctn n then m (16 * nbl n + i) else 0
theorem wtn_lt {m : Nat → Nat} (h : ∀ i, m i < 256) (n i : Nat) : wtn m n i < 256 := by
  unfold wtn; split
  · exact h _
  · decide
theorem wtn_b {m : Nat → Nat} (h : ∀ i, m i < 256) (n : Nat) : B16 (wtn m n) := fun i _ => wtn_lt h n i
/-- The chain behind j blocks. -/
def chn (ws : Nat → Nat) (r : Nat) (m : Nat → Nat) : Nat → (Nat → Nat)
  | 0 => nought
  | j + 1 => enc ws r (xr (chn ws r m j) (mbk m j))
theorem chn_b {ws m : Nat → Nat} (hw : ∀ i, ws i < 256) (hm : ∀ i, m i < 256) (r j : Nat) : B16 (chn ws r m j) := by
  induction j with
  | zero => exact nought_b
  | succ j ih => exact enc_b hw _ (xr_b ih (fun i _ => hm _))
theorem chn_e (ws : Nat → Nat) (r : Nat) {m m' : Nat → Nat} (j : Nat) (h : ∀ i, i < 16 * j → m i = m' i) : E16 (chn ws r m j) (chn ws r m' j) := by
  induction j with
  | zero => exact E16.refl _
  | succ j ih => exact enc_e _ _ (xr_e (ih (fun i hi => h i (by omega))) (fun i hi => h _ (by omega)))
theorem wtn_e {m m' : Nat → Nat} {n : Nat} (h : ∀ i, i < n → m i = m' i) : ∀ i, wtn m n i = wtn m' n i := fun i => by
  have := nbl_ct n
  unfold wtn; split
  · exact h _ (by omega)
  · rfl
/-- The subkeys; the message's last block; the tag. -/
def sk1 (ws : Nat → Nat) (r : Nat) : Nat → Nat := dbl (enc ws r nought)
def sk2 (ws : Nat → Nat) (r : Nat) : Nat → Nat := dbl (sk1 ws r)
theorem sk1_b {ws : Nat → Nat} (hw : ∀ i, ws i < 256) (r : Nat) : B16 (sk1 ws r) := dbl_b (enc_b hw r nought_b)
theorem sk2_b {ws : Nat → Nat} (hw : ∀ i, ws i < 256) (r : Nat) : B16 (sk2 ws r) := dbl_b (sk1_b hw r)
def mrk (m : Nat → Nat) (n i : Nat) : Nat := if i = ctn n then 128 else wtn m n i
theorem mrk_b {m : Nat → Nat} (h : ∀ i, m i < 256) (n : Nat) : B16 (mrk m n) := fun i _ => by
  unfold mrk; split
  · decide
  · exact wtn_lt h _ _
def lstb (ws : Nat → Nat) (r : Nat) (m : Nat → Nat) (n : Nat) : Nat → Nat := if ctn n = 16 then xr (wtn m n) (sk1 ws r) else xr (mrk m n) (sk2 ws r)
theorem lstb_b {ws m : Nat → Nat} (hw : ∀ i, ws i < 256) (hm : ∀ i, m i < 256) (r n : Nat) : B16 (lstb ws r m n) := by
  unfold lstb; split
  · exact xr_b (wtn_b hm n) (sk1_b hw r)
  · exact xr_b (mrk_b hm n) (sk2_b hw r)
def tgn (ws : Nat → Nat) (r : Nat) (m : Nat → Nat) (n : Nat) : Nat → Nat := enc ws r (xr (chn ws r m (nbl n)) (lstb ws r m n))
theorem tgn_b {ws m : Nat → Nat} (hw : ∀ i, ws i < 256) (hm : ∀ i, m i < 256) (r n : Nat) : B16 (tgn ws r m n) := enc_b hw _ (xr_b (chn_b hw hm _ _) (lstb_b hw hm _ _))
/-- A message gone on with. -/
def ct2 (n : Nat) (f g : Nat → Nat) (i : Nat) : Nat := if i < n then f i else g (i - n)
theorem ct2_lt {f g : Nat → Nat} (hf : ∀ i, f i < 256) (hg : ∀ i, g i < 256) (n i : Nat) : ct2 n f g i < 256 := by
  unfold ct2; split
  · exact hf _
  · exact hg _
end Go.Proofs.YtpohogpkfdebdaaGreatDoor.Vm
namespace Go.Proofs.YtpohogpkfdebdaaGreatDoor.Vm
open Go.ChangeShapes Go.WideShapes Go.ChangeAt Go.RowKit
open Go.Proofs.YtpohogpkfdebdaaGreatDoor.By Go.Proofs.YtpohogpkfdebdaaGreatDoor.Gf Go.Proofs.YtpohogpkfdebdaaGreatDoor.Ae
/-- The bytes from k on; a byte shifted, and the bit that comes in; the bit that goes out. -/
def dn (k : Nat) (f : Nat → Nat) (p : Nat) : Nat := if k ≤ p then f p else 0
def cry (b : Nat → Nat) (k : Nat) : Nat := if k < 16 then b k / 128 else 0
def shf (b : Nat → Nat) (p : Nat) : Nat := 2 * b p % 256 + cry b (p + 1)
theorem dn_set (f : Nat → Nat) (p : Nat) : (bl 16 (cb (dn (p + 1) f))).set p (.int .u8 (f p : Nat)) = bl 16 (cb (dn p f)) := by
  rw [bl_set]
  refine bl_congr _ _ _ (fun i _ => ?_)
  show (if i = p then ((f p : Nat) : Int) else ((dn (p + 1) f i : Nat) : Int)) = ((dn p f i : Nat) : Int)
  unfold dn
  by_cases e : i = p
  · subst e; rw [if_pos rfl, if_pos (by omega)]
  · rw [if_neg e]
    by_cases h : p ≤ i
    · rw [if_pos h, if_pos (by omega)]
    · rw [if_neg h, if_neg (by omega)]
theorem dn_top (f : Nat → Nat) : bl 16 (cb (dn 16 f)) = bl 16 (cb (upto 0 f)) := bl_congr _ _ _ (fun i hi => by show ((dn 16 f i : Nat) : Int) = ((upto 0 f i : Nat) : Int); unfold dn upto; rw [if_neg (by omega), if_neg (by omega)])
theorem dn_zero (f : Nat → Nat) : bl 16 (cb (dn 0 f)) = bl 16 (cb f) := bl_congr _ _ _ (fun i hi => by show ((dn 0 f i : Nat) : Int) = ((f i : Nat) : Int); unfold dn; rw [if_pos (by omega)])
theorem or_bit : ∀ x : Nat, x < 256 → ∀ c : Nat, c < 2 → bits .or .u8 ((x : Int) * 2 % 256) (c : Int) = ((2 * x % 256 + c : Nat) : Int) := by decide +kernel
theorem cry_lt {b : Nat → Nat} (h : B16 b) (k : Nat) : cry b k < 2 := by
  unfold cry; split
  · have := h k (by omega); omega
  · decide
theorem dbl_set (b : Nat → Nat) : (bl 16 (cb (shf b))).set 15 (.int .u8 (((2 * b 15 % 256) ^^^ (if 128 ≤ b 0 then 135 else 0) : Nat) : Int)) = bl 16 (cb (dbl b)) := by
  rw [bl_set]
  refine bl_congr _ _ _ (fun i hi => ?_)
  show (if i = 15 then ((((2 * b 15 % 256) ^^^ (if 128 ≤ b 0 then 135 else 0) : Nat)) : Int) else ((shf b i : Nat) : Int)) = ((dbl b i : Nat) : Int)
  unfold dbl shf cry
  by_cases e : i = 15
  · subst e; simp
  · rw [if_neg e, if_pos (by omega), if_pos (by omega)]
theorem neg_bit (q : Nat) (h : q < 256) : bits .and .u8 (-((q : Int) / 128) % 256) 135 = ((if 128 ≤ q then 135 else 0 : Nat) : Int) := by
  by_cases e : 128 ≤ q
  · rw [if_pos e, show -((q : Int) / 128) % 256 = 255 from by omega]; decide
  · rw [if_neg e, show -((q : Int) / 128) % 256 = 0 from by omega]; decide
theorem dbl_low (x q : Nat) (h : q < 256) : bits .xor .u8 (2 * (x : Int) % 256) (bits .and .u8 (-((q : Int) / 128) % 256) 135) = (((2 * x % 256) ^^^ (if 128 ≤ q then 135 else 0) : Nat) : Int) := by
  rw [neg_bit q h, show 2 * (x : Int) % 256 = ((2 * x % 256 : Nat) : Int) from by omega]
  exact xor8 _ _ (by omega) (by split <;> decide)
set_option maxRecDepth 8000 in
set_option maxHeartbeats 4000000 in
theorem dbl1 (b : Nat → Nat) (hb : B16 b) (w : World) : Calls Tryz.prog 151 #[bv b] w fun e w' => e = .returned (bv (dbl b)) ∧ Below w.heap.size w w' := by
  unfold bv
  have HBB := hid hb
  have HDS := hid (dbl_set b)
  clear hb
  go_enter Tryz.func151, Tryz.ntmps151
  go_wp2_with fail
  go_loopw [4, 5] (fun c i wr => ∃ k : Nat, k ≤ 16 ∧ c = .int .u8 (cry b k : Nat) ∧ i = .int .i64 ((k : Int) - 1) ∧ Blk wr w.heap.size (bl 16 (cb b)) 175 ∧ Blk wr (w.heap.size + 1) (bl 16 (cb (upto 0 b))) 175 ∧ Blk wr (w.heap.size + 1 + 1) (bl 16 (cb (dn k (shf b)))) 175 ∧ Below w.heap.size w wr) (fun _ i _ => (intOf i + 1).toNat)
  case atStart =>
    exact ⟨16, by omega, rfl, rfl, ((Blk.newAt _ _ _ _ _ rfl rfl).alloc _).alloc _, (Blk.newAt _ _ _ _ _ (by simp) (zero16 b)).alloc _, by rw [dn_top]; exact Blk.newAt _ _ _ _ _ (by simp) (zero16 _), below3 w _ _ _⟩
  case round =>
    obtain ⟨k, hk, rfl, rfl, b0, b1, b2, hbel⟩ := hrel
    have B0 := hid b0
    have B1 := hid b1
    have B2 := hid b2
    have HB := hid hbel
    have HZ := hid b2.lt
    clear b0 b1 b2 hbel
    by_cases hlt : 1 ≤ k
    · obtain ⟨p, rfl⟩ : ∃ p, k = p + 1 := ⟨k - 1, by omega⟩
      have ep : ((p + 1 : Nat) : Int) - 1 = (p : Int) := by omega
      have hd : decide ((0 : Int) ≤ (p : Int)) = true := decide_eq_true (by omega)
      have hp16 : (p : Int) < 16 := by omega
      have x0 := B0.out.cell p _ (bl_get 16 _ p (by omega))
      have x1 := B2.out.cell p _ (bl_get 16 _ p (by omega))
      have f1 := B2.out.frozen p
      have hx := HBB.out p (by omega)
      have HC := hid (cry_lt HBB.out (p + 1))
      have HS := hid (dn_set (shf b) p)
      have HK := hid (show cry b p = b p / 128 from by unfold cry; rw [if_pos (by omega)])
      have HO := hid (or_bit (b p) hx (cry b (p + 1)) HC.out)
      have HE := hid (show shf b p = 2 * b p % 256 + cry b (p + 1) from rfl)
      obtain ⟨x, ex⟩ : ∃ x, b p = x := ⟨_, rfl⟩
      obtain ⟨c, ec⟩ : ∃ c, cry b (p + 1) = c := ⟨_, rfl⟩
      rw [show cb b p = (x : Int) from congrArg Nat.cast ex] at x0
      rw [ex] at hx HK HO HE
      rw [ec] at HC HO HE
      rw [ec, ep]
      clear ex ec ep
      go_wp2_with fail
      have hz := HZ.out
      rw [HO.out, ← HE.out]
      refine ⟨⟨p, by omega, by rw [HK.out]; rfl, rfl, B0.out.other (by omega) _ _, B1.out.other (by omega) _ _, ?_, below_set HB.out _ _ _ (by omega) (by omega)⟩, by simp [intOf]⟩
      rw [← HS.out]
      exact B2.out.set _ _
    · have ek : k = 0 := by omega
      subst ek
      rw [dn_zero] at B2
      have x1 := B2.out.cell 15 _ (bl_get 16 _ 15 (by omega))
      have f1 := B2.out.frozen 15
      have e15 : cb (shf b) 15 = ((2 * b 15 % 256 : Nat) : Int) := by show ((shf b 15 : Nat) : Int) = _; unfold shf cry; simp
      rw [e15] at x1
      have hx0 := HBB.out 0 (by omega)
      have hcr : cry b 0 = b 0 / 128 := rfl
      rw [hcr]
      have hxx := dbl_low (b 15) (b 0) hx0
      obtain ⟨z, ez⟩ : ∃ z, (2 * b 15 % 256) ^^^ (if 128 ≤ b 0 then 135 else 0) = z := ⟨_, rfl⟩
      rw [ez] at hxx HDS
      have BB := hid (show Blk (wr.setCell ⟨w.heap.size + 1 + 1, 15, none⟩ (.int .u8 (z : Int))) (w.heap.size + 1 + 1) (bl 16 (cb (dbl b))) 175 from by rw [← HDS.out]; exact B2.out.set _ _)
      have BQ := hid (show Blk (wr.setCell ⟨w.heap.size + 1 + 1, 15, none⟩ (.int .u8 (z : Int))) (w.heap.size + 1) (bl 16 (cb (upto 0 b))) 175 from B1.out.other (by omega) _ _)
      obtain ⟨l1, s1, l2, hb2⟩ := fin16 BB.out BQ.out (below_set HB.out _ _ _ (by omega) (by have := HZ.out; omega)) (by omega)
      have L2 := hid l2
      have HB2 := hid hb2
      clear hcr e15 l2 hb2 ez
      go_wp2_with fail
      refine bodyPost_ret ?_ rfl ⟨rfl, HB2.out⟩
      exact results_cell1 Tryz.results151 rfl L2.out
end Go.Proofs.YtpohogpkfdebdaaGreatDoor.Vm
namespace Go.Proofs.YtpohogpkfdebdaaGreatDoor.Vm
open Go.ChangeShapes Go.WideShapes Go.ChangeAt Go.RowKit
open Go.Proofs.YtpohogpkfdebdaaGreatDoor.By Go.Proofs.YtpohogpkfdebdaaGreatDoor.Gf Go.Proofs.YtpohogpkfdebdaaGreatDoor.Ae
/-- The first k bytes are xored. -/
def xrTo (a b : Nat → Nat) (k i : Nat) : Nat := if i < k then a i ^^^ b i else a i
theorem xrTo_zero (a b : Nat → Nat) : bl 16 (cb (xrTo a b 0)) = bl 16 (cb a) := bl_congr _ _ _ (fun i _ => by show ((xrTo a b 0 i : Nat) : Int) = _; unfold xrTo; rw [if_neg (by omega)])
theorem xrTo_all (a b : Nat → Nat) : bl 16 (cb (xrTo a b 16)) = bl 16 (cb (xr a b)) := bl_congr _ _ _ (fun i hi => by show ((xrTo a b 16 i : Nat) : Int) = ((xr a b i : Nat) : Int); unfold xrTo xr; rw [if_pos (by omega)])
theorem xrTo_at (a b : Nat → Nat) (k : Nat) : xrTo a b k k = a k := by unfold xrTo; rw [if_neg (by omega)]
theorem xrTo_set (a b : Nat → Nat) (k : Nat) : (bl 16 (cb (xrTo a b k))).set k (.int .u8 ((a k ^^^ b k : Nat) : Int)) = bl 16 (cb (xrTo a b (k + 1))) := by
  rw [bl_set]
  refine bl_congr _ _ _ (fun i _ => ?_)
  show (if i = k then (((a k ^^^ b k : Nat)) : Int) else ((xrTo a b k i : Nat) : Int)) = ((xrTo a b (k + 1) i : Nat) : Int)
  unfold xrTo
  by_cases e : i = k
  · subst e; rw [if_pos rfl, if_pos (by omega)]
  · rw [if_neg e]
    by_cases h : i < k
    · rw [if_pos h, if_pos (by omega)]
    · rw [if_neg h, if_neg (by omega)]
theorem index16 (b : Nat → Nat) (k : Nat) (hk : k < 16) (w : World) : (Instr.index 175 (.agg (bl 16 (cb b)).toArray) (.int .i64 k)).run Tryz.prog w = .ok (.int .u8 (b k : Nat)) w := by
  have hidx : (bl 16 (cb b))[k]? = some (.int .u8 (b k : Nat)) := bl_get 16 (cb b) k hk
  simp [Instr.index, go_sem, hk, hidx]
set_option maxRecDepth 8000 in
set_option maxHeartbeats 4000000 in
theorem xored1 (a b : Nat → Nat) (ha : B16 a) (hb : B16 b) (w : World) : Calls Tryz.prog 203 #[bv a, bv b] w fun e w' => e = .returned (bv (xr a b)) ∧ Below w.heap.size w w' := by
  unfold bv
  have HA := hid ha
  have HBB := hid hb
  clear ha hb
  go_enter Tryz.func203, Tryz.ntmps203
  have A0 := hid (((Blk.newAt w (bl 16 (cb a)).toArray _ 175 _ rfl rfl).alloc (.cells (bl 16 (cb b)).toArray 175)).alloc (.cells (bl 16 (cb (upto 0 a))).toArray 175))
  have A1 := hid ((Blk.newAt (w.alloc (.cells (bl 16 (cb a)).toArray 175)) (bl 16 (cb b)).toArray _ 175 (w.heap.size + 1) (by simp) rfl).alloc (.cells (bl 16 (cb (upto 0 a))).toArray 175))
  have A2 := hid (Blk.newAt ((w.alloc (.cells (bl 16 (cb a)).toArray 175)).alloc (.cells (bl 16 (cb b)).toArray 175)) (bl 16 (cb (upto 0 a))).toArray _ 175 (w.heap.size + 1 + 1) (by simp) rfl)
  have HB := hid (below3 w (.cells (bl 16 (cb a)).toArray 175) (.cells (bl 16 (cb b)).toArray 175) (.cells (bl 16 (cb (upto 0 a))).toArray 175))
  rw [← zero16 a] at A0 A1 A2 HB
  have l1 := LDb_run (range0 A1.out) (bl_length _ _)
  go_wp2_with fail
  go_loopw [8] (fun i wr => ∃ k : Nat, k ≤ 16 ∧ i = .int .i64 k ∧ Blk wr w.heap.size (bl 16 (cb (xrTo a b k))) 175 ∧ Blk wr (w.heap.size + 1 + 1) (bl 16 (cb (upto 0 a))) 175 ∧ Below w.heap.size w wr) (fun i _ => 16 - (intOf i).toNat)
  case atStart => exact ⟨0, by omega, rfl, by rw [xrTo_zero]; exact A0.out, A2.out, HB.out⟩
  case round =>
    clear A0 A1 A2 HB l1
    obtain ⟨k, hk, rfl, b0, b1, hbel⟩ := hrel
    have B0 := hid b0
    have B1 := hid b1
    have HB := hid hbel
    have HZ := hid b1.lt
    clear b0 b1 hbel
    by_cases hlt : k < 16
    · have x0 := B0.out.cell k _ (bl_get 16 _ k hlt)
      rw [show cb (xrTo a b k) k = ((a k : Nat) : Int) from congrArg Nat.cast (xrTo_at a b k)] at x0
      have f0 := B0.out.frozen k
      have y0 := index16 b k hlt wr
      have hx := HA.out k hlt
      have hy := HBB.out k hlt
      have HS := hid (xrTo_set a b k)
      obtain ⟨x, ex⟩ : ∃ x, a k = x := ⟨_, rfl⟩
      obtain ⟨y, ey⟩ : ∃ y, b k = y := ⟨_, rfl⟩
      rw [ex] at x0 hx HS
      rw [ey] at y0 hy HS
      clear ex ey
      have HX := hid (xor8 x y hx hy)
      go_wp2_with fail
      have hz := HZ.out
      refine ⟨⟨k + 1, by omega, by go_num, ?_, B1.out.other (by omega) _ _, below_set HB.out _ _ _ (by omega) HB.out.size⟩, by simp [intOf]; omega⟩
      rw [HX.out, ← HS.out]
      exact B0.out.set _ _
    · have ek : k = 16 := by omega
      subst ek
      rw [xrTo_all] at B0
      obtain ⟨l1, s1, l2, hb2⟩ := fin16 B0.out B1.out HB.out (by omega)
      have L2 := hid l2
      have HB2 := hid hb2
      clear l2 hb2
      go_wp2_with fail
      refine bodyPost_ret ?_ rfl ⟨rfl, HB2.out⟩
      exact results_cell1 Tryz.results203 rfl L2.out
end Go.Proofs.YtpohogpkfdebdaaGreatDoor.Vm
