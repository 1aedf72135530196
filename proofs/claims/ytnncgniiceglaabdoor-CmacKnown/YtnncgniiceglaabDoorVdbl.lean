/- What the program's Double answers. -/
import Derived.Test.YtnncgniiceglaabDoorVnum
import Derived.Test.YtnncgniiceglaabDoorYk
namespace Go.Proofs.YtnncgniiceglaabDoor.Vm
open Go.ChangeShapes Go.WideShapes Go.ChangeAt Go.RowKit
open Go.Proofs.YtnncgniiceglaabDoor.By Go.Proofs.YtnncgniiceglaabDoor.Gf Go.Proofs.YtnncgniiceglaabDoor.Ae
/-- The bytes from k on; a byte shifted, and the bit that comes in; the bit that goes out. -/
def dn (k : Nat) (f : Nat → Nat) (p : Nat) : Nat := if k ≤ p then f p else 0
def cry (b : Nat → Nat) (k : Nat) : Nat := if k < 16 then b k / 128 else 0
def shf (b : Nat → Nat) (p : Nat) : Nat := 2 * b p % 256 + cry b (p + 1)
theorem dn_set (f : Nat → Nat) (p : Nat) : (bl 16 (cb (dn (p + 1) f))).set p (.int .u8 (f p : Nat)) = bl 16 (cb (dn p f)) := by
  rw [bl_set]
  refine bl_congr _ _ _ (fun i _ => ?_)
  show (if i = p then ((f p : Nat) : Int) else ((dn (p + 1) f i : Nat) : Int)) = ((dn p f i : Nat) : Int)
  unfold dn
  by_cases e : i = p
  · subst e; rw [if_pos rfl, if_pos (by omega)]
  · rw [if_neg e]
    by_cases h : p ≤ i
    · rw [if_pos h, if_pos (by omega)]
    · rw [if_neg h, if_neg (by omega)]
theorem dn_top (f : Nat → Nat) : bl 16 (cb (dn 16 f)) = bl 16 (cb (upto 0 f)) := bl_congr _ _ _ (fun i hi => by show ((dn 16 f i : Nat) : Int) = ((upto 0 f i : Nat) : Int); unfold dn upto; rw [if_neg (by omega), if_neg (by omega)])
theorem dn_zero (f : Nat → Nat) : bl 16 (cb (dn 0 f)) = bl 16 (cb f) := bl_congr _ _ _ (fun i hi => by show ((dn 0 f i : Nat) : Int) = ((f i : Nat) : Int); unfold dn; rw [if_pos (by omega)])
theorem or_bit : ∀ x : Nat, x < 256 → ∀ c : Nat, c < 2 → bits .or .u8 ((x : Int) * 2 % 256) (c : Int) = ((2 * x % 256 + c : Nat) : Int) := by decide +kernel
theorem cry_lt {b : Nat → Nat} (h : B16 b) (k : Nat) : cry b k < 2 := by
  unfold cry; split
  · have := h k (by omega); omega
  · decide
theorem dbl_set (b : Nat → Nat) : (bl 16 (cb (shf b))).set 15 (.int .u8 (((2 * b 15 % 256) ^^^ (if 128 ≤ b 0 then 135 else 0) : Nat) : Int)) = bl 16 (cb (dbl b)) := by
  rw [bl_set]
  refine bl_congr _ _ _ (fun i hi => ?_)
  show (if i = 15 then ((((2 * b 15 % 256) ^^^ (if 128 ≤ b 0 then 135 else 0) : Nat)) : Int) else ((shf b i : Nat) : Int)) = ((dbl b i : Nat) : Int)
  unfold dbl shf cry
  by_cases e : i = 15
  · subst e; simp
  · rw [if_neg e, if_pos (by omega), if_pos (by omega)]
theorem neg_bit (q : Nat) (h : q < 256) : bits .and .u8 (-((q : Int) / 128) % 256) 135 = ((if 128 ≤ q then 135 else 0 : Nat) : Int) := by
  by_cases e : 128 ≤ q
  · rw [if_pos e, show -((q : Int) / 128) % 256 = 255 from by omega]; decide
  · rw [if_neg e, show -((q : Int) / 128) % 256 = 0 from by omega]; decide
theorem dbl_low (x q : Nat) (h : q < 256) : bits .xor .u8 (2 * (x : Int) % 256) (bits .and .u8 (-((q : Int) / 128) % 256) 135) = (((2 * x % 256) ^^^ (if 128 ≤ q then 135 else 0) : Nat) : Int) := by
  rw [neg_bit q h, show 2 * (x : Int) % 256 = ((2 * x % 256 : Nat) : Int) from by omega]
  exact xor8 _ _ (by omega) (by split <;> decide)
set_option maxRecDepth 8000 in
set_option maxHeartbeats 4000000 in
theorem dbl1 (b : Nat → Nat) (hb : B16 b) (w : World) : Calls Tryd.prog 12 #[bv b] w fun e w' => e = .returned (bv (dbl b)) ∧ Below w.heap.size w w' := by
  unfold bv
  have HBB := hid hb
  have HDS := hid (dbl_set b)
  clear hb
  go_enter Tryd.func12, Tryd.ntmps12
  go_wp2_with fail
  go_loopw [4, 5] (fun c i wr => ∃ k : Nat, k ≤ 16 ∧ c = .int .u8 (cry b k : Nat) ∧ i = .int .i64 ((k : Int) - 1) ∧ Blk wr w.heap.size (bl 16 (cb b)) 34 ∧ Blk wr (w.heap.size + 1) (bl 16 (cb (upto 0 b))) 34 ∧ Blk wr (w.heap.size + 1 + 1) (bl 16 (cb (dn k (shf b)))) 34 ∧ Below w.heap.size w wr) (fun _ i _ => (intOf i + 1).toNat)
  case atStart =>
    exact ⟨16, by omega, rfl, rfl, ((Blk.newAt _ _ _ _ _ rfl rfl).alloc _).alloc _, (Blk.newAt _ _ _ _ _ (by simp) (zero16 b)).alloc _, by rw [dn_top]; exact Blk.newAt _ _ _ _ _ (by simp) (zero16 _), below3 w _ _ _⟩
  case round =>
    obtain ⟨k, hk, rfl, rfl, b0, b1, b2, hbel⟩ := hrel
    have B0 := hid b0
    have B1 := hid b1
    have B2 := hid b2
    have HB := hid hbel
    have HZ := hid b2.lt
    clear b0 b1 b2 hbel
    by_cases hlt : 1 ≤ k
    · obtain ⟨p, rfl⟩ : ∃ p, k = p + 1 := ⟨k - 1, by omega⟩
      have ep : ((p + 1 : Nat) : Int) - 1 = (p : Int) := by omega
      have hd : decide ((0 : Int) ≤ (p : Int)) = true := decide_eq_true (by omega)
      have hp16 : (p : Int) < 16 := by omega
      have x0 := B0.out.cell p _ (bl_get 16 _ p (by omega))
      have x1 := B2.out.cell p _ (bl_get 16 _ p (by omega))
      have f1 := B2.out.frozen p
      have hx := HBB.out p (by omega)
      have HC := hid (cry_lt HBB.out (p + 1))
      have HS := hid (dn_set (shf b) p)
      have HK := hid (show cry b p = b p / 128 from by unfold cry; rw [if_pos (by omega)])
      have HO := hid (or_bit (b p) hx (cry b (p + 1)) HC.out)
      have HE := hid (show shf b p = 2 * b p % 256 + cry b (p + 1) from rfl)
      obtain ⟨x, ex⟩ : ∃ x, b p = x := ⟨_, rfl⟩
      obtain ⟨c, ec⟩ : ∃ c, cry b (p + 1) = c := ⟨_, rfl⟩
      rw [show cb b p = (x : Int) from congrArg Nat.cast ex] at x0
      rw [ex] at hx HK HO HE
      rw [ec] at HC HO HE
      rw [ec, ep]
      clear ex ec ep
      go_wp2_with fail
      have hz := HZ.out
      rw [HO.out, ← HE.out]
      refine ⟨⟨p, by omega, by rw [HK.out]; rfl, rfl, B0.out.other (by omega) _ _, B1.out.other (by omega) _ _, ?_, below_set HB.out _ _ _ (by omega) (by omega)⟩, by simp [intOf]⟩
      rw [← HS.out]
      exact B2.out.set _ _
    · have ek : k = 0 := by omega
      subst ek
      rw [dn_zero] at B2
      have x1 := B2.out.cell 15 _ (bl_get 16 _ 15 (by omega))
      have f1 := B2.out.frozen 15
      have e15 : cb (shf b) 15 = ((2 * b 15 % 256 : Nat) : Int) := by show ((shf b 15 : Nat) : Int) = _; unfold shf cry; simp
      rw [e15] at x1
      have hx0 := HBB.out 0 (by omega)
      have hcr : cry b 0 = b 0 / 128 := rfl
      rw [hcr]
      have hxx := dbl_low (b 15) (b 0) hx0
      obtain ⟨z, ez⟩ : ∃ z, (2 * b 15 % 256) ^^^ (if 128 ≤ b 0 then 135 else 0) = z := ⟨_, rfl⟩
      rw [ez] at hxx HDS
      have BB := hid (show Blk (wr.setCell ⟨w.heap.size + 1 + 1, 15, none⟩ (.int .u8 (z : Int))) (w.heap.size + 1 + 1) (bl 16 (cb (dbl b))) 34 from by rw [← HDS.out]; exact B2.out.set _ _)
      have BQ := hid (show Blk (wr.setCell ⟨w.heap.size + 1 + 1, 15, none⟩ (.int .u8 (z : Int))) (w.heap.size + 1) (bl 16 (cb (upto 0 b))) 34 from B1.out.other (by omega) _ _)
      obtain ⟨l1, s1, l2, hb2⟩ := fin16 BB.out BQ.out (below_set HB.out _ _ _ (by omega) (by have := HZ.out; omega)) (by omega)
      have L2 := hid l2
      have HB2 := hid hb2
      clear hcr e15 l2 hb2 ez
      go_wp2_with fail
      refine bodyPost_ret ?_ rfl ⟨rfl, HB2.out⟩
      exact results_cell1 Tryd.results12 rfl L2.out
end Go.Proofs.YtnncgniiceglaabDoor.Vm
