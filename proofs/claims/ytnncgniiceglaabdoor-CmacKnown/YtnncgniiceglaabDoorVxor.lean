/- What the program's xored and Double answer. -/
import Derived.Test.YtnncgniiceglaabDoorVnum
import Derived.Test.YtnncgniiceglaabDoorYk
namespace Go.Proofs.YtnncgniiceglaabDoor.Vm
open Go.ChangeShapes Go.WideShapes Go.ChangeAt Go.RowKit
open Go.Proofs.YtnncgniiceglaabDoor.By Go.Proofs.YtnncgniiceglaabDoor.Gf Go.Proofs.YtnncgniiceglaabDoor.Ae
/-- The first k bytes are xored. -/
def xrTo (a b : Nat → Nat) (k i : Nat) : Nat := if i < k then a i ^^^ b i else a i
theorem xrTo_zero (a b : Nat → Nat) : bl 16 (cb (xrTo a b 0)) = bl 16 (cb a) := bl_congr _ _ _ (fun i _ => by show ((xrTo a b 0 i : Nat) : Int) = _; unfold xrTo; rw [if_neg (by omega)])
theorem xrTo_all (a b : Nat → Nat) : bl 16 (cb (xrTo a b 16)) = bl 16 (cb (xr a b)) := bl_congr _ _ _ (fun i hi => by show ((xrTo a b 16 i : Nat) : Int) = ((xr a b i : Nat) : Int); unfold xrTo xr; rw [if_pos (by omega)])
theorem xrTo_at (a b : Nat → Nat) (k : Nat) : xrTo a b k k = a k := by unfold xrTo; rw [if_neg (by omega)]
theorem xrTo_set (a b : Nat → Nat) (k : Nat) : (bl 16 (cb (xrTo a b k))).set k (.int .u8 ((a k ^^^ b k : Nat) : Int)) = bl 16 (cb (xrTo a b (k + 1))) := by
  rw [bl_set]
  refine bl_congr _ _ _ (fun i _ => ?_)
  show (if i = k then (((a k ^^^ b k : Nat)) : Int) else ((xrTo a b k i : Nat) : Int)) = ((xrTo a b (k + 1) i : Nat) : Int)
  unfold xrTo
  by_cases e : i = k
  · subst e; rw [if_pos rfl, if_pos (by omega)]
  · rw [if_neg e]
    by_cases h : i < k
    · rw [if_pos h, if_pos (by omega)]
    · rw [if_neg h, if_neg (by omega)]
theorem index16 (b : Nat → Nat) (k : Nat) (hk : k < 16) (w : World) : (Instr.index 34 (.agg (bl 16 (cb b)).toArray) (.int .i64 k)).run Tryd.prog w = .ok (.int .u8 (b k : Nat)) w := by
  have hidx : (bl 16 (cb b))[k]? = some (.int .u8 (b k : Nat)) := bl_get 16 (cb b) k hk
  simp [Instr.index, go_sem, hk, hidx]
set_option maxRecDepth 8000 in
set_option maxHeartbeats 4000000 in
theorem xored1 (a b : Nat → Nat) (ha : B16 a) (hb : B16 b) (w : World) : Calls Tryd.prog 20 #[bv a, bv b] w fun e w' => e = .returned (bv (xr a b)) ∧ Below w.heap.size w w' := by
  unfold bv
  have HA := hid ha
  have HBB := hid hb
  clear ha hb
  go_enter Tryd.func20, Tryd.ntmps20
  have A0 := hid (((Blk.newAt w (bl 16 (cb a)).toArray _ 34 _ rfl rfl).alloc (.cells (bl 16 (cb b)).toArray 34)).alloc (.cells (bl 16 (cb (upto 0 a))).toArray 34))
  have A1 := hid ((Blk.newAt (w.alloc (.cells (bl 16 (cb a)).toArray 34)) (bl 16 (cb b)).toArray _ 34 (w.heap.size + 1) (by simp) rfl).alloc (.cells (bl 16 (cb (upto 0 a))).toArray 34))
  have A2 := hid (Blk.newAt ((w.alloc (.cells (bl 16 (cb a)).toArray 34)).alloc (.cells (bl 16 (cb b)).toArray 34)) (bl 16 (cb (upto 0 a))).toArray _ 34 (w.heap.size + 1 + 1) (by simp) rfl)
  have HB := hid (below3 w (.cells (bl 16 (cb a)).toArray 34) (.cells (bl 16 (cb b)).toArray 34) (.cells (bl 16 (cb (upto 0 a))).toArray 34))
  rw [← zero16 a] at A0 A1 A2 HB
  have l1 := LDb_run (range0 A1.out) (bl_length _ _)
  go_wp2_with fail
  go_loopw [8] (fun i wr => ∃ k : Nat, k ≤ 16 ∧ i = .int .i64 k ∧ Blk wr w.heap.size (bl 16 (cb (xrTo a b k))) 34 ∧ Blk wr (w.heap.size + 1 + 1) (bl 16 (cb (upto 0 a))) 34 ∧ Below w.heap.size w wr) (fun i _ => 16 - (intOf i).toNat)
  case atStart => exact ⟨0, by omega, rfl, by rw [xrTo_zero]; exact A0.out, A2.out, HB.out⟩
  case round =>
    clear A0 A1 A2 HB l1
    obtain ⟨k, hk, rfl, b0, b1, hbel⟩ := hrel
    have B0 := hid b0
    have B1 := hid b1
    have HB := hid hbel
    have HZ := hid b1.lt
    clear b0 b1 hbel
    by_cases hlt : k < 16
    · have x0 := B0.out.cell k _ (bl_get 16 _ k hlt)
      rw [show cb (xrTo a b k) k = ((a k : Nat) : Int) from congrArg Nat.cast (xrTo_at a b k)] at x0
      have f0 := B0.out.frozen k
      have y0 := index16 b k hlt wr
      have hx := HA.out k hlt
      have hy := HBB.out k hlt
      have HS := hid (xrTo_set a b k)
      obtain ⟨x, ex⟩ : ∃ x, a k = x := ⟨_, rfl⟩
      obtain ⟨y, ey⟩ : ∃ y, b k = y := ⟨_, rfl⟩
      rw [ex] at x0 hx HS
      rw [ey] at y0 hy HS
      clear ex ey
      have HX := hid (xor8 x y hx hy)
      go_wp2_with fail
      have hz := HZ.out
      refine ⟨⟨k + 1, by omega, by go_num, ?_, B1.out.other (by omega) _ _, below_set HB.out _ _ _ (by omega) HB.out.size⟩, by simp [intOf]; omega⟩
      rw [HX.out, ← HS.out]
      exact B0.out.set _ _
    · have ek : k = 16 := by omega
      subst ek
      rw [xrTo_all] at B0
      obtain ⟨l1, s1, l2, hb2⟩ := fin16 B0.out B1.out HB.out (by omega)
      have L2 := hid l2
      have HB2 := hid hb2
      clear l2 hb2
      go_wp2_with fail
      refine bodyPost_ret ?_ rfl ⟨rfl, HB2.out⟩
      exact results_cell1 Tryd.results20 rfl L2.out
end Go.Proofs.YtnncgniiceglaabDoor.Vm
