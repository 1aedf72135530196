/- What the document's Double answers. -/
import Derived.Test.YtnncgniiceglaaaVdbl
namespace Go.Proofs.Ytnncgniiceglaaa.Vm
open Go.ChangeShapes Go.WideShapes Go.ChangeAt Go.RowKit
open Go.Proofs.Ytnncgniiceglaaa.By Go.Proofs.Ytnncgniiceglaaa.Gf Go.Proofs.Ytnncgniiceglaaa.Ae
theorem upto_shf (b : Nat → Nat) (k : Nat) : ((bl 16 (cb (upto k (shf b)))).set k (.int .u8 ((2 * b k % 256 : Nat) : Int))).set k (.int .u8 ((shf b k : Nat) : Int)) = bl 16 (cb (upto (k + 1) (shf b))) := by
  rw [List.set_set]; exact upto_set _ _
set_option maxRecDepth 8000 in
set_option maxHeartbeats 4000000 in
theorem rdbl1 (b : Nat → Nat) (hb : B16 b) (w : World) : Calls Try.prog 6 #[bv b] w fun e w' => e = .returned (bv (dbl b)) ∧ Below w.heap.size w w' := by
  unfold bv
  have HBB := hid hb
  have HDS := hid (dbl_set b)
  clear hb
  go_enter Try.func6, Try.ntmps6
  go_wp2_with fail
  go_loopw [4] (fun i wr => ∃ k : Nat, k ≤ 16 ∧ i = .int .i64 (k : Int) ∧ Blk wr w.heap.size (bl 16 (cb b)) 23 ∧ Blk wr (w.heap.size + 1) (bl 16 (cb (upto 0 b))) 23 ∧ Blk wr (w.heap.size + 1 + 1) (bl 16 (cb (upto k (shf b)))) 23 ∧ Below w.heap.size w wr) (fun i _ => 16 - (intOf i).toNat)
  case atStart =>
    exact ⟨0, by omega, rfl, ((Blk.newAt _ _ _ _ _ rfl rfl).alloc _).alloc _, (Blk.newAt _ _ _ _ _ (by simp) (zero16 b)).alloc _, Blk.newAt _ _ _ _ _ (by simp) (zero16 _), below3 w _ _ _⟩
  case round =>
    obtain ⟨k, hk, rfl, b0, b1, b2, hbel⟩ := hrel
    have B0 := hid b0
    have B1 := hid b1
    have B2 := hid b2
    have HB := hid hbel
    have HZ := hid b2.lt
    clear b0 b1 b2 hbel
    by_cases hlt : k < 16
    · have x0 := B0.out.cell k _ (bl_get 16 _ k hlt)
      have x1 := B2.out.cell k _ (bl_get 16 _ k hlt)
      have f1 := B2.out.frozen k
      have HS := hid (upto_shf b k)
      have hx := HBB.out k hlt
      by_cases h15 : k < 15
      · have x2 := B0.out.cell (k + 1) _ (bl_get 16 _ (k + 1) (by omega))
        have hy := HBB.out (k + 1) (by omega)
        have HE := hid (show shf b k = 2 * b k % 256 + b (k + 1) / 128 from by unfold shf cry; rw [if_pos (by omega)])
        have hd : decide ((k : Int) < 15) = true := decide_eq_true (by omega)
        obtain ⟨x, ex⟩ : ∃ x, b k = x := ⟨_, rfl⟩
        obtain ⟨y, ey⟩ : ∃ y, b (k + 1) = y := ⟨_, rfl⟩
        rw [show cb b k = (x : Int) from congrArg Nat.cast ex] at x0
        rw [show cb b (k + 1) = (y : Int) from congrArg Nat.cast ey] at x2
        rw [ex] at hx HS HE
        rw [ey] at hy HE
        clear ex ey
        go_wp2_with fail
        go_region
        all_goals
          go_wp2_with fail
          have hz := HZ.out
          rw [show (x : Int) * 2 % 256 = ((2 * x % 256 : Nat) : Int) from by omega, show ((2 * x % 256 : Nat) : Int) + (y : Int) / 128 = ((shf b k : Nat) : Int) from by rw [HE.out]; omega]
          refine ⟨⟨k + 1, by omega, by go_num, ((B0.out.other (by omega) _ _).other (by omega) _ _).drewN 1, ((B1.out.other (by omega) _ _).other (by omega) _ _).drewN 1, ?_, below_dr (below_set (below_set HB.out _ _ _ (by omega) (by omega)) _ _ _ (by omega) (by have := HB.out.size; simp; omega))⟩, by simp [intOf]; omega⟩
          rw [← HS.out]
          exact ((B2.out.set _ _).set _ _).drewN 1
      · have ek : k = 15 := by omega
        subst ek
        have HE := hid (show shf b 15 = 2 * b 15 % 256 from by unfold shf cry; rw [if_neg (by omega), Nat.add_zero])
        obtain ⟨x, ex⟩ : ∃ x, b 15 = x := ⟨_, rfl⟩
        rw [show cb b 15 = (x : Int) from congrArg Nat.cast ex] at x0
        rw [ex] at hx HE
        have HS := hid (upto_set (shf b) 15)
        clear ex
        go_wp2_with fail
        have hz := HZ.out
        rw [show (x : Int) * 2 % 256 = ((shf b 15 : Nat) : Int) from by rw [HE.out]; omega]
        refine ⟨⟨15 + 1, by omega, by go_num, B0.out.other (by omega) _ _, B1.out.other (by omega) _ _, ?_, below_set HB.out _ _ _ (by omega) (by omega)⟩, by simp [intOf]⟩
        rw [← HS.out]
        exact B2.out.set _ _
    · have ek : k = 16 := by omega
      subst ek
      rw [upto_all] at B2
      have x1 := B2.out.cell 15 _ (bl_get 16 _ 15 (by omega))
      have f1 := B2.out.frozen 15
      have x0 := B0.out.cell 0 _ (bl_get 16 _ 0 (by omega))
      have e15 : shf b 15 = 2 * b 15 % 256 := by unfold shf cry; rw [if_neg (by omega), Nat.add_zero]
      have HE := hid e15
      rw [show cb (shf b) 15 = ((2 * b 15 % 256 : Nat) : Int) from congrArg Nat.cast e15] at x1
      rw [show cb b 0 = ((b 0 : Nat) : Int) from rfl] at x0
      have hx0 := HBB.out 0 (by omega)
      clear e15
      by_cases h128 : 128 ≤ b 0
      · rw [if_pos h128] at HDS
        have hd : decide ((128 : Int) ≤ (b 0 : Int)) = true := decide_eq_true (by omega)
        have hxx := xor8 (2 * b 15 % 256) 135 (by omega) (by omega)
        rw [show ((2 * b 15 % 256 : Nat) : Int) = 2 * (b 15 : Int) % 256 from by omega, show ((135 : Nat) : Int) = 135 from rfl] at hxx
        obtain ⟨z, ez⟩ : ∃ z, (2 * b 15 % 256) ^^^ 135 = z := ⟨_, rfl⟩
        rw [ez] at hxx HDS
        have BB := hid (show Blk (wr.setCell ⟨w.heap.size + 1 + 1, 15, none⟩ (.int .u8 (z : Int))) (w.heap.size + 1 + 1) (bl 16 (cb (dbl b))) 23 from by rw [← HDS.out]; exact B2.out.set _ _)
        have BQ := hid (show Blk (wr.setCell ⟨w.heap.size + 1 + 1, 15, none⟩ (.int .u8 (z : Int))) (w.heap.size + 1) (bl 16 (cb (upto 0 b))) 23 from B1.out.other (by omega) _ _)
        obtain ⟨l1, s1, l2, hb2⟩ := fin16 BB.out BQ.out (below_set HB.out _ _ _ (by omega) (by have := HZ.out; omega)) (by omega)
        have L2 := hid l2
        have HB2 := hid hb2
        clear l2 hb2 ez
        go_wp2_with fail
        refine bodyPost_ret ?_ rfl ⟨rfl, HB2.out⟩
        exact results_cell1 Try.results6 rfl L2.out
      · rw [if_neg h128, Nat.xor_zero, ← HE.out, bl_set] at HDS
        have hd : decide ((128 : Int) ≤ (b 0 : Int)) = false := decide_eq_false (by omega)
        have BB := hid (show Blk wr (w.heap.size + 1 + 1) (bl 16 (cb (dbl b))) 23 from by
          rw [← HDS.out, bl_congr 16 _ (cb (shf b)) (fun i hi => by
            show (if i = 15 then ((shf b 15 : Nat) : Int) else ((shf b i : Nat) : Int)) = _
            split
            · rename_i e; rw [e]
            · rfl)]
          exact B2.out)
        obtain ⟨l1, s1, l2, hb2⟩ := fin16 BB.out B1.out HB.out (by omega)
        have L2 := hid l2
        have HB2 := hid hb2
        clear l2 hb2
        go_wp2_with fail
        refine bodyPost_ret ?_ rfl ⟨rfl, HB2.out⟩
        exact results_cell1 Try.results6 rfl L2.out
end Go.Proofs.Ytnncgniiceglaaa.Vm
