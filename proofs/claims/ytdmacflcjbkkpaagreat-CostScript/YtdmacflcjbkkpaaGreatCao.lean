/- The algorithms by kind; no hash function; no kind. -/
import Derived.Test.YtdmacflcjbkkpaaGreatCun
namespace Go.Proofs.YtdmacflcjbkkpaaGreat.Co
open Go.ChangeShapes Go.WideShapes Go.ChangeAt Go.RowKit
open Go.Proofs.YtdmacflcjbkkpaaGreat (putL)
open Go.Proofs.YtdmacflcjbkkpaaGreat.Ou (Sk sv sL LDk SVk LDk_run SVk_run)
open Go.Proofs.YtdmacflcjbkkpaaGreat.Tb (Blk Blk.newAt put_all Kp.setCells results_cell1 results_cell2)
theorem aofh1_ok (w : World) : Calls Tryz.prog 81 #[.int .u8 1] w fun e w' => ∃ g, e = .returned (.tuple #[algH 32 g, .bool true]) ∧ w.heap.size ≤ g ∧ Blk w' g [.int .i64 32, .int .i64 64, .int .u8 1, .int .i64 64] 119 ∧ Below w.heap.size w w' := by
  refine (algorithmOf_ok 1 (by decide) w).mono ?_
  rintro e w' ⟨v, rfl, av, hb⟩
  cases av with
  | h g ha e hg k => exact ⟨g, by rw [e]; rfl, hg, k, hb⟩
  | c g ha e hg k => exact absurd ha (by decide)
  | k gp gr gx ha e hg kp kr kx => exact absurd ha.1 (by decide)
theorem aofh2_ok (w : World) : Calls Tryz.prog 81 #[.int .u8 2] w fun e w' => ∃ g, e = .returned (.tuple #[algH 64 g, .bool true]) ∧ w.heap.size ≤ g ∧ Blk w' g [.int .i64 64, .int .i64 128, .int .u8 2, .int .i64 128] 119 ∧ Below w.heap.size w w' := by
  refine (algorithmOf_ok 2 (by decide) w).mono ?_
  rintro e w' ⟨v, rfl, av, hb⟩
  cases av with
  | h g ha e hg k => exact ⟨g, by rw [e]; rfl, hg, k, hb⟩
  | c g ha e hg k => exact absurd ha (by decide)
  | k gp gr gx ha e hg kp kr kx => exact absurd ha.1 (by decide)
theorem aofc_ok (w : World) : Calls Tryz.prog 81 #[.int .u8 3] w fun e w' => ∃ g, e = .returned (.tuple #[algC g, .bool true]) ∧ w.heap.size ≤ g ∧ Blk w' g [.func (.func 130) #[] #[]] 149 ∧ Below w.heap.size w w' := by
  refine (algorithmOf_ok 3 (by decide) w).mono ?_
  rintro e w' ⟨v, rfl, av, hb⟩
  cases av with
  | h g ha e hg k => exact absurd ha (by decide)
  | c g ha e hg k => exact ⟨g, by rw [e], hg, k, hb⟩
  | k gp gr gx ha e hg kp kr kx => exact absurd ha.1 (by decide)
theorem aofk_ok (a : Int) (h4 : 4 ≤ a ∧ a ≤ 7) (w : World) : Calls Tryz.prog 81 #[.int .u8 a] w fun e w' => ∃ gp gr gx, e = .returned (.tuple #[algK gp gr gx, .bool true]) ∧ (w.heap.size ≤ gp ∧ w.heap.size ≤ gr ∧ w.heap.size ≤ gx) ∧ Blk w' gp [.int .u8 3, .int .i64 200] 84 ∧ Blk w' gr [.int .i64 (rte a)] 3 ∧ Blk w' gx [.bool (xof a)] 4 ∧ Below w.heap.size w w' := by
  refine (algorithmOf_ok a (by omega) w).mono ?_
  rintro e w' ⟨v, rfl, av, hb⟩
  cases av with
  | h g ha e hg k => exfalso; omega
  | c g ha e hg k => exfalso; omega
  | k gp gr gx ha e hg kp kr kx => exact ⟨gp, gr, gx, by rw [e], hg, kp, kr, kx, hb⟩
set_option maxRecDepth 8000 in
set_option maxHeartbeats 1600000 in
theorem hashOf_no (a : Int) (h : sz a = 0) (w : World) : Calls Tryz.prog 84 #[.int .u8 a] w fun e w' => e = .returned (.tuple #[hz0, .bool false]) ∧ Below w.heap.size w w' := by
  obtain ⟨W, hW⟩ : ∃ W, w.alloc (.cells #[.int .i64 0, .int .i64 0, .int .u8 0, .int .i64 0] 119) = W := ⟨_, rfl⟩
  have BW : Hid (Below w.heap.size w W) := by rw [← hW]; exact below_alloc _ _
  have KA : Blk W w.heap.size [.int .i64 0, .int .i64 0, .int .u8 0, .int .i64 0] 119 := by rw [← hW]; exact Blk.newAt w _ _ _ w.heap.size rfl rfl
  have hlt := KA.lt
  obtain ⟨W1, s1, k1, hk1⟩ := SVh_run 0 0 0 0 KA rfl
  have L1 := hid (LDh_run k1)
  have B1 : Hid (Below w.heap.size w W1) := hid (BW.out.trans (hk1.below BW.out.size (fun k h e => by omega)))
  have n1 : ¬ a = 1 := fun e => by subst e; exact absurd h (by decide)
  have n2 : ¬ a = 2 := fun e => by subst e; exact absurd h (by decide)
  clear hk1 k1 KA hlt h
  go_enter Tryz.func84, Tryz.ntmps84
  go_wp2
  exact bodyPost_ret (results_cell2 rfl rfl rfl L1.out) rfl ⟨rfl, B1.out⟩
set_option maxRecDepth 8000 in
set_option maxHeartbeats 1600000 in
theorem refuseNone_ok (v : Value) (s : Sk) (w : World) : Calls Tryz.prog 42 #[v, sv s] w fun e w' => e = .returned (.int .i64 3) ∧ Below w.heap.size w w' := by
  obtain ⟨W, hW⟩ : ∃ W, w.alloc (.cells #[.int .u8 s.k, .int .i64 s.h, .int .u8 s.a, .int .i64 s.c, .int .i64 s.o, .int .i64 s.d, .int .i64 s.m] 40) = W := ⟨_, rfl⟩
  have BW : Hid (Below w.heap.size w W) := by rw [← hW]; exact below_alloc _ _
  go_enter Tryz.func42, Tryz.ntmps42
  go_wp2
  go_ret
  exact ⟨rfl, BW.out⟩
end Go.Proofs.YtdmacflcjbkkpaaGreat.Co
