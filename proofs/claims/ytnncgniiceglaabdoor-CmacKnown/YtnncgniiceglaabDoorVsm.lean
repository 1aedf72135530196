/- The program's mac: isNone, last. -/
import Derived.Test.YtnncgniiceglaabDoorVzl
import Derived.Test.YtnncgniiceglaabDoorVxor
import Derived.Test.YtnncgniiceglaabDoorVdbl
namespace Go.Proofs.YtnncgniiceglaabDoor.Vm
open Go.ChangeShapes Go.WideShapes Go.ChangeAt Go.RowKit
open Go.Proofs.YtnncgniiceglaabDoor.By Go.Proofs.YtnncgniiceglaabDoor.Gf Go.Proofs.YtnncgniiceglaabDoor.Ae
theorem isNone_mc (g gc : Nat) (w : World) (h : w.cell? ⟨g, 0, none⟩ = some (.pointer (some ⟨gc, 0, none⟩))) : Calls Tryd.prog 18 #[.pointer (some ⟨g, 0, none⟩)] w fun e w' => e = .returned (.bool false) ∧ w' = w := by
  go_enter Tryd.func18, Tryd.ntmps18
  go_wp2
  go_ret
  exact ⟨rfl, rfl⟩
theorem isNone_mn (g : Nat) (w : World) (h : w.cell? ⟨g, 0, none⟩ = some (.pointer none)) : Calls Tryd.prog 18 #[.pointer (some ⟨g, 0, none⟩)] w fun e w' => e = .returned (.bool true) ∧ w' = w := by
  go_enter Tryd.func18, Tryd.ntmps18
  go_wp2
  go_ret
  exact ⟨rfl, rfl⟩
theorem isNone_mz (w : World) : Calls Tryd.prog 18 #[.pointer none] w fun e w' => e = .returned (.bool true) ∧ w' = w := by
  go_enter Tryd.func18, Tryd.ntmps18
  go_wp2
  go_ret
  exact ⟨rfl, rfl⟩
set_option maxRecDepth 8000 in
set_option maxHeartbeats 4000000 in
theorem last_mc (g gc k n : Nat) (ws m : Nat → Nat) (w : World) (h : Mc w g gc k ws n m) : Calls Tryd.prog 21 #[.pointer (some ⟨g, 0, none⟩)] w fun e w' => e = .returned (bv (lstb ws (k + 6) m n)) ∧ Below w.heap.size w w' := by
  have hB := below_alloc w (.cells z16.toArray 34)
  have H1 := hid (h.below hB)
  have R1 := hid (z_new w)
  have HB := hid hB
  have hg := h.glt
  clear h hB
  have cn := H1.out.cn
  have hle := ctn_le n
  obtain ⟨W1, hW1⟩ : ∃ x, w.alloc (.cells z16.toArray 34) = x := ⟨_, rfl⟩
  rw [hW1] at H1 R1 HB cn
  have r1 := LDb_run (mcl_d (H1.out.here.drewN 1)) (bl_length _ _)
  have r2 := LDb_run (mcl_a (H1.out.here.drewN 1)) (bl_length _ _)
  rw [show W1.drewN 1 = W1.drew from rfl] at r1 r2
  by_cases hc : ctn n = 16
  · rw [hc, show ((16 : Nat) : Int) = 16 from rfl] at cn
    have el := hid (show lstb ws (k + 6) m n = xr (wtn m n) (sk1 ws (k + 6)) from if_pos hc)
    clear hle
    have XC := hid (xored1 (wtn m n) (sk1 ws (k + 6)) (wtn_b H1.out.lt n) (sk1_b H1.out.ci.lt _) W1.drew)
    unfold bv at XC
    go_enter Tryd.func21, Tryd.ntmps21
    go_wp2_with fail
    go_region_law (go_simp; go_at_call 20; refine XC.out.mono ?_; rintro e w2 ⟨rfl, hb2⟩; have R2 := hid ((R1.out.drewN 1).below hb2); have HB2 := hid (below_next (below_dr HB.out) hb2); obtain ⟨s1, b3⟩ := z_st (f := xr (wtn m n) (sk1 ws (k + 6))) R2.out z16_len; have L2 := hid (z_ld b3); clear hb2 b3)
    all_goals
      go_simp
      go_wp2_with fail
      refine bodyPost_ret ?_ rfl ⟨by rw [el.out], below_cells HB2.out _ _ _ (Nat.le_refl _) HB2.out.size⟩
      exact results_cell1 Tryd.results21 rfl L2.out
  · have r0 := LDb_run (mcl_d H1.out.here) (bl_length _ _)
    have hcn : ((ctn n : Int) == 16) = false := by rw [beq_eq_false_iff_ne]; omega
    have hcn2 : ¬ (ctn n : Int) = 16 := by omega
    have hlt : ctn n < 16 := by omega
    have hlt2 : (ctn n : Int) < 16 := by omega
    have el := hid (show lstb ws (k + 6) m n = xr (mrk m n) (sk2 ws (k + 6)) from if_neg hc)
    have hsz := R1.out.lt
    obtain ⟨q, hq⟩ : ∃ q, W1.heap.size = q := ⟨_, rfl⟩
    obtain ⟨s2, b2⟩ := z_st (f := wtn m n) (z_new W1) z16_len
    rw [hq] at s2 b2
    have k2 := (below_alloc W1 (.cells z16.toArray 34)).trans ((Kp.setCells q 0 (bl 16 (cb (wtn m n)))).below (by simp) (fun j hj e => by omega))
    obtain ⟨W2, hW2⟩ : ∃ x, (W1.alloc (.cells z16.toArray 34)).setCells q 0 (bl 16 (cb (wtn m n))) = x := ⟨_, rfl⟩
    rw [hW2] at s2 b2 k2
    have f2 := b2.frozen (ctn n)
    have x2 := b2.cell (ctn n) _ (bl_get 16 _ _ hlt)
    have b3 := b2.set (ctn n) (.int .u8 128)
    rw [show (bl 16 (cb (wtn m n))).set (ctn n) (.int .u8 128) = bl 16 (cb (mrk m n)) from by
      rw [show (128 : Int) = ((128 : Nat) : Int) from rfl, bl_set]
      refine bl_congr _ _ _ (fun i _ => ?_)
      show (if i = ctn n then ((128 : Nat) : Int) else ((wtn m n i : Nat) : Int)) = ((mrk m n i : Nat) : Int)
      unfold mrk
      split <;> rfl] at b3
    have k3 := k2.trans ((Kp.setCell q (ctn n) (.int .u8 128)).below (w := W2) (by have := k2.size; omega) (fun j hj e => by omega))
    have H2 := hid (H1.out.below k2)
    have cn2 := H2.out.cn
    obtain ⟨W3, hW3⟩ : ∃ x, W2.setCell ⟨q, ctn n, none⟩ (.int .u8 128) = x := ⟨_, rfl⟩
    rw [hW3] at b3 k3
    have H3 := hid (H1.out.below k3)
    have R3 := hid (R1.out.below k3)
    have HB3 := hid (below_next HB.out k3)
    have B3 := hid b3
    have r5 := z_ld (b3.drewN 1)
    have r6 := LDb_run (mcl_b (H3.out.here.drewN 1)) (bl_length _ _)
    rw [show W3.drewN 1 = W3.drew from rfl] at r5 r6
    have XC := hid (xored1 (mrk m n) (sk2 ws (k + 6)) (mrk_b H3.out.lt n) (sk2_b H3.out.ci.lt _) W3.drew)
    unfold bv at XC
    clear b2 k2 b3 k3 r1 r2 hc
    go_enter Tryd.func21, Tryd.ntmps21
    go_wp2_with fail
    go_region_law (go_simp; go_at_call 20; refine XC.out.mono ?_; rintro e w2 ⟨rfl, hb2⟩; have R5 := hid ((R3.out.drewN 1).below hb2); have HB5 := hid (below_next (below_dr HB3.out) hb2); obtain ⟨s1, b5⟩ := z_st (f := xr (mrk m n) (sk2 ws (k + 6))) R5.out z16_len; have L5 := hid (z_ld b5); clear hb2 b5)
    all_goals
      go_simp
      go_wp2_with fail
      refine bodyPost_ret ?_ rfl ⟨by rw [el.out], below_cells HB5.out _ _ _ (Nat.le_refl _) HB5.out.size⟩
      exact results_cell1 Tryd.results21 rfl L5.out
end Go.Proofs.YtnncgniiceglaabDoor.Vm
