/- The program's mac: Reset, Clone. -/
import Derived.Test.YtnncgniiceglaaaDoorVsum
namespace Go.Proofs.YtnncgniiceglaaaDoor.Vm
open Go.ChangeShapes Go.WideShapes Go.ChangeAt Go.RowKit
open Go.Proofs.YtnncgniiceglaaaDoor.By Go.Proofs.YtnncgniiceglaaaDoor.Gf Go.Proofs.YtnncgniiceglaaaDoor.Ae
theorem mcl_fresh (cv : Value) (ws : Nat → Nat) (r : Nat) : mcl cv (sk1 ws r) (sk2 ws r) (chn ws r nought (nbl 0)) (wtn nought 0) (ctn 0) = mcl cv (sk1 ws r) (sk2 ws r) nought nought 0 :=
  mcl_e _ _ (E16.refl _) (E16.refl _) (E16.refl _) (fun i _ => show wtn nought 0 i = 0 by unfold wtn nought; split <;> rfl)
set_option maxRecDepth 8000 in
set_option maxHeartbeats 4000000 in
theorem reset_mc (g gc k n : Nat) (ws m : Nat → Nat) (w : World) (h : Mc w g gc k ws n m) : Calls Tryd.prog 29 #[.pointer (some ⟨g, 0, none⟩)] w fun e w' => e = .returned (.int .i64 0) ∧ Mc w' g gc k ws 0 nought ∧ Kp (fun j => j = g) w w' := by
  have H := hid h
  have c0 := h.c0
  have s1 := SVb_run (cs := z16) (h.here.there 33 16 (by rw [mcl_len]; omega)) z16_len (bl_one _ _)
  have b1 := h.here.put 33 z16
  have k1 : Kp (fun j => j = g) w (w.setCells g 33 z16) := Kp.setCells g 33 z16
  unfold z16 at b1
  rw [put_c] at b1
  obtain ⟨W1, hW1⟩ : ∃ x, w.setCells g 33 z16 = x := ⟨_, rfl⟩
  rw [show w.setCells g 33 (bl 16 (cb nought)) = W1 from hW1] at b1
  rw [hW1] at s1 k1
  have s2 := SVb_run (cs := z16) (b1.there 49 16 (by rw [mcl_len]; omega)) z16_len (bl_one _ _)
  have b2 := b1.put 49 z16
  have k2 : Kp (fun j => j = g) w (W1.setCells g 49 z16) := k1.trans (Kp.setCells g 49 z16) (fun _ _ e => e)
  unfold z16 at b2
  rw [put_d _ _ _ _ _ nought _ 0 16 nought (by omega) (fun i hi => by rw [if_pos (by omega)]; rfl)] at b2
  obtain ⟨W2, hW2⟩ : ∃ x, W1.setCells g 49 z16 = x := ⟨_, rfl⟩
  rw [show W1.setCells g 49 (bl 16 (cb nought)) = W2 from hW2] at b2
  rw [hW2] at s2 k2
  have x2 := b2.cell 65 _ (mcl_n _ _ _ _ _ _)
  have f2 := b2.frozen 65
  have b3 := b2.set 65 (.int .i64 0)
  have e := mcl_set (.pointer (some ⟨gc, 0, none⟩)) (sk1 ws (k + 6)) (sk2 ws (k + 6)) nought nought (ctn n) 0
  rw [show ((0 : Nat) : Int) = 0 from rfl] at e
  rw [e] at b3
  have B3 := hid b3
  have K3 := hid (k2.trans (Kp.setCell g 65 (.int .i64 0)) (fun _ _ e => e))
  clear h b1 b2 b3 k1 k2 e
  go_enter Tryd.func29, Tryd.ntmps29
  go_wp2_with (go_at_call 52; refine (isNone_mc g gc _ c0).mono ?_; rintro e w' ⟨rfl, hw'⟩; subst w')
  go_ret
  refine ⟨rfl, ⟨?_, H.out.ci.kept K3.out (fun e => H.out.ne e), fun _ => Nat.zero_lt_succ _⟩, K3.out⟩
  rw [mcl_fresh]
  exact B3.out
set_option maxRecDepth 8000 in
set_option maxHeartbeats 4000000 in
theorem clone_mc (g gc k n : Nat) (ws m : Nat → Nat) (w : World) (h : Mc w g gc k ws n m) : Calls Tryd.prog 30 #[.pointer (some ⟨g, 0, none⟩)] w fun e w' => ∃ g' gc', e = .returned (.tuple #[.pointer (some ⟨g', 0, none⟩), .int .i64 0]) ∧ Mc w' g' gc' k ws n m ∧ w.heap.size ≤ g' ∧ w.heap.size ≤ gc' ∧ Below w.heap.size w w' := by
  have H := hid h
  have c0 := h.c0
  clear h
  go_enter Tryd.func30, Tryd.ntmps30
  go_wp2_with (first | (go_at_call 52; refine (isNone_mc g gc _ c0).mono ?_; rintro e w' ⟨rfl, hw'⟩; subst w') | (go_at_call 57; refine (clone_ci gc k ws _ H.out.ci).mono ?_; rintro e w2 ⟨rfl, hc2, hb2⟩; have H2 := hid (H.out.below hb2); have C2 := hid hc2; have B2 := hid hb2; have l2 := LDm_run (range0 H2.out.here) (mcl_len _ _ _ _ _ _); have N2 := hid (Blk.newAt w2 _ _ 51 _ rfl zero_mc); clear hc2 hb2))
  have s3 := SVm_run (cs := mcl (.pointer (some ⟨gc, 0, none⟩)) (sk1 ws (k + 6)) (sk2 ws (k + 6)) (chn ws (k + 6) m (nbl n)) (wtn m n) (ctn n)) (N2.out.there 0 66 (by rw [mcl_len]; omega)) (mcl_len _ _ _ _ _ _) (mcl_one _ _ _ _ _ _ rfl)
  have b3 := N2.out.put 0 (mcl (.pointer (some ⟨gc, 0, none⟩)) (sk1 ws (k + 6)) (sk2 ws (k + 6)) (chn ws (k + 6) m (nbl n)) (wtn m n) (ctn n))
  rw [put_all _ _ (by rw [mcl_len, mcl_len])] at b3
  have k3 := (below_alloc w2 (.cells Tryd.zeroCells51 51)).trans ((Kp.setCells w2.heap.size 0 (mcl (.pointer (some ⟨gc, 0, none⟩)) (sk1 ws (k + 6)) (sk2 ws (k + 6)) (chn ws (k + 6) m (nbl n)) (wtn m n) (ctn n))).below (by simp) (fun j hj e => by omega))
  obtain ⟨W3, hW3⟩ : ∃ x, (w2.alloc (.cells Tryd.zeroCells51 51)).setCells w2.heap.size 0 (mcl (.pointer (some ⟨gc, 0, none⟩)) (sk1 ws (k + 6)) (sk2 ws (k + 6)) (chn ws (k + 6) m (nbl n)) (wtn m n) (ctn n)) = x := ⟨_, rfl⟩
  rw [hW3] at s3 b3 k3
  have x3 := b3.cell 0 _ rfl
  have f3 := b3.frozen 0
  have B4 := hid (b3.set 0 (.pointer (some ⟨w.heap.size, 0, none⟩)))
  have K4 := hid (k3.trans ((Kp.setCell w2.heap.size 0 (.pointer (some ⟨w.heap.size, 0, none⟩))).below (w := W3) (by have := b3.lt; omega) (fun j hj e => by omega)))
  clear b3 k3
  go_simp
  go_wp2_with fail
  go_ret2
  have t2 := B2.out.size
  exact ⟨_, _, rfl, ⟨by rw [mcl_set0] at B4; exact B4.out, C2.out.below K4.out, H.out.lt⟩, t2, Nat.le_refl _, below_next B2.out K4.out⟩
end Go.Proofs.YtnncgniiceglaaaDoor.Vm
