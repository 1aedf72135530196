/- What the program's function Permute answers, with a ledger and without one. -/
import Derived.Test.YtidejhkajabdfaaDoorQlg
import Derived.Test.YtidejhkajabdfaaDoorQmove
import Derived.Test.YtidejhkajabdfaaDoorQjoin
namespace Go.Proofs.YtidejhkajabdfaaDoor.Kc
open Go.ChangeShapes Go.WideShapes Go.ChangeAt Go.RowKit
open Go.Proofs.YtidejhkajabdfaaDoor.By Go.Proofs.YtidejhkajabdfaaDoor.Wd
set_option maxRecDepth 4000 in
set_option maxHeartbeats 2000000 in
theorem permute1 (S : Nat → Prop) (w0 w : World) (lo : Option Nat) (L : List Rn) (a : Nat → Int) (ha : AW a) (h : LG S w0 w lo L) (h0 : Kp S w0 w) (hr : Room L) (hk : KT w0) (s0 : ¬ S 0) (s1 : ¬ S 1) :
    Calls Tryd.prog 65 #[lpv lo, .agg (wl 25 a).toArray] w fun e w' => e = .returned (.agg (wl 25 (perm a)).toArray) ∧ LG S w0 w' lo (putL L ⟨3, 200, 1⟩) ∧ Kp S w0 w' ∧ Kt w w' := by
  have HA := hid ha
  have HL0 := hid h
  have HP0 := hid h0
  have HK := hid hk
  have HR := hid hr
  have hz0 := h0.size
  clear ha h h0 hk hr
  go_enter Tryd.func65, Tryd.ntmps65
  go_wp2_with fail
  have q1 : Below w.heap.size w ((w.alloc (.cells (wl 25 a).toArray 103)).alloc (.cells (wl 25 (fun _ => 0)).toArray 103)) := below_next (below_alloc w _) (below_alloc _ _)
  rw [← z25] at q1
  refine (note_lg S w0 _ lo L 3 200 (by omega) (by omega) (HL0.out.below q1) (HP0.out.trans (Kp.of_below S q1) (fun _ _ e => e)) HR.out).mono ?_
  rintro e w1 ⟨rfl, hl1, hp1, ht1⟩
  have b0 := ht1 w.heap.size (wl 25 a) 103 ((Blk.new w _ _).alloc _) (by decide) (by decide)
  have b1 := ht1 (w.heap.size + 1) (wl 25 (fun _ => 0)) 103 (Blk.newAt _ _ _ _ _ (by rw [size_alloc]) z25) (by decide) (by decide)
  have B0 := hid b0
  have B1 := hid b1
  have HL := hid hl1
  have HP := hid hp1
  have HT : Hid (Kt w w1) := fun g cs t hg n1 n2 => ht1 g cs t (hg.below q1) n1 n2
  clear b0 b1 hl1 hp1 ht1 q1 HL0 HP0
  go_wp2_with fail
  go_loopw [9] (fun i wr => ∃ k : Nat, k ≤ 24 ∧ i = .int .i64 k ∧ Blk wr w.heap.size (wl 25 (rds a k)) 103 ∧ Blk wr (w.heap.size + 1) (wl 25 (fun _ => 0)) 103 ∧ LG S w0 wr lo (putL L ⟨3, 200, 1⟩) ∧ Kp S w0 wr ∧ Kt w wr) (fun i _ => 24 - (intOf i).toNat)
  case atStart => exact ⟨0, Nat.zero_le _, rfl, B0.out, B1.out, HL.out, HP.out, HT.out⟩
  case round =>
    clear B0 B1 HL HP HT
    obtain ⟨k, hk, rfl, b0, b1, hl, hp, ht⟩ := hrel
    have B0 := hid b0
    have B1 := hid b1
    have HL := hid hl
    have HP := hid hp
    have HT := hid ht
    have HZ := hid b1.lt
    clear b0 b1 hl hp ht
    by_cases hlt : k < 24
    · have l1 := LDk_run (B0.out.range 0 _ (fun j v h => by rw [Nat.zero_add]; exact h)) (wl_length _ _)
      go_wp2_with fail
      refine (mixed1 (rds a k) (rds_w HA.out k) _).mono ?_
      rintro e w2 ⟨rfl, hb2⟩
      have hk2 := hid ((HK.out.kept HP.out s0 s1).below hb2)
      have HB2 := hid hb2
      clear hb2 l1
      go_wp2_with fail
      refine (moved1 (mix (rds a k)) (mix_w _) _ hk2.out).mono ?_
      rintro e w3 ⟨rfl, hb3⟩
      have HB3 := hid (below_next HB2.out hb3)
      clear hb3 hk2 HB2
      go_wp2_with fail
      refine (joined1 (mv (mix (rds a k))) _).mono ?_
      rintro e w4 ⟨rfl, hb4⟩
      have bel := below_next HB3.out hb4
      clear hb4 HB3
      have hz := HZ.out
      have c0 := hid (B0.out.below bel)
      have c1 := hid (B1.out.below bel)
      have cl := hid (HL.out.below bel)
      have cp := hid (HP.out.trans (Kp.of_below S bel) (fun _ _ e => e))
      have ct : Hid (Kt w w4) := fun g cs t hg n1 n2 => (HT.out g cs t hg n1 n2).below bel
      clear B0 B1 HL HP HT bel
      have s1' := SVk_run (cs := wl 25 (jn (mv (mix (rds a k))))) (c0.out.there 0 25 (by rw [wl_length]; omega)) (wl_length _ _) (wl_one _ _)
      have d0 := c0.out.put 0 (wl 25 (jn (mv (mix (rds a k)))))
      rw [put_all _ _ (by rw [wl_length, wl_length])] at d0
      have D0 := hid d0
      have D1 := hid (c1.out.kept (Kp.setCells w.heap.size 0 (wl 25 (jn (mv (mix (rds a k)))))) (by omega))
      have DL := hid (cl.out.kept (Kp.setCells w.heap.size 0 (wl 25 (jn (mv (mix (rds a k)))))) (fun g e => by subst e; exact ⟨_, _, c0.out, by decide, by decide⟩))
      have DP := hid (cp.out.trans (Kp.setCells w.heap.size 0 (wl 25 (jn (mv (mix (rds a k)))))) (fun i hi e => by omega))
      have DT : Hid (Kt w (w4.setCells w.heap.size 0 (wl 25 (jn (mv (mix (rds a k))))))) := fun g cs t hg n1 n2 => (ct.out g cs t hg n1 n2).kept (Kp.setCells _ 0 _) (by have := hg.lt; omega)
      clear d0 c0 c1 cl cp ct
      have EX : Hid ((wl 25 (jn (mv (mix (rds a k))))).set 0 (.int .u64 (bits BinOp.xor IntKind.u64 (jn (mv (mix (rds a k))) 0) (RC k))) = wl 25 (rds a (k + 1))) := by
        show _ = wl 25 (io (RC k) (jn (mv (mix (rds a k)))))
        rw [wl_set]
        rfl
      obtain ⟨g, eg⟩ : ∃ z, jn (mv (mix (rds a k))) = z := ⟨_, rfl⟩
      rw [eg] at s1' D0 D1 DL DP DT EX
      rw [eg]
      clear eg
      have y0 := D0.out.cell 0 _ (wl_get 25 g 0 (by omega))
      have yf := D0.out.frozen 0
      have yk := (HK.out.kept DP.out s0 s1).c k _ (wl_get 24 RC k hlt)
      rw [Nat.zero_add] at yk
      go_wp2_with fail
      obtain ⟨W, hW⟩ : ∃ z, w4.setCells w.heap.size 0 (wl 25 g) = z := ⟨_, rfl⟩
      rw [hW] at D0 D1 DL DP DT y0 yf yk
      rw [hW]
      clear hW s1'
      have HZ2 := hid D1.out.lt
      go_region
      go_wp2_with fail
      have hz2 := HZ2.out
      refine ⟨⟨k + 1, by omega, by go_num, ?_, (D1.out.other (by omega) _ _).drewN _, ?_, ?_, ?_⟩, by simp [intOf]; omega⟩
      · rw [← EX.out]; exact (D0.out.set _ _).drewN _
      · exact (DL.out.kept (Kp.setCell _ _ _) (fun g e => by subst e; exact ⟨_, _, D0.out, by decide, by decide⟩)).below (below_drewN _ _)
      · exact (DP.out.trans (Kp.setCell _ _ _) (fun i hi e => by omega)).trans (Kp.of_below S (below_drewN _ _)) (fun _ _ e => e)
      · exact fun g cs t hg n1 n2 => ((DT.out g cs t hg n1 n2).kept (Kp.setCell _ _ _) (by have := hg.lt; omega)).drewN _
    · have ek : k = 24 := by omega
      subst ek
      have l1 := LDk_run (B0.out.range 0 _ (fun j v h => by rw [Nat.zero_add]; exact h)) (wl_length _ _)
      have s1 := SVk_run (cs := wl 25 (rds a 24)) (B1.out.there 0 25 (by rw [wl_length]; omega)) (wl_length _ _) (wl_one _ _)
      have b3 := B1.out.put 0 (wl 25 (rds a 24))
      rw [put_all _ _ (by rw [wl_length, wl_length])] at b3
      have l2 := hid (LDk_run (b3.range 0 _ (fun j v h => by rw [Nat.zero_add]; exact h)) (wl_length _ _))
      clear b3
      go_wp2
      have hz := HZ.out
      refine bodyPost_ret (v := .agg (wl 25 (rds a 24)).toArray) ?_ rfl ⟨rfl, HL.out.kept (Kp.setCells _ 0 _) (fun g e => by subst e; exact ⟨_, _, B1.out, by decide, by decide⟩), HP.out.trans (Kp.setCells _ 0 _) (fun i hi e => by omega), fun g cs t hg n1 n2 => (HT.out g cs t hg n1 n2).kept (Kp.setCells _ 0 _) (by have := hg.lt; omega)⟩
      exact results_cell1 Tryd.results65 rfl l2.out
end Go.Proofs.YtidejhkajabdfaaDoor.Kc
