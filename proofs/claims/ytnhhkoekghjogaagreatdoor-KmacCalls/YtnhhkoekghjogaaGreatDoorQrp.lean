/- What the document's Permute answers, without a ledger; a number picked; the runs of so many permutations. -/
import Derived.Test.YtnhhkoekghjogaaGreatDoorQround
import Derived.Test.YtnhhkoekghjogaaGreatDoorKd
import Derived.Deep.RegionWith
import Derived.Deep.DeepMust
namespace Go.Proofs.YtnhhkoekghjogaaGreatDoor.Kc
open Go.ChangeShapes Go.WideShapes Go.ChangeAt Go.RowKit
open Go.Proofs.YtnhhkoekghjogaaGreatDoor.By Go.Proofs.YtnhhkoekghjogaaGreatDoor.Wd
set_option maxHeartbeats 1000000 in
theorem refNoteTimesN (k s n : Int) (w : World) :
    Calls Tryz.prog 91 #[.pointer none, .agg #[.int .u8 k, .int .i64 s], .int .i64 n] w fun e w' => e = .returned (.tuple #[]) ∧ Below w.heap.size w w' := by
  go_enter Tryz.func91, Tryz.ntmps91
  go_wp2
  refine bodyPost_ret (results_none rfl _ _ _) rfl ?_
  exact ⟨rfl, below_alloc _ _⟩
set_option maxHeartbeats 1000000 in
theorem refNoteN (k s : Int) (w : World) :
    Calls Tryz.prog 84 #[.pointer none, .agg #[.int .u8 k, .int .i64 s]] w fun e w' => e = .returned (.tuple #[]) ∧ Below w.heap.size w w' := by
  have HA := hid (below_alloc w (.cells #[.int .u8 k, .int .i64 s] 79))
  go_enter Tryz.func84, Tryz.ntmps84
  go_wp2_with fail
  refine (refNoteTimesN k s 1 _).mono ?_
  rintro e w1 ⟨rfl, hb⟩
  have HB := hid (below_next HA.out hb)
  clear hb
  go_wp2
  go_end0
  exact ⟨rfl, HB.out⟩
set_option maxRecDepth 4000 in
set_option maxHeartbeats 2000000 in
theorem refPermute1 (a : Nat → Int) (ha : AW a) (w : World) :
    Calls Tryz.prog 88 #[.pointer none, .agg (wl 25 a).toArray] w fun e w' => e = .returned (.agg (wl 25 (perm a)).toArray) ∧ Below w.heap.size w w' := by
  have HA := hid ha
  clear ha
  go_enter Tryz.func88, Tryz.ntmps88
  go_wp2_with fail
  have q1 : Below w.heap.size w ((w.alloc (.cells (wl 25 a).toArray 121)).alloc (.cells (wl 25 (fun _ => 0)).toArray 121)) := below_next (below_alloc w _) (below_alloc _ _)
  rw [← z25] at q1
  refine (refNoteN 3 200 _).mono ?_
  rintro e w1 ⟨rfl, hb1⟩
  have B0 := hid (((Blk.new w (wl 25 a) 121).alloc _).below hb1)
  have B1 := hid ((Blk.newAt (w.alloc (.cells (wl 25 a).toArray 121)) _ (wl 25 (fun _ => 0)) 121 (w.heap.size + 1) (by rw [size_alloc]) z25).below hb1)
  have HB := hid (below_next q1 hb1)
  clear q1 hb1
  go_wp2_with fail
  go_loopw [5] (fun i wr => ∃ k : Nat, k ≤ 24 ∧ i = .int .i64 k ∧ Blk wr w.heap.size (wl 25 (rds a k)) 121 ∧ Blk wr (w.heap.size + 1) (wl 25 (fun _ => 0)) 121 ∧ Below w.heap.size w wr) (fun i _ => 24 - (intOf i).toNat)
  case atStart => exact ⟨0, Nat.zero_le _, rfl, B0.out, B1.out, HB.out⟩
  case round =>
    clear B0 B1 HB
    obtain ⟨k, hk, rfl, b0, b1, hbel⟩ := hrel
    have B0 := hid b0
    have B1 := hid b1
    have HB := hid hbel
    have HZ := hid b1.lt
    clear b0 b1 hbel
    by_cases hlt : k < 24
    · have LS : Hid (∀ d, (LDt ⟨w.heap.size, 0, none⟩).run Tryz.prog (wr.drewN d) = .ok (.agg (wl 25 (rds a k)).toArray) (wr.drewN d)) := fun d => LDt_run ((B0.out.drewN d).range 0 _ (fun j v h => by rw [Nat.zero_add]; exact h)) (wl_length _ _)
      have l1 : (LDt ⟨w.heap.size, 0, none⟩).run Tryz.prog wr.drew = .ok (.agg (wl 25 (rds a k)).toArray) wr.drew := LS.out 1
      have HW := hid (rds_w HA.out k)
      go_wp2_with fail
      go_region_with (first | (go_at_call 96; go_must (refine (constant1 k hlt _).mono ?_; rintro e w' ⟨rfl, d, rfl⟩; have l3 := LS.out (1 + d); have l4 : (LDt ⟨w.heap.size, 0, none⟩).run Tryz.prog (wr.drew.drewN d) = .ok (.agg (wl 25 (rds a k)).toArray) (wr.drew.drewN d) := by rw [show wr.drew.drewN d = wr.drewN (1 + d) from drewN_two wr 1 d]; exact LS.out (1 + d))) | (go_at_call 95; go_must (refine (round1 (rds a k) HW.out (RC k) _).mono ?_; rintro e w2 ⟨rfl, hb2⟩; have hb := hid (show Below wr.heap.size wr w2 from ⟨hb2.os, hb2.tape, hb2.output, hb2.size, hb2.block⟩); have s1 := SVt_run (cs := wl 25 (rd (RC k) (rds a k))) ((B0.out.below hb.out).there 0 25 (by rw [wl_length]; omega)) (wl_length _ _) (wl_one _ _); clear hb2)))
      all_goals
        go_wp2_with fail
        have hz := HZ.out
        have b3 := (B0.out.below hb.out).put 0 (wl 25 (rd (RC k) (rds a k)))
        rw [put_all _ _ (by rw [wl_length, wl_length])] at b3
        exact ⟨⟨k + 1, by omega, by go_num, b3, (B1.out.below hb.out).kept (Kp.setCells _ 0 _) (by omega), below_cells (below_next HB.out hb.out) _ _ _ (Nat.le_refl _) (below_next HB.out hb.out).size⟩, by simp [intOf]; omega⟩
    · have ek : k = 24 := by omega
      subst ek
      have l1 := LDt_run (B0.out.range 0 _ (fun j v h => by rw [Nat.zero_add]; exact h)) (wl_length _ _)
      have s1 := SVt_run (cs := wl 25 (rds a 24)) (B1.out.there 0 25 (by rw [wl_length]; omega)) (wl_length _ _) (wl_one _ _)
      have b3 := B1.out.put 0 (wl 25 (rds a 24))
      rw [put_all _ _ (by rw [wl_length, wl_length])] at b3
      have l2 := hid (LDt_run (b3.range 0 _ (fun j v h => by rw [Nat.zero_add]; exact h)) (wl_length _ _))
      clear b3
      go_wp2
      have hz := HZ.out
      refine bodyPost_ret (v := .agg (wl 25 (rds a 24)).toArray) ?_ rfl ⟨rfl, below_cells HB.out _ _ _ (by omega) HB.out.size⟩
      exact results_cell1 Tryz.results88 rfl l2.out
theorem pick4 (i : Int) (w : World) :
    Calls Tryz.prog 26 #[.int .i64 i, .int .i64 4] w fun e w' => (∃ p : Nat, p < 4 ∧ e = .returned (.int .i64 p)) ∧ w' = w := by
  have a1 := Int.tmod_lt_of_pos i (show (0 : Int) < 4 by omega)
  have a2 : - 4 < i.tmod 4 := by
    have := Int.lt_tmod_of_pos i (show (0 : Int) < 4 by omega)
    omega
  obtain ⟨q, hq⟩ : ∃ q, i.tmod 4 = q := ⟨_, rfl⟩
  rw [hq] at a1 a2
  by_cases hlt : q < 0
  · go_enter Tryz.func26, Tryz.ntmps26
    go_wp2
    go_ret
    exact ⟨⟨(q + 4).toNat, by omega, by rw [show (((q + 4).toNat : Nat) : Int) = q + 4 by omega]; rfl⟩, rfl⟩
  · go_enter Tryz.func26, Tryz.ntmps26
    go_wp2
    go_ret
    exact ⟨⟨q.toNat, by omega, by rw [show ((q.toNat : Nat) : Int) = q by omega]; rfl⟩, rfl⟩
end Go.Proofs.YtnhhkoekghjogaaGreatDoor.Kc
