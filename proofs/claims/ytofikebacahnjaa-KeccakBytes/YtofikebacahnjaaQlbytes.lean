/- The walk of the statement KeccakBytes. -/
import Derived.Test.YtofikebacahnjaaQstate
import Derived.Test.YtofikebacahnjaaQkfb
import Derived.Test.YtofikebacahnjaaQrb
import Derived.Test.YtofikebacahnjaaQeq
import Derived.Deep.RegionWith
import Derived.Deep.DeepMust
namespace Go.Proofs.Ytofikebacahnjaa.Kc
open Go.ChangeShapes Go.WideShapes Go.ChangeAt Go.RowKit
open Go.Proofs.Ytofikebacahnjaa.By Go.Proofs.Ytofikebacahnjaa.Wd
set_option maxRecDepth 4000 in
set_option maxHeartbeats 2000000 in
theorem keccakBytes_walk (v : Value) (n : Nat) (f : Nat → Int) (w : World) (hr : By.RB w v n f) (hn : n ≤ 140737488355328) :
    Calls Try.prog 3 #[v] w fun e w' => e = .returned (.bool true) ∧ Below w.heap.size w w' := by
  have HR := hid hr
  have HF : Hid (BB (pb f n)) := pb_b hr.1 n
  clear hr
  go_enter Try.func3, Try.ntmps3
  go_wp2_with fail
  refine (state1 v n f w HR.out hn).mono ?_
  rintro e w1 ⟨rfl, hb1⟩
  have HA := hid (fl_w HF.out)
  obtain ⟨A, eA⟩ : ∃ z, fl (pb f n) = z := ⟨_, rfl⟩
  rw [eA] at HA
  rw [eA]
  clear eA
  have s1 := SVt_run (cs := wl 25 A) ((Blk.newAt w1 _ (wl 25 (fun _ => 0)) 24 w1.heap.size rfl y25).there 0 25 (by rw [wl_length]; omega)) (wl_length _ _) (wl_one _ _)
  have b0 := (Blk.newAt w1 _ (wl 25 (fun _ => 0)) 24 w1.heap.size rfl y25).put 0 (wl 25 A)
  rw [put_all _ _ (by rw [wl_length, wl_length])] at b0
  have BE2 := hid (below_cells (below_next hb1 (below_alloc w1 (.cells (wl 25 (fun _ => 0)).toArray 24))) w1.heap.size 0 (wl 25 A) hb1.size (by have := hb1.size; rw [size_alloc]; omega))
  rw [← y25] at BE2
  have l1 := LDt_run (b0.range 0 _ (fun j v h => by rw [Nat.zero_add]; exact h)) (wl_length _ _)
  have B0 := hid b0
  have HZ := hid hb1.size
  clear b0 hb1
  go_wp2_with fail
  obtain ⟨W, hW⟩ : ∃ z, World.setCells (w1.alloc (.cells #[Value.int .u64 0, .int .u64 0, .int .u64 0, .int .u64 0, .int .u64 0, .int .u64 0, .int .u64 0, .int .u64 0, .int .u64 0, .int .u64 0, .int .u64 0, .int .u64 0, .int .u64 0, .int .u64 0, .int .u64 0, .int .u64 0, .int .u64 0, .int .u64 0, .int .u64 0, .int .u64 0, .int .u64 0, .int .u64 0, .int .u64 0, .int .u64 0, .int .u64 0] 24)) w1.heap.size 0 (wl 25 A) = z := ⟨_, rfl⟩
  rw [hW] at B0 BE2 l1
  rw [hW]
  clear hW s1
  obtain ⟨gs, hgs⟩ : ∃ z, w1.heap.size = z := ⟨_, rfl⟩
  rw [hgs] at B0 l1 HZ
  rw [hgs]
  clear hgs
  refine (refBytes1 A HA.out W).mono ?_
  rintro e w2 ⟨rfl, hb2⟩
  have c0 := B0.out.below hb2
  have BE3 := hid (below_next BE2.out hb2)
  have s2 := SVb_run (cs := bl 200 (bf A)) ((Blk.newAt w2 zc200 (bl 200 (fun _ => 0)) 26 w2.heap.size rfl rfl).there 0 200 (by rw [bl_length]; omega)) (bl_length _ _) (bl_one _ _)
  have b1 := (Blk.newAt w2 zc200 (bl 200 (fun _ => 0)) 26 w2.heap.size rfl rfl).put 0 (bl 200 (bf A))
  rw [put_all _ _ (by rw [bl_length, bl_length])] at b1
  have B1 := hid b1
  have C0 := hid ((c0.alloc (.cells zc200 26)).kept (Kp.setCells w2.heap.size 0 (bl 200 (bf A))) (by have := c0.lt; omega))
  have BE4 := hid (below_cells (below_next BE3.out (below_alloc w2 (.cells zc200 26))) w2.heap.size 0 (bl 200 (bf A)) BE3.out.size (by have := BE3.out.size; rw [size_alloc]; omega))
  clear b1 c0 hb2 l1
  go_wp2_with fail
  obtain ⟨V, hV⟩ : ∃ z, World.setCells (w2.alloc (.cells zc200 26)) w2.heap.size 0 (bl 200 (bf A)) = z := ⟨_, rfl⟩
  rw [hV] at B1 C0 BE4
  rw [hV]
  clear hV s2 B0 BE3 BE2 HZ
  obtain ⟨gb, hgb⟩ : ∃ z, w2.heap.size = z := ⟨_, rfl⟩
  rw [hgb] at B1
  rw [hgb]
  clear hgb
  have LS : Hid (∀ V', Below V.heap.size V V' → (LDt ⟨gs, 0, none⟩).run Try.prog V' = .ok (.agg (wl 25 A).toArray) V') := fun V' h => LDt_run ((C0.out.below h).range 0 _ (fun j v h => by rw [Nat.zero_add]; exact h)) (wl_length _ _)
  have LB : Hid (∀ V', Below V.heap.size V V' → (LDb ⟨gb, 0, none⟩).run Try.prog V' = .ok (.agg (bl 200 (bf A)).toArray) V') := fun V' h => LDb_run ((B1.out.below h).range 0 _ (fun j v h => by rw [Nat.zero_add]; exact h)) (bl_length _ _)
  have l1 := LS.out V.drew (below_drewN V 1)
  have l2 := LB.out V.drew (below_drewN V 1)
  have e1 : eq200 (bf A) (bf A) = true := eq200_true (fun _ _ => rfl)
  have e2 : eq25 (fl (bf A)) A = true := eq25_true (fun i _ => fl_bf HA.out i)
  have HB0 := hid (bf_b A)
  have BD := hid (below_drewN V 1)
  go_region_with (first | (go_at_call 6; go_must (refine (bytes1 A HA.out _).mono ?_; rintro e w3 ⟨rfl, hb3⟩; have l3 := LS.out w3 (below_next BD.out hb3); have l4 := LB.out w3 (below_next BD.out hb3); have BD3 := hid (below_next BD.out hb3); clear hb3)) | (go_at_call 7; go_must (refine (from1 (bf A) HB0.out _).mono ?_; rintro e w4 ⟨rfl, hb4⟩; have l5 := LS.out w4 (below_next BD3.out hb4); have l6 := LB.out w4 (below_next BD3.out hb4); have BD4 := hid (below_next BD3.out hb4); clear hb4)))
  all_goals
    go_wp2
    go_ret
    exact ⟨rfl, below_next BE4.out BD4.out⟩
end Go.Proofs.Ytofikebacahnjaa.Kc
