/- The walk of SkelNames. -/
import Derived.Test.YtdahogdfonhnfaaVaw
namespace Go.Proofs.Ytdahogdfonhnfaa.Ou
open Go.ChangeShapes Go.WideShapes Go.ChangeAt Go.RowKit
open Go.Proofs.Ytdahogdfonhnfaa.By
open Go.Proofs.Ytdahogdfonhnfaa.Tb (Blk Blk.newAt put_all Kp.setCells)
theorem bd_1 : bd ⟨1, 0, 0, 0, 0, 3, 0⟩ = 99 := by decide
theorem bd_2 : bd ⟨4, 0, 0, 0, 0, 0, 0⟩ = 96 := by decide
theorem bd_3 : bd ⟨0, 0, 0, 0, 0, 0, 0⟩ = 96 := by decide
theorem bd_4 : bd ⟨8, 0, 0, 1000, 64, 8, 0⟩ = 12232 := by decide
theorem bd_5 : bd ⟨2, 0, 0, 0, 4611686018427387904, 0, 0⟩ = 33554528 := by decide
theorem bd_6 : bd ⟨2, 0, 0, 0, 16777216, 0, 0⟩ = 33554528 := by decide
set_option maxRecDepth 8000 in
set_option maxHeartbeats 1200000 in
theorem names_w (w : World) : Calls Try.prog 6 #[] w fun e w' => e = .returned (.bool true) ∧ Below w.heap.size w w' := by
  obtain ⟨W0, hW0⟩ : ∃ W, w.alloc (.cells (bl 5 (fun _ => 0)).toArray 5) = W := ⟨_, rfl⟩
  have mk := make_lc 5 5 (Nat.le_refl _) (by decide) w
  have B : Hid (Below w.heap.size w W0) := by rw [← hW0]; exact below_alloc w _
  rw [hW0] at mk
  have mk' : (Instr.makeSlice 26 (.int .i64 5) (.int .i64 5)).run Try.prog w = .ok (.slice (some ⟨w.heap.size, 0, none⟩) 5 5) W0 := mk
  clear mk hW0
  go_enter Try.func6, Try.ntmps6
  go_wp2_with fail
  clear mk'
  refine (of_ok ⟨7, 2, 1, 9, 40⟩ (some ⟨w.heap.size, 0, none⟩) none 5 5 0 0 W0 (by decide)).mono ?_
  rintro e W1 ⟨rfl, hb⟩
  replace B := hid (below_next B.out hb)
  clear hb
  rw [show ps (sk ⟨7, 2, 1, 9, 40⟩ 5 0) = ⟨7, 2, 1, 0, 40, 5, 0⟩ from rfl]
  obtain ⟨W2, t2, k2, hb, _⟩ := var_sk W1 ⟨7, 2, 1, 0, 40, 5, 0⟩
  have KA := hid k2
  replace B := hid (below_next B.out hb)
  clear k2 hb
  go_wp2_with fail
  clear t2
  have b3 := below_alloc W2 (.cells #[Value.int IntKind.u8 1] 5)
  obtain ⟨W3, hW3⟩ : ∃ W, W2.alloc (.cells #[Value.int IntKind.u8 1] 5) = W := ⟨_, rfl⟩
  rw [hW3] at b3 ⊢
  replace B := hid (below_next B.out b3)
  replace KA := hid (KA.out.below b3)
  clear b3 hW3
  refine (of_ok ⟨77, 3, 0, 0, 0⟩ (some ⟨W2.heap.size, 0, none⟩) none 1 1 0 0 W3 (by decide)).mono ?_
  rintro e W4 ⟨rfl, hb⟩
  replace B := hid (below_next B.out hb)
  replace KA := hid (KA.out.below hb)
  clear hb
  rw [show ps (sk ⟨77, 3, 0, 0, 0⟩ 1 0) = ⟨77, 0, 0, 0, 0, 0, 0⟩ from rfl]
  obtain ⟨W5, t5, k5, hb, _⟩ := var_sk W4 ⟨77, 0, 0, 0, 0, 0, 0⟩
  have KB := hid k5
  replace B := hid (below_next B.out hb)
  replace KA := hid (KA.out.below hb)
  clear k5 hb
  go_wp2_with fail
  clear t5
  refine (fill_ok ⟨3, 0, 0, 0, 0, -1, 0⟩ 0 W5 (by decide) (by decide)).mono ?_
  rintro e W6 ⟨d, m, rfl, od, om, _, hb⟩
  rw [show fe ⟨3, 0, 0, 0, 0, -1, 0⟩ = 2 from rfl, show fq ⟨3, 0, 0, 0, 0, -1, 0⟩ = ⟨0, 0, 0, 0, 0⟩ from rfl]
  replace B := hid (below_next B.out hb)
  replace KA := hid (KA.out.below hb)
  replace KB := hid (KB.out.below hb)
  clear hb
  obtain ⟨W7, t6, _, hb, _⟩ := var_op W6 ⟨0, 0, 0, 0, 0⟩ (own_one od) (own_one om)
  obtain ⟨a8, c8, rfl⟩ := own_lit_slice od
  obtain ⟨a9, c9, rfl⟩ := own_lit_slice om
  replace B := hid (below_next B.out hb)
  replace KA := hid (KA.out.below hb)
  replace KB := hid (KB.out.below hb)
  clear hb od om
  go_wp2_with fail
  clear t6
  refine (fill_ok ⟨3, 0, 0, 0, 0, 16777216, 0⟩ 0 W7 (by decide) (by decide)).mono ?_
  rintro e W8 ⟨d, m, rfl, od, om, _, hb⟩
  rw [show fe ⟨3, 0, 0, 0, 0, 16777216, 0⟩ = 2 from rfl, show fq ⟨3, 0, 0, 0, 0, 16777216, 0⟩ = ⟨0, 0, 0, 0, 0⟩ from rfl]
  replace B := hid (below_next B.out hb)
  replace KA := hid (KA.out.below hb)
  replace KB := hid (KB.out.below hb)
  clear hb
  obtain ⟨W9, t6, _, hb, _⟩ := var_op W8 ⟨0, 0, 0, 0, 0⟩ (own_one od) (own_one om)
  obtain ⟨a8, c8, rfl⟩ := own_lit_slice od
  obtain ⟨a9, c9, rfl⟩ := own_lit_slice om
  replace B := hid (below_next B.out hb)
  replace KA := hid (KA.out.below hb)
  replace KB := hid (KB.out.below hb)
  clear hb od om
  go_wp2_with fail
  clear t6
  refine (bound_ok ⟨1, 0, 0, 0, 0, 3, 0⟩ W9).mono ?_
  rintro e W10 ⟨rfl, hb⟩
  replace B := hid (below_next B.out hb)
  replace KA := hid (KA.out.below hb)
  replace KB := hid (KB.out.below hb)
  clear hb
  rw [bd_1]
  go_wp2_with fail
  refine (bound_ok ⟨4, 0, 0, 0, 0, 0, 0⟩ W10).mono ?_
  rintro e W11 ⟨rfl, hb⟩
  replace B := hid (below_next B.out hb)
  replace KA := hid (KA.out.below hb)
  replace KB := hid (KB.out.below hb)
  clear hb
  rw [bd_2]
  go_wp2_with fail
  refine (bound_ok ⟨0, 0, 0, 0, 0, 0, 0⟩ W11).mono ?_
  rintro e W12 ⟨rfl, hb⟩
  replace B := hid (below_next B.out hb)
  replace KA := hid (KA.out.below hb)
  replace KB := hid (KB.out.below hb)
  clear hb
  rw [bd_3]
  go_wp2_with fail
  refine (bound_ok ⟨8, 0, 0, 1000, 64, 8, 0⟩ W12).mono ?_
  rintro e W13 ⟨rfl, hb⟩
  replace B := hid (below_next B.out hb)
  replace KA := hid (KA.out.below hb)
  replace KB := hid (KB.out.below hb)
  clear hb
  rw [bd_4]
  go_wp2_with fail
  refine (bound_ok ⟨2, 0, 0, 0, 4611686018427387904, 0, 0⟩ W13).mono ?_
  rintro e W14 ⟨rfl, hb⟩
  replace B := hid (below_next B.out hb)
  replace KA := hid (KA.out.below hb)
  replace KB := hid (KB.out.below hb)
  clear hb
  rw [bd_5]
  go_wp2_with fail
  refine (bound_ok ⟨2, 0, 0, 0, 16777216, 0, 0⟩ W14).mono ?_
  rintro e W15 ⟨rfl, hb⟩
  replace B := hid (below_next B.out hb)
  replace KA := hid (KA.out.below hb)
  replace KB := hid (KB.out.below hb)
  clear hb
  rw [bd_6]
  go_wp2_with fail
  refine (awake_ok W15).mono ?_
  rintro e W16 ⟨rfl, hb⟩
  replace B := hid (below_next B.out hb)
  replace KA := hid (KA.out.below hb)
  replace KB := hid (KB.out.below hb)
  clear hb
  have q1 := Sx.eqS_refl ⟨7, 2, 1, 0, 40, 5, 0⟩
  have q2 := Sx.eqS_refl ⟨77, 0, 0, 0, 0, 0, 0⟩
  have la := LDk_run KA.out
  have lb := LDk_run KB.out
  go_wp2
  go_ret
  exact ⟨rfl, B.out⟩
end Go.Proofs.Ytdahogdfonhnfaa.Ou
