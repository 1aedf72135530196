/- The statement's walk: numbers and examples of layer 18. -/
import Derived.Test.YthoklddoeoedgaaSlit
import Derived.Deep.RegionHeld3
namespace Go.Proofs.Ythoklddoeoedgaa.Sl
open Go.ChangeShapes Go.WideShapes Go.ChangeAt Go.RowKit
open Go.Proofs.Ythoklddoeoedgaa.By
theorem ok86 : ∀ r ∈ ([⟨8, 1024, 1⟩, ⟨6, 1024, 1⟩] : List Rn), r.Ok := by
  intro r hr
  simp only [List.mem_cons, List.not_mem_nil, or_false] at hr
  rcases hr with rfl | rfl
  · exact ok8
  · exact ok6
set_option maxRecDepth 20000 in
set_option maxHeartbeats 1200000 in
theorem names (w : World) : Calls Try.prog 4 #[] w fun e w' => e = .returned (.bool true) ∧ Below w.heap.size w w' := by
  have G0 := hid (GX.start w)
  obtain ⟨F3, e3, b3⟩ := bld3
  obtain ⟨F0, e0, b0⟩ := bld0
  have E1 : eqS (kf (some (3, cut 3 (lst [1, 2, 3])))) F3 = true := eqS_true (fun i _ => by rw [e3 i]; exact cut_lst [1, 2, 3] i)
  have E2 : eqS (kf (some (0, fun _ => 0))) F0 = true := eqS_true (fun i _ => by rw [e0 i]; rfl)
  clear e3 e0
  have E4 : sc (some (2, cut 2 (lst [0, 0]))) (some (0, fun _ => 0)) = true := by
    show eqB _ _ 1024 = true
    rw [eqB_S]
    refine eqS_true (fun i _ => ?_)
    refine (cut_lst [0, 0] i).trans ?_
    match i with
    | 0 => rfl
    | 1 => rfl
    | (j + 2) => rfl
  go_enter Try.func4, Try.ntmps4
  go_wp2_with fail
  refine (gx_new G0.out 0).mono ?_
  rintro e W1 ⟨rfl, t1, hg, h0, -⟩
  have G1 := hid hg
  have H0 := hid h0
  clear hg h0 G0
  go_wp2_with fail
  refine (gx_put (G1.out.below (below_alloc _ _)) H0.out (rb_lit W1 (#[.int .u8 1, .int .u8 2, .int .u8 3]) 3 (lst [1, 2, 3]) (lst_bound _ rfl) (by simp [maxLen]) rfl (by kernel_rfl))).mono ?_
  rintro e W2 ⟨rfl, t2, hg, h0, -⟩
  replace G1 := hid hg
  replace H0 := hid h0
  clear hg h0
  rw [show pc (some (0, fun _ => 0)) 3 = 0 from rfl]
  rw [show pk (some (0, fun _ => 0)) 3 (lst [1, 2, 3]) = some (3, cut 3 (lst [1, 2, 3])) from rfl] at H0
  go_wp2_with fail
  refine (gx_look G1.out H0.out).mono ?_
  rintro e W3 ⟨rfl, hg, -⟩
  replace G1 := hid hg
  clear hg
  go_wp2_with fail
  refine (gx_bytes G1.out H0.out 3).mono ?_
  rintro e W4 ⟨v, rfl, t3, hg, h3, hB⟩
  replace G1 := hid hg
  replace H0 := hid ((hB 0 (by decide) (by decide)).trans H0.out)
  have R3 := hid (hg.rd h3)
  clear hg h3 hB
  go_wp2_with fail
  refine (same_true v _ 3 (kf (some (3, cut 3 (lst [1, 2, 3])))) (lst [1, 2, 3]) _ (R3.out.below (below_alloc _ _)) (rb_lit W4 (#[.int .u8 1, .int .u8 2, .int .u8 3]) 3 (lst [1, 2, 3]) (lst_bound _ rfl) (by simp [maxLen]) rfl (by kernel_rfl)) (by omega) (fun i _ => cut_lst [1, 2, 3] i)).mono ?_
  rintro e W5 ⟨rfl, d, hd⟩
  replace G1 := hid ((G1.out.below (below_alloc W4 (.cells #[.int .u8 1, .int .u8 2, .int .u8 3] 5))).drewN d)
  rw [← hd] at G1
  clear hd R3
  go_wp2_with fail
  refine (gx_len G1.out H0.out).mono ?_
  rintro e W5 ⟨rfl, rfl⟩
  rw [show kn (some (3, cut 3 (lst [1, 2, 3]))) = 3 from rfl]
  obtain ⟨i0, hi, hz0, hz1, hz2⟩ := info_parts info5
  go_wp2_with (at_make; go_must (refine wpList_make_full _ rfl _ _ 36 rfl W5.heap.size 5 i0 (.int .u8 0) 1 Try.underlying36 hi hz0 hz1 .i64 .i64 _ _ 1025 rfl rfl rfl rfl (by rw [hz2]; omega) (by simp [maxLen]) (Nat.le_refl _) ?_))
  intro W6 hown hgrow
  replace G1 := hid (G1.out.below (Below.of_grown hgrow))
  rw [bl_zero] at hown
  have R5 : Hid (By.RB W6 _ 1025 (fun _ => 0)) := By.Own.reads (⟨fun _ => by show (0 : Int) ≤ 0 ∧ (0 : Int) < 256; decide, hown⟩ : By.Own W6 W5.heap.size _ 1025 (fun _ => 0))
  clear hown hgrow
  go_wp2_with fail
  refine (gx_put G1.out H0.out R5.out).mono ?_
  rintro e W7 ⟨rfl, t4, hg, h0, -⟩
  replace G1 := hid hg
  replace H0 := hid h0
  clear hg h0 R5
  rw [show pc (some (3, cut 3 (lst [1, 2, 3]))) 1025 = 9 from rfl]
  rw [show pk (some (3, cut 3 (lst [1, 2, 3]))) 1025 (fun _ => 0) = some (3, cut 3 (lst [1, 2, 3])) from rfl] at H0
  go_wp2_with (at_make; go_must (refine wpList_make_full _ rfl _ _ 36 rfl W7.heap.size 5 i0 (.int .u8 0) 1 Try.underlying36 hi hz0 hz1 .i64 .i64 _ _ 1024 rfl rfl rfl rfl (by rw [hz2]; omega) (by simp [maxLen]) (Nat.le_refl _) ?_))
  intro W8 hown hgrow
  replace G1 := hid (G1.out.below (Below.of_grown hgrow))
  rw [bl_zero] at hown
  have R5 : Hid (By.RB W8 _ 1024 (fun _ => 0)) := By.Own.reads (⟨fun _ => by show (0 : Int) ≤ 0 ∧ (0 : Int) < 256; decide, hown⟩ : By.Own W8 W7.heap.size _ 1024 (fun _ => 0))
  clear hown hgrow
  go_wp2_with fail
  refine (gx_put G1.out H0.out R5.out).mono ?_
  rintro e W9 ⟨rfl, t5, hg, h0, -⟩
  replace G1 := hid hg
  replace H0 := hid h0
  clear hg h0 R5
  rw [show pc (some (3, cut 3 (lst [1, 2, 3]))) 1024 = 0 from rfl]
  rw [show pk (some (3, cut 3 (lst [1, 2, 3]))) 1024 (fun _ => 0) = some (1024, cut 1024 (fun _ => 0)) from rfl] at H0
  go_wp2_with fail
  refine (gx_led G1.out 1).mono ?_
  rintro e Wa ⟨rfl, t6, hg, h1, hB⟩
  replace G1 := hid hg
  replace H0 := hid ((hB 0 (by decide) (by decide)).trans H0.out)
  have H1 := hid h1
  clear hg h1 hB
  go_wp2_with fail
  refine (gx_wipe G1.out H0.out H1.out (by decide) (by unfold Room; decide)).mono ?_
  rintro e Wb ⟨rfl, t7, hg, h0, h1, -⟩
  replace G1 := hid hg
  replace H0 := hid h0
  replace H1 := hid h1
  clear hg h0 h1
  rw [show wc (some (1024, cut 1024 (fun _ => 0))) = 0 from rfl]
  rw [show wk (some (1024, cut 1024 (fun _ => 0))) = some (0, fun _ => 0) from rfl] at H0
  rw [show wl (some (1024, cut 1024 (fun _ => 0))) [] = [⟨8, 1024, 1⟩] from rfl] at H1
  go_wp2_with fail
  refine (gx_look G1.out H0.out).mono ?_
  rintro e Wc ⟨rfl, hg, -⟩
  replace G1 := hid hg
  clear hg
  go_wp2_with fail
  refine (gx_len G1.out H0.out).mono ?_
  rintro e Wc ⟨rfl, rfl⟩
  rw [show kn (some (0, fun _ => 0)) = 0 from rfl]
  go_wp2_with fail
  refine (gx_put (G1.out.below (below_alloc _ _)) H0.out (rb_lit Wc (#[.int .u8 0, .int .u8 0]) 2 (lst [0, 0]) (lst_bound _ rfl) (by simp [maxLen]) rfl (by kernel_rfl))).mono ?_
  rintro e Wd ⟨rfl, t8, hg, h0, hB⟩
  replace G1 := hid hg
  replace H0 := hid h0
  replace H1 := hid (H1.out.keep (hB 1 (by decide) (by decide)))
  clear hg h0 hB
  rw [show pc (some (0, fun _ => 0)) 2 = 0 from rfl]
  rw [show pk (some (0, fun _ => 0)) 2 (lst [0, 0]) = some (2, cut 2 (lst [0, 0])) from rfl] at H0
  go_wp2_with fail
  refine (gx_len G1.out H0.out).mono ?_
  rintro e Wd ⟨rfl, rfl⟩
  rw [show kn (some (2, cut 2 (lst [0, 0]))) = 2 from rfl]
  go_wp2_with fail
  refine (gx_new G1.out 2).mono ?_
  rintro e We ⟨rfl, t9, hg, h2, hB⟩
  replace G1 := hid hg
  have H2 := hid h2
  replace H0 := hid ((hB 0 (by decide) (by decide)).trans H0.out)
  replace H1 := hid (H1.out.keep (hB 1 (by decide) (by decide)))
  clear hg h2 hB
  go_wp2_with fail
  refine (gx_same G1.out H0.out H2.out H1.out (by decide) (by decide) (by unfold Room; decide)).mono ?_
  rintro e Wf ⟨rfl, ta, hg, h1, -⟩
  replace G1 := hid hg
  replace H1 := hid h1
  clear hg h1 H0 H2
  rw [E4]
  rw [show sl (some (2, cut 2 (lst [0, 0]))) (some (0, fun _ => 0)) [⟨8, 1024, 1⟩] = [⟨8, 1024, 1⟩, ⟨6, 1024, 1⟩] from rfl] at H1
  go_wp2_with fail
  refine (awake Wf).mono ?_
  rintro e Wg ⟨rfl, hb⟩
  replace G1 := hid (G1.out.below hb)
  clear hb
  go_wp2_with fail
  refine (gx_runs G1.out H1.out (by decide)).mono ?_
  rintro e Wh ⟨vr, rfl, hr, hb⟩
  replace G1 := hid (G1.out.below hb)
  have RR := hid hr
  clear hb hr
  go_wp2_with fail
  refine (same14 vr _ _ [⟨8, 1024, 1⟩, ⟨6, 1024, 1⟩] _ (Go.Proofs.Ythoklddoeoedgaa.RB.below RR.out (below_alloc _ _)) (Go.Proofs.Ythoklddoeoedgaa.Own.reads (Go.Proofs.Ythoklddoeoedgaa.own_lit Wh [⟨8, 1024, 1⟩, ⟨6, 1024, 1⟩] (#[.int .u8 8, .int .i64 1024, .int .i64 1, .int .u8 6, .int .i64 1024, .int .i64 1]) ok86 rfl (by simp [maxLen]))) (by decide) (by decide)).mono ?_
  rintro e Wi ⟨rfl, d, hd⟩
  have GE : Hid (GX w w.heap.size ta Wi) := by rw [hd]; exact (G1.out.below (below_alloc _ _)).drewN d
  rw [decide_eq_true rfl]
  clear hd RR H1 G1
  go_wp2
  go_ret
  exact ⟨rfl, GE.out.bel⟩
end Go.Proofs.Ythoklddoeoedgaa.Sl
