/- The slots that the statements write down; the statements' helper awake answers true. -/
import Derived.Test.YthoklddoeoedgaaSeq
namespace Go.Proofs.Ythoklddoeoedgaa.Sl
open Go.ChangeShapes Go.WideShapes Go.ChangeAt Go.RowKit
open Go.Proofs.Ythoklddoeoedgaa.By
def BDs (ps : Array (Nat × Value)) : Sem Value := Instr.build 30 ps
@[go_sem ↓ high] theorem bds (ps : Array (Nat × Value)) : Instr.build 30 ps = BDs ps := Eq.symm (show BDs ps = Instr.build 30 ps from rfl)
theorem bld0 : ∃ F, (∀ i, F i = lst [] i) ∧ ∀ w : World, (BDs #[]).run Try.prog w = .ok (sv F) w := ⟨lst [], fun _ => rfl, fun w => by kernel_rfl⟩
theorem bld9 : ∃ F, (∀ i, F i = lst [9] i) ∧ ∀ w : World, (BDs #[(0, .int .u8 9)]).run Try.prog w = .ok (sv F) w := ⟨lst [9], fun _ => rfl, fun w => by kernel_rfl⟩
theorem bld3 : ∃ F, (∀ i, F i = lst [1, 2, 3] i) ∧ ∀ w : World, (BDs #[(0, .int .u8 1), (1, .int .u8 2), (2, .int .u8 3)]).run Try.prog w = .ok (sv F) w := ⟨lst [1, 2, 3], fun _ => rfl, fun w => by kernel_rfl⟩
theorem cut_lst (l : List Int) (i : Nat) : cut l.length (lst l) i = lst l i := by
  unfold cut lst
  split
  · rfl
  · rw [List.getD_eq_getElem?_getD, List.getElem?_eq_none (by omega)]; rfl
set_option maxRecDepth 20000 in
set_option maxHeartbeats 1200000 in
theorem awake (w : World) : Calls Try.prog 31 #[] w fun e w' => e = .returned (.bool true) ∧ Below w.heap.size w w' := by
  have G0 := hid (GX.start w)
  obtain ⟨F9, e9, b9⟩ := bld9
  have E1 : eqS (kf (some (1, cut 1 (lst [9])))) F9 = true := eqS_true (fun i _ => by rw [e9 i]; exact cut_lst [9] i)
  clear e9
  go_enter Try.func31, Try.ntmps31
  go_wp2_with fail
  refine (gx_new G0.out 0).mono ?_
  rintro e W1 ⟨rfl, t1, hg, h0, -⟩
  have G1 := hid hg
  have H0 := hid h0
  clear hg h0 G0
  go_wp2_with fail
  refine (gx_put (G1.out.below (below_alloc _ _)) H0.out (rb_lit W1 (#[.int .u8 1, .int .u8 2, .int .u8 3]) 3 (lst [1, 2, 3]) (lst_bound _ rfl) (by simp [maxLen]) rfl (by kernel_rfl))).mono ?_
  rintro e W2 ⟨rfl, t2, hg, h0, -⟩
  replace G1 := hid hg
  replace H0 := hid h0
  clear hg h0
  rw [show pc (some (0, fun _ => 0)) 3 = 0 from rfl]
  go_wp2_with fail
  refine (gx_put (G1.out.below (below_alloc _ _)) H0.out (rb_lit W2 (#[.int .u8 9]) 1 (lst [9]) (lst_bound _ rfl) (by simp [maxLen]) rfl (by kernel_rfl))).mono ?_
  rintro e W3 ⟨rfl, t3, hg, h0, -⟩
  replace G1 := hid hg
  replace H0 := hid h0
  clear hg h0
  rw [show pc (pk (some (0, fun _ => 0)) 3 (lst [1, 2, 3])) 1 = 0 from rfl]
  rw [show pk (pk (some (0, fun _ => 0)) 3 (lst [1, 2, 3])) 1 (lst [9]) = some (1, cut 1 (lst [9])) from rfl] at H0
  go_wp2_with fail
  refine (gx_look G1.out H0.out).mono ?_
  rintro e W4 ⟨rfl, hg, -⟩
  replace G1 := hid hg
  clear hg
  go_wp2_with fail
  refine (gx_len G1.out H0.out).mono ?_
  rintro e W4 ⟨rfl, rfl⟩
  rw [show kn (some (1, cut 1 (lst [9]))) = 1 from rfl]
  go_wp2
  go_ret
  exact ⟨rfl, G1.out.bel⟩
end Go.Proofs.Ythoklddoeoedgaa.Sl
