/- The acts of AesScript: the length. -/
import Derived.Test.YtehhnneomoddgaaDoorYs
import Derived.Test.YtehhnneomoddgaaDoorYr
import Derived.Deep.RegionHeld3
namespace Go.Proofs.YtehhnneomoddgaaDoor.Ae
open Go.ChangeShapes Go.WideShapes Go.ChangeAt Go.RowKit
open Go.Proofs.YtehhnneomoddgaaDoor.By Go.Proofs.YtehhnneomoddgaaDoor.Gf
theorem pickN (i : Int) (N : Nat) (h0 : 0 < N) (h1 : N ≤ 1000000) (w : World) :
    Calls Tryd.prog 18 #[.int .i64 i, .int .i64 N] w fun e w' => (∃ p : Nat, p < N ∧ e = .returned (.int .i64 p)) ∧ w' = w := by
  have hN : (0 : Int) < N := by omega
  have a1 := Int.tmod_lt_of_pos i hN
  have a2 : - (N : Int) < i.tmod N := by
    have := Int.lt_tmod_of_pos i hN
    omega
  have nz : ¬ (N : Int) = 0 := by omega
  have nz2 : ¬ N = 0 := by omega
  obtain ⟨q, hq⟩ : ∃ q, i.tmod N = q := ⟨_, rfl⟩
  rw [hq] at a1 a2
  have w1 : IntKind.i64.wrap q = q := by rw [IntKind.wrap_i64]; omega
  by_cases hlt : q < 0
  · have w2 : IntKind.i64.wrap (q + N) = q + N := by rw [IntKind.wrap_i64]; omega
    go_enter Tryd.func18, Tryd.ntmps18
    go_wp2
    go_ret
    exact ⟨⟨(q + N).toNat, by omega, by rw [show (((q + N).toNat : Nat) : Int) = q + N by omega]; rfl⟩, rfl⟩
  · go_enter Tryd.func18, Tryd.ntmps18
    go_wp2
    go_ret
    exact ⟨⟨q.toNat, by omega, by rw [show ((q.toNat : Nat) : Int) = q by omega]; rfl⟩, rfl⟩
section
variable {X : World → Prop} {w0 W : World} {xb lb mb : Nat} {lv mv tv wv : Value} {cv rv : Nat → Value} {D E : Nat → KD} {L : List Rn}
theorem pair_c (cv rv : Nat → Value) (lb mb : Nat) (tv wv : Value) (k : Nat) (h : k < 2) : (pairC cv rv lb mb tv wv)[k]? = some (cv k) := by
  rcases (show k = 0 ∨ k = 1 by omega) with rfl | rfl <;> rfl
theorem pair_r (cv rv : Nat → Value) (lb mb : Nat) (tv wv : Value) (k : Nat) (h : k < 2) : (pairC cv rv lb mb tv wv)[2 + k]? = some (rv k) := by
  rcases (show k = 0 ∨ k = 1 by omega) with rfl | rfl <;> rfl
set_option maxRecDepth 4000 in
set_option maxHeartbeats 4000000 in
theorem PS.actLen (h : PS X w0 xb lb mb lv mv tv wv cv rv D D L L W) (on : Int) (pv : Value) (mute : Bool) :
    Calls Tryd.prog 7 #[.pointer (some ⟨xb, 0, none⟩), .agg #[.int .i64 on, .int .i64 3, pv, .bool mute]] W fun e w' => e = .returned (.bool true) ∧ PS X w0 xb lb mb lv mv tv wv cv rv D D L L w' ∧ Below W.heap.size W w' := by
  have HX := hid (Blk.new W [.int .i64 on, .int .i64 3, pv, .bool mute] 39)
  have HB := hid (below_alloc W (.cells #[.int .i64 on, .int .i64 3, pv, .bool mute] 39))
  have G0 := hid (h.below HB.out)
  clear h
  go_enter Tryd.func7, Tryd.ntmps7
  go_wp2_with fail
  obtain ⟨W1, hW1⟩ : ∃ x, W.alloc (.cells #[.int .i64 on, .int .i64 3, pv, .bool mute] 39) = x := ⟨_, rfl⟩
  obtain ⟨ob, hob⟩ : ∃ x, W.heap.size = x := ⟨_, rfl⟩
  have HX1 : Hid (Blk W1 ob [.int .i64 on, .int .i64 3, pv, .bool mute] 39) := by rw [← hW1, ← hob]; exact HX.out
  rw [hW1] at G0 HB
  rw [hW1]
  have hob2 := hob
  rw [hob]
  clear hW1 HX
  have o0 := HX1.out.cell 0 _ rfl
  have o1 := HX1.out.cell 1 _ rfl
  have o2 := HX1.out.cell 2 _ rfl
  have o3 := HX1.out.cell 3 _ rfl
  refine (pickN on 2 (by omega) (by omega) W1).mono ?_
  rintro e w1 ⟨⟨k, hk2, rfl⟩, hw1⟩
  subst w1
  have cp := G0.out.here.cell k _ (pair_c _ _ _ _ _ _ k hk2)
  have cq := G0.out.here.cell (2 + k) _ (pair_r _ _ _ _ _ _ k hk2)
  have cl := G0.out.here.cell 4 _ rfl
  have cm := G0.out.here.cell 5 _ rfl
  have hk2' : (k : Int) < 2 := by omega
  go_wp2_with fail
  go_region_held3 (fun W => W.cell? ⟨xb, 4, none⟩ = some (.pointer (some ⟨lb, 0, none⟩)) ∧ W.cell? ⟨xb, 5, none⟩ = some (.pointer (some ⟨mb, 0, none⟩))) (go_keep) (fail)
  have G1 := hid (G0.out.below (below_drewN W1 1))
  have B1 := hid (show Below ob W W1.drew from by have := HB.out; rw [hob2] at this; exact below_dr this)
  have P1 := hid (G1.out.pc k hk2)
  have Q1 := hid (G1.out.qc k hk2)
  cases mute
  · go_wp2_with fail
    go_region_held3 (fun W => W.cell? ⟨xb, k, none⟩ = some (cv k) ∧ W.cell? ⟨xb, 2 + k, none⟩ = some (rv k)) (go_keep) (first | (go_at_call 26; refine (len_pc _ (cv k) (D k) (P1.out.ky (Ky.of_below (below_drewN _ 1)))).mono ?_; rintro e w2 ⟨rfl, hw2⟩; subst w2) | (go_at_call 27; refine (len_qc _ (rv k) (D k) (Q1.out.ky (Ky.of_below (below_drewN _ 1)))).mono ?_; rintro e w2 ⟨rfl, hw2⟩; subst w2))
    all_goals
      go_wp2_with fail
      go_ret
      exact ⟨by simp, G1.out.below (below_drewN _ 1), by rw [hob2]; exact below_dr B1.out⟩
  · go_wp2_with fail
    go_region_held3 (fun W => W.cell? ⟨xb, k, none⟩ = some (cv k) ∧ W.cell? ⟨xb, 2 + k, none⟩ = some (rv k)) (go_keep) (first | (go_at_call 26; refine (len_pc _ (cv k) (D k) (P1.out.ky (Ky.of_below (below_drewN _ 1)))).mono ?_; rintro e w2 ⟨rfl, hw2⟩; subst w2) | (go_at_call 27; refine (len_qc _ (rv k) (D k) (Q1.out.ky (Ky.of_below (below_drewN _ 1)))).mono ?_; rintro e w2 ⟨rfl, hw2⟩; subst w2))
    all_goals
      go_wp2_with fail
      go_ret
      exact ⟨by simp, G1.out.below (below_drewN _ 1), by rw [hob2]; exact below_dr B1.out⟩
end
end Go.Proofs.YtehhnneomoddgaaDoor.Ae
