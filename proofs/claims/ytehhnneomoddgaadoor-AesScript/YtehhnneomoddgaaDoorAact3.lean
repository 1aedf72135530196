/- The acts of AesScript: wiped. -/
import Derived.Test.YtehhnneomoddgaaDoorAact
namespace Go.Proofs.YtehhnneomoddgaaDoor.Ae
open Go.ChangeShapes Go.WideShapes Go.ChangeAt Go.RowKit
open Go.Proofs.YtehhnneomoddgaaDoor.By Go.Proofs.YtehhnneomoddgaaDoor.Gf
section
variable {X : World → Prop} {w0 W : World} {xb lb mb : Nat} {lv mv tv wv : Value} {cv rv : Nat → Value} {D : Nat → KD} {L : List Rn}
set_option maxRecDepth 4000 in
set_option maxHeartbeats 8000000 in
theorem PS.actWipe (h : PS X w0 xb lb mb lv mv tv wv cv rv D D L L W) (on : Int) (pv : Value) (hr : Room L) (mute : Bool) :
    Calls Tryd.prog 7 #[.pointer (some ⟨xb, 0, none⟩), .agg #[.int .i64 on, .int .i64 5, pv, .bool mute]] W fun e w' => e = .returned (.bool true) ∧ ∃ k lv' mv', k < 2 ∧ PS X w0 xb lb mb lv' mv' tv wv cv rv (upd D k none) (upd D k none) (sel mute L (evW L (D k))) (sel mute L (evW L (D k))) w' := by
  have HX := hid (Blk.new W [.int .i64 on, .int .i64 5, pv, .bool mute] 39)
  have HB := hid (below_alloc W (.cells #[.int .i64 on, .int .i64 5, pv, .bool mute] 39))
  have G0 := hid (h.below HB.out)
  have HR := hid hr
  clear h hr
  go_enter Tryd.func7, Tryd.ntmps7
  go_wp2_with fail
  obtain ⟨W1, hW1⟩ : ∃ x, W.alloc (.cells #[.int .i64 on, .int .i64 5, pv, .bool mute] 39) = x := ⟨_, rfl⟩
  obtain ⟨ob, hob⟩ : ∃ x, W.heap.size = x := ⟨_, rfl⟩
  have HX1 : Hid (Blk W1 ob [.int .i64 on, .int .i64 5, pv, .bool mute] 39) := by rw [← hW1, ← hob]; exact HX.out
  rw [hW1] at G0 HB
  rw [hW1]
  have hob2 := hob
  rw [hob]
  clear hW1 HX
  have o0 := HX1.out.cell 0 _ rfl
  have o1 := HX1.out.cell 1 _ rfl
  have o2 := HX1.out.cell 2 _ rfl
  have o3 := HX1.out.cell 3 _ rfl
  refine (pickN on 2 (by omega) (by omega) W1).mono ?_
  rintro e w1 ⟨⟨k, hk2, rfl⟩, hw1⟩
  subst w1
  have cp := G0.out.here.cell k _ (pair_c _ _ _ _ _ _ k hk2)
  have cq := G0.out.here.cell (2 + k) _ (pair_r _ _ _ _ _ _ k hk2)
  have cl := G0.out.here.cell 4 _ rfl
  have cm := G0.out.here.cell 5 _ rfl
  have hk2' : (k : Int) < 2 := by omega
  go_wp2_with fail
  go_region_held3 (fun W => W.cell? ⟨xb, 4, none⟩ = some (.pointer (some ⟨lb, 0, none⟩)) ∧ W.cell? ⟨xb, 5, none⟩ = some (.pointer (some ⟨mb, 0, none⟩))) (go_keep) (fail)
  have G1 := hid (G0.out.below (below_drewN W1 1))
  have B1 := hid (show Below ob W W1.drew from by have := HB.out; rw [hob2] at this; exact below_dr this)
  have P1 := hid (G1.out.pc k hk2)
  have Q1 := hid (G1.out.qc k hk2)
  cases mute
  · have WP := hid ((G1.out.below (below_drewN _ 1)).wipeP k hk2 false HR.out)
    go_wp2_with fail
    go_region_held3 (fun W => W.cell? ⟨xb, k, none⟩ = some (cv k) ∧ W.cell? ⟨xb, 2 + k, none⟩ = some (rv k)) (go_keep) (first | (go_at_call 30; refine WP.out.mono ?_; rintro e w2 ⟨rfl, lv', hps⟩; have G2 := hid hps; have y1 := hps.here.cell k _ (pair_c _ _ _ _ _ _ k hk2); have y2 := hps.here.cell (2 + k) _ (pair_r _ _ _ _ _ _ k hk2); clear hps) | (go_at_call 31; refine (G2.out.wipeQ k hk2 false HR.out).mono ?_; rintro e w3 ⟨rfl, mv', hps⟩; have G3 := hid hps; have y3 := hps.here.cell k _ (pair_c _ _ _ _ _ _ k hk2); have y4 := hps.here.cell (2 + k) _ (pair_r _ _ _ _ _ _ k hk2); clear hps))
    all_goals
      go_wp2_with fail
      go_ret
      exact ⟨by simp, k, lv', mv', hk2, G3.out⟩
  · have WP := hid ((G1.out.below (below_drewN _ 1)).wipeP k hk2 true HR.out)
    go_wp2_with fail
    go_region_held3 (fun W => W.cell? ⟨xb, k, none⟩ = some (cv k) ∧ W.cell? ⟨xb, 2 + k, none⟩ = some (rv k)) (go_keep) (first | (go_at_call 30; refine WP.out.mono ?_; rintro e w2 ⟨rfl, lv', hps⟩; have G2 := hid hps; have y1 := hps.here.cell k _ (pair_c _ _ _ _ _ _ k hk2); have y2 := hps.here.cell (2 + k) _ (pair_r _ _ _ _ _ _ k hk2); clear hps) | (go_at_call 31; refine (G2.out.wipeQ k hk2 true HR.out).mono ?_; rintro e w3 ⟨rfl, mv', hps⟩; have G3 := hid hps; have y3 := hps.here.cell k _ (pair_c _ _ _ _ _ _ k hk2); have y4 := hps.here.cell (2 + k) _ (pair_r _ _ _ _ _ _ k hk2); clear hps))
    all_goals
      go_wp2_with fail
      go_ret
      exact ⟨by simp, k, lv', mv', hk2, G3.out⟩
end
end Go.Proofs.YtehhnneomoddgaaDoor.Ae
