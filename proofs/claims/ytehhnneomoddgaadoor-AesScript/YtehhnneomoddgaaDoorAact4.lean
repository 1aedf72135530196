/- The acts of AesScript: the other is a clone. -/
import Derived.Test.YtehhnneomoddgaaDoorAslot
namespace Go.Proofs.YtehhnneomoddgaaDoor.Ae
open Go.ChangeShapes Go.WideShapes Go.ChangeAt Go.RowKit
open Go.Proofs.YtehhnneomoddgaaDoor.By Go.Proofs.YtehhnneomoddgaaDoor.Gf
section
variable {X : World → Prop} {w0 W : World} {xb lb mb : Nat} {lv mv tv wv : Value} {cv rv : Nat → Value} {D : Nat → KD} {L : List Rn}
set_option maxRecDepth 4000 in
set_option maxHeartbeats 8000000 in
theorem PS.actClone (h : PS X w0 xb lb mb lv mv tv wv cv rv D D L L W) (on : Int) (pv : Value) (mute : Bool) :
    Calls Tryd.prog 7 #[.pointer (some ⟨xb, 0, none⟩), .agg #[.int .i64 on, .int .i64 4, pv, .bool mute]] W fun e w' => e = .returned (.bool true) ∧ ∃ cv' rv' D', PS X w0 xb lb mb lv mv tv wv cv' rv' D' D' L L w' := by
  have HX := hid (Blk.new W [.int .i64 on, .int .i64 4, pv, .bool mute] 39)
  have HB := hid (below_alloc W (.cells #[.int .i64 on, .int .i64 4, pv, .bool mute] 39))
  have G0 := hid (h.below HB.out)
  clear h
  go_enter Tryd.func7, Tryd.ntmps7
  go_wp2_with fail
  obtain ⟨W1, hW1⟩ : ∃ x, W.alloc (.cells #[.int .i64 on, .int .i64 4, pv, .bool mute] 39) = x := ⟨_, rfl⟩
  obtain ⟨ob, hob⟩ : ∃ x, W.heap.size = x := ⟨_, rfl⟩
  have HX1 : Hid (Blk W1 ob [.int .i64 on, .int .i64 4, pv, .bool mute] 39) := by rw [← hW1, ← hob]; exact HX.out
  rw [hW1] at G0 HB
  rw [hW1]
  have hob2 := hob
  rw [hob]
  clear hW1 HX
  have o0 := HX1.out.cell 0 _ rfl
  have o1 := HX1.out.cell 1 _ rfl
  have o2 := HX1.out.cell 2 _ rfl
  have o3 := HX1.out.cell 3 _ rfl
  refine (pickN on 2 (by omega) (by omega) W1).mono ?_
  rintro e w1 ⟨⟨k, hk2, rfl⟩, hw1⟩
  subst w1
  have cp := G0.out.here.cell k _ (pair_c _ _ _ _ _ _ k hk2)
  have cq := G0.out.here.cell (2 + k) _ (pair_r _ _ _ _ _ _ k hk2)
  have cl := G0.out.here.cell 4 _ rfl
  have cm := G0.out.here.cell 5 _ rfl
  have hk2' : (k : Int) < 2 := by omega
  go_wp2_with fail
  go_region_held3 (fun W => W.cell? ⟨xb, 4, none⟩ = some (.pointer (some ⟨lb, 0, none⟩)) ∧ W.cell? ⟨xb, 5, none⟩ = some (.pointer (some ⟨mb, 0, none⟩))) (go_keep) (fail)
  have G1 := hid (G0.out.below (below_drewN W1 1))
  have B1 := hid (show Below ob W W1.drew from by have := HB.out; rw [hob2] at this; exact below_dr this)
  have P1 := hid (G1.out.pc k hk2)
  have Q1 := hid (G1.out.qc k hk2)
  rcases hd : D k with _ | ⟨kk, key⟩
  · have CP := hid (clone_pc W1.drew (cv k) none (by have := P1.out; rw [hd] at this; exact this))
    cases mute
    · go_wp2_with fail
      refine CP.out.mono ?_
      rintro e w2 ⟨hb2, rfl⟩
      have G2 := hid (G1.out.below hb2)
      have cq2 := G2.out.here.cell (2 + k) _ (pair_r _ _ _ _ _ _ k hk2)
      have CQ := hid (clone_qc w2 (rv k) none (by have := G2.out.qc k hk2; rw [hd] at this; exact this))
      clear hb2
      go_wp2_with fail
      refine CQ.out.mono ?_
      rintro e w3 ⟨hb3, rfl⟩
      have G3 := hid (G2.out.below hb3)
      clear hb3
      go_wp2_with fail
      go_ret
      exact ⟨rfl, cv, rv, D, G3.out⟩
    · go_wp2_with fail
      refine CP.out.mono ?_
      rintro e w2 ⟨hb2, rfl⟩
      have G2 := hid (G1.out.below hb2)
      have cq2 := G2.out.here.cell (2 + k) _ (pair_r _ _ _ _ _ _ k hk2)
      have CQ := hid (clone_qc w2 (rv k) none (by have := G2.out.qc k hk2; rw [hd] at this; exact this))
      clear hb2
      go_wp2_with fail
      refine CQ.out.mono ?_
      rintro e w3 ⟨hb3, rfl⟩
      have G3 := hid (G2.out.below hb3)
      clear hb3
      go_wp2_with fail
      go_ret
      exact ⟨rfl, cv, rv, D, G3.out⟩
  · have CP := hid (clone_pc W1.drew (cv k) (some (kk, key)) (by have := P1.out; rw [hd] at this; exact this))
    cases mute
    · go_wp2_with fail
      refine CP.out.mono ?_
      rintro e w2 ⟨hb2, rfl, hc2⟩
      have G2 := hid (G1.out.below hb2)
      have C2 := hid hc2
      have cq2 := G2.out.here.cell (2 + k) _ (pair_r _ _ _ _ _ _ k hk2)
      have CQ := hid (clone_qc w2 (rv k) (some (kk, key)) (by have := G2.out.qc k hk2; rw [hd] at this; exact this))
      have z2 := hid hb2.size
      clear hb2 hc2
      go_wp2_with fail
      refine CQ.out.mono ?_
      rintro e w3 ⟨hb3, rfl, hc3⟩
      have G3 := hid (G2.out.below hb3)
      have C3 := hid (C2.out.below hb3)
      have R3 := hid hc3
      clear hb3 hc3
      obtain ⟨m, hm, em⟩ : ∃ m : Nat, m < 2 ∧ 1 - k = m := ⟨1 - k, by omega, rfl⟩
      have hmi : (1 : Int) - (k : Int) = (m : Int) := by omega
      have hmw : IntKind.i64.wrap (m : Int) = (m : Int) := by rw [IntKind.wrap_i64]; omega
      have hm2 : (m : Int) < 2 := by omega
      have f1 := G3.out.here.frozen m
      have f2 := G3.out.here.frozen (2 + m)
      have x1 := G3.out.here.cell m _ (pair_c _ _ _ _ _ _ m hm)
      have x2 := G3.out.here.cell (2 + m) _ (pair_r _ _ _ _ _ _ m hm)
      go_wp2_with fail
      go_ret
      refine ⟨rfl, upd cv m _, upd rv m _, upd D m (some (kk, key)), G3.out.slot m hm (.pointer (some ⟨W1.heap.size, 0, none⟩)) (.pointer (some ⟨w2.heap.size, 0, none⟩)) (some (kk, key)) ⟨W1.heap.size, rfl, C3.out⟩ ⟨w2.heap.size, rfl, R3.out⟩ (fun g e => ?_) (fun g e => ?_)⟩
      · simp at e
        subst e
        refine ⟨G1.out.size, fun e' => ?_⟩
        obtain ⟨cs, hc⟩ := (G1.out.pc (1 - m) (by omega)).blk e'
        exact Nat.lt_irrefl _ hc.lt
      · simp at e
        subst e
        refine ⟨G2.out.size, fun e' => ?_⟩
        obtain ⟨cs, hc⟩ := (G2.out.qc (1 - m) (by omega)).blk e'
        exact Nat.lt_irrefl _ hc.lt
    · go_wp2_with fail
      refine CP.out.mono ?_
      rintro e w2 ⟨hb2, rfl, hc2⟩
      have G2 := hid (G1.out.below hb2)
      have C2 := hid hc2
      have cq2 := G2.out.here.cell (2 + k) _ (pair_r _ _ _ _ _ _ k hk2)
      have CQ := hid (clone_qc w2 (rv k) (some (kk, key)) (by have := G2.out.qc k hk2; rw [hd] at this; exact this))
      have z2 := hid hb2.size
      clear hb2 hc2
      go_wp2_with fail
      refine CQ.out.mono ?_
      rintro e w3 ⟨hb3, rfl, hc3⟩
      have G3 := hid (G2.out.below hb3)
      have C3 := hid (C2.out.below hb3)
      have R3 := hid hc3
      clear hb3 hc3
      obtain ⟨m, hm, em⟩ : ∃ m : Nat, m < 2 ∧ 1 - k = m := ⟨1 - k, by omega, rfl⟩
      have hmi : (1 : Int) - (k : Int) = (m : Int) := by omega
      have hmw : IntKind.i64.wrap (m : Int) = (m : Int) := by rw [IntKind.wrap_i64]; omega
      have hm2 : (m : Int) < 2 := by omega
      have f1 := G3.out.here.frozen m
      have f2 := G3.out.here.frozen (2 + m)
      have x1 := G3.out.here.cell m _ (pair_c _ _ _ _ _ _ m hm)
      have x2 := G3.out.here.cell (2 + m) _ (pair_r _ _ _ _ _ _ m hm)
      go_wp2_with fail
      go_ret
      refine ⟨rfl, upd cv m _, upd rv m _, upd D m (some (kk, key)), G3.out.slot m hm (.pointer (some ⟨W1.heap.size, 0, none⟩)) (.pointer (some ⟨w2.heap.size, 0, none⟩)) (some (kk, key)) ⟨W1.heap.size, rfl, C3.out⟩ ⟨w2.heap.size, rfl, R3.out⟩ (fun g e => ?_) (fun g e => ?_)⟩
      · simp at e
        subst e
        refine ⟨G1.out.size, fun e' => ?_⟩
        obtain ⟨cs, hc⟩ := (G1.out.pc (1 - m) (by omega)).blk e'
        exact Nat.lt_irrefl _ hc.lt
      · simp at e
        subst e
        refine ⟨G2.out.size, fun e' => ?_⟩
        obtain ⟨cs, hc⟩ := (G2.out.qc (1 - m) (by omega)).blk e'
        exact Nat.lt_irrefl _ hc.lt
end
end Go.Proofs.YtehhnneomoddgaaDoor.Ae
