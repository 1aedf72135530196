/- All kept iterators once more. -/
import Derived.Test.YtodihepgfpbonaaTph
namespace Go.Proofs.Ytodihepgfpbonaa.Tb
open Go.ChangeShapes Go.WideShapes Go.ChangeAt Go.RowKit
theorem walkI_q {w0 V : World} {B : Nat} {t : Nat → Th} {C : Cn} (hG : GX w0 B t V) (h0 : t 0 = tK C) {f h v : Value} (hk : KI C f h v) (most : Int) (i : BW V) : Calls Try.prog 36 #[f, h, v, .int .i64 most] i.W fun e w'' => e = .returned (.bool true) ∧ ∃ j : BW V, w'' = j.W :=
  (gx_walkI (hG.below i.h) h0 hk most).mono (fun e w'' ⟨he, hb⟩ => ⟨he, ⟨w'', nx i.h hb⟩, rfl⟩)
theorem walkP_q {w0 V : World} {B : Nat} {t : Nat → Th} {C : Cn} (hG : GX w0 B t V) (h0 : t 0 = tK C) {f h v : Value} (hk : KP C f h v) (most : Int) (i : BW V) : Calls Try.prog 45 #[f, h, v, .int .i64 most] i.W fun e w'' => e = .returned (.bool true) ∧ ∃ j : BW V, w'' = j.W :=
  (gx_walkP (hG.below i.h) h0 hk most).mono (fun e w'' ⟨he, hb⟩ => ⟨he, ⟨w'', nx i.h hb⟩, rfl⟩)
section
variable {w0 W : World} {t : Nat → Th} {C : Cn} {kb n0 n1 : Nat} {l : Nat → Value} {f : Nat → Nat → Value}
set_option maxRecDepth 20000 in
set_option maxHeartbeats 1600000 in
theorem again_w (hG : GX w0 w0.heap.size t W) (h0 : t 0 = tK C) (hK : KS t C kb n0 n1 l f) (hn0 : n0 ≤ 2000) (hn1 : n1 ≤ 2000) : Calls Try.prog 13 #[.pointer (some ⟨kb, 0, none⟩)] W fun e W' => e = .returned (.bool true) ∧ Below w0.heap.size w0 W' := by
  have G := hid hG
  have Z := hid h0
  have K := hid hK
  obtain ⟨a0, c0, e0⟩ := row_slice (hG.row hK.r0)
  obtain ⟨a1, c1, e1⟩ := row_slice (hG.row hK.r1)
  obtain ⟨a2, c2, e2⟩ := row_slice (hG.row hK.r2)
  obtain ⟨a3, c3, e3⟩ := row_slice (hG.row hK.r3)
  obtain ⟨a4, c4, e4⟩ := row_slice (hG.row hK.r4)
  obtain ⟨a5, c5, e5⟩ := row_slice (hG.row hK.r5)
  have CC : Hid (∀ V, GX w0 w0.heap.size t V → V.cell? ⟨kb, 0, none⟩ = some (.slice a0 n0 c0) ∧ V.cell? ⟨kb, 1, none⟩ = some (.slice a1 n1 c1) ∧ V.cell? ⟨kb, 2, none⟩ = some (.slice a2 n0 c2) ∧ V.cell? ⟨kb, 3, none⟩ = some (.slice a3 n1 c3) ∧ V.cell? ⟨kb, 4, none⟩ = some (.slice a4 n0 c4) ∧ V.cell? ⟨kb, 5, none⟩ = some (.slice a5 n1 c5)) := fun V hV =>
    ⟨e0 ▸ (hV.blk hK.k).cell 0 _ rfl, e1 ▸ (hV.blk hK.k).cell 1 _ rfl, e2 ▸ (hV.blk hK.k).cell 2 _ rfl, e3 ▸ (hV.blk hK.k).cell 3 _ rfl, e4 ▸ (hV.blk hK.k).cell 4 _ rfl, e5 ▸ (hV.blk hK.k).cell 5 _ rfl⟩
  have RI : Hid (∀ i, i < n0 → ∃ g0 g2 g4, a0 = some ⟨g0, 0, none⟩ ∧ a2 = some ⟨g2, 0, none⟩ ∧ a4 = some ⟨g4, 0, none⟩ ∧ ∀ V, GX w0 w0.heap.size t V → V.cell? ⟨g0, i, none⟩ = some (f 0 i) ∧ V.cell? ⟨g2, i, none⟩ = some (f 2 i) ∧ V.cell? ⟨g4, i, none⟩ = some (f 4 i)) := fun i hi => by
    have q0 := fun (V : World) (hV : GX w0 w0.heap.size t V) => row_cell (e0 ▸ hV.row hK.r0) (vals_get n0 (f 0) i hi)
    have q2 := fun (V : World) (hV : GX w0 w0.heap.size t V) => row_cell (e2 ▸ hV.row hK.r2) (vals_get n0 (f 2) i hi)
    have q4 := fun (V : World) (hV : GX w0 w0.heap.size t V) => row_cell (e4 ▸ hV.row hK.r4) (vals_get n0 (f 4) i hi)
    obtain ⟨g0, rfl, _⟩ := q0 W hG
    obtain ⟨g2, rfl, _⟩ := q2 W hG
    obtain ⟨g4, rfl, _⟩ := q4 W hG
    refine ⟨g0, g2, g4, rfl, rfl, rfl, fun V hV => ?_⟩
    obtain ⟨_, x0, y0⟩ := q0 V hV
    obtain ⟨_, x2, y2⟩ := q2 V hV
    obtain ⟨_, x4, y4⟩ := q4 V hV
    cases x0; cases x2; cases x4
    exact ⟨y0, y2, y4⟩
  have RP : Hid (∀ i, i < n1 → ∃ g0 g2 g4, a1 = some ⟨g0, 0, none⟩ ∧ a3 = some ⟨g2, 0, none⟩ ∧ a5 = some ⟨g4, 0, none⟩ ∧ ∀ V, GX w0 w0.heap.size t V → V.cell? ⟨g0, i, none⟩ = some (f 1 i) ∧ V.cell? ⟨g2, i, none⟩ = some (f 3 i) ∧ V.cell? ⟨g4, i, none⟩ = some (f 5 i)) := fun i hi => by
    have q0 := fun (V : World) (hV : GX w0 w0.heap.size t V) => row_cell (e1 ▸ hV.row hK.r1) (vals_get n1 (f 1) i hi)
    have q2 := fun (V : World) (hV : GX w0 w0.heap.size t V) => row_cell (e3 ▸ hV.row hK.r3) (vals_get n1 (f 3) i hi)
    have q4 := fun (V : World) (hV : GX w0 w0.heap.size t V) => row_cell (e5 ▸ hV.row hK.r5) (vals_get n1 (f 5) i hi)
    obtain ⟨g0, rfl, _⟩ := q0 W hG
    obtain ⟨g2, rfl, _⟩ := q2 W hG
    obtain ⟨g4, rfl, _⟩ := q4 W hG
    refine ⟨g0, g2, g4, rfl, rfl, rfl, fun V hV => ?_⟩
    obtain ⟨_, x0, y0⟩ := q0 V hV
    obtain ⟨_, x2, y2⟩ := q2 V hV
    obtain ⟨_, x4, y4⟩ := q4 V hV
    cases x0; cases x2; cases x4
    exact ⟨y0, y2, y4⟩
  clear hG h0 hK e0 e1 e2 e3 e4 e5
  go_enter Try.func13, Try.ntmps13
  obtain ⟨d0, d1, d2, d3, d4, d5⟩ := CC.out W G.out
  go_wp2_with fail
  clear d0 d1 d2 d3 d4 d5
  go_loopw [3] (fun i wr => ∃ k : Nat, k ≤ n0 ∧ i = .int .i64 k ∧ GX w0 w0.heap.size t wr) (fun i _ => n0 - (intOf i).toNat)
  case atStart => exact ⟨0, Nat.zero_le _, rfl, G.out⟩
  case round =>
    clear G
    obtain ⟨k, hk, rfl, hg⟩ := hrel
    have GW := hid hg
    obtain ⟨d0, d1, d2, d3, d4, d5⟩ := CC.out wr hg
    clear hg
    by_cases hlt : k < n0
    · obtain ⟨g0, g2, g4, rfl, rfl, rfl, hcell⟩ := RI.out k hlt
      have q0 := fun i : BW wr => (CC.out i.W (GW.out.below i.h)).1
      have q1 := fun i : BW wr => (CC.out i.W (GW.out.below i.h)).2.2.1
      have q2 := fun i : BW wr => (CC.out i.W (GW.out.below i.h)).2.2.2.2.1
      have p0 := fun i : BW wr => (hcell i.W (GW.out.below i.h)).1
      have p1 := fun i : BW wr => (hcell i.W (GW.out.below i.h)).2.1
      have p2 := fun i : BW wr => (hcell i.W (GW.out.below i.h)).2.2
      have l0 : (0 : Int) ≤ k := by omega
      have l1 : (k : Int) < n0 := by omega
      have KK := hid (K.out.ki k hlt)
      obtain ⟨F, hF⟩ : ∃ F, f 0 k = F := ⟨_, rfl⟩
      obtain ⟨H, hH⟩ : ∃ F, f 2 k = F := ⟨_, rfl⟩
      obtain ⟨L, hL⟩ : ∃ F, f 4 k = F := ⟨_, rfl⟩
      rw [hF] at p0 KK
      rw [hH] at p1 KK
      rw [hL] at p2 KK
      have HK := hid hlt
      clear hcell hF hH hL hlt
      go_wp2_with fail
      clear d0 d1 d2 d3 d4 d5
      refine region_new (by kernel_rfl) (by kernel_rfl) ?_
      repeat (go_big_quiet_step (exact walkI_q GW.out Z.out KK.out _ _))
      refine wpQuiet_nil ?_
      intro _ hw'
      obtain ⟨i, hw''⟩ := hw'
      subst hw''
      have GE := hid (GW.out.below i.h)
      clear q0 q1 q2 p0 p1 p2 GW KK
      go_wp2
      go_roundw
      case rel => exact ⟨k + 1, HK.out, by have := HK.out; go_num, GE.out⟩
      case measure => have := HK.out; simp [intOf]; omega
    · obtain rfl : k = n0 := by omega
      have G := GW
      clear GW
      go_wp2_with fail
      clear d0 d1 d2 d3 d4 d5
      go_loopw [4] (fun i wr => ∃ k : Nat, k ≤ n1 ∧ i = .int .i64 k ∧ GX w0 w0.heap.size t wr) (fun i _ => n1 - (intOf i).toNat)
      case atStart => exact ⟨0, Nat.zero_le _, rfl, G.out⟩
      case round =>
        clear G
        obtain ⟨k, hk, rfl, hg⟩ := hrel
        have GW := hid hg
        obtain ⟨d0, d1, d2, d3, d4, d5⟩ := CC.out wr hg
        clear hg
        by_cases hlt : k < n1
        · obtain ⟨g0, g2, g4, rfl, rfl, rfl, hcell⟩ := RP.out k hlt
          have q0 := fun i : BW wr => (CC.out i.W (GW.out.below i.h)).2.1
          have q1 := fun i : BW wr => (CC.out i.W (GW.out.below i.h)).2.2.2.1
          have q2 := fun i : BW wr => (CC.out i.W (GW.out.below i.h)).2.2.2.2.2
          have p0 := fun i : BW wr => (hcell i.W (GW.out.below i.h)).1
          have p1 := fun i : BW wr => (hcell i.W (GW.out.below i.h)).2.1
          have p2 := fun i : BW wr => (hcell i.W (GW.out.below i.h)).2.2
          have l0 : (0 : Int) ≤ k := by omega
          have l1 : (k : Int) < n1 := by omega
          have KK := hid (K.out.kp k hlt)
          obtain ⟨F, hF⟩ : ∃ F, f 1 k = F := ⟨_, rfl⟩
          obtain ⟨H, hH⟩ : ∃ F, f 3 k = F := ⟨_, rfl⟩
          obtain ⟨L, hL⟩ : ∃ F, f 5 k = F := ⟨_, rfl⟩
          rw [hF] at p0 KK
          rw [hH] at p1 KK
          rw [hL] at p2 KK
          have HK := hid hlt
          clear hcell hF hH hL hlt
          go_wp2_with fail
          clear d0 d1 d2 d3 d4 d5
          refine region_new (by kernel_rfl) (by kernel_rfl) ?_
          repeat (go_big_quiet_step (exact walkP_q GW.out Z.out KK.out _ _))
          refine wpQuiet_nil ?_
          intro _ hw'
          obtain ⟨i, hw''⟩ := hw'
          subst hw''
          have GE := hid (GW.out.below i.h)
          clear q0 q1 q2 p0 p1 p2 GW KK
          go_wp2
          go_roundw
          case rel => exact ⟨k + 1, HK.out, by have := HK.out; go_num, GE.out⟩
          case measure => have := HK.out; simp [intOf]; omega
        · obtain rfl : k = n1 := by omega
          go_wp2
          go_ret
          exact ⟨rfl, GW.out.bel⟩
end
end Go.Proofs.Ytodihepgfpbonaa.Tb
