/- NaiveBoxes, walked: the box of all bytes, each with a ledger of its own. -/
import Derived.Test.YtpcnkiapbkmjbaaNli
namespace Go.Proofs.Ytpcnkiapbkmjbaa.Nv
open Go.ChangeShapes Go.WideShapes Go.ChangeAt Go.RowKit
open Go.Proofs.Ytpcnkiapbkmjbaa Go.Proofs.Ytpcnkiapbkmjbaa.Tb
theorem box_run (a : Nat) : putL [] (ix a) = [ix a] := rfl
set_option maxRecDepth 100000 in
set_option maxHeartbeats 4000000 in
theorem boxes_walk (w : World) : Calls Try.prog 6 #[] w fun e w' => e = .returned (.bool true) ∧ Below w.heap.size w w' := by
  go_enter Try.func6, Try.ntmps6
  go_wp2
  go_loopw [1] (fun i wr => ∃ a : Nat, a ≤ 256 ∧ i = .int .i64 a ∧ Below w.heap.size w wr) (fun i _ => 256 - (intOf i).toNat)
  case atStart => exact ⟨0, by omega, rfl, Below.refl _ _⟩
  case round =>
    obtain ⟨a, ha, rfl, hb⟩ := hrel
    have HB := hidl hb
    clear hb
    by_cases hlt : a < 256
    · have G0 := hidl (GX.start wr)
      have hw : IntKind.u8.wrap (a : Int) = (a : Int) := by rw [IntKind.wrap_u8]; omega
      go_wp2_with fail
      refine (gx_new G0.out 0).mono ?_
      rintro e W1 ⟨rfl, t1, hG1, hk1, -⟩
      have G1 := hidl hG1
      have K1 := hidl hk1
      clear hG1 hk1
      generalize hB0 : wr.heap.size = B0 at *
      have BX := hidl (gx_bx G1.out K1.out tot0 a hlt)
      have BG := hidl (fun w => Gf.box_walk a w hlt)
      generalize Gf.box a = bx at *
      go_wp2_with fail
      refine BX.out.mono ?_
      rintro e W2 ⟨rfl, t2, hG2, hk2, -⟩
      rw [box_run] at hk2
      have G2 := hidl hG2
      have K2 := hidl hk2
      clear hG2 hk2 BX
      go_wp2_with fail
      refine (BG.out _).mono ?_
      rintro e W3 ⟨rfl, rfl⟩
      go_wp2_with fail
      refine (gx_runs G2.out K2.out (by simp)).mono ?_
      rintro e W4 ⟨v4, rfl, hr4, hb4⟩
      have R4 := hidl hr4
      have G4 := hidl (G2.out.below hb4)
      clear hr4 hb4 G2
      go_wp2_with fail
      have LT := hidl (own_lit W4 [ix a] #[.int .u8 10, .int .i64 (a : Int), .int .i64 1] (fun r hr => by rw [List.mem_singleton.1 hr]; exact ix_ok a hlt) rfl (by simp [maxLen]))
      have R4' := hidl (R4.out.below (below_alloc W4 (.cells #[.int .u8 10, .int .i64 (a : Int), .int .i64 1] 61)))
      refine (same14 v4 _ _ _ _ R4'.out LT.out.reads (by simp) (by simp)).mono ?_
      rintro e W5 ⟨rfl, d5, rfl⟩
      rw [decide_eq_true rfl]
      have HE := hidl (HB.out.trans (((G4.out.below (below_alloc W4 (.cells #[.int .u8 10, .int .i64 (a : Int), .int .i64 1] 61))).drewN d5).bel.mono (by rw [← hB0]; exact HB.out.size)))
      clear R4 R4' LT G4 K2 G1 K1
      go_wp2
      go_roundw
      case rel => exact ⟨a + 1, by omega, by go_num, HE.out⟩
      case measure => simp [intOf]; omega
    · obtain rfl : a = 256 := by omega
      have LV := hidl (lives_walk wr)
      go_wp2_with (go_at_call 8; refine LV.out.mono ?_; rintro e w' ⟨rfl, h⟩; have HL := hidl h; clear h)
      go_ret
      exact ⟨rfl, HB.out.trans (HL.out.mono HB.out.size)⟩
end Go.Proofs.Ytpcnkiapbkmjbaa.Nv
