/- The document's columns mixed. -/
import Derived.Test.YtbgdjjfonmoemaaDoorYk
import Derived.Deep.RegionLaw
namespace Go.Proofs.YtbgdjjfonmoemaaDoor.Ae
open Go.ChangeShapes Go.WideShapes Go.ChangeAt Go.RowKit
open Go.Proofs.YtbgdjjfonmoemaaDoor.By Go.Proofs.YtbgdjjfonmoemaaDoor.Gf
set_option maxRecDepth 8000 in
set_option maxHeartbeats 8000000 in
theorem rmixed (m b : Nat → Nat) (hm : ∀ i, m i < 256) (hb : B16 b) (w : World) : Calls Tryd.prog 87 #[bv b, .agg (bl 4 (cb m)).toArray] w fun e w' => e = .returned (bv (mix m b)) ∧ Below w.heap.size w w' := by
  unfold bv
  have HM := hid hm
  have HBB := hid hb
  clear hm hb
  go_enter Tryd.func87, Tryd.ntmps87
  go_wp2_with fail
  go_loopw [6, 7, 8] (fun i _ _ wr => ∃ c : Nat, c ≤ 4 ∧ i = .int .i64 c ∧ Blk wr w.heap.size (bl 16 (cb b)) 82 ∧ Blk wr (w.heap.size + 1) (bl 4 (cb m)) 100 ∧ Blk wr (w.heap.size + 1 + 1) (bl 16 (cb (upto 0 b))) 82 ∧ Blk wr (w.heap.size + 1 + 1 + 1) (bl 16 (cb (upto (4 * c) (mix m b)))) 82 ∧ Below w.heap.size w wr) (fun i _ _ _ => 4 - (intOf i).toNat)
  case atStart =>
    exact ⟨0, Nat.zero_le _, rfl, (((Blk.newAt _ _ _ _ _ rfl rfl).alloc _).alloc _).alloc _, ((Blk.newAt _ _ _ _ _ (by simp) rfl).alloc _).alloc _, (Blk.newAt _ _ _ _ _ (by simp) (zero16 b)).alloc _, Blk.newAt _ _ _ _ _ (by simp) (zero16 _), (below3 _ _ _ _).alloc (by simp; omega) _⟩
  case round =>
    obtain ⟨c, hc, rfl, b0, b1, b2, b3, hbel⟩ := hrel
    have B0 := hid b0
    have B1 := hid b1
    have B2 := hid b2
    have B3 := hid b3
    have HB := hid hbel
    clear b0 b1 b2 b3 hbel
    by_cases hlt : c < 4
    · have hd0 : decide ((c : Int) < 4) = true := decide_eq_true (by omega)
      go_wp2_with fail
      go_loopw [7, 8] (fun j _ wr => ∃ r : Nat, r ≤ 4 ∧ j = .int .i64 r ∧ Blk wr w.heap.size (bl 16 (cb b)) 82 ∧ Blk wr (w.heap.size + 1) (bl 4 (cb m)) 100 ∧ Blk wr (w.heap.size + 1 + 1) (bl 16 (cb (upto 0 b))) 82 ∧ Blk wr (w.heap.size + 1 + 1 + 1) (bl 16 (cb (upto (4 * c + r) (mix m b)))) 82 ∧ Below w.heap.size w wr) (fun j _ _ => 4 - (intOf j).toNat)
      case atStart => exact ⟨0, by omega, rfl, B0.out, B1.out, B2.out, B3.out, HB.out⟩
      case round =>
        clear B0 B1 B2 B3 HB
        obtain ⟨r, hr, rfl, b0, b1, b2, b3, hbel⟩ := hrel
        have B0 := hid b0
        have B1 := hid b1
        have B2 := hid b2
        have B3 := hid b3
        have HB := hid hbel
        clear b0 b1 b2 b3 hbel
        by_cases hl : r < 4
        · have hd1 : decide ((r : Int) < 4) = true := decide_eq_true (by omega)
          go_wp2_with fail
          go_loopw [8] (fun j wr => ∃ k : Nat, k ≤ 4 ∧ j = .int .i64 k ∧ Blk wr w.heap.size (bl 16 (cb b)) 82 ∧ Blk wr (w.heap.size + 1) (bl 4 (cb m)) 100 ∧ Blk wr (w.heap.size + 1 + 1) (bl 16 (cb (upto 0 b))) 82 ∧ Blk wr (w.heap.size + 1 + 1 + 1) (bl 16 (cb (part m b (4 * c + r) (p4 (mrow m r) (mcol b c) k)))) 82 ∧ Below w.heap.size w wr) (fun j _ => 4 - (intOf j).toNat)
          case atStart =>
            refine ⟨0, Nat.zero_le _, rfl, B0.out, B1.out, B2.out, ?_, HB.out⟩
            show Blk _ _ (bl 16 (cb (part m b (4 * c + r) 0))) _
            rw [part_zero]; exact B3.out
          case round =>
            clear B0 B1 B2 B3 HB
            obtain ⟨k, hk, rfl, b0, b1, b2, b3, hbel⟩ := hrel
            have B0 := hid b0
            have B1 := hid b1
            have B2 := hid b2
            have B3 := hid b3
            have HB := hid hbel
            have HZ := hid b3.lt
            clear b0 b1 b2 b3 hbel
            by_cases hk4 : k < 4
            · have hd2 : decide ((k : Int) < 4) = true := decide_eq_true (by omega)
              have c0 := B0.out.cell (4 * c + k) _ (bl_get 16 _ _ (by omega))
              have c1 := B1.out.cell ((k + 4 - r) % 4) _ (bl_get 4 _ _ (Nat.mod_lt _ (by decide)))
              have c3 := B3.out.cell (4 * c + r) _ (bl_get 16 _ _ (by omega))
              have f3 := B3.out.frozen (4 * c + r)
              rw [show cb (part m b (4 * c + r) (p4 (mrow m r) (mcol b c) k)) (4 * c + r) = ((p4 (mrow m r) (mcol b c) k : Nat) : Int) from congrArg Nat.cast (part_at m b _ _)] at c3
              have HP := hid (show p4 (mrow m r) (mcol b c) (k + 1) = p4 (mrow m r) (mcol b c) k ^^^ mul (m ((k + 4 - r) % 4)) (b (4 * c + k)) from rfl)
              have hx := HM.out ((k + 4 - r) % 4)
              have hy := HBB.out (4 * c + k) (by omega)
              have hp := p4_lt (mrow m r) (mcol b c) k
              obtain ⟨P, eP⟩ : ∃ P, p4 (mrow m r) (mcol b c) k = P := ⟨_, rfl⟩
              rw [eP] at c3 HP hp B3
              clear eP
              change wr.cell? ⟨w.heap.size + 1, (k + 4 - r) % 4, none⟩ = some (.int .u8 ((m ((k + 4 - r) % 4) : Nat) : Int)) at c1
              change wr.cell? ⟨w.heap.size, 4 * c + k, none⟩ = some (.int .u8 ((b (4 * c + k) : Nat) : Int)) at c0
              obtain ⟨x, ex⟩ : ∃ x, m ((k + 4 - r) % 4) = x := ⟨_, rfl⟩
              rw [ex] at c1 HP hx
              obtain ⟨y, ey⟩ : ∃ y, b (4 * c + k) = y := ⟨_, rfl⟩
              rw [ey] at c0 HP hy
              clear ex ey
              have HX := hid (xor8 P (mul x y) hp (mul_lt _ _))
              have e3 : (IntKind.i64.wrap (IntKind.i64.wrap ((k : Int) + 4) - (r : Int))).tmod 4 = (((k + 4 - r) % 4 : Nat) : Int) := by
                rw [show IntKind.i64.wrap ((k : Int) + 4) = (k : Int) + 4 from by rw [IntKind.wrap_i64]; omega]
                rw [show IntKind.i64.wrap ((k : Int) + 4 - (r : Int)) = (k : Int) + 4 - (r : Int) from by rw [IntKind.wrap_i64]; omega]
                rw [Int.tmod_eq_emod_of_nonneg (by omega)]; omega
              obtain ⟨I, hI⟩ : ∃ I, (k + 4 - r) % 4 = I := ⟨_, rfl⟩
              rw [hI] at c1 e3
              have hI4 : (I : Int) < 4 := by omega
              clear hI
              have w1 : IntKind.i64.wrap (4 * (c : Int)) = 4 * (c : Int) := by rw [IntKind.wrap_i64]; omega
              obtain ⟨E, eE⟩ : ∃ E, 4 * c + r = E := ⟨_, rfl⟩
              obtain ⟨F, eF⟩ : ∃ F, 4 * c + k = F := ⟨_, rfl⟩
              have w2 : IntKind.i64.wrap (4 * (c : Int) + (r : Int)) = (E : Int) := by rw [IntKind.wrap_i64]; omega
              have w3 : IntKind.i64.wrap (4 * (c : Int) + (k : Int)) = (F : Int) := by rw [IntKind.wrap_i64]; omega
              have i1 : (E : Int) < 16 := by omega
              have i2 : (F : Int) < 16 := by omega
              rw [eE] at c3 f3 B3
              rw [eF] at c0
              have EE := hid eE
              clear eE eF
              have MW : Hid (∀ V : World, Calls Tryd.prog 83 #[.int .u8 x, .int .u8 y] V fun e w' => e = .returned (.int .u8 (mul x y : Nat)) ∧ ∃ d, w' = V.drewN d) := fun V => paper_walk x y V hx hy
              go_wp2_with fail
              go_region_law (go_simp; go_at_call 83; refine (MW.out _).mono ?_; rintro e w' ⟨rfl, d, rfl⟩)
              all_goals
                go_simp
                go_wp2_with fail
                have hz := HZ.out
                refine ⟨⟨k + 1, by omega, by go_num, (B0.out.drewN _).other (by omega) _ _, (B1.out.drewN _).other (by omega) _ _, (B2.out.drewN _).other (by omega) _ _, ?_, below_set (below_drew' HB.out _) _ _ _ (by omega) (below_drew' HB.out _).size⟩, by simp [intOf]; omega⟩
                rw [HX.out, HP.out, EE.out, ← part_set m b E P]
                exact (B3.out.drewN _).set _ _
            · have ek : k = 4 := by omega
              subst ek
              have HE := hid (show p4 (mrow m r) (mcol b c) 4 = mix m b (4 * c + r) from by rw [mix_p4, show (4 * c + r) % 4 = r from by omega, show (4 * c + r) / 4 = c from by omega])
              rw [HE.out, part_all] at B3
              go_wp2_with fail
              exact ⟨⟨r + 1, by omega, by go_num, B0.out, B1.out, B2.out, B3.out, HB.out⟩, by simp [intOf]; omega⟩
        · have er : r = 4 := by omega
          subst er
          go_wp2_with fail
          exact ⟨⟨c + 1, by omega, by go_num, B0.out, B1.out, B2.out, B3.out, HB.out⟩, by simp [intOf]; omega⟩
    · have ec : c = 4 := by omega
      subst ec
      rw [show 4 * 4 = 16 from rfl, upto_all] at B3
      have hz := hid B3.out.lt
      obtain ⟨l1, s1, l2, hb2⟩ := fin16 B3.out B2.out HB.out (by omega)
      have L2 := hid l2
      have HB2 := hid hb2
      clear l2 hb2
      go_wp2_with fail
      refine bodyPost_ret ?_ rfl ⟨rfl, HB2.out⟩
      exact results_cell1 Tryd.results87 rfl L2.out
end Go.Proofs.YtbgdjjfonmoemaaDoor.Ae
