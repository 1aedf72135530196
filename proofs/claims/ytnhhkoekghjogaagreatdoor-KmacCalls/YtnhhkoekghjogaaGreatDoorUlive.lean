/- The statements' helpers key, message, begins and lives. -/
import Derived.Test.YtnhhkoekghjogaaGreatDoorUev0
import Derived.Test.YtnhhkoekghjogaaGreatDoorXsh
import Derived.Deep.RegionHeld3
namespace Go.Proofs.YtnhhkoekghjogaaGreatDoor.Kc
open Go.ChangeShapes Go.WideShapes Go.ChangeAt Go.RowKit
open Go.Proofs.YtnhhkoekghjogaaGreatDoor.By Go.Proofs.YtnhhkoekghjogaaGreatDoor.Wd
theorem eK_at : ∀ i, i < 32 → lst eK i = 64 + (i : Int) := by decide
set_option maxHeartbeats 2000000 in
theorem key1 (w : World) : Calls Tryz.prog 18 #[] w fun e w' => ∃ v, e = .returned v ∧ By.Own w' w.heap.size v 32 (lst eK) ∧ Below w.heap.size w w' := by
  go_enter Tryz.func18, Tryz.ntmps18
  go_wp2
  go_loopw [1, 2] (fun v i wr => ∃ j : Nat, j ≤ 32 ∧ i = .int .i64 j ∧ By.Own wr w.heap.size v j (lst eK) ∧ Below w.heap.size w wr) (fun _ i _ => 32 - (intOf i).toNat)
  case atStart => exact ⟨0, Nat.zero_le _, rfl, own_nil _ _ _ eK_b, Below.refl _ _⟩
  case round =>
    obtain ⟨j, hj, rfl, hown, hbel⟩ := hrel
    have HO := hid hown
    have HB := hid hbel
    clear hown hbel
    by_cases hlt : j < 32
    · have HE := hid (eK_at j hlt)
      have HSz : Hid (w.heap.size ≤ wr.heap.size) := HB.out.size
      have kw : ((64 : Int) + j) % 256 = 64 + j := by omega
      have OV := hid (own_below HO.out (below_alloc wr (.cells #[.int .u8 (64 + (j : Int))] 5)))
      have OL := hid (own_one wr (64 + (j : Int)) (by omega))
      go_wp2_with (at_builtin; go_must (refine wpList_cat rfl _ _ rfl w.heap.size j 1 _ _ (lst eK) (fun _ => 64 + (j : Int)) rfl OV.out rfl OL.out.reads (by omega) (by simp; have := HSz.out; omega) ?_))
      intro v3 w3 hown3 hgrow3
      have R1 : Hid (By.Own w3 w.heap.size v3 (j + 1) (lst eK)) := own_congr hown3 eK_b (fun i hi => by
        unfold cat
        by_cases h : i < j
        · rw [if_pos h]
        · obtain rfl : i = j := by omega
          rw [if_neg h, HE.out])
      have R2 : Hid (Below w.heap.size w w3) := (HB.out.alloc HSz.out _).grown hgrow3 (by simp; have := HSz.out; omega) (own_row OV.out)
      clear hown3 hgrow3 HO HB OV OL HSz
      go_wp2
      exact ⟨⟨j + 1, by omega, by go_num, R1.out, R2.out⟩, by simp [intOf]; omega⟩
    · obtain rfl : j = 32 := by omega
      go_wp2
      go_ret
      exact ⟨_, rfl, HO.out, HB.out⟩
theorem message1 (w : World) : Calls Tryz.prog 19 #[] w fun e w' => ∃ v, e = .returned v ∧ By.Own w' w.heap.size v 4 (lst e4) ∧ Below w.heap.size w w' := by
  go_enter Tryz.func19, Tryz.ntmps19
  go_wp2
  go_ret
  refine ⟨_, rfl, ?_, below_alloc _ _⟩
  have bn := Blk.newAt w #[.int .u8 0, .int .u8 1, .int .u8 2, .int .u8 3] (bl 4 (lst e4)) 5 w.heap.size rfl rfl
  exact own_blk bn e4_b (Nat.le_refl _) (by decide)
set_option maxHeartbeats 2000000 in
/-- begins: yes. -/
theorem begins1 (a : Option Addr) (n c : Nat) (f : Nat → Int) (x y z u : Int) (w : World) (hr : By.RB w (.slice a n c) n f) (hn : 4 ≤ n) (hx : 0 ≤ x ∧ x < 256) (hy : 0 ≤ y ∧ y < 256) (hz : 0 ≤ z ∧ z < 256) (hu : 0 ≤ u ∧ u < 256) (h0 : f 0 = x) (h1 : f 1 = y) (h2 : f 2 = z) (h3 : f 3 = u) :
    Calls Tryz.prog 20 #[.slice a n c, .int .i64 0, .int .i64 n, .agg #[.int .u8 x, .int .u8 y, .int .u8 z, .int .u8 u]] w fun e w' => e = .returned (.bool true) ∧ Below w.heap.size w w' := by
  have HR := hid hr
  have hc := rb_cap hr
  clear hr
  go_enter Tryz.func20, Tryz.ntmps20
  go_wp2_with fail
  obtain ⟨W, hW⟩ : ∃ W, w.alloc (.cells #[.int .u8 x, .int .u8 y, .int .u8 z, .int .u8 u] 56) = W := ⟨_, rfl⟩
  have BW : Hid (Below w.heap.size w W) := by rw [← hW]; exact below_alloc _ _
  have b4 : ∀ i, 0 ≤ lst [x, y, z, u] i ∧ lst [x, y, z, u] i < 256 := lst_bound _ (by simp; omega)
  have R4 : Hid (By.RB W (.slice (some ⟨w.heap.size, 0, none⟩) 4 4) 4 (lst [x, y, z, u])) := by
    rw [← hW]
    exact rb_blk (Blk.newAt w #[.int .u8 x, .int .u8 y, .int .u8 z, .int .u8 u] (bl 4 (lst [x, y, z, u])) 56 w.heap.size rfl rfl) b4 (by decide)
  have R3 := hid ((HR.out.below BW.out).first 4 hn)
  have HE : Hid (∀ i, i < 4 → f i = lst [x, y, z, u] i) := fun i hi => by
    rcases (show i = 0 ∨ i = 1 ∨ i = 2 ∨ i = 3 by omega) with rfl | rfl | rfl | rfl
    · exact h0
    · exact h1
    · exact h2
    · exact h3
  have f4 : (4 : Int) ≤ (c : Int) := by omega
  rw [hW]
  clear hW h0 h1 h2 h3 b4
  go_region_held3 (fun _ => True) (trivial) (first | (go_at_call 12; go_must (refine (same_true _ _ 4 f (lst [x, y, z, u]) _ (R3.out.below (below_drewN W 1)) (R4.out.below (below_drewN W 1)) (by omega) HE.out).mono ?_; rintro e w4 ⟨rfl, d4, hw4⟩)))
  go_wp2
  go_ret
  exact ⟨rfl, below_drew' BW.out _⟩
set_option maxRecDepth 4000 in
set_option maxHeartbeats 2000000 in
theorem lives1 (w : World) (hk : KT w) :
    Calls Tryz.prog 4 #[] w fun e w' => e = .returned (.bool true) ∧ Below w.heap.size w w' := by
  have HK := hid hk
  clear hk
  go_enter Tryz.func4, Tryz.ntmps4
  go_wp2_with fail
  refine (key1 w).mono ?_
  rintro e w1 ⟨v1, rfl, ho, hb⟩
  have O1 := hid ho
  have B1 := hid hb
  clear ho hb
  go_wp2_with fail
  refine (message1 w1).mono ?_
  rintro e w2 ⟨v2, rfl, ho, hb⟩
  have O2 := hid ho
  have O1' := hid (own_below O1.out hb)
  have B2 := hid (below_next B1.out hb)
  clear ho hb O1
  go_wp2_with fail
  refine (ktag_ok 128 168 32 0 4 32 (lst eK) no0 (lst e4) _ _ _ false none [] (fun _ => False) w2 (.inl ⟨rfl, rfl⟩) (HK.out.below B2.out) (fun e => e) (fun e => e) trivial pos_nil ⟨by decide, by decide⟩ (fun w' hk' => O1'.out.reads.below (below_no hk')) (fun w' hk' => rb_none w') (fun w' hk' => O2.out.reads.below (below_no hk')) (by omega) (by omega) (by omega) (by omega)).mono ?_
  rintro e w3 ⟨v3, rfl, ho, -, hkp⟩
  have R3 := hid (ho.reads.congr eA_b (fun i hi => saykA i hi))
  have B3 := hid (below_next B2.out (below_no hkp))
  obtain ⟨a3, c3, rfl⟩ := own_slice ho
  clear ho hkp
  go_wp2_with fail
  refine (begins1 a3 32 c3 (lst eA) 229 120 11 13 w3 R3.out (by omega) (by omega) (by omega) (by omega) (by omega) rfl rfl rfl rfl).mono ?_
  rintro e w4 ⟨rfl, hb⟩
  have B4 := hid (below_next B3.out hb)
  clear hb
  go_wp2
  go_ret
  exact ⟨rfl, B4.out⟩
end Go.Proofs.YtnhhkoekghjogaaGreatDoor.Kc
