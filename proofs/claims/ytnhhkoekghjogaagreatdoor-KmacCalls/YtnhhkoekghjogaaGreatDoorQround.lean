/- What the document's function round answers. -/
import Derived.Test.YtnhhkoekghjogaaGreatDoorQref1
import Derived.Test.YtnhhkoekghjogaaGreatDoorKf
import Derived.Deep.RegionWith
namespace Go.Proofs.YtnhhkoekghjogaaGreatDoor.Kc
open Go.ChangeShapes Go.WideShapes Go.ChangeAt Go.RowKit
open Go.Proofs.YtnhhkoekghjogaaGreatDoor.By Go.Proofs.YtnhhkoekghjogaaGreatDoor.Wd
/-- lane, told as the walk asks it. -/
theorem laneI (u v : Int) (x y : Nat) (i : Nat) (hu : u = (x : Int)) (hv : v = (y : Int)) (hx : x ≤ 100) (hy : y ≤ 100) (hi : i = x % 5 + 5 * (y % 5)) (w : World) :
    Calls Tryz.prog 104 #[.int .i64 u, .int .i64 v] w fun e w' => e = .returned (.int .i64 (i : Int)) ∧ w' = w := by
  subst hu hv hi
  exact lane1 x y w hx hy
theorem xr_zero {x : Int} (h : W64 x) : xr 0 x = x := by
  refine bt_ext (xr_w _ _) h (fun j hj => ?_)
  rw [bt_xr w0 h]
  simp [bt]
/-- A column behind y of its lanes. -/
def pcol (a : Nat → Int) (x : Nat) : Nat → Int
  | 0 => 0
  | y + 1 => xr (pcol a x y) (a (x + 5 * y))
theorem pcol_end {a : Nat → Int} (h : AW a) (x : Nat) : pcol a x 5 = col a x := by
  show xr (xr (xr (xr (xr 0 (a (x + 5 * 0))) (a (x + 5 * 1))) (a (x + 5 * 2))) (a (x + 5 * 3))) (a (x + 5 * 4)) = _
  rw [xr_zero (h _)]; rfl
def pf (a : Nat → Int) (x y i : Nat) : Int := if i < x then col a i else if i = x then pcol a x y else 0
theorem pf_zero (a : Nat → Int) : wl 5 (fun _ => (0 : Int)) = wl 5 (pf a 0 0) := wl_congr 5 _ _ (fun i hi => by
  unfold pf; rw [if_neg (by omega)]; split
  · rfl
  · rfl)
theorem pf_at (a : Nat → Int) (x y : Nat) : pf a x y x = pcol a x y := by unfold pf; rw [if_neg (by omega), if_pos rfl]
theorem pf_next (a : Nat → Int) (x y : Nat) : (wl 5 (pf a x y)).set x (.int .u64 (xr (pf a x y x) (a (x + 5 * y)))) = wl 5 (pf a x (y + 1)) := by
  rw [wl_set, pf_at]
  refine wl_congr 5 _ _ (fun i hi => ?_)
  by_cases h : i = x
  · subst h; rw [if_pos rfl, pf_at]; rfl
  · rw [if_neg h]; unfold pf; rw [if_neg h, if_neg h]
theorem pf_row {a : Nat → Int} (h : AW a) (x : Nat) : wl 5 (pf a x 5) = wl 5 (pf a (x + 1) 0) := wl_congr 5 _ _ (fun i hi => by
  unfold pf
  by_cases h1 : i < x
  · rw [if_pos h1, if_pos (by omega)]
  · by_cases h2 : i = x
    · subst h2; rw [if_neg h1, if_pos rfl, if_pos (by omega), pcol_end h]
    · rw [if_neg h1, if_neg h2, if_neg (by omega)]
      split
      · rfl
      · rfl)
theorem pf_end (a : Nat → Int) : wl 5 (pf a 5 0) = wl 5 (cf a 5) := wl_congr 5 _ _ (fun i hi => by
  unfold pf cf; rw [if_pos hi, if_pos hi])
/-- Step 3, lane by lane, over lanes g. -/
def jg (b g : Nat → Int) (x y i : Nat) : Int := if i % 5 < x ∨ (i % 5 = x ∧ i / 5 < y) then jn b i else g i
theorem jg_zero (b g : Nat → Int) : wl 25 (jg b g 0 0) = wl 25 g := wl_congr 25 _ _ (fun i hi => by unfold jg; rw [if_neg (by omega)])
theorem jg_next (b g : Nat → Int) (x y : Nat) (hx : x < 5) : (wl 25 (jg b g x y)).set (x + 5 * y) (.int .u64 (jn b (x + 5 * y))) = wl 25 (jg b g x (y + 1)) := by
  rw [wl_set]
  refine wl_congr 25 _ _ (fun i hi => ?_)
  by_cases h : i = x + 5 * y
  · subst h
    rw [if_pos rfl]
    unfold jg
    rw [if_pos (by omega)]
  · rw [if_neg h]
    unfold jg
    by_cases h2 : i % 5 < x ∨ (i % 5 = x ∧ i / 5 < y)
    · rw [if_pos h2, if_pos (by omega)]
    · rw [if_neg h2, if_neg (by omega)]
theorem jg_row (b g : Nat → Int) (x : Nat) : wl 25 (jg b g x 5) = wl 25 (jg b g (x + 1) 0) := wl_congr 25 _ _ (fun i hi => by
  unfold jg
  by_cases h2 : i % 5 < x + 1
  · rw [if_pos (by omega), if_pos (by omega)]
  · rw [if_neg (by omega), if_neg (by omega)])
theorem jg_end (b g : Nat → Int) : wl 25 (jg b g 5 0) = wl 25 (jn b) := wl_congr 25 _ _ (fun i hi => by unfold jg; rw [if_pos (by omega)])
theorem tri_val : ∀ t : Nat, t < 24 → wrap64 ((wrap64 (((t : Int) + 1) * ((t : Int) + 2))).tdiv 2) = ((tri t : Nat) : Int) ∧ tri t ≤ 300 := by decide +kernel
theorem turnT (v : Int) (hv : W64 v) (t : Nat) (ht : t < 24) (w : World) :
    Calls Tryz.prog 105 #[.int .u64 v, .int .i64 (wrap64 ((wrap64 (((t : Int) + 1) * ((t : Int) + 2))).tdiv 2))] w fun e w' => e = .returned (.int .u64 (rl v ((tri t : Nat) : Int))) ∧ ∃ k, w' = w.drewN k := by
  have h := tri_val t ht
  have h2 := h.2
  rw [h.1]
  exact turn1 v (tri t) w hv (by omega)
theorem wy_lt : ∀ t, t < 25 → Wy t < 25 := by decide
theorem wy_x : ∀ t, t < 24 → Wy (t + 1) % 5 = Wy t / 5 := by decide
theorem wy_y : ∀ t, t < 24 → Wy (t + 1) / 5 = (2 * (Wy t % 5) + 3 * (Wy t / 5)) % 5 := by decide
theorem lane0 (t : Nat) (ht : t < 24) (w : World) : Calls Tryz.prog 104 #[.int .i64 ((Wy t % 5 : Nat) : Int), .int .i64 ((Wy t / 5 : Nat) : Int)] w fun e w' => e = .returned (.int .i64 ((Wy t : Nat) : Int)) ∧ w' = w := by
  have h := wy_lt t (by omega)
  exact laneI _ _ (Wy t % 5) (Wy t / 5) _ rfl rfl (by omega) (by omega) (by rw [Nat.mod_mod, Nat.mod_eq_of_lt (show Wy t / 5 < 5 by omega)]; omega) w
theorem laneN (t : Nat) (ht : t < 24) (w : World) : Calls Tryz.prog 104 #[.int .i64 ((Wy t / 5 : Nat) : Int), .int .i64 (2 * ((Wy t % 5 : Nat) : Int) + 3 * ((Wy t / 5 : Nat) : Int))] w fun e w' => e = .returned (.int .i64 ((Wy (t + 1) : Nat) : Int)) ∧ w' = w := by
  have h := wy_lt t (by omega)
  have h1 := wy_lt (t + 1) (by omega)
  exact laneI _ _ (Wy t / 5) (2 * (Wy t % 5) + 3 * (Wy t / 5)) _ rfl (by omega) (by omega) (by omega) (by rw [Nat.mod_eq_of_lt (show Wy t / 5 < 5 by omega), ← wy_y t ht, ← wy_x t ht]; omega) w
theorem wy_rem (t : Nat) (ht : t < 24) : (2 * ((Wy t % 5 : Nat) : Int) + 3 * ((Wy t / 5 : Nat) : Int)).tmod 5 = ((Wy (t + 1) / 5 : Nat) : Int) := by
  rw [Int.tmod_eq_emod_of_nonneg (by omega), wy_y t ht]; omega
set_option maxRecDepth 4000 in
set_option maxHeartbeats 4000000 in
theorem round1 (a : Nat → Int) (ha : AW a) (c : Int) (w : World) :
    Calls Tryz.prog 95 #[.agg (wl 25 a).toArray, .int .u64 c] w fun e w' => e = .returned (.agg (wl 25 (rd c a)).toArray) ∧ Below w.heap.size w w' := by
  have HA := hid ha
  clear ha
  go_enter Tryz.func95, Tryz.ntmps95
  go_wp2_with fail
  go_loopw [6] (fun i wr => ∃ x : Nat, x ≤ 5 ∧ i = .int .i64 x ∧ Blk wr w.heap.size (wl 25 a) 121 ∧ Blk wr (w.heap.size + 1) (wl 25 (fun _ => 0)) 121 ∧ Blk wr (w.heap.size + 1 + 1) (wl 5 (pf a x 0)) 136 ∧ Below w.heap.size w wr) (fun i _ => 5 - (intOf i).toNat)
  case atStart =>
    refine ⟨0, Nat.zero_le _, rfl, ((Blk.new w _ _).alloc _).alloc _, (Blk.newAt _ _ _ _ _ (by rw [size_alloc]) z25).alloc _, Blk.newAt _ _ _ _ _ (by rw [size_alloc, size_alloc]) (by rw [← pf_zero]; exact z5), ?_⟩
    exact below_next (below_next (below_alloc w _) (below_alloc _ _)) (below_alloc _ _)
  case round =>
    obtain ⟨x, hx, rfl, b0, b1, b2, hbel⟩ := hrel
    have B0 := hid b0
    have B1 := hid b1
    have B2 := hid b2
    have HB := hid hbel
    have HZ := hid b2.lt
    clear b0 b1 b2 hbel
    by_cases hlt : x < 5
    · go_wp2_with fail
      rw [show decide ((x : Int) < 5) = true from decide_eq_true (by omega)]
      go_loopw [7] (fun i wr => ∃ y : Nat, y ≤ 5 ∧ i = .int .i64 y ∧ Blk wr w.heap.size (wl 25 a) 121 ∧ Blk wr (w.heap.size + 1) (wl 25 (fun _ => 0)) 121 ∧ Blk wr (w.heap.size + 1 + 1) (wl 5 (pf a x y)) 136 ∧ Below w.heap.size w wr) (fun i _ => 5 - (intOf i).toNat)
      case atStart => exact ⟨0, Nat.zero_le _, rfl, B0.out, B1.out, B2.out, HB.out⟩
      case round =>
        clear B0 B1 B2 HB HZ
        obtain ⟨y, hy, rfl, b0, b1, b2, hbel⟩ := hrel
        have B0 := hid b0
        have B1 := hid b1
        have B2 := hid b2
        have HB := hid hbel
        have HZ := hid b2.lt
        clear b0 b1 b2 hbel
        by_cases hly : y < 5
        · have c0 := B0.out.cell (x + 5 * y) _ (wl_get 25 _ (x + 5 * y) (by omega))
          have cp := B2.out.cell x _ (wl_get 5 _ x (by omega))
          have cfz := B2.out.frozen x
          have HN := hid (pf_next a x y)
          have LA : Hid (∀ w, Calls Tryz.prog 104 #[.int .i64 x, .int .i64 y] w fun e w' => e = .returned (.int .i64 ((x + 5 * y : Nat) : Int)) ∧ w' = w) := fun w => laneI _ _ x y _ rfl rfl (by omega) (by omega) (by omega) w
          have i0 : ((x + 5 * y : Nat) : Int) < 25 := by omega
          have i1 : (x : Int) < 5 := by omega
          obtain ⟨v, ev⟩ : ∃ z, a (x + 5 * y) = z := ⟨_, rfl⟩
          obtain ⟨m, em⟩ : ∃ z, pf a x y x = z := ⟨_, rfl⟩
          rw [ev] at c0 HN
          rw [em] at cp HN
          clear ev em
          generalize x + 5 * y = q at *
          go_wp2_with fail
          go_region_with (go_at_call 104; refine (LA.out _).mono ?_; rintro e w' ⟨rfl, rfl⟩)
          all_goals
            go_wp2_with fail
            have hz := HZ.out
            refine ⟨⟨y + 1, by omega, by go_num, (B0.out.other (by omega) _ _).drewN _, (B1.out.other (by omega) _ _).drewN _, ?_, below_drew' (below_set HB.out _ _ _ (by omega) (by omega)) _⟩, by simp [intOf]; omega⟩
            rw [← HN.out]
            exact (B2.out.set _ _).drewN _
        · have ek : y = 5 := by omega
          subst ek
          go_wp2_with fail
          refine ⟨⟨x + 1, by omega, by go_num, B0.out, B1.out, ?_, HB.out⟩, by simp [intOf]; omega⟩
          rw [← pf_row HA.out]; exact B2.out
    · have ek : x = 5 := by omega
      subst ek
      rw [pf_end] at B2
      go_wp2_with fail
      rw [show ((5 : Nat) : Int) = 5 from rfl]
      go_loopw [8] (fun i wr => ∃ x : Nat, x ≤ 5 ∧ i = .int .i64 x ∧ Blk wr w.heap.size (wl 25 (mf a x 0)) 121 ∧ Blk wr (w.heap.size + 1) (wl 25 (fun _ => 0)) 121 ∧ Blk wr (w.heap.size + 1 + 1) (wl 5 (cf a 5)) 136 ∧ Below w.heap.size w wr) (fun i _ => 5 - (intOf i).toNat)
      case atStart => exact ⟨0, by omega, rfl, by rw [show wl 25 (mf a 0 0) = wl 25 a from wl_congr 25 _ _ (fun i _ => mf_zero a i)]; exact B0.out, B1.out, B2.out, HB.out⟩
      case round =>
        clear B0 B1 B2 HB HZ
        obtain ⟨x, hx, rfl, b0, b1, b2, hbel⟩ := hrel
        have B0 := hid b0
        have B1 := hid b1
        have B2 := hid b2
        have HB := hid hbel
        have HZ := hid b2.lt
        clear b0 b1 b2 hbel
        by_cases hlt : x < 5
        · have c4 := B2.out.cell ((x + 4) % 5) _ (wl_get 5 _ ((x + 4) % 5) (by omega))
          have c1 := B2.out.cell ((x + 1) % 5) _ (wl_get 5 _ ((x + 1) % 5) (by omega))
          have t4 : ((x : Int) + 4).tmod 5 = (((x + 4) % 5 : Nat) : Int) := by rw [Int.tmod_eq_emod_of_nonneg (by omega)]; omega
          have t1 : ((x : Int) + 1).tmod 5 = (((x + 1) % 5 : Nat) : Int) := by rw [Int.tmod_eq_emod_of_nonneg (by omega)]; omega
          have t4' : (IntKind.i64.wrap ((x : Int) + 4)).tmod 5 = (((x + 4) % 5 : Nat) : Int) := by
            rw [show IntKind.i64.wrap ((x : Int) + 4) = (x : Int) + 4 from by rw [IntKind.wrap_i64]; omega]; exact t4
          have t1' : (IntKind.i64.wrap ((x : Int) + 1)).tmod 5 = (((x + 1) % 5 : Nat) : Int) := by
            rw [show IntKind.i64.wrap ((x : Int) + 1) = (x : Int) + 1 from by rw [IntKind.wrap_i64]; omega]; exact t1
          have b4 : (x + 4) % 5 < 5 := by omega
          have b1 : (x + 1) % 5 < 5 := by omega
          have v4 : cf a 5 ((x + 4) % 5) = col a ((x + 4) % 5) := if_pos b4
          have v1 : cf a 5 ((x + 1) % 5) = col a ((x + 1) % 5) := if_pos b1
          rw [v4] at c4
          rw [v1] at c1
          have EX : Hid (xr (col a ((x + 4) % 5)) (rl (col a ((x + 1) % 5)) 1) = dd a x) := rfl
          have HC := hid (col_w a ((x + 1) % 5))
          clear v4 v1
          generalize (x + 4) % 5 = q4 at *
          generalize (x + 1) % 5 = q1 at *
          obtain ⟨k4, e4⟩ : ∃ z, col a q4 = z := ⟨_, rfl⟩
          obtain ⟨k1, e1⟩ : ∃ z, col a q1 = z := ⟨_, rfl⟩
          rw [e4] at c4 EX
          rw [e1] at c1 EX HC
          clear e4 e1
          have i4 : (q4 : Int) < 5 := by omega
          have i1 : (q1 : Int) < 5 := by omega
          have TU : Hid (∀ w, Calls Tryz.prog 105 #[.int .u64 k1, .int .i64 1] w fun e w' => e = .returned (.int .u64 (rl k1 1)) ∧ ∃ k, w' = w.drewN k) := fun w => turn1 k1 1 w HC.out (by omega)
          go_wp2_with fail
          go_quiet ((go_at_call 105; exact Calls.quiet_of (TU.out _)))
          go_wp2_with fail
          rw [show decide ((x : Int) < 5) = true from decide_eq_true (by omega), show bits BinOp.xor IntKind.u64 k4 (rl k1 1) = dd a x from EX.out]
          have HD : Hid (∀ y, (wl 25 (mf a x y)).set (x + 5 * y) (.int .u64 (bits BinOp.xor IntKind.u64 (mf a x y (x + 5 * y)) (dd a x))) = wl 25 (mf a x (y + 1))) := fun y => by rw [mf_at a x y hlt]; exact mf_next a x y hlt
          have HD2 := hid (dd_w a x)
          clear EX HC c4 c1 t4 t1 t4' t1' i4 i1 b4 b1 TU
          obtain ⟨D, eD⟩ : ∃ z, dd a x = z := ⟨_, rfl⟩
          rw [eD]
          rw [eD] at HD HD2
          clear eD
          go_loopw [10] (fun i wr => ∃ y : Nat, y ≤ 5 ∧ i = .int .i64 y ∧ Blk wr w.heap.size (wl 25 (mf a x y)) 121 ∧ Blk wr (w.heap.size + 1) (wl 25 (fun _ => 0)) 121 ∧ Blk wr (w.heap.size + 1 + 1) (wl 5 (cf a 5)) 136 ∧ Below w.heap.size w wr) (fun i _ => 5 - (intOf i).toNat)
          case atStart => exact ⟨0, by omega, rfl, B0.out.drewN _, B1.out.drewN _, B2.out.drewN _, below_drew' HB.out _⟩
          case round =>
            clear B0 B1 B2 HB HZ
            obtain ⟨y, hy, rfl, b0, b1, b2, hbel⟩ := hrel
            have B0 := hid b0
            have B1 := hid b1
            have B2 := hid b2
            have HB := hid hbel
            have HZ := hid b2.lt
            clear b0 b1 b2 hbel
            by_cases hly : y < 5
            · have c0 := B0.out.cell (x + 5 * y) _ (wl_get 25 _ (x + 5 * y) (by omega))
              have f0 := B0.out.frozen (x + 5 * y)
              have HM := hid (HD.out y)
              have LA : Hid (∀ w, Calls Tryz.prog 104 #[.int .i64 x, .int .i64 y] w fun e w' => e = .returned (.int .i64 ((x + 5 * y : Nat) : Int)) ∧ w' = w) := fun w => laneI _ _ x y _ rfl rfl (by omega) (by omega) (by omega) w
              have i0 : ((x + 5 * y : Nat) : Int) < 25 := by omega
              obtain ⟨m, em⟩ : ∃ z, mf a x y (x + 5 * y) = z := ⟨_, rfl⟩
              rw [em] at c0 HM
              clear em
              generalize x + 5 * y = q at *
              go_wp2_with (go_at_call 104; refine (LA.out _).mono ?_; rintro e w' ⟨rfl, rfl⟩)
              have hz := HZ.out
              refine ⟨⟨y + 1, by omega, by go_num, ?_, B1.out.other (by omega) _ _, B2.out.other (by omega) _ _, below_set HB.out _ _ _ (by omega) (by omega)⟩, by simp [intOf]; omega⟩
              rw [← HM.out]
              exact B0.out.set _ _
            · have ek : y = 5 := by omega
              subst ek
              go_wp2_with fail
              refine ⟨⟨x + 1, by omega, by go_num, ?_, B1.out, B2.out, HB.out⟩, by simp [intOf]; omega⟩
              rw [← mf_row a x]
              exact B0.out
        · have ek : x = 5 := by omega
          subst ek
          rw [mf_end] at B0
          have czb := ((B0.out.alloc (.cells (wl 25 (fun _ => 0)).toArray 121))).cell 0 _ (wl_get 25 (mix a) 0 (by omega))
          rw [← z25] at czb
          have HM := hid (mix_w a)
          obtain ⟨A, eA⟩ : ∃ z, mix a = z := ⟨_, rfl⟩
          rw [eA] at B0 czb HM
          have EA := hid eA
          clear eA B2
          go_wp2_with fail
          rw [show ((5 : Nat) : Int) = 5 from rfl]
          have hz := HZ.out
          have E0 := hid (B0.out.alloc (.cells (wl 25 (mvt A 0)).toArray 121))
          have E1 := hid (B1.out.alloc (.cells (wl 25 (mvt A 0)).toArray 121))
          have E3 := hid (Blk.new wr (wl 25 (mvt A 0)) 121)
          have EB := hid (below_next HB.out (below_alloc wr (.cells (wl 25 (mvt A 0)).toArray 121)))
          rw [show (wl 25 (mvt A 0)).toArray = _ from (z25s (A 0)).symm] at E0 E1 E3 EB
          obtain ⟨V, eV⟩ : ∃ z, wr.alloc (.cells #[Value.int .u64 (A 0), .int .u64 0, .int .u64 0, .int .u64 0, .int .u64 0, .int .u64 0, .int .u64 0, .int .u64 0, .int .u64 0, .int .u64 0, .int .u64 0, .int .u64 0, .int .u64 0, .int .u64 0, .int .u64 0, .int .u64 0, .int .u64 0, .int .u64 0, .int .u64 0, .int .u64 0, .int .u64 0, .int .u64 0, .int .u64 0, .int .u64 0, .int .u64 0] 121) = z := ⟨_, rfl⟩
          rw [eV]
          rw [eV] at E0 E1 E3 EB
          obtain ⟨g3, e3⟩ : ∃ z, wr.heap.size = z := ⟨_, rfl⟩
          rw [e3]
          rw [e3] at E3 hz
          clear eV e3 czb B0 B1 HB HZ
          go_loopw [12, 13, 14] (fun u v i wr => ∃ t d : Nat, t ≤ 24 ∧ i = .int .i64 t ∧ u = .int .i64 ((Wy t % 5 : Nat) : Int) ∧ v = .int .i64 ((Wy t / 5 : Nat) : Int) ∧ Blk wr w.heap.size (wl 25 A) 121 ∧ Blk wr (w.heap.size + 1) (wl 25 (fun _ => 0)) 121 ∧ Blk wr g3 (wl 25 (mvt A t)) 121 ∧ Below w.heap.size w wr) (fun _ _ i _ => 24 - (intOf i).toNat)
          case atStart => exact ⟨0, 0, Nat.zero_le _, rfl, rfl, rfl, E0.out, E1.out, E3.out, EB.out⟩
          case round =>
            clear E0 E1 E3 EB
            obtain ⟨t, d, ht, rfl, rfl, rfl, b0, b1, b2, hbel⟩ := hrel
            have B0 := hid b0
            have B1 := hid b1
            have B2 := hid b2
            have HB := hid hbel
            have HZ := hid b2.lt
            clear b0 b1 b2 hbel
            have hs5 := HB.out.size
            by_cases hlt : t < 24
            · have hw0 := wy_lt t (by omega)
              have hw1 := wy_lt (t + 1) (by omega)
              have hn1 := wy_x t hlt
              have c0 := B0.out.cell (Wy t) _ (wl_get 25 A (Wy t) hw0)
              have c2 := B2.out.cell (Wy (t + 1)) _ (wl_get 25 _ (Wy (t + 1)) hw1)
              have f2 := B2.out.frozen (Wy (t + 1))
              have i0 : ((Wy t : Nat) : Int) < 25 := by omega
              have i1 : ((Wy (t + 1) : Nat) : Int) < 25 := by omega
              have HS : Hid ((wl 25 (mvt A t)).set (Wy (t + 1)) (.int .u64 (rl (A (Wy t)) (tri t))) = wl 25 (mvt A (t + 1))) := wl_set _ _ _ _
              have TU := hid (turnT (A (Wy t)) (HM.out (Wy t)) t hlt)
              have LA0 := hid (lane0 t hlt)
              have LA1 := hid (laneN t hlt)
              have er := wy_rem t hlt
              have HN1 := hid hn1
              have bx : Wy t % 5 < 5 := by omega
              have by' : Wy t / 5 < 5 := by omega
              have bn : Wy (t + 1) / 5 < 5 := by omega
              clear hn1
              obtain ⟨v, ev⟩ : ∃ z, A (Wy t) = z := ⟨_, rfl⟩
              rw [ev] at c0 HS TU
              clear ev
              obtain ⟨m, em⟩ : ∃ z, mvt A t (Wy (t + 1)) = z := ⟨_, rfl⟩
              rw [em] at c2
              clear em
              obtain ⟨nx, enx⟩ : ∃ z, Wy (t + 1) / 5 = z := ⟨_, rfl⟩
              rw [enx] at er bn
              have ENX := hid enx
              clear enx
              obtain ⟨px, epx⟩ : ∃ z, Wy t % 5 = z := ⟨_, rfl⟩
              rw [epx] at er LA0 LA1 bx
              rw [epx]
              clear epx
              obtain ⟨py, epy⟩ : ∃ z, Wy t / 5 = z := ⟨_, rfl⟩
              rw [epy] at er LA0 LA1 by' HN1
              rw [epy]
              clear epy
              obtain ⟨p1, ep1⟩ : ∃ z, Wy (t + 1) = z := ⟨_, rfl⟩
              rw [ep1] at c2 f2 i1 HS LA1 HN1 ENX
              have EP1 := hid ep1
              clear ep1 hw1
              generalize Wy t = p0 at *
              generalize tri t = tk at *
              go_wp2_with fail
              refine (LA1.out _).mono ?_
              rintro e w' ⟨rfl, rfl⟩
              go_wp2_with fail
              refine (LA0.out _).mono ?_
              rintro e w' ⟨rfl, rfl⟩
              go_wp2_with fail
              refine (TU.out _).mono ?_
              rintro e w' ⟨rfl, dr, rfl⟩
              go_wp2_with fail
              have hz4 := HZ.out
              refine ⟨⟨t + 1, 0, by omega, by go_num, ?_, ?_, (B0.out.drewN _).other (by omega) _ _, (B1.out.drewN _).other (by omega) _ _, ?_, below_set (below_drew' HB.out _) _ _ _ (by omega) (by show w.heap.size ≤ w'.heap.size; omega)⟩, by simp [intOf]; omega⟩
              · rw [EP1.out, HN1.out]
              · rw [EP1.out, ENX.out]
              · rw [← HS.out]
                exact (B2.out.drewN _).set _ _
            · have ek : t = 24 := by omega
              subst ek
              go_wp2_with fail
              rw [show ((24 : Nat) : Int) = 24 from rfl, show ((Wy 24 % 5 : Nat) : Int) = 1 from rfl, show ((Wy 24 / 5 : Nat) : Int) = 0 from rfl]
              have HJ : Hid (mvt A 24 = mv A) := rfl
              rw [HJ.out] at B2
              have HV := hid (mv_w HM.out)
              obtain ⟨b, eb⟩ : ∃ z, mv A = z := ⟨_, rfl⟩
              rw [eb] at B2 HV
              have EB := hid eb
              clear eb HJ
              go_loopw [16] (fun i wr => ∃ x : Nat, x ≤ 5 ∧ i = .int .i64 x ∧ Blk wr w.heap.size (wl 25 (jg b A x 0)) 121 ∧ Blk wr (w.heap.size + 1) (wl 25 (fun _ => 0)) 121 ∧ Blk wr g3 (wl 25 b) 121 ∧ Below w.heap.size w wr) (fun i _ => 5 - (intOf i).toNat)
              case atStart => exact ⟨0, by omega, rfl, by rw [jg_zero]; exact B0.out, B1.out, B2.out, HB.out⟩
              case round =>
                clear B0 B1 B2 HB HZ hs5
                obtain ⟨x, hx, rfl, b0, b1, b2, hbel⟩ := hrel
                have B0 := hid b0
                have B1 := hid b1
                have B2 := hid b2
                have HB := hid hbel
                have HZ := hid b2.lt
                clear b0 b1 b2 hbel
                by_cases hlt : x < 5
                · go_wp2_with fail
                  rw [show decide ((x : Int) < 5) = true from decide_eq_true (by omega)]
                  go_loopw [17] (fun i wr => ∃ y : Nat, y ≤ 5 ∧ i = .int .i64 y ∧ Blk wr w.heap.size (wl 25 (jg b A x y)) 121 ∧ Blk wr (w.heap.size + 1) (wl 25 (fun _ => 0)) 121 ∧ Blk wr g3 (wl 25 b) 121 ∧ Below w.heap.size w wr) (fun i _ => 5 - (intOf i).toNat)
                  case atStart => exact ⟨0, Nat.zero_le _, rfl, B0.out, B1.out, B2.out, HB.out⟩
                  case round =>
                    clear B0 B1 B2 HB HZ
                    obtain ⟨y, hy, rfl, b0, b1, b2, hbel⟩ := hrel
                    have B0 := hid b0
                    have B1 := hid b1
                    have B2 := hid b2
                    have HB := hid hbel
                    have HZ := hid b2.lt
                    clear b0 b1 b2 hbel
                    by_cases hly : y < 5
                    · have c0 := B2.out.cell (x + 5 * y) _ (wl_get 25 b (x + 5 * y) (by omega))
                      have c2 := B2.out.cell ((x + 2) % 5 + 5 * y) _ (wl_get 25 b ((x + 2) % 5 + 5 * y) (by omega))
                      have c1 := B2.out.cell ((x + 1) % 5 + 5 * y) _ (wl_get 25 b ((x + 1) % 5 + 5 * y) (by omega))
                      have ca := B0.out.cell (x + 5 * y) _ (wl_get 25 _ (x + 5 * y) (by omega))
                      have fa := B0.out.frozen (x + 5 * y)
                      have HN := hid (jg_next b A x y hlt)
                      have EJ : Hid (jn b (x + 5 * y) = xr (b (x + 5 * y)) (dn (b ((x + 2) % 5 + 5 * y)) (b ((x + 1) % 5 + 5 * y)))) := by
                        show jn b (x + 5 * y) = _
                        unfold jn
                        rw [show n2 (x + 5 * y) = (x + 2) % 5 + 5 * y from by unfold n2; omega, show n1 (x + 5 * y) = (x + 1) % 5 + 5 * y from by unfold n1; omega]
                      have L0 : Hid (∀ w, Calls Tryz.prog 104 #[.int .i64 x, .int .i64 y] w fun e w' => e = .returned (.int .i64 ((x + 5 * y : Nat) : Int)) ∧ w' = w) := fun w => laneI _ _ x y _ rfl rfl (by omega) (by omega) (by omega) w
                      have L2 : Hid (∀ w, Calls Tryz.prog 104 #[.int .i64 (IntKind.i64.wrap ((x : Int) + 2)), .int .i64 y] w fun e w' => e = .returned (.int .i64 (((x + 2) % 5 + 5 * y : Nat) : Int)) ∧ w' = w) := fun w => laneI _ _ (x + 2) y _ (by rw [IntKind.wrap_i64]; omega) rfl (by omega) (by omega) (by omega) w
                      have L1 : Hid (∀ w, Calls Tryz.prog 104 #[.int .i64 (IntKind.i64.wrap ((x : Int) + 1)), .int .i64 y] w fun e w' => e = .returned (.int .i64 (((x + 1) % 5 + 5 * y : Nat) : Int)) ∧ w' = w) := fun w => laneI _ _ (x + 1) y _ (by rw [IntKind.wrap_i64]; omega) rfl (by omega) (by omega) (by omega) w
                      have L2' : Hid (∀ w, Calls Tryz.prog 104 #[.int .i64 ((x : Int) + 2), .int .i64 y] w fun e w' => e = .returned (.int .i64 (((x + 2) % 5 + 5 * y : Nat) : Int)) ∧ w' = w) := fun w => laneI _ _ (x + 2) y _ (by omega) rfl (by omega) (by omega) (by omega) w
                      have L1' : Hid (∀ w, Calls Tryz.prog 104 #[.int .i64 ((x : Int) + 1), .int .i64 y] w fun e w' => e = .returned (.int .i64 (((x + 1) % 5 + 5 * y : Nat) : Int)) ∧ w' = w) := fun w => laneI _ _ (x + 1) y _ (by omega) rfl (by omega) (by omega) (by omega) w
                      have i0 : ((x + 5 * y : Nat) : Int) < 25 := by omega
                      have i1 : (((x + 1) % 5 + 5 * y : Nat) : Int) < 25 := by omega
                      have i2 : (((x + 2) % 5 + 5 * y : Nat) : Int) < 25 := by omega
                      obtain ⟨v0, e0⟩ : ∃ z, b (x + 5 * y) = z := ⟨_, rfl⟩
                      obtain ⟨v1, e1⟩ : ∃ z, b ((x + 1) % 5 + 5 * y) = z := ⟨_, rfl⟩
                      obtain ⟨v2, e2⟩ : ∃ z, b ((x + 2) % 5 + 5 * y) = z := ⟨_, rfl⟩
                      obtain ⟨m, em⟩ : ∃ z, jg b A x y (x + 5 * y) = z := ⟨_, rfl⟩
                      rw [e0] at c0 EJ
                      rw [e1] at c1 EJ
                      rw [e2] at c2 EJ
                      rw [em] at ca
                      rw [EJ.out] at HN
                      clear e0 e1 e2 em EJ
                      generalize (x + 1) % 5 + 5 * y = q1 at *
                      generalize (x + 2) % 5 + 5 * y = q2 at *
                      generalize x + 5 * y = q at *
                      go_wp2_with fail
                      go_region_with (first | (go_at_call 104; (first | with_reducible refine (L0.out _).mono ?_ | with_reducible refine (L2.out _).mono ?_ | with_reducible refine (L1.out _).mono ?_ | with_reducible refine (L2'.out _).mono ?_ | with_reducible refine (L1'.out _).mono ?_); rintro e w' ⟨rfl, rfl⟩))
                      all_goals
                        go_wp2_with fail
                        have hz4 := HZ.out
                        refine ⟨⟨y + 1, by omega, by go_num, ?_, (B1.out.other (by omega) _ _).drewN _, (B2.out.other (by omega) _ _).drewN _, below_drew' (below_set HB.out _ _ _ (by omega) (by omega)) _⟩, by simp [intOf]; omega⟩
                        rw [← HN.out]
                        exact (B0.out.set _ _).drewN _
                    · have ek : y = 5 := by omega
                      subst ek
                      go_wp2_with fail
                      refine ⟨⟨x + 1, by omega, by go_num, ?_, B1.out, B2.out, HB.out⟩, by simp [intOf]; omega⟩
                      rw [← jg_row]; exact B0.out
                · have ek : x = 5 := by omega
                  subst ek
                  rw [jg_end] at B0
                  have y0 := B0.out.cell 0 _ (wl_get 25 (jn b) 0 (by omega))
                  have yf := B0.out.frozen 0
                  have D0 := hid (B0.out.set 0 (.int .u64 (bits BinOp.xor IntKind.u64 (jn b 0) c)))
                  rw [show (wl 25 (jn b)).set 0 (.int .u64 (bits BinOp.xor IntKind.u64 (jn b 0) c)) = wl 25 (rd c a) from by
                    rw [wl_set]
                    unfold rd
                    rw [EA.out, EB.out]
                    rfl] at D0
                  have hz5 := HZ.out
                  have D1 := hid (B1.out.other (show w.heap.size + 1 ≠ w.heap.size from by omega) 0 (.int .u64 (bits BinOp.xor IntKind.u64 (jn b 0) c)))
                  have l1 := LDt_run (D0.out.range 0 _ (fun j v h => by rw [Nat.zero_add]; exact h)) (wl_length _ _)
                  have s1 := SVt_run (cs := wl 25 (rd c a)) (D1.out.there 0 25 (by rw [wl_length]; omega)) (wl_length _ _) (wl_one _ _)
                  have b3 := D1.out.put 0 (wl 25 (rd c a))
                  rw [put_all _ _ (by rw [wl_length, wl_length])] at b3
                  have l2 := hid (LDt_run (b3.range 0 _ (fun j v h => by rw [Nat.zero_add]; exact h)) (wl_length _ _))
                  have DB := hid (below_set HB.out w.heap.size 0 (.int .u64 (bits BinOp.xor IntKind.u64 (jn b 0) c)) (Nat.le_refl _) HB.out.size)
                  clear b3
                  generalize jn b 0 = j0 at *
                  go_wp2_with fail
                  refine bodyPost_ret (v := .agg (wl 25 (rd c a)).toArray) ?_ rfl ⟨rfl, below_cells DB.out _ _ _ (by omega) DB.out.size⟩
                  exact results_cell1 Tryz.results95 rfl l2.out
end Go.Proofs.YtnhhkoekghjogaaGreatDoor.Kc
