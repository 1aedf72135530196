/- What the program's function mixed answers: step 1 of a round. -/
import Derived.Test.YtidejhkajabdfaaDoorQcelp
import Derived.Test.YtidejhkajabdfaaDoorQturn
namespace Go.Proofs.YtidejhkajabdfaaDoor.Kc
open Go.ChangeShapes Go.WideShapes Go.ChangeAt Go.RowKit
open Go.Proofs.YtidejhkajabdfaaDoor.By Go.Proofs.YtidejhkajabdfaaDoor.Wd
theorem z25 : #[Value.int .u64 0, .int .u64 0, .int .u64 0, .int .u64 0, .int .u64 0, .int .u64 0, .int .u64 0, .int .u64 0, .int .u64 0, .int .u64 0, .int .u64 0, .int .u64 0, .int .u64 0, .int .u64 0, .int .u64 0, .int .u64 0, .int .u64 0, .int .u64 0, .int .u64 0, .int .u64 0, .int .u64 0, .int .u64 0, .int .u64 0, .int .u64 0, .int .u64 0] = (wl 25 (fun _ => 0)).toArray := by kernel_rfl
theorem z5 : #[Value.int .u64 0, .int .u64 0, .int .u64 0, .int .u64 0, .int .u64 0] = (wl 5 (fun _ => 0)).toArray := by kernel_rfl
theorem drewN_three (Z : World) (n x d : Nat) : (Z.drewN (n + x)).drewN d = Z.drewN (n + (x + d)) := by rw [drewN_two, Nat.add_assoc]
/-- The columns that are reckoned so far. -/
def cf (a : Nat → Int) (k i : Nat) : Int := if i < k then col a i else 0
theorem cf_zero (a : Nat → Int) : (fun _ => (0 : Int)) = cf a 0 := funext fun i => by simp [cf]
theorem cf_next (a : Nat → Int) (k : Nat) : (wl 5 (cf a k)).set k (.int .u64 (col a k)) = wl 5 (cf a (k + 1)) := by
  rw [wl_set]
  refine wl_congr 5 _ _ (fun i hi => ?_)
  unfold cf
  by_cases h : i = k
  · subst h; rw [if_pos rfl, if_pos (by omega)]
  · rw [if_neg h]
    by_cases h2 : i < k
    · rw [if_pos h2, if_pos (by omega)]
    · rw [if_neg h2, if_neg (by omega)]
/-- The lanes behind x whole columns and y lanes of the next. -/
def mf (a : Nat → Int) (x y i : Nat) : Int := if i % 5 < x ∨ (i % 5 = x ∧ i / 5 < y) then mix a i else a i
theorem mf_zero (a : Nat → Int) (i : Nat) : mf a 0 0 i = a i := by unfold mf; rw [if_neg (by omega)]
theorem mf_next (a : Nat → Int) (x y : Nat) (hx : x < 5) : (wl 25 (mf a x y)).set (x + 5 * y) (.int .u64 (xr (a (x + 5 * y)) (dd a x))) = wl 25 (mf a x (y + 1)) := by
  rw [wl_set]
  refine wl_congr 25 _ _ (fun i hi => ?_)
  by_cases h : i = x + 5 * y
  · subst h
    rw [if_pos rfl]
    unfold mf
    rw [if_pos (by omega)]
    unfold mix
    rw [show (x + 5 * y) % 5 = x from by omega]
  · rw [if_neg h]
    unfold mf
    by_cases h2 : i % 5 < x ∨ (i % 5 = x ∧ i / 5 < y)
    · rw [if_pos h2, if_pos (by omega)]
    · rw [if_neg h2, if_neg (by omega)]
theorem mf_row (a : Nat → Int) (x : Nat) : wl 25 (mf a x 5) = wl 25 (mf a (x + 1) 0) := wl_congr 25 _ _ (fun i hi => by
  unfold mf
  by_cases h2 : i % 5 < x + 1
  · rw [if_pos (by omega), if_pos (by omega)]
  · rw [if_neg (by omega), if_neg (by omega)])
theorem mf_end (a : Nat → Int) : wl 25 (mf a 5 0) = wl 25 (mix a) := wl_congr 25 _ _ (fun i hi => by unfold mf; rw [if_pos (by omega)])
theorem mf_at (a : Nat → Int) (x y : Nat) (hx : x < 5) : mf a x y (x + 5 * y) = a (x + 5 * y) := by unfold mf; rw [if_neg (by omega)]
set_option maxRecDepth 4000 in
set_option maxHeartbeats 2000000 in
theorem mixed1 (a : Nat → Int) (ha : AW a) (w : World) :
    Calls Tryd.prog 74 #[.agg (wl 25 a).toArray] w fun e w' => e = .returned (.agg (wl 25 (mix a)).toArray) ∧ Below w.heap.size w w' := by
  have HA := hid ha
  clear ha
  go_enter Tryd.func74, Tryd.ntmps74
  go_wp2_with fail
  go_loopw [8] (fun i wr => ∃ k : Nat, k ≤ 5 ∧ i = .int .i64 k ∧ Blk wr w.heap.size (wl 25 a) 103 ∧ Blk wr (w.heap.size + 1) (wl 25 (fun _ => 0)) 103 ∧ Blk wr (w.heap.size + 1 + 1) (wl 5 (cf a k)) 113 ∧ Below w.heap.size w wr) (fun i _ => 5 - (intOf i).toNat)
  case atStart =>
    refine ⟨0, Nat.zero_le _, rfl, ((Blk.new w _ _).alloc _).alloc _, (Blk.newAt _ _ _ _ _ (by rw [size_alloc]) z25).alloc _, Blk.newAt _ _ _ _ _ (by rw [size_alloc, size_alloc]) (by rw [← cf_zero]; exact z5), ?_⟩
    exact below_next (below_next (below_alloc w _) (below_alloc _ _)) (below_alloc _ _)
  case round =>
    obtain ⟨k, hk, rfl, b0, b1, b2, hbel⟩ := hrel
    have B0 := hid b0
    have B1 := hid b1
    have B2 := hid b2
    have HB := hid hbel
    have HZ := hid b2.lt
    clear b0 b1 b2 hbel
    by_cases hlt : k < 5
    · have c0 := B0.out.cell k _ (wl_get 25 _ k (by omega))
      have c5 := B0.out.cell (k + 5) _ (wl_get 25 _ (k + 5) (by omega))
      have c10 := B0.out.cell (k + 10) _ (wl_get 25 _ (k + 10) (by omega))
      have c15 := B0.out.cell (k + 15) _ (wl_get 25 _ (k + 15) (by omega))
      have c20 := B0.out.cell (k + 20) _ (wl_get 25 _ (k + 20) (by omega))
      have cc := B2.out.cell k _ (wl_get 5 _ k (by omega))
      have cfz := B2.out.frozen k
      have e5 : ((k : Int) + 5).toNat = k + 5 := by omega
      have e10 : ((k : Int) + 10).toNat = k + 10 := by omega
      have e15 : ((k : Int) + 15).toNat = k + 15 := by omega
      have e20 : ((k : Int) + 20).toNat = k + 20 := by omega
      go_wp2_with fail
      go_region
      go_wp2_with fail
      have hz := HZ.out
      refine ⟨⟨k + 1, by omega, by go_num, (B0.out.other (by omega) _ _).drewN _, (B1.out.other (by omega) _ _).drewN _, ?_, below_drew' (below_set HB.out _ _ _ (by omega) (by omega)) _⟩, by simp [intOf]; omega⟩
      rw [← cf_next a k]
      exact (B2.out.set k _).drewN _
    · have ek : k = 5 := by omega
      subst ek
      go_wp2_with fail
      go_loopw [37] (fun i wr => ∃ k : Nat, k ≤ 5 ∧ i = .int .i64 k ∧ Blk wr w.heap.size (wl 25 (mf a k 0)) 103 ∧ Blk wr (w.heap.size + 1) (wl 25 (fun _ => 0)) 103 ∧ Blk wr (w.heap.size + 1 + 1) (wl 5 (cf a 5)) 113 ∧ Below w.heap.size w wr) (fun i _ => 5 - (intOf i).toNat)
      case atStart => exact ⟨0, by omega, rfl, by rw [show wl 25 (mf a 0 0) = wl 25 a from wl_congr 25 _ _ (fun i _ => mf_zero a i)]; exact B0.out, B1.out, B2.out, HB.out⟩
      case round =>
        clear B0 B1 B2 HB HZ
        obtain ⟨x, hx, rfl, b0, b1, b2, hbel⟩ := hrel
        have B0 := hid b0
        have B1 := hid b1
        have B2 := hid b2
        have HB := hid hbel
        have HZ := hid b2.lt
        clear b0 b1 b2 hbel
        by_cases hlt : x < 5
        · have c4 := B2.out.cell ((x + 4) % 5) _ (wl_get 5 _ ((x + 4) % 5) (by omega))
          have c1 := B2.out.cell ((x + 1) % 5) _ (wl_get 5 _ ((x + 1) % 5) (by omega))
          have t4 : ((x : Int) + 5 - 1).tmod 5 = (((x + 4) % 5 : Nat) : Int) := by rw [Int.tmod_eq_emod_of_nonneg (by omega)]; omega
          have t1 : ((x : Int) + 1).tmod 5 = (((x + 1) % 5 : Nat) : Int) := by rw [Int.tmod_eq_emod_of_nonneg (by omega)]; omega
          have t4' : (IntKind.i64.wrap (IntKind.i64.wrap ((x : Int) + 5) - 1)).tmod 5 = (((x + 4) % 5 : Nat) : Int) := by
            rw [show IntKind.i64.wrap (IntKind.i64.wrap ((x : Int) + 5) - 1) = (x : Int) + 5 - 1 from by rw [IntKind.wrap_i64, IntKind.wrap_i64]; omega]; exact t4
          have t1' : (IntKind.i64.wrap ((x : Int) + 1)).tmod 5 = (((x + 1) % 5 : Nat) : Int) := by
            rw [show IntKind.i64.wrap ((x : Int) + 1) = (x : Int) + 1 from by rw [IntKind.wrap_i64]; omega]; exact t1
          have b4 : (x + 4) % 5 < 5 := by omega
          have b1 : (x + 1) % 5 < 5 := by omega
          have v4 : cf a 5 ((x + 4) % 5) = col a ((x + 4) % 5) := if_pos b4
          have v1 : cf a 5 ((x + 1) % 5) = col a ((x + 1) % 5) := if_pos b1
          rw [v4] at c4
          rw [v1] at c1
          have EX : Hid (xr (col a ((x + 4) % 5)) (rl (col a ((x + 1) % 5)) 1) = dd a x) := rfl
          have HC := hid (col_w a ((x + 1) % 5))
          clear v4 v1
          generalize (x + 4) % 5 = q4 at *
          generalize (x + 1) % 5 = q1 at *
          obtain ⟨k4, e4⟩ : ∃ z, col a q4 = z := ⟨_, rfl⟩
          obtain ⟨k1, e1⟩ : ∃ z, col a q1 = z := ⟨_, rfl⟩
          rw [e4] at c4 EX
          rw [e1] at c1 EX HC
          clear e4 e1
          have i4 : (q4 : Int) < 5 := by omega
          have i1 : (q1 : Int) < 5 := by omega
          go_wp2_with fail
          go_quiet ((go_at_call 80; exact Calls.quiet_of (turn64 k1 1 _ HC.out.1 HC.out.2)))
          go_wp2_with (go_at_call 80; refine (turn64 k1 1 _ HC.out.1 HC.out.2).mono ?_; rintro e w4 ⟨rfl, d, rfl⟩)
          rw [show decide ((x : Int) < 5) = true from decide_eq_true (by omega), show bits BinOp.xor IntKind.u64 k4 (Rot 64 k1 1) = dd a x from EX.out]
          have HD : Hid (∀ y, (wl 25 (mf a x y)).set (x + 5 * y) (.int .u64 (bits BinOp.xor IntKind.u64 (mf a x y (x + 5 * y)) (dd a x))) = wl 25 (mf a x (y + 1))) := fun y => by rw [mf_at a x y hlt]; exact mf_next a x y hlt
          have HD2 := hid (dd_w a x)
          clear EX HC c4 c1 t4 t1 t4' t1' i4 i1 b4 b1
          obtain ⟨D, eD⟩ : ∃ z, dd a x = z := ⟨_, rfl⟩
          rw [eD]
          rw [eD] at HD HD2
          clear eD
          go_loopw [53] (fun i wr => ∃ y : Nat, y ≤ 5 ∧ i = .int .i64 y ∧ Blk wr w.heap.size (wl 25 (mf a x y)) 103 ∧ Blk wr (w.heap.size + 1) (wl 25 (fun _ => 0)) 103 ∧ Blk wr (w.heap.size + 1 + 1) (wl 5 (cf a 5)) 113 ∧ Below w.heap.size w wr) (fun i _ => 5 - (intOf i).toNat)
          case atStart => exact ⟨0, by omega, rfl, B0.out.drewN _, B1.out.drewN _, B2.out.drewN _, below_drew' HB.out _⟩
          case round =>
            clear B0 B1 B2 HB HZ
            obtain ⟨y, hy, rfl, b0, b1, b2, hbel⟩ := hrel
            have B0 := hid b0
            have B1 := hid b1
            have B2 := hid b2
            have HB := hid hbel
            have HZ := hid b2.lt
            clear b0 b1 b2 hbel
            by_cases hly : y < 5
            · have c0 := B0.out.cell (x + 5 * y) _ (wl_get 25 _ (x + 5 * y) (by omega))
              have f0 := B0.out.frozen (x + 5 * y)
              have e0 : ((x : Int) + 5 * (y : Int)).toNat = x + 5 * y := by omega
              have HM := hid (HD.out y)
              obtain ⟨m, em⟩ : ∃ z, mf a x y (x + 5 * y) = z := ⟨_, rfl⟩
              rw [em] at c0 HM
              clear em
              go_wp2_with fail
              have hz := HZ.out
              refine ⟨⟨y + 1, by omega, by go_num, ?_, B1.out.other (by omega) _ _, B2.out.other (by omega) _ _, below_set HB.out _ _ _ (by omega) (by omega)⟩, by simp [intOf]; omega⟩
              rw [← HM.out]
              exact B0.out.set _ _
            · have ek : y = 5 := by omega
              subst ek
              go_wp2_with fail
              refine ⟨⟨x + 1, by omega, by go_num, ?_, B1.out, B2.out, HB.out⟩, by simp [intOf]; omega⟩
              rw [← mf_row a x]
              exact B0.out
        · have ek : x = 5 := by omega
          subst ek
          rw [mf_end] at B0
          have l1 := LDk_run (B0.out.range 0 _ (fun j v h => by rw [Nat.zero_add]; exact h)) (wl_length _ _)
          have s1 := SVk_run (cs := wl 25 (mix a)) (B1.out.there 0 25 (by rw [wl_length]; omega)) (wl_length _ _) (wl_one _ _)
          have b3 := B1.out.put 0 (wl 25 (mix a))
          rw [put_all _ _ (by rw [wl_length, wl_length])] at b3
          have l2 := hid (LDk_run (b3.range 0 _ (fun j v h => by rw [Nat.zero_add]; exact h)) (wl_length _ _))
          clear b3
          go_wp2
          have hz := HZ.out
          refine bodyPost_ret (v := .agg (wl 25 (mix a)).toArray) ?_ rfl ⟨rfl, below_cells HB.out _ _ _ (by omega) (by omega)⟩
          exact results_cell1 Tryd.results74 rfl l2.out
end Go.Proofs.YtidejhkajabdfaaDoor.Kc
