/- Arrays of five words loaded and stored at once; no function of the program in it. The program's words of 64 bits, turned. What the program's function mixed answers: step 1 of a round. What the program's function moved answers: step 2 of a round; where the program's tables lie. What the program's function joined answers: step 3 of a round. What the program's function Permute answers, with a ledger and without one. -/
import Derived.Test.YtpohogpkfdebdaaGreatDoorRows
import Derived.Test.YtpohogpkfdebdaaGreatDoorKa
import Derived.Test.YtpohogpkfdebdaaGreatDoorZa
import Derived.Deep.MidRow
import Derived.Deep.WholeRow
import Derived.Test.YtpohogpkfdebdaaGreatDoorKb
import Derived.WalkKit
import Derived.ProofKit
import Derived.Deep.QuietTactic
import Derived.BigQuiet
import Derived.WalkLawsBesides
import Derived.Deep.RegionWith
import Derived.Test.YtpohogpkfdebdaaGreatDoorKd
namespace Go.Proofs.YtpohogpkfdebdaaGreatDoor.Kc
open Go.ChangeShapes Go.WideShapes Go.ChangeAt Go.RowKit
open Go.Proofs.YtpohogpkfdebdaaGreatDoor.By Go.Proofs.YtpohogpkfdebdaaGreatDoor.Wd
def LDp (a : Addr) : Sem Value := loadVar 273 a
def SVp (a : Addr) (v : Value) : Sem Unit := storeVar 273 a v
@[go_sem ↓ high] theorem ldp (a : Addr) : loadVar 273 a = LDp a := rfl
@[go_sem ↓ high] theorem svp (a : Addr) (v : Value) : storeVar 273 a v = SVp a v := rfl
theorem infop : (Tryz.prog.info? 273).map (·.size) = some 5 := by kernel_rfl
end Go.Proofs.YtpohogpkfdebdaaGreatDoor.Kc
namespace Go.Proofs.YtpohogpkfdebdaaGreatDoor.Wd
open Go.ChangeShapes Go.WideShapes Go.ChangeAt Go.RowKit
open Go.Proofs.YtpohogpkfdebdaaGreatDoor.By
end Go.Proofs.YtpohogpkfdebdaaGreatDoor.Wd
namespace Go.Proofs.YtpohogpkfdebdaaGreatDoor.Kc
open Go.ChangeShapes Go.WideShapes Go.ChangeAt Go.RowKit
open Go.Proofs.YtpohogpkfdebdaaGreatDoor.By Go.Proofs.YtpohogpkfdebdaaGreatDoor.Wd
theorem z25 : #[Value.int .u64 0, .int .u64 0, .int .u64 0, .int .u64 0, .int .u64 0, .int .u64 0, .int .u64 0, .int .u64 0, .int .u64 0, .int .u64 0, .int .u64 0, .int .u64 0, .int .u64 0, .int .u64 0, .int .u64 0, .int .u64 0, .int .u64 0, .int .u64 0, .int .u64 0, .int .u64 0, .int .u64 0, .int .u64 0, .int .u64 0, .int .u64 0, .int .u64 0] = (wl 25 (fun _ => 0)).toArray := by kernel_rfl
theorem z5 : #[Value.int .u64 0, .int .u64 0, .int .u64 0, .int .u64 0, .int .u64 0] = (wl 5 (fun _ => 0)).toArray := by kernel_rfl
/-- The columns that are reckoned so far. -/
def cf (a : Nat → Int) (k i : Nat) : Int := if i < k then col a i else 0
theorem cf_zero (a : Nat → Int) : (fun _ => (0 : Int)) = cf a 0 := funext fun i => by simp [cf]
theorem cf_next (a : Nat → Int) (k : Nat) : (wl 5 (cf a k)).set k (.int .u64 (col a k)) = wl 5 (cf a (k + 1)) := by
  rw [wl_set]
  refine wl_congr 5 _ _ (fun i hi => ?_)
  unfold cf
  by_cases h : i = k
  · subst h; rw [if_pos rfl, if_pos (by omega)]
  · rw [if_neg h]
    by_cases h2 : i < k
    · rw [if_pos h2, if_pos (by omega)]
    · rw [if_neg h2, if_neg (by omega)]
/-- The lanes behind x whole columns and y lanes of the next. -/
def mf (a : Nat → Int) (x y i : Nat) : Int := if i % 5 < x ∨ (i % 5 = x ∧ i / 5 < y) then mix a i else a i
theorem mf_zero (a : Nat → Int) (i : Nat) : mf a 0 0 i = a i := by unfold mf; rw [if_neg (by omega)]
theorem mf_next (a : Nat → Int) (x y : Nat) (hx : x < 5) : (wl 25 (mf a x y)).set (x + 5 * y) (.int .u64 (xr (a (x + 5 * y)) (dd a x))) = wl 25 (mf a x (y + 1)) := by
  rw [wl_set]
  refine wl_congr 25 _ _ (fun i hi => ?_)
  by_cases h : i = x + 5 * y
  · subst h
    rw [if_pos rfl]
    unfold mf
    rw [if_pos (by omega)]
    unfold mix
    rw [show (x + 5 * y) % 5 = x from by omega]
  · rw [if_neg h]
    unfold mf
    by_cases h2 : i % 5 < x ∨ (i % 5 = x ∧ i / 5 < y)
    · rw [if_pos h2, if_pos (by omega)]
    · rw [if_neg h2, if_neg (by omega)]
theorem mf_row (a : Nat → Int) (x : Nat) : wl 25 (mf a x 5) = wl 25 (mf a (x + 1) 0) := wl_congr 25 _ _ (fun i hi => by
  unfold mf
  by_cases h2 : i % 5 < x + 1
  · rw [if_pos (by omega), if_pos (by omega)]
  · rw [if_neg (by omega), if_neg (by omega)])
theorem mf_end (a : Nat → Int) : wl 25 (mf a 5 0) = wl 25 (mix a) := wl_congr 25 _ _ (fun i hi => by unfold mf; rw [if_pos (by omega)])
theorem mf_at (a : Nat → Int) (x y : Nat) (hx : x < 5) : mf a x y (x + 5 * y) = a (x + 5 * y) := by unfold mf; rw [if_neg (by omega)]
set_option maxRecDepth 4000 in
set_option maxHeartbeats 2000000 in
theorem mixed1 (a : Nat → Int) (ha : AW a) (w : World) :
    Calls Tryz.prog 293 #[.agg (wl 25 a).toArray] w fun e w' => e = .returned (.agg (wl 25 (mix a)).toArray) ∧ Below w.heap.size w w' := by
  have HA := hid ha
  clear ha
  go_enter Tryz.func293, Tryz.ntmps293
  go_wp2_with fail
  go_loopw [8] (fun i wr => ∃ k : Nat, k ≤ 5 ∧ i = .int .i64 k ∧ Blk wr w.heap.size (wl 25 a) 290 ∧ Blk wr (w.heap.size + 1) (wl 25 (fun _ => 0)) 290 ∧ Blk wr (w.heap.size + 1 + 1) (wl 5 (cf a k)) 273 ∧ Below w.heap.size w wr) (fun i _ => 5 - (intOf i).toNat)
  case atStart =>
    refine ⟨0, Nat.zero_le _, rfl, ((Blk.new w _ _).alloc _).alloc _, (Blk.newAt _ _ _ _ _ (by rw [size_alloc]) z25).alloc _, Blk.newAt _ _ _ _ _ (by rw [size_alloc, size_alloc]) (by rw [← cf_zero]; exact z5), ?_⟩
    exact below_next (below_next (below_alloc w _) (below_alloc _ _)) (below_alloc _ _)
  case round =>
    obtain ⟨k, hk, rfl, b0, b1, b2, hbel⟩ := hrel
    have B0 := hid b0
    have B1 := hid b1
    have B2 := hid b2
    have HB := hid hbel
    have HZ := hid b2.lt
    clear b0 b1 b2 hbel
    by_cases hlt : k < 5
    · have c0 := B0.out.cell k _ (wl_get 25 _ k (by omega))
      have c5 := B0.out.cell (k + 5) _ (wl_get 25 _ (k + 5) (by omega))
      have c10 := B0.out.cell (k + 10) _ (wl_get 25 _ (k + 10) (by omega))
      have c15 := B0.out.cell (k + 15) _ (wl_get 25 _ (k + 15) (by omega))
      have c20 := B0.out.cell (k + 20) _ (wl_get 25 _ (k + 20) (by omega))
      have cc := B2.out.cell k _ (wl_get 5 _ k (by omega))
      have cfz := B2.out.frozen k
      have e5 : ((k : Int) + 5).toNat = k + 5 := by omega
      have e10 : ((k : Int) + 10).toNat = k + 10 := by omega
      have e15 : ((k : Int) + 15).toNat = k + 15 := by omega
      have e20 : ((k : Int) + 20).toNat = k + 20 := by omega
      go_wp2_with fail
      go_region
      go_wp2_with fail
      have hz := HZ.out
      refine ⟨⟨k + 1, by omega, by go_num, (B0.out.other (by omega) _ _).drewN _, (B1.out.other (by omega) _ _).drewN _, ?_, below_drew' (below_set HB.out _ _ _ (by omega) (by omega)) _⟩, by simp [intOf]; omega⟩
      rw [← cf_next a k]
      exact (B2.out.set k _).drewN _
    · have ek : k = 5 := by omega
      subst ek
      go_wp2_with fail
      go_loopw [37] (fun i wr => ∃ k : Nat, k ≤ 5 ∧ i = .int .i64 k ∧ Blk wr w.heap.size (wl 25 (mf a k 0)) 290 ∧ Blk wr (w.heap.size + 1) (wl 25 (fun _ => 0)) 290 ∧ Blk wr (w.heap.size + 1 + 1) (wl 5 (cf a 5)) 273 ∧ Below w.heap.size w wr) (fun i _ => 5 - (intOf i).toNat)
      case atStart => exact ⟨0, by omega, rfl, by rw [show wl 25 (mf a 0 0) = wl 25 a from wl_congr 25 _ _ (fun i _ => mf_zero a i)]; exact B0.out, B1.out, B2.out, HB.out⟩
      case round =>
        clear B0 B1 B2 HB HZ
        obtain ⟨x, hx, rfl, b0, b1, b2, hbel⟩ := hrel
        have B0 := hid b0
        have B1 := hid b1
        have B2 := hid b2
        have HB := hid hbel
        have HZ := hid b2.lt
        clear b0 b1 b2 hbel
        by_cases hlt : x < 5
        · have c4 := B2.out.cell ((x + 4) % 5) _ (wl_get 5 _ ((x + 4) % 5) (by omega))
          have c1 := B2.out.cell ((x + 1) % 5) _ (wl_get 5 _ ((x + 1) % 5) (by omega))
          have t4 : ((x : Int) + 5 - 1).tmod 5 = (((x + 4) % 5 : Nat) : Int) := by rw [Int.tmod_eq_emod_of_nonneg (by omega)]; omega
          have t1 : ((x : Int) + 1).tmod 5 = (((x + 1) % 5 : Nat) : Int) := by rw [Int.tmod_eq_emod_of_nonneg (by omega)]; omega
          have t4' : (IntKind.i64.wrap (IntKind.i64.wrap ((x : Int) + 5) - 1)).tmod 5 = (((x + 4) % 5 : Nat) : Int) := by
            rw [show IntKind.i64.wrap (IntKind.i64.wrap ((x : Int) + 5) - 1) = (x : Int) + 5 - 1 from by rw [IntKind.wrap_i64, IntKind.wrap_i64]; omega]; exact t4
          have t1' : (IntKind.i64.wrap ((x : Int) + 1)).tmod 5 = (((x + 1) % 5 : Nat) : Int) := by
            rw [show IntKind.i64.wrap ((x : Int) + 1) = (x : Int) + 1 from by rw [IntKind.wrap_i64]; omega]; exact t1
          have b4 : (x + 4) % 5 < 5 := by omega
          have b1 : (x + 1) % 5 < 5 := by omega
          have v4 : cf a 5 ((x + 4) % 5) = col a ((x + 4) % 5) := if_pos b4
          have v1 : cf a 5 ((x + 1) % 5) = col a ((x + 1) % 5) := if_pos b1
          rw [v4] at c4
          rw [v1] at c1
          have EX : Hid (xr (col a ((x + 4) % 5)) (rl (col a ((x + 1) % 5)) 1) = dd a x) := rfl
          have HC := hid (col_w a ((x + 1) % 5))
          clear v4 v1
          generalize (x + 4) % 5 = q4 at *
          generalize (x + 1) % 5 = q1 at *
          obtain ⟨k4, e4⟩ : ∃ z, col a q4 = z := ⟨_, rfl⟩
          obtain ⟨k1, e1⟩ : ∃ z, col a q1 = z := ⟨_, rfl⟩
          rw [e4] at c4 EX
          rw [e1] at c1 EX HC
          clear e4 e1
          have i4 : (q4 : Int) < 5 := by omega
          have i1 : (q1 : Int) < 5 := by omega
          go_wp2_with fail
          go_quiet ((go_at_call 300; exact Calls.quiet_of (turn64 k1 1 _ HC.out.1 HC.out.2)))
          go_wp2_with (go_at_call 300; refine (turn64 k1 1 _ HC.out.1 HC.out.2).mono ?_; rintro e w4 ⟨rfl, d, rfl⟩)
          rw [show decide ((x : Int) < 5) = true from decide_eq_true (by omega), show bits BinOp.xor IntKind.u64 k4 (Rot 64 k1 1) = dd a x from EX.out]
          have HD : Hid (∀ y, (wl 25 (mf a x y)).set (x + 5 * y) (.int .u64 (bits BinOp.xor IntKind.u64 (mf a x y (x + 5 * y)) (dd a x))) = wl 25 (mf a x (y + 1))) := fun y => by rw [mf_at a x y hlt]; exact mf_next a x y hlt
          have HD2 := hid (dd_w a x)
          clear EX HC c4 c1 t4 t1 t4' t1' i4 i1 b4 b1
          obtain ⟨D, eD⟩ : ∃ z, dd a x = z := ⟨_, rfl⟩
          rw [eD]
          rw [eD] at HD HD2
          clear eD
          go_loopw [53] (fun i wr => ∃ y : Nat, y ≤ 5 ∧ i = .int .i64 y ∧ Blk wr w.heap.size (wl 25 (mf a x y)) 290 ∧ Blk wr (w.heap.size + 1) (wl 25 (fun _ => 0)) 290 ∧ Blk wr (w.heap.size + 1 + 1) (wl 5 (cf a 5)) 273 ∧ Below w.heap.size w wr) (fun i _ => 5 - (intOf i).toNat)
          case atStart => exact ⟨0, by omega, rfl, B0.out.drewN _, B1.out.drewN _, B2.out.drewN _, below_drew' HB.out _⟩
          case round =>
            clear B0 B1 B2 HB HZ
            obtain ⟨y, hy, rfl, b0, b1, b2, hbel⟩ := hrel
            have B0 := hid b0
            have B1 := hid b1
            have B2 := hid b2
            have HB := hid hbel
            have HZ := hid b2.lt
            clear b0 b1 b2 hbel
            by_cases hly : y < 5
            · have c0 := B0.out.cell (x + 5 * y) _ (wl_get 25 _ (x + 5 * y) (by omega))
              have f0 := B0.out.frozen (x + 5 * y)
              have e0 : ((x : Int) + 5 * (y : Int)).toNat = x + 5 * y := by omega
              have HM := hid (HD.out y)
              obtain ⟨m, em⟩ : ∃ z, mf a x y (x + 5 * y) = z := ⟨_, rfl⟩
              rw [em] at c0 HM
              clear em
              go_wp2_with fail
              have hz := HZ.out
              refine ⟨⟨y + 1, by omega, by go_num, ?_, B1.out.other (by omega) _ _, B2.out.other (by omega) _ _, below_set HB.out _ _ _ (by omega) (by omega)⟩, by simp [intOf]; omega⟩
              rw [← HM.out]
              exact B0.out.set _ _
            · have ek : y = 5 := by omega
              subst ek
              go_wp2_with fail
              refine ⟨⟨x + 1, by omega, by go_num, ?_, B1.out, B2.out, HB.out⟩, by simp [intOf]; omega⟩
              rw [← mf_row a x]
              exact B0.out
        · have ek : x = 5 := by omega
          subst ek
          rw [mf_end] at B0
          have l1 := LDk_run (B0.out.range 0 _ (fun j v h => by rw [Nat.zero_add]; exact h)) (wl_length _ _)
          have s1 := SVk_run (cs := wl 25 (mix a)) (B1.out.there 0 25 (by rw [wl_length]; omega)) (wl_length _ _) (wl_one _ _)
          have b3 := B1.out.put 0 (wl 25 (mix a))
          rw [put_all _ _ (by rw [wl_length, wl_length])] at b3
          have l2 := hid (LDk_run (b3.range 0 _ (fun j v h => by rw [Nat.zero_add]; exact h)) (wl_length _ _))
          clear b3
          go_wp2
          have hz := HZ.out
          refine bodyPost_ret (v := .agg (wl 25 (mix a)).toArray) ?_ rfl ⟨rfl, below_cells HB.out _ _ _ (by omega) (by omega)⟩
          exact results_cell1 Tryz.results293 rfl l2.out
end Go.Proofs.YtpohogpkfdebdaaGreatDoor.Kc
namespace Go.Proofs.YtpohogpkfdebdaaGreatDoor.Kc
open Go.ChangeShapes Go.WideShapes Go.ChangeAt Go.RowKit
open Go.Proofs.YtpohogpkfdebdaaGreatDoor.By Go.Proofs.YtpohogpkfdebdaaGreatDoor.Wd
theorem z25s (x : Int) : #[Value.int .u64 x, .int .u64 0, .int .u64 0, .int .u64 0, .int .u64 0, .int .u64 0, .int .u64 0, .int .u64 0, .int .u64 0, .int .u64 0, .int .u64 0, .int .u64 0, .int .u64 0, .int .u64 0, .int .u64 0, .int .u64 0, .int .u64 0, .int .u64 0, .int .u64 0, .int .u64 0, .int .u64 0, .int .u64 0, .int .u64 0, .int .u64 0, .int .u64 0] = (wl 25 (fun i => if i = 0 then x else 0)).toArray := by kernel_rfl
/-- The program's tables lie in their places. -/
def il (n : Nat) (g : Nat → Int) : List Value := (List.range n).map fun i => Value.int .i64 (g i)
theorem il_length (n : Nat) (g : Nat → Int) : (il n g).length = n := by simp [il]
theorem il_get (n : Nat) (g : Nat → Int) (i : Nat) (h : i < n) : (il n g)[i]? = some (.int .i64 (g i)) := by simp [il, h]
structure KT (w : World) : Prop where
  c : w.rangeAt 2 0 (wl 24 RC)
  y : w.rangeAt 4 0 (il 25 (fun t => (Wy t : Int)))
theorem KT.lt {w : World} (h : KT w) : 4 < w.heap.size := block_lt_of_cell (h.y 0 _ (il_get 25 _ 0 (by omega)))
theorem KT.kept {w w' : World} {S : Nat → Prop} (h : KT w) (hk : Kp S w w') (h0 : ¬ S 2) (h1 : ¬ S 4) : KT w' := by
  have l := h.lt
  refine ⟨fun j v hv => ?_, fun j v hv => ?_⟩
  · have e := hk.block 2 (by omega) h0
    rw [← h.c j v hv]
    simp [World.cell?, e]
  · have e := hk.block 4 (by omega) h1
    rw [← h.y j v hv]
    simp [World.cell?, e]
theorem KT.below {w w' : World} (h : KT w) (hb : Below w.heap.size w w') : KT w' := h.kept (Kp.of_below (fun _ => False) hb) id id
set_option maxRecDepth 4000 in
set_option maxHeartbeats 2000000 in
theorem moved1 (a : Nat → Int) (ha : AW a) (w : World) (hk : KT w) :
    Calls Tryz.prog 292 #[.agg (wl 25 a).toArray] w fun e w' => e = .returned (.agg (wl 25 (mv a)).toArray) ∧ Below w.heap.size w w' := by
  have HA := hid ha
  have HK := hid hk
  clear ha hk
  have c0 := ((Blk.new w (wl 25 a) 290).alloc (.cells (wl 25 (fun _ => 0)).toArray 290)).cell 0 _ (wl_get 25 a 0 (by omega))
  rw [← z25] at c0
  have s1 := SVk_run (cs := wl 25 (mvt a 0)) ((Blk.newAt ((w.alloc (.cells (wl 25 a).toArray 290)).alloc (.cells (wl 25 (fun _ => 0)).toArray 290)) _ (wl 25 (fun _ => 0)) 290 (w.heap.size + 1 + 1) (by rw [size_alloc, size_alloc]) rfl).there 0 25 (by rw [wl_length]; omega)) (wl_length _ _) (wl_one _ _)
  rw [← z25, show (wl 25 (mvt a 0)).toArray = _ from (z25s (a 0)).symm] at s1
  go_enter Tryz.func292, Tryz.ntmps292
  go_wp2_with fail
  go_loopw [8] (fun i wr => ∃ k : Nat, k ≤ 24 ∧ i = .int .i64 k ∧ Blk wr w.heap.size (wl 25 a) 290 ∧ Blk wr (w.heap.size + 1) (wl 25 (fun _ => 0)) 290 ∧ Blk wr (w.heap.size + 1 + 1) (wl 25 (mvt a k)) 290 ∧ Below w.heap.size w wr) (fun i _ => 24 - (intOf i).toNat)
  case atStart =>
    refine ⟨0, Nat.zero_le _, rfl, ?_, ?_, ?_, ?_⟩
    · exact (((Blk.new w _ _).alloc _).alloc _).kept (Kp.setCells _ 0 _) (by omega)
    · exact ((Blk.newAt _ _ _ _ _ (by rw [size_alloc]) z25).alloc _).kept (Kp.setCells _ 0 _) (by omega)
    · have b := (Blk.newAt ((w.alloc (.cells (wl 25 a).toArray 290)).alloc (.cells (wl 25 (fun _ => 0)).toArray 290)) _ (wl 25 (fun _ => 0)) 290 (w.heap.size + 1 + 1) (by rw [size_alloc, size_alloc]) rfl).put 0 (wl 25 (mvt a 0))
      rw [put_all _ _ (by rw [wl_length, wl_length]), ← z25] at b
      exact b
    · exact below_cells (below_next (below_next (below_alloc w _) (below_alloc _ _)) (below_alloc _ _)) _ _ _ (by omega) (by rw [size_alloc, size_alloc, size_alloc]; omega)
  case round =>
    clear s1 c0
    obtain ⟨k, hk, rfl, b0, b1, b2, hbel⟩ := hrel
    have B0 := hid b0
    have B1 := hid b1
    have B2 := hid b2
    have HB := hid hbel
    have HZ := hid b2.lt
    clear b0 b1 b2 hbel
    by_cases hlt : k < 24
    · have KW := hid (HK.out.below HB.out)
      have hw0 : Wy k < 25 := (show ∀ t, t < 25 → Wy t < 25 from by decide) k (by omega)
      have hw1 : Wy (k + 1) < 25 := (show ∀ t, t < 25 → Wy t < 25 from by decide) (k + 1) (by omega)
      have y0 := KW.out.y k _ (il_get 25 _ k (by omega))
      have y1 := KW.out.y (k + 1) _ (il_get 25 _ (k + 1) (by omega))
      rw [Nat.zero_add] at y0 y1
      have c0 := B0.out.cell (Wy k) _ (wl_get 25 a (Wy k) hw0)
      have c2 := B2.out.cell (Wy (k + 1)) _ (wl_get 25 _ (Wy (k + 1)) hw1)
      have f2 := B2.out.frozen (Wy (k + 1))
      have e1 : ((k : Int) + 1).toNat = k + 1 := by omega
      have i0 : ((Wy k : Nat) : Int) < 25 := by omega
      have i1 : ((Wy (k + 1) : Nat) : Int) < 25 := by omega
      have et : (((k : Int) + 1) * ((k : Int) + 2)).tdiv 2 = ((tri k : Nat) : Int) := by
        unfold tri
        rw [Int.tdiv_eq_ediv_of_nonneg (Int.mul_nonneg (by omega) (by omega))]
        simp
      have bk : ((k : Int) + 1) * ((k : Int) + 2) ≤ 24 * 25 := Int.mul_le_mul (by omega) (by omega) (by omega) (by omega)
      have bk0 : 0 ≤ ((k : Int) + 1) * ((k : Int) + 2) := Int.mul_nonneg (by omega) (by omega)
      have ew : IntKind.i64.wrap ((IntKind.i64.wrap (((k : Int) + 1) * ((k : Int) + 2))).tdiv 2) = ((tri k : Nat) : Int) := by
        rw [show IntKind.i64.wrap (((k : Int) + 1) * ((k : Int) + 2)) = ((k : Int) + 1) * ((k : Int) + 2) from by rw [IntKind.wrap_i64]; omega, et, IntKind.wrap_i64]
        rw [Int.tdiv_eq_ediv_of_nonneg bk0] at et
        omega
      clear et bk bk0
      have HC := hid (HA.out (Wy k))
      have HS : Hid ((wl 25 (mvt a k)).set (Wy (k + 1)) (.int .u64 (rl (a (Wy k)) (tri k))) = wl 25 (mvt a (k + 1))) := wl_set _ _ _ _
      obtain ⟨v, ev⟩ : ∃ z, a (Wy k) = z := ⟨_, rfl⟩
      rw [ev] at c0 HC HS
      clear ev
      obtain ⟨m, em⟩ : ∃ z, mvt a k (Wy (k + 1)) = z := ⟨_, rfl⟩
      rw [em] at c2
      clear em
      generalize Wy k = p0 at *
      generalize Wy (k + 1) = p1 at *
      generalize tri k = tk at *
      have i2 : (k : Int) + 1 < 25 := by omega
      have i3 : (k : Int) < 25 := by omega
      have j2 : 0 ≤ (k : Int) + 1 := by omega
      have w1 : IntKind.i64.wrap ((k : Int) + 1) = (k : Int) + 1 := by rw [IntKind.wrap_i64]; omega
      have w2 : IntKind.i64.wrap ((k : Int) + 2) = (k : Int) + 2 := by rw [IntKind.wrap_i64]; omega
      go_wp2_with fail
      go_region_with (go_at_call 300; refine (turn64 v _ _ HC.out.1 HC.out.2).mono ?_; rintro e w' ⟨rfl, d, rfl⟩)
      all_goals
        go_wp2_with fail
        have hz := HZ.out
        refine ⟨⟨k + 1, by omega, by go_num, (B0.out.drewN _).other (by omega) _ _, (B1.out.drewN _).other (by omega) _ _, ?_, below_set (below_drew' HB.out _) _ _ _ (by omega) (by show w.heap.size ≤ wr.heap.size; omega)⟩, by simp [intOf]; omega⟩
        rw [← HS.out]
        exact (B2.out.drewN _).set _ _
    · have ek : k = 24 := by omega
      subst ek
      have l1 := LDk_run (B2.out.range 0 _ (fun j v h => by rw [Nat.zero_add]; exact h)) (wl_length _ _)
      have s1 := SVk_run (cs := wl 25 (mvt a 24)) (B1.out.there 0 25 (by rw [wl_length]; omega)) (wl_length _ _) (wl_one _ _)
      have b3 := B1.out.put 0 (wl 25 (mvt a 24))
      rw [put_all _ _ (by rw [wl_length, wl_length])] at b3
      have l2 := hid (LDk_run (b3.range 0 _ (fun j v h => by rw [Nat.zero_add]; exact h)) (wl_length _ _))
      clear b3
      go_wp2
      have hz := HZ.out
      refine bodyPost_ret (v := .agg (wl 25 (mvt a 24)).toArray) ?_ rfl ⟨rfl, below_cells HB.out _ _ _ (by omega) (by omega)⟩
      exact results_cell1 Tryz.results292 rfl l2.out
end Go.Proofs.YtpohogpkfdebdaaGreatDoor.Kc
namespace Go.Proofs.YtpohogpkfdebdaaGreatDoor.Kc
open Go.ChangeShapes Go.WideShapes Go.ChangeAt Go.RowKit
open Go.Proofs.YtpohogpkfdebdaaGreatDoor.By Go.Proofs.YtpohogpkfdebdaaGreatDoor.Wd
/-- The lanes behind y whole rows. -/
def jf (b : Nat → Int) (y i : Nat) : Int := if i / 5 < y then jn b i else b i
theorem jf_zero (b : Nat → Int) : wl 25 (jf b 0) = wl 25 b := wl_congr 25 _ _ (fun i hi => by unfold jf; rw [if_neg (by omega)])
theorem jf_end (b : Nat → Int) : wl 25 (jf b 5) = wl 25 (jn b) := wl_congr 25 _ _ (fun i hi => by unfold jf; rw [if_pos (by omega)])
theorem jf_at (b : Nat → Int) (y x : Nat) (hx : x < 5) : jf b y (5 * y + x) = b (5 * y + x) := by unfold jf; rw [if_neg (by omega)]
theorem jf_next (b : Nat → Int) (y : Nat) (p q r s t : Int) (hp : b (5 * y) = p) (hq : b (5 * y + 1) = q) (hr : b (5 * y + 2) = r) (hs : b (5 * y + 3) = s) (ht : b (5 * y + 4) = t) :
    (((((wl 25 (jf b y)).set (5 * y) (.int .u64 (xr p (dn r q)))).set (5 * y + 1) (.int .u64 (xr q (dn s r)))).set (5 * y + 2) (.int .u64 (xr r (dn t s)))).set (5 * y + 3) (.int .u64 (xr s (dn p t)))).set (5 * y + 4) (.int .u64 (xr t (dn q p))) = wl 25 (jf b (y + 1)) := by
  subst hp hq hr hs ht
  rw [wl_set, wl_set, wl_set, wl_set, wl_set]
  refine wl_congr 25 _ _ (fun i hi => ?_)
  by_cases h : i / 5 = y
  · have hi5 : i = 5 * y + i % 5 := by omega
    have : i % 5 < 5 := Nat.mod_lt _ (by omega)
    have e : jf b (y + 1) i = jn b i := by unfold jf; rw [if_pos (by omega)]
    rw [e]
    generalize hx : i % 5 = x at *
    subst hi5
    have m1 : n1 (5 * y + x) = 5 * y + (x + 1) % 5 := by unfold n1; omega
    have m2 : n2 (5 * y + x) = 5 * y + (x + 2) % 5 := by unfold n2; omega
    unfold jn
    rw [m1, m2]
    match x, this with
    | 0, _ => simp
    | 1, _ => simp
    | 2, _ => simp
    | 3, _ => simp
    | 4, _ => simp
  · rw [if_neg (by omega), if_neg (by omega), if_neg (by omega), if_neg (by omega), if_neg (by omega)]
    unfold jf
    by_cases h2 : i / 5 < y
    · rw [if_pos h2, if_pos (by omega)]
    · rw [if_neg h2, if_neg (by omega)]
set_option maxRecDepth 4000 in
set_option maxHeartbeats 2000000 in
theorem joined1 (a : Nat → Int) (w : World) :
    Calls Tryz.prog 291 #[.agg (wl 25 a).toArray] w fun e w' => e = .returned (.agg (wl 25 (jn a)).toArray) ∧ Below w.heap.size w w' := by
  go_enter Tryz.func291, Tryz.ntmps291
  go_wp2_with fail
  go_loopw [10] (fun i wr => ∃ k : Nat, k ≤ 5 ∧ i = .int .i64 k ∧ Blk wr w.heap.size (wl 25 (jf a k)) 290 ∧ Blk wr (w.heap.size + 1) (wl 25 (fun _ => 0)) 290 ∧ Below w.heap.size w wr) (fun i _ => 5 - (intOf i).toNat)
  case atStart =>
    refine ⟨0, Nat.zero_le _, rfl, by rw [jf_zero]; exact (Blk.new w _ _).alloc _, Blk.newAt _ _ _ _ _ (by rw [size_alloc]) z25, ?_⟩
    exact below_next (below_alloc w _) (below_alloc _ _)
  case round =>
    obtain ⟨k, hk, rfl, b0, b1, hbel⟩ := hrel
    have B0 := hid b0
    have B1 := hid b1
    have HB := hid hbel
    have HZ := hid b1.lt
    clear b0 b1 hbel
    by_cases hlt : k < 5
    · have c0 := B0.out.cell (5 * k) _ (wl_get 25 _ (5 * k) (by omega))
      have c1 := B0.out.cell (5 * k + 1) _ (wl_get 25 _ (5 * k + 1) (by omega))
      have c2 := B0.out.cell (5 * k + 2) _ (wl_get 25 _ (5 * k + 2) (by omega))
      have c3 := B0.out.cell (5 * k + 3) _ (wl_get 25 _ (5 * k + 3) (by omega))
      have c4 := B0.out.cell (5 * k + 4) _ (wl_get 25 _ (5 * k + 4) (by omega))
      rw [show 5 * k = 5 * k + 0 from rfl, jf_at a k 0 (by omega)] at c0
      rw [jf_at a k 1 (by omega)] at c1
      rw [jf_at a k 2 (by omega)] at c2
      rw [jf_at a k 3 (by omega)] at c3
      rw [jf_at a k 4 (by omega)] at c4
      have f0 := B0.out.frozen (5 * k)
      have f1 := B0.out.frozen (5 * k + 1)
      have f2 := B0.out.frozen (5 * k + 2)
      have f3 := B0.out.frozen (5 * k + 3)
      have f4 := B0.out.frozen (5 * k + 4)
      have e0 : (5 * (k : Int)).toNat = 5 * k := by omega
      have e1 : (5 * (k : Int) + 1).toNat = 5 * k + 1 := by omega
      have e2 : (5 * (k : Int) + 2).toNat = 5 * k + 2 := by omega
      have e3 : (5 * (k : Int) + 3).toNat = 5 * k + 3 := by omega
      have e4 : (5 * (k : Int) + 4).toNat = 5 * k + 4 := by omega
      have HN := hid (jf_next a k _ _ _ _ _ rfl rfl rfl rfl rfl)
      simp only [Nat.add_zero] at c0
      obtain ⟨p, ep⟩ : ∃ z, a (5 * k) = z := ⟨_, rfl⟩
      obtain ⟨q, eq⟩ : ∃ z, a (5 * k + 1) = z := ⟨_, rfl⟩
      obtain ⟨r, er⟩ : ∃ z, a (5 * k + 2) = z := ⟨_, rfl⟩
      obtain ⟨s, es⟩ : ∃ z, a (5 * k + 3) = z := ⟨_, rfl⟩
      obtain ⟨t, et⟩ : ∃ z, a (5 * k + 4) = z := ⟨_, rfl⟩
      rw [ep] at c0 HN
      rw [eq] at c1 HN
      rw [er] at c2 HN
      rw [es] at c3 HN
      rw [et] at c4 HN
      clear ep eq er es et
      have w1 : IntKind.i64.wrap (5 * (k : Int) + 1) = 5 * (k : Int) + 1 := by rw [IntKind.wrap_i64]; omega
      have w2 : IntKind.i64.wrap (5 * (k : Int) + 2) = 5 * (k : Int) + 2 := by rw [IntKind.wrap_i64]; omega
      have w3 : IntKind.i64.wrap (5 * (k : Int) + 3) = 5 * (k : Int) + 3 := by rw [IntKind.wrap_i64]; omega
      have w4 : IntKind.i64.wrap (5 * (k : Int) + 4) = 5 * (k : Int) + 4 := by rw [IntKind.wrap_i64]; omega
      have i0 : 5 * (k : Int) < 25 := by omega
      have i1 : 5 * (k : Int) + 1 < 25 := by omega
      have i2 : 5 * (k : Int) + 2 < 25 := by omega
      have i3 : 5 * (k : Int) + 3 < 25 := by omega
      have i4 : 5 * (k : Int) + 4 < 25 := by omega
      have j0 : 0 ≤ 5 * (k : Int) := by omega
      have j1 : 0 ≤ 5 * (k : Int) + 1 := by omega
      have j2 : 0 ≤ 5 * (k : Int) + 2 := by omega
      have j3 : 0 ≤ 5 * (k : Int) + 3 := by omega
      have j4 : 0 ≤ 5 * (k : Int) + 4 := by omega
      go_wp2_with fail
      go_quiet (fail)
      clear w1 w2 w3 w4
      go_wp2_with fail
      have hz := HZ.out
      have z := HB.out.size
      refine ⟨⟨k + 1, by omega, by go_num, ?_, (((((B1.out.drewN nq).other (by omega) _ _).other (by omega) _ _).other (by omega) _ _).other (by omega) _ _).other (by omega) _ _, ?_⟩, by simp [intOf]; omega⟩
      · rw [← HN.out]
        exact (((((B0.out.drewN nq).set _ _).set _ _).set _ _).set _ _).set _ _
      · exact below_set (below_set (below_set (below_set (below_set (below_drew' HB.out nq) _ _ _ (Nat.le_refl _) z) _ _ _ (Nat.le_refl _) (by simpa [World.setCell] using z)) _ _ _ (Nat.le_refl _) (by simpa [World.setCell] using z)) _ _ _ (Nat.le_refl _) (by simpa [World.setCell] using z)) _ _ _ (Nat.le_refl _) (by simpa [World.setCell] using z)
    · have ek : k = 5 := by omega
      subst ek
      rw [jf_end] at B0
      have l1 := LDk_run (B0.out.range 0 _ (fun j v h => by rw [Nat.zero_add]; exact h)) (wl_length _ _)
      have s1 := SVk_run (cs := wl 25 (jn a)) (B1.out.there 0 25 (by rw [wl_length]; omega)) (wl_length _ _) (wl_one _ _)
      have b3 := B1.out.put 0 (wl 25 (jn a))
      rw [put_all _ _ (by rw [wl_length, wl_length])] at b3
      have l2 := hid (LDk_run (b3.range 0 _ (fun j v h => by rw [Nat.zero_add]; exact h)) (wl_length _ _))
      clear b3
      go_wp2
      have hz := HZ.out
      refine bodyPost_ret (v := .agg (wl 25 (jn a)).toArray) ?_ rfl ⟨rfl, below_cells HB.out _ _ _ (by omega) (by omega)⟩
      exact results_cell1 Tryz.results291 rfl l2.out
end Go.Proofs.YtpohogpkfdebdaaGreatDoor.Kc
namespace Go.Proofs.YtpohogpkfdebdaaGreatDoor.Kc
open Go.ChangeShapes Go.WideShapes Go.ChangeAt Go.RowKit
open Go.Proofs.YtpohogpkfdebdaaGreatDoor.By Go.Proofs.YtpohogpkfdebdaaGreatDoor.Wd
set_option maxRecDepth 4000 in
set_option maxHeartbeats 2000000 in
theorem permute1 (S : Nat → Prop) (w0 w : World) (lo : Option Nat) (L : List Rn) (a : Nat → Int) (ha : AW a) (h : LG S w0 w lo L) (h0 : Kp S w0 w) (hr : Room L) (hk : KT w0) (s0 : ¬ S 2) (s1 : ¬ S 4) :
    Calls Tryz.prog 278 #[lpv lo, .agg (wl 25 a).toArray] w fun e w' => e = .returned (.agg (wl 25 (perm a)).toArray) ∧ LG S w0 w' lo (putL L ⟨3, 200, 1⟩) ∧ Kp S w0 w' ∧ Kt w w' := by
  have HA := hid ha
  have HL0 := hid h
  have HP0 := hid h0
  have HK := hid hk
  have HR := hid hr
  have hz0 := h0.size
  clear ha h h0 hk hr
  go_enter Tryz.func278, Tryz.ntmps278
  go_wp2_with fail
  have q1 : Below w.heap.size w ((w.alloc (.cells (wl 25 a).toArray 290)).alloc (.cells (wl 25 (fun _ => 0)).toArray 290)) := below_next (below_alloc w _) (below_alloc _ _)
  rw [← z25] at q1
  refine (note_lg S w0 _ lo L 3 200 (by omega) (by omega) (HL0.out.below q1) (HP0.out.trans (Kp.of_below S q1) (fun _ _ e => e)) HR.out).mono ?_
  rintro e w1 ⟨rfl, hl1, hp1, ht1⟩
  have b0 := ht1 w.heap.size (wl 25 a) 290 ((Blk.new w _ _).alloc _) (by decide) (by decide)
  have b1 := ht1 (w.heap.size + 1) (wl 25 (fun _ => 0)) 290 (Blk.newAt _ _ _ _ _ (by rw [size_alloc]) z25) (by decide) (by decide)
  have B0 := hid b0
  have B1 := hid b1
  have HL := hid hl1
  have HP := hid hp1
  have HT : Hid (Kt w w1) := fun g cs t hg n1 n2 => ht1 g cs t (hg.below q1) n1 n2
  clear b0 b1 hl1 hp1 ht1 q1 HL0 HP0
  go_wp2_with fail
  go_loopw [9] (fun i wr => ∃ k : Nat, k ≤ 24 ∧ i = .int .i64 k ∧ Blk wr w.heap.size (wl 25 (rds a k)) 290 ∧ Blk wr (w.heap.size + 1) (wl 25 (fun _ => 0)) 290 ∧ LG S w0 wr lo (putL L ⟨3, 200, 1⟩) ∧ Kp S w0 wr ∧ Kt w wr) (fun i _ => 24 - (intOf i).toNat)
  case atStart => exact ⟨0, Nat.zero_le _, rfl, B0.out, B1.out, HL.out, HP.out, HT.out⟩
  case round =>
    clear B0 B1 HL HP HT
    obtain ⟨k, hk, rfl, b0, b1, hl, hp, ht⟩ := hrel
    have B0 := hid b0
    have B1 := hid b1
    have HL := hid hl
    have HP := hid hp
    have HT := hid ht
    have HZ := hid b1.lt
    clear b0 b1 hl hp ht
    by_cases hlt : k < 24
    · have l1 := LDk_run (B0.out.range 0 _ (fun j v h => by rw [Nat.zero_add]; exact h)) (wl_length _ _)
      go_wp2_with fail
      refine (mixed1 (rds a k) (rds_w HA.out k) _).mono ?_
      rintro e w2 ⟨rfl, hb2⟩
      have hk2 := hid ((HK.out.kept HP.out s0 s1).below hb2)
      have HB2 := hid hb2
      clear hb2 l1
      go_wp2_with fail
      refine (moved1 (mix (rds a k)) (mix_w _) _ hk2.out).mono ?_
      rintro e w3 ⟨rfl, hb3⟩
      have HB3 := hid (below_next HB2.out hb3)
      clear hb3 hk2 HB2
      go_wp2_with fail
      refine (joined1 (mv (mix (rds a k))) _).mono ?_
      rintro e w4 ⟨rfl, hb4⟩
      have bel := below_next HB3.out hb4
      clear hb4 HB3
      have hz := HZ.out
      have c0 := hid (B0.out.below bel)
      have c1 := hid (B1.out.below bel)
      have cl := hid (HL.out.below bel)
      have cp := hid (HP.out.trans (Kp.of_below S bel) (fun _ _ e => e))
      have ct : Hid (Kt w w4) := fun g cs t hg n1 n2 => (HT.out g cs t hg n1 n2).below bel
      clear B0 B1 HL HP HT bel
      have s1' := SVk_run (cs := wl 25 (jn (mv (mix (rds a k))))) (c0.out.there 0 25 (by rw [wl_length]; omega)) (wl_length _ _) (wl_one _ _)
      have d0 := c0.out.put 0 (wl 25 (jn (mv (mix (rds a k)))))
      rw [put_all _ _ (by rw [wl_length, wl_length])] at d0
      have D0 := hid d0
      have D1 := hid (c1.out.kept (Kp.setCells w.heap.size 0 (wl 25 (jn (mv (mix (rds a k)))))) (by omega))
      have DL := hid (cl.out.kept (Kp.setCells w.heap.size 0 (wl 25 (jn (mv (mix (rds a k)))))) (fun g e => by subst e; exact ⟨_, _, c0.out, by decide, by decide⟩))
      have DP := hid (cp.out.trans (Kp.setCells w.heap.size 0 (wl 25 (jn (mv (mix (rds a k)))))) (fun i hi e => by omega))
      have DT : Hid (Kt w (w4.setCells w.heap.size 0 (wl 25 (jn (mv (mix (rds a k))))))) := fun g cs t hg n1 n2 => (ct.out g cs t hg n1 n2).kept (Kp.setCells _ 0 _) (by have := hg.lt; omega)
      clear d0 c0 c1 cl cp ct
      have EX : Hid ((wl 25 (jn (mv (mix (rds a k))))).set 0 (.int .u64 (bits BinOp.xor IntKind.u64 (jn (mv (mix (rds a k))) 0) (RC k))) = wl 25 (rds a (k + 1))) := by
        show _ = wl 25 (io (RC k) (jn (mv (mix (rds a k)))))
        rw [wl_set]
        rfl
      obtain ⟨g, eg⟩ : ∃ z, jn (mv (mix (rds a k))) = z := ⟨_, rfl⟩
      rw [eg] at s1' D0 D1 DL DP DT EX
      rw [eg]
      clear eg
      have y0 := D0.out.cell 0 _ (wl_get 25 g 0 (by omega))
      have yf := D0.out.frozen 0
      have yk := (HK.out.kept DP.out s0 s1).c k _ (wl_get 24 RC k hlt)
      rw [Nat.zero_add] at yk
      go_wp2_with fail
      obtain ⟨W, hW⟩ : ∃ z, w4.setCells w.heap.size 0 (wl 25 g) = z := ⟨_, rfl⟩
      rw [hW] at D0 D1 DL DP DT y0 yf yk
      rw [hW]
      clear hW s1'
      have HZ2 := hid D1.out.lt
      go_region
      go_wp2_with fail
      have hz2 := HZ2.out
      refine ⟨⟨k + 1, by omega, by go_num, ?_, (D1.out.other (by omega) _ _).drewN _, ?_, ?_, ?_⟩, by simp [intOf]; omega⟩
      · rw [← EX.out]; exact (D0.out.set _ _).drewN _
      · exact (DL.out.kept (Kp.setCell _ _ _) (fun g e => by subst e; exact ⟨_, _, D0.out, by decide, by decide⟩)).below (below_drewN _ _)
      · exact (DP.out.trans (Kp.setCell _ _ _) (fun i hi e => by omega)).trans (Kp.of_below S (below_drewN _ _)) (fun _ _ e => e)
      · exact fun g cs t hg n1 n2 => ((DT.out g cs t hg n1 n2).kept (Kp.setCell _ _ _) (by have := hg.lt; omega)).drewN _
    · have ek : k = 24 := by omega
      subst ek
      have l1 := LDk_run (B0.out.range 0 _ (fun j v h => by rw [Nat.zero_add]; exact h)) (wl_length _ _)
      have s1 := SVk_run (cs := wl 25 (rds a 24)) (B1.out.there 0 25 (by rw [wl_length]; omega)) (wl_length _ _) (wl_one _ _)
      have b3 := B1.out.put 0 (wl 25 (rds a 24))
      rw [put_all _ _ (by rw [wl_length, wl_length])] at b3
      have l2 := hid (LDk_run (b3.range 0 _ (fun j v h => by rw [Nat.zero_add]; exact h)) (wl_length _ _))
      clear b3
      go_wp2
      have hz := HZ.out
      refine bodyPost_ret (v := .agg (wl 25 (rds a 24)).toArray) ?_ rfl ⟨rfl, HL.out.kept (Kp.setCells _ 0 _) (fun g e => by subst e; exact ⟨_, _, B1.out, by decide, by decide⟩), HP.out.trans (Kp.setCells _ 0 _) (fun i hi e => by omega), fun g cs t hg n1 n2 => (HT.out g cs t hg n1 n2).kept (Kp.setCells _ 0 _) (by have := hg.lt; omega)⟩
      exact results_cell1 Tryz.results278 rfl l2.out
end Go.Proofs.YtpohogpkfdebdaaGreatDoor.Kc
