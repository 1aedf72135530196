/- What the program's function moved answers: step 2 of a round; where the program's tables lie. -/
import Derived.Test.YtidejhkajabdfaaDoorQmix
import Derived.Deep.RegionWith
namespace Go.Proofs.YtidejhkajabdfaaDoor.Kc
open Go.ChangeShapes Go.WideShapes Go.ChangeAt Go.RowKit
open Go.Proofs.YtidejhkajabdfaaDoor.By Go.Proofs.YtidejhkajabdfaaDoor.Wd
theorem z25s (x : Int) : #[Value.int .u64 x, .int .u64 0, .int .u64 0, .int .u64 0, .int .u64 0, .int .u64 0, .int .u64 0, .int .u64 0, .int .u64 0, .int .u64 0, .int .u64 0, .int .u64 0, .int .u64 0, .int .u64 0, .int .u64 0, .int .u64 0, .int .u64 0, .int .u64 0, .int .u64 0, .int .u64 0, .int .u64 0, .int .u64 0, .int .u64 0, .int .u64 0, .int .u64 0] = (wl 25 (fun i => if i = 0 then x else 0)).toArray := by kernel_rfl
/-- The program's tables lie in their places. -/
def il (n : Nat) (g : Nat → Int) : List Value := (List.range n).map fun i => Value.int .i64 (g i)
theorem il_length (n : Nat) (g : Nat → Int) : (il n g).length = n := by simp [il]
theorem il_get (n : Nat) (g : Nat → Int) (i : Nat) (h : i < n) : (il n g)[i]? = some (.int .i64 (g i)) := by simp [il, h]
structure KT (w : World) : Prop where
  c : w.rangeAt 0 0 (wl 24 RC)
  y : w.rangeAt 1 0 (il 25 (fun t => (Wy t : Int)))
theorem KT.lt {w : World} (h : KT w) : 1 < w.heap.size := block_lt_of_cell (h.y 0 _ (il_get 25 _ 0 (by omega)))
theorem KT.kept {w w' : World} {S : Nat → Prop} (h : KT w) (hk : Kp S w w') (h0 : ¬ S 0) (h1 : ¬ S 1) : KT w' := by
  have l := h.lt
  refine ⟨fun j v hv => ?_, fun j v hv => ?_⟩
  · have e := hk.block 0 (by omega) h0
    rw [← h.c j v hv]
    simp [World.cell?, e]
  · have e := hk.block 1 (by omega) h1
    rw [← h.y j v hv]
    simp [World.cell?, e]
theorem KT.below {w w' : World} (h : KT w) (hb : Below w.heap.size w w') : KT w' := h.kept (Kp.of_below (fun _ => False) hb) id id
theorem KT.drewN {w : World} (h : KT w) (d : Nat) : KT (w.drewN d) := ⟨h.c, h.y⟩
set_option maxRecDepth 4000 in
set_option maxHeartbeats 2000000 in
theorem moved1 (a : Nat → Int) (ha : AW a) (w : World) (hk : KT w) :
    Calls Tryd.prog 73 #[.agg (wl 25 a).toArray] w fun e w' => e = .returned (.agg (wl 25 (mv a)).toArray) ∧ Below w.heap.size w w' := by
  have HA := hid ha
  have HK := hid hk
  clear ha hk
  have c0 := ((Blk.new w (wl 25 a) 103).alloc (.cells (wl 25 (fun _ => 0)).toArray 103)).cell 0 _ (wl_get 25 a 0 (by omega))
  rw [← z25] at c0
  have s1 := SVk_run (cs := wl 25 (mvt a 0)) ((Blk.newAt ((w.alloc (.cells (wl 25 a).toArray 103)).alloc (.cells (wl 25 (fun _ => 0)).toArray 103)) _ (wl 25 (fun _ => 0)) 103 (w.heap.size + 1 + 1) (by rw [size_alloc, size_alloc]) rfl).there 0 25 (by rw [wl_length]; omega)) (wl_length _ _) (wl_one _ _)
  rw [← z25, show (wl 25 (mvt a 0)).toArray = _ from (z25s (a 0)).symm] at s1
  go_enter Tryd.func73, Tryd.ntmps73
  go_wp2_with fail
  go_loopw [8] (fun i wr => ∃ k : Nat, k ≤ 24 ∧ i = .int .i64 k ∧ Blk wr w.heap.size (wl 25 a) 103 ∧ Blk wr (w.heap.size + 1) (wl 25 (fun _ => 0)) 103 ∧ Blk wr (w.heap.size + 1 + 1) (wl 25 (mvt a k)) 103 ∧ Below w.heap.size w wr) (fun i _ => 24 - (intOf i).toNat)
  case atStart =>
    refine ⟨0, Nat.zero_le _, rfl, ?_, ?_, ?_, ?_⟩
    · exact (((Blk.new w _ _).alloc _).alloc _).kept (Kp.setCells _ 0 _) (by omega)
    · exact ((Blk.newAt _ _ _ _ _ (by rw [size_alloc]) z25).alloc _).kept (Kp.setCells _ 0 _) (by omega)
    · have b := (Blk.newAt ((w.alloc (.cells (wl 25 a).toArray 103)).alloc (.cells (wl 25 (fun _ => 0)).toArray 103)) _ (wl 25 (fun _ => 0)) 103 (w.heap.size + 1 + 1) (by rw [size_alloc, size_alloc]) rfl).put 0 (wl 25 (mvt a 0))
      rw [put_all _ _ (by rw [wl_length, wl_length]), ← z25] at b
      exact b
    · exact below_cells (below_next (below_next (below_alloc w _) (below_alloc _ _)) (below_alloc _ _)) _ _ _ (by omega) (by rw [size_alloc, size_alloc, size_alloc]; omega)
  case round =>
    clear s1 c0
    obtain ⟨k, hk, rfl, b0, b1, b2, hbel⟩ := hrel
    have B0 := hid b0
    have B1 := hid b1
    have B2 := hid b2
    have HB := hid hbel
    have HZ := hid b2.lt
    clear b0 b1 b2 hbel
    by_cases hlt : k < 24
    · have KW := hid (HK.out.below HB.out)
      have hw0 : Wy k < 25 := (show ∀ t, t < 25 → Wy t < 25 from by decide) k (by omega)
      have hw1 : Wy (k + 1) < 25 := (show ∀ t, t < 25 → Wy t < 25 from by decide) (k + 1) (by omega)
      have y0 := KW.out.y k _ (il_get 25 _ k (by omega))
      have y1 := KW.out.y (k + 1) _ (il_get 25 _ (k + 1) (by omega))
      rw [Nat.zero_add] at y0 y1
      have c0 := B0.out.cell (Wy k) _ (wl_get 25 a (Wy k) hw0)
      have c2 := B2.out.cell (Wy (k + 1)) _ (wl_get 25 _ (Wy (k + 1)) hw1)
      have f2 := B2.out.frozen (Wy (k + 1))
      have e1 : ((k : Int) + 1).toNat = k + 1 := by omega
      have i0 : ((Wy k : Nat) : Int) < 25 := by omega
      have i1 : ((Wy (k + 1) : Nat) : Int) < 25 := by omega
      have et : (((k : Int) + 1) * ((k : Int) + 2)).tdiv 2 = ((tri k : Nat) : Int) := by
        unfold tri
        rw [Int.tdiv_eq_ediv_of_nonneg (Int.mul_nonneg (by omega) (by omega))]
        simp
      have bk : ((k : Int) + 1) * ((k : Int) + 2) ≤ 24 * 25 := Int.mul_le_mul (by omega) (by omega) (by omega) (by omega)
      have bk0 : 0 ≤ ((k : Int) + 1) * ((k : Int) + 2) := Int.mul_nonneg (by omega) (by omega)
      have ew : IntKind.i64.wrap ((IntKind.i64.wrap (((k : Int) + 1) * ((k : Int) + 2))).tdiv 2) = ((tri k : Nat) : Int) := by
        rw [show IntKind.i64.wrap (((k : Int) + 1) * ((k : Int) + 2)) = ((k : Int) + 1) * ((k : Int) + 2) from by rw [IntKind.wrap_i64]; omega, et, IntKind.wrap_i64]
        rw [Int.tdiv_eq_ediv_of_nonneg bk0] at et
        omega
      clear et bk bk0
      have HC := hid (HA.out (Wy k))
      have HS : Hid ((wl 25 (mvt a k)).set (Wy (k + 1)) (.int .u64 (rl (a (Wy k)) (tri k))) = wl 25 (mvt a (k + 1))) := wl_set _ _ _ _
      obtain ⟨v, ev⟩ : ∃ z, a (Wy k) = z := ⟨_, rfl⟩
      rw [ev] at c0 HC HS
      clear ev
      obtain ⟨m, em⟩ : ∃ z, mvt a k (Wy (k + 1)) = z := ⟨_, rfl⟩
      rw [em] at c2
      clear em
      generalize Wy k = p0 at *
      generalize Wy (k + 1) = p1 at *
      generalize tri k = tk at *
      have i2 : (k : Int) + 1 < 25 := by omega
      have i3 : (k : Int) < 25 := by omega
      have j2 : 0 ≤ (k : Int) + 1 := by omega
      have w1 : IntKind.i64.wrap ((k : Int) + 1) = (k : Int) + 1 := by rw [IntKind.wrap_i64]; omega
      have w2 : IntKind.i64.wrap ((k : Int) + 2) = (k : Int) + 2 := by rw [IntKind.wrap_i64]; omega
      go_wp2_with fail
      go_region_with (go_at_call 80; refine (turn64 v _ _ HC.out.1 HC.out.2).mono ?_; rintro e w' ⟨rfl, d, rfl⟩)
      all_goals
        go_wp2_with fail
        have hz := HZ.out
        refine ⟨⟨k + 1, by omega, by go_num, (B0.out.drewN _).other (by omega) _ _, (B1.out.drewN _).other (by omega) _ _, ?_, below_set (below_drew' HB.out _) _ _ _ (by omega) (by show w.heap.size ≤ wr.heap.size; omega)⟩, by simp [intOf]; omega⟩
        rw [← HS.out]
        exact (B2.out.drewN _).set _ _
    · have ek : k = 24 := by omega
      subst ek
      have l1 := LDk_run (B2.out.range 0 _ (fun j v h => by rw [Nat.zero_add]; exact h)) (wl_length _ _)
      have s1 := SVk_run (cs := wl 25 (mvt a 24)) (B1.out.there 0 25 (by rw [wl_length]; omega)) (wl_length _ _) (wl_one _ _)
      have b3 := B1.out.put 0 (wl 25 (mvt a 24))
      rw [put_all _ _ (by rw [wl_length, wl_length])] at b3
      have l2 := hid (LDk_run (b3.range 0 _ (fun j v h => by rw [Nat.zero_add]; exact h)) (wl_length _ _))
      clear b3
      go_wp2
      have hz := HZ.out
      refine bodyPost_ret (v := .agg (wl 25 (mvt a 24)).toArray) ?_ rfl ⟨rfl, below_cells HB.out _ _ _ (by omega) (by omega)⟩
      exact results_cell1 Tryd.results73 rfl l2.out
end Go.Proofs.YtidejhkajabdfaaDoor.Kc
