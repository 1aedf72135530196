/- The law's abc and awake: the digest of abc. -/
import Derived.Test.YtjalconbhliipaaDoorJeval
import Derived.Test.YtjalconbhliipaaDoorJgen
import Derived.Lib.SlBytesConst
namespace Go.Proofs.YtjalconbhliipaaDoor.Sg
open Go.ChangeShapes Go.WideShapes Go.ChangeAt Go.RowKit
open Go.Proofs.YtjalconbhliipaaDoor.By Go.Proofs.YtjalconbhliipaaDoor.Wd

theorem lf_l8 (h h' : Nat → Int) (e : l8 h = l8 h') (i : Nat) (hi : i < 64) : lf h i = lf h' i := by
  simp only [l8, List.cons.injEq, and_true] at e
  obtain ⟨e0, e1, e2, e3, e4, e5, e6, e7⟩ := e
  unfold lf
  have : i / 8 < 8 := by omega
  have hh : h (i / 8) = h' (i / 8) := by
    generalize i / 8 = q at this
    match q, this with
    | 0, _ => exact e0
    | 1, _ => exact e1
    | 2, _ => exact e2
    | 3, _ => exact e3
    | 4, _ => exact e4
    | 5, _ => exact e5
    | 6, _ => exact e6
    | 7, _ => exact e7
  rw [hh]
/-- Eight words out of a list. -/
def wof (l : List Int) (i : Nat) : Int := l.getD i 0
theorem wof_w (l : List Int) (h : l.all (fun z => decide (0 ≤ z ∧ z < 18446744073709551616)) = true) (i : Nat) : W64 (wof l i) := by
  unfold wof
  rw [List.getD_eq_getElem?_getD]
  cases he : l[i]? with
  | none => exact ⟨by decide, by decide⟩
  | some z =>
    have := List.all_eq_true.1 h z (List.mem_of_getElem? he)
    simpa [W64] using of_decide_eq_true this
def abcl : List Int := [221, 175, 53, 161, 147, 97, 122, 186, 204, 65, 115, 73, 174, 32, 65, 49, 18, 230, 250, 78, 137, 169, 126, 162, 10, 158, 238, 230, 75, 85, 211, 154, 33, 146, 153, 42, 39, 79, 193, 168, 54, 186, 60, 35, 163, 254, 235, 189, 69, 77, 68, 35, 100, 60, 232, 14, 42, 154, 201, 79, 165, 76, 164, 159]
theorem abcl_lf : ∀ i, i < 64 → lf (wof wabc) i = lst abcl i := by decide +kernel
theorem dig_abc (i : Nat) (hi : i < 64) : dig 3 abc i = lst abcl i := (lf_l8 _ _ (abc_words.trans (by rfl)) i hi).trans (abcl_lf i hi)
theorem abcl_bound (i : Nat) : 0 ≤ lst abcl i ∧ lst abcl i < 256 := lst_bound _ (by decide) i
theorem abc_bound (i : Nat) : 0 ≤ abc i ∧ abc i < 256 := lst_bound _ (by decide) i
theorem abc_lit : #[Value.int .u8 221, .int .u8 175, .int .u8 53, .int .u8 161, .int .u8 147, .int .u8 97, .int .u8 122, .int .u8 186, .int .u8 204, .int .u8 65, .int .u8 115, .int .u8 73, .int .u8 174, .int .u8 32, .int .u8 65, .int .u8 49, .int .u8 18, .int .u8 230, .int .u8 250, .int .u8 78, .int .u8 137, .int .u8 169, .int .u8 126, .int .u8 162, .int .u8 10, .int .u8 158, .int .u8 238, .int .u8 230, .int .u8 75, .int .u8 85, .int .u8 211, .int .u8 154, .int .u8 33, .int .u8 146, .int .u8 153, .int .u8 42, .int .u8 39, .int .u8 79, .int .u8 193, .int .u8 168, .int .u8 54, .int .u8 186, .int .u8 60, .int .u8 35, .int .u8 163, .int .u8 254, .int .u8 235, .int .u8 189, .int .u8 69, .int .u8 77, .int .u8 68, .int .u8 35, .int .u8 100, .int .u8 60, .int .u8 232, .int .u8 14, .int .u8 42, .int .u8 154, .int .u8 201, .int .u8 79, .int .u8 165, .int .u8 76, .int .u8 164, .int .u8 159] = (bl 64 (lst abcl)).toArray := by kernel_rfl
set_option maxRecDepth 20000 in
set_option maxHeartbeats 4000000 in
theorem abc54 (w : World) : Calls Tryd.prog 54 #[] w fun e w' => ∃ v, e = .returned v ∧ By.Own w' w.heap.size v 64 (lst abcl) ∧ Below w.heap.size w w' := by
  have hl := hid abc_lit
  go_enter Tryd.func54, Tryd.ntmps54
  go_wp2
  go_ret
  rw [hl.out]
  exact ⟨_, rfl, own_made w 64 64 w.heap.size (lst abcl) abcl_bound (Nat.le_refl _) (by decide) (Nat.le_refl _), below_alloc _ _⟩
set_option maxRecDepth 4000 in
set_option maxHeartbeats 1200000 in
theorem awake29 (w : World) (hk : KT w) : Calls Tryd.prog 29 #[] w fun e w' => e = .returned (.bool true) ∧ Below w.heap.size w w' := by
  have HK := hid hk
  have H0 := hid hk.lt
  have hcv := fun w => Lib.run_convert_bytes_const (P := Tryd.prog) w 41 5 #[Value.int .u8 97, .int .u8 98, .int .u8 99] 3 3 Tryd.underlying41 Tryd.underlying5
  clear hk
  go_enter Tryd.func29, Tryd.ntmps29
  go_wp2_with fail
  refine (new12 _).mono ?_
  rintro e w1 ⟨rfl, hs, hb⟩
  have S1 := hid hs
  have b1 := hid hb
  clear hs hb
  go_wp2_with fail
  have B0 := hid (rb_marked w1 3 abc (3, 4) abc_bound (by decide))
  have b0 := hid (below_alloc w1 (.cells (bl 3 abc).toArray 5 (3, 4)))
  have e3 : (bl 3 abc).toArray = #[Value.int .u8 97, .int .u8 98, .int .u8 99] := rfl
  rw [e3] at B0 b0
  clear e3
  obtain ⟨W2, hW2⟩ : ∃ x, w1.alloc (.cells #[Value.int .u8 97, .int .u8 98, .int .u8 99] 5 (3, 4)) = x := ⟨_, rfl⟩
  rw [hW2] at B0 b0
  rw [hW2]
  clear hW2
  have S2 := hid (S1.out.below b0.out)
  have b2 := hid (below_next b1.out b0.out)
  have n0 := hid (show ¬ (0 = w.heap.size) from by have := H0.out; omega)
  have z1 := hid b1.out.size
  have y1 := hid S1.out.here.lt
  clear S1
  refine (write26 w.heap.size 0 3 _ (fun _ => 0) abc none [] (fun j => j = w.heap.size) _ S2.out (HK.out.below b2.out) n0.out rfl (lg_nil _ _) pos_nil' (fun w' hk' => ?_) (by omega) wide_nil.big).mono ?_
  · exact rb_kept B0.out hk' (by have := y1.out; omega)
  rintro e w3 ⟨rfl, hs, -, hk3⟩
  have S3 := hid (show St w3 w.heap.size 3 abc from by
    have e := hs.congr abc_bound (fun i hi => by unfold cat; rw [if_neg (by omega)]; rfl)
    rwa [Nat.zero_add] at e)
  have b3 := hid (b2.out.trans (hk3.below b2.out.size (fun k hk e => by have : k = w.heap.size := e; omega)))
  clear hs hk3 S2 B0 b0
  go_wp2_with fail
  refine (sum32 _ 3 abc none [] (fun _ => False) _ S3.out (HK.out.below b3.out) (fun e => e) (lg_nil _ _) pos_nil' (by omega) wide_nil.big).mono ?_
  rintro e w4 ⟨u4, rfl, hu, -, hk4⟩
  have hb := below_kp hk4
  have U4 := hid (own_congr hu abcl_bound dig_abc)
  have b4 := hid (b3.out.trans (hb.mono b3.out.size))
  clear hu hk4 hb
  go_wp2_with fail
  refine (abc54 _).mono ?_
  rintro e w5 ⟨u5, rfl, hu, hb⟩
  have U5 := hid hu
  have V4 := hid (own_below U4.out hb)
  have b5 := hid (below_next b4.out hb)
  clear hu hb U4
  go_wp2_with fail
  refine (same_true _ _ 64 _ _ _ V4.out.reads U5.out.reads (by omega) (fun _ _ => rfl)).mono ?_
  rintro e w6 ⟨rfl, d6, rfl⟩
  obtain ⟨X, hX⟩ : ∃ x, w5.drewN d6 = x := ⟨_, rfl⟩
  have hbx : Below w5.heap.size w5 X := by rw [← hX]; exact below_drewN w5 d6
  rw [hX]
  clear hX
  have V6 := hid (own_below V4.out hbx)
  have b6 := hid (below_next b5.out hbx)
  clear hbx V4 U5
  go_wp2_with fail
  have B7 := hid (rb_marked X 3 abc (3, 4) abc_bound (by decide))
  have b7 := hid (below_alloc X (.cells (bl 3 abc).toArray 5 (3, 4)))
  have e3 : (bl 3 abc).toArray = #[Value.int .u8 97, .int .u8 98, .int .u8 99] := rfl
  rw [e3] at B7 b7
  clear e3
  refine (sum23 3 _ abc none [] (fun _ => False) _ (HK.out.below (below_next b6.out b7.out)) (fun e => e) (lg_nil _ _) pos_nil' (fun w' h' => B7.out.below (below_kp h')) (by omega) wide_nil).mono ?_
  rintro e w8 ⟨u8, rfl, hu, -, hk8⟩
  have hb := below_kp hk8
  have U8 := hid (own_congr hu abcl_bound dig_abc)
  have V8 := hid (own_below (own_below V6.out b7.out) hb)
  have b8 := hid (below_next (below_next b6.out b7.out) hb)
  clear hu hk8 hb
  go_wp2_with fail
  refine (same_true _ _ 64 _ _ _ U8.out.reads V8.out.reads (by omega) (fun _ _ => rfl)).mono ?_
  rintro e w9 ⟨rfl, d9, rfl⟩
  go_wp2
  go_ret
  exact ⟨rfl, below_drew' b8.out d9⟩
end Go.Proofs.YtjalconbhliipaaDoor.Sg
