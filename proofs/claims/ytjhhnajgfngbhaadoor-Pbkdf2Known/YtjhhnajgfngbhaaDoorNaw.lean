/- The statements' helpers of layer 16: starts, alg, awake. -/
import Derived.Test.YtjhhnajgfngbhaaDoorNgm
import Derived.Test.YtjhhnajgfngbhaaDoorNeval2
import Derived.Lib.SlBytesConst
import Derived.Deep.RegionHeld3
namespace Go.Proofs.YtjhhnajgfngbhaaDoor.Dg
open Go.ChangeShapes Go.WideShapes Go.ChangeAt Go.RowKit
open Go.Proofs.YtjhhnajgfngbhaaDoor.By
open Go.Proofs.YtjhhnajgfngbhaaDoor.Sh (Blk size_alloc)
theorem starts1 (n m cap : Nat) (ka : Option Addr) (wv : Value) (f g : Nat → Int) (w : World) (hk : By.RB w (.slice ka n cap) n f) (hw : By.RB w wv m g) (hm : m ≤ n) (hn : n ≤ 100000) (he : ∀ i, i < m → f i = g i) :
    Calls Tryd.prog 20 #[.slice ka n cap, .int .i64 0, .int .i64 n, wv] w fun e w' => e = .returned (.bool true) ∧ ∃ d, w' = w.drewN d := by
  have HK := hid hk
  have HW := hid hw
  have HE := hid he
  have hcap := rb_cap hk
  have hs := psub_h ka n cap m
  obtain ⟨-, wa, wc, rfl, -⟩ := hw
  have hmi : (m : Int) ≤ (n : Int) := by omega
  have hs1 := fun W => hs W hm hcap
  clear hk he hs
  go_enter Tryd.func20, Tryd.ntmps20
  go_wp2_with fail
  refine (same_true _ _ m _ _ _ (HK.out.first m hm) HW.out (by omega) HE.out).mono ?_
  rintro e w1 ⟨rfl, d, hw1⟩
  have D := hid hw1
  clear hw1
  go_wp2
  go_ret
  exact ⟨rfl, d, D.out⟩
theorem alg1 (a : Bool) (w : World) : Calls Tryd.prog 8 #[.bool a] w fun e w' => e = .returned (.tuple #[.int .u8 (an a), .int .i64 (sz a)]) ∧ w' = w := by
  cases a
  · go_enter Tryd.func8, Tryd.ntmps8
    go_wp2
    go_ret2
    exact ⟨rfl, rfl⟩
  · go_enter Tryd.func8, Tryd.ntmps8
    go_wp2
    go_ret2
    exact ⟨rfl, rfl⟩
theorem own_bytes (w : World) (l : List Int) (hb : BB (lst l)) (hn : l.length ≤ 100) : By.Own (w.alloc (.cells (bl l.length (lst l)).toArray 5)) w.heap.size (.slice (some ⟨w.heap.size, 0, none⟩) l.length l.length) l.length (lst l) := By.own_lit w _ _ _ hb (by simp [maxLen]; omega) (by simp [bl_length]) (by simp)
set_option maxRecDepth 8000 in
set_option maxHeartbeats 4000000 in
theorem awake1 (w : World) (hk : KT w) : Calls Tryd.prog 7 #[] w fun e w' => e = .returned (.bool true) ∧ Below w.heap.size w w' := by
  have HK := hid hk
  have c1 := Lib.run_convert_bytes_const (P := Tryd.prog) w 22 5 #[Value.int IntKind.u8 112, Value.int IntKind.u8 97, Value.int IntKind.u8 115, Value.int IntKind.u8 115, Value.int IntKind.u8 119, Value.int IntKind.u8 111, Value.int IntKind.u8 114, Value.int IntKind.u8 100] 8 8 Tryd.underlying22 Tryd.underlying5
  have c2 := Lib.run_convert_bytes_const (P := Tryd.prog) (w.alloc (.cells #[Value.int IntKind.u8 112, Value.int IntKind.u8 97, Value.int IntKind.u8 115, Value.int IntKind.u8 115, Value.int IntKind.u8 119, Value.int IntKind.u8 111, Value.int IntKind.u8 114, Value.int IntKind.u8 100] 5 (8, 9))) 22 5 #[Value.int IntKind.u8 115, Value.int IntKind.u8 97, Value.int IntKind.u8 108, Value.int IntKind.u8 116] 4 4 Tryd.underlying22 Tryd.underlying5
  simp only [List.size_toArray, List.length_cons, List.length_nil, Nat.reduceAdd, size_alloc] at c1 c2
  clear hk
  go_enter Tryd.func7, Tryd.ntmps7
  go_wp2_with fail
  clear c1 c2
  have b1 := below_alloc w (.cells #[Value.int IntKind.u8 112, Value.int IntKind.u8 97, Value.int IntKind.u8 115, Value.int IntKind.u8 115, Value.int IntKind.u8 119, Value.int IntKind.u8 111, Value.int IntKind.u8 114, Value.int IntKind.u8 100] 5 (8, 9))
  have b2 := below_alloc (w.alloc (.cells #[Value.int IntKind.u8 112, Value.int IntKind.u8 97, Value.int IntKind.u8 115, Value.int IntKind.u8 115, Value.int IntKind.u8 119, Value.int IntKind.u8 111, Value.int IntKind.u8 114, Value.int IntKind.u8 100] 5 (8, 9))) (.cells #[Value.int IntKind.u8 115, Value.int IntKind.u8 97, Value.int IntKind.u8 108, Value.int IntKind.u8 116] 5 (4, 5))
  have R1 := hid ((show By.RB (w.alloc (.cells #[Value.int IntKind.u8 112, Value.int IntKind.u8 97, Value.int IntKind.u8 115, Value.int IntKind.u8 115, Value.int IntKind.u8 119, Value.int IntKind.u8 111, Value.int IntKind.u8 114, Value.int IntKind.u8 100] 5 (8, 9))) (.slice (some ⟨w.heap.size, 0, none⟩) 8 8) 8 kpw from Sg.rb_marked w 8 kpw (8, 9) kpw_b (by decide)).below b2)
  have R2' := show By.RB ((w.alloc (.cells #[Value.int IntKind.u8 112, Value.int IntKind.u8 97, Value.int IntKind.u8 115, Value.int IntKind.u8 115, Value.int IntKind.u8 119, Value.int IntKind.u8 111, Value.int IntKind.u8 114, Value.int IntKind.u8 100] 5 (8, 9))).alloc (.cells #[Value.int IntKind.u8 115, Value.int IntKind.u8 97, Value.int IntKind.u8 108, Value.int IntKind.u8 116] 5 (4, 5))) (.slice (some ⟨(w.alloc (.cells #[Value.int IntKind.u8 112, Value.int IntKind.u8 97, Value.int IntKind.u8 115, Value.int IntKind.u8 115, Value.int IntKind.u8 119, Value.int IntKind.u8 111, Value.int IntKind.u8 114, Value.int IntKind.u8 100] 5 (8, 9))).heap.size, 0, none⟩) 4 4) 4 kst from Sg.rb_marked _ 4 kst (4, 5) kst_b (by decide)
  rw [size_alloc] at R2'
  have R2 := hid R2'
  have B2 := hid (below_next b1 b2)
  obtain ⟨w2, hw2⟩ : ∃ y, (w.alloc (.cells #[Value.int IntKind.u8 112, Value.int IntKind.u8 97, Value.int IntKind.u8 115, Value.int IntKind.u8 115, Value.int IntKind.u8 119, Value.int IntKind.u8 111, Value.int IntKind.u8 114, Value.int IntKind.u8 100] 5 (8, 9))).alloc (.cells #[Value.int IntKind.u8 115, Value.int IntKind.u8 97, Value.int IntKind.u8 108, Value.int IntKind.u8 116] 5 (4, 5)) = y := ⟨_, rfl⟩
  rw [hw2] at R1 R2 B2 ⊢
  clear b1 b2 R2' hw2
  go_wp2_with fail
  refine (pkey0k false 8 4 1 32 _ _ kpw kst _ (HK.out.below B2.out) (R1.out) (R2.out) (by omega) (by omega) (by omega) (by omega) (by omega)).mono ?_
  rintro e w3 ⟨x0, rfl, hx, hb⟩
  obtain ⟨xa0, xc0, rfl⟩ := own_sl hx
  have X0 := hid hx
  have B3 := hid (below_next B2.out hb)
  have R1 := hid (R1.out.below hb)
  have R2 := hid (R2.out.below hb)
  clear hx hb B2
  go_wp2_with fail
  refine (pkey0k false 8 4 2 32 _ _ kpw kst _ (HK.out.below B3.out) (R1.out) (R2.out) (by omega) (by omega) (by omega) (by omega) (by omega)).mono ?_
  rintro e w4 ⟨x1, rfl, hx, hb⟩
  obtain ⟨xa1, xc1, rfl⟩ := own_sl hx
  have X1 := hid hx
  have B4 := hid (below_next B3.out hb)
  have R1 := hid (R1.out.below hb)
  have R2 := hid (R2.out.below hb)
  have X0 := hid (own_below X0.out hb)
  clear hx hb B3
  go_wp2_with fail
  refine (pkey0k true 8 4 1 64 _ _ kpw kst _ (HK.out.below B4.out) (R1.out) (R2.out) (by omega) (by omega) (by omega) (by omega) (by omega)).mono ?_
  rintro e w5 ⟨x2, rfl, hx, hb⟩
  obtain ⟨xa2, xc2, rfl⟩ := own_sl hx
  have X2 := hid hx
  have B5 := hid (below_next B4.out hb)
  have R1 := hid (R1.out.below hb)
  have R2 := hid (R2.out.below hb)
  have X0 := hid (own_below X0.out hb)
  have X1 := hid (own_below X1.out hb)
  clear hx hb B4
  go_wp2_with fail
  refine (pkey0k true 0 0 3 10 _ _ nof nof _ (HK.out.below B5.out) ((own_nil _ 0 nof nof_b).reads) ((own_nil _ 0 nof nof_b).reads) (by omega) (by omega) (by omega) (by omega) (by omega)).mono ?_
  rintro e w6 ⟨x3, rfl, hx, hb⟩
  obtain ⟨xa3, xc3, rfl⟩ := own_sl hx
  have X3 := hid hx
  have B6 := hid (below_next B5.out hb)
  have R1 := hid (R1.out.below hb)
  have R2 := hid (R2.out.below hb)
  have X0 := hid (own_below X0.out hb)
  have X1 := hid (own_below X1.out hb)
  have X2 := hid (own_below X2.out hb)
  clear hx hb B5
  go_wp2_with fail
  have hb := below_alloc w6 (.cells #[Value.int IntKind.u8 18, Value.int IntKind.u8 15, Value.int IntKind.u8 182, Value.int IntKind.u8 207, Value.int IntKind.u8 252, Value.int IntKind.u8 248, Value.int IntKind.u8 179, Value.int IntKind.u8 44] 5)
  have V0 := hid (show By.Own (w6.alloc (.cells #[Value.int IntKind.u8 18, Value.int IntKind.u8 15, Value.int IntKind.u8 182, Value.int IntKind.u8 207, Value.int IntKind.u8 252, Value.int IntKind.u8 248, Value.int IntKind.u8 179, Value.int IntKind.u8 44] 5)) w6.heap.size (.slice (some ⟨w6.heap.size, 0, none⟩) 8 8) 8 (lst [18, 15, 182, 207, 252, 248, 179, 44]) from own_bytes w6 [18, 15, 182, 207, 252, 248, 179, 44] (lst_bound _ (by decide)) (by decide))
  have B7 := hid (below_next B6.out hb)
  have X0 := hid (own_below X0.out hb)
  have X1 := hid (own_below X1.out hb)
  have X2 := hid (own_below X2.out hb)
  have X3 := hid (own_below X3.out hb)
  obtain ⟨w7, hw⟩ : ∃ y, w6.alloc (.cells #[Value.int IntKind.u8 18, Value.int IntKind.u8 15, Value.int IntKind.u8 182, Value.int IntKind.u8 207, Value.int IntKind.u8 252, Value.int IntKind.u8 248, Value.int IntKind.u8 179, Value.int IntKind.u8 44] 5) = y := ⟨_, rfl⟩
  rw [hw] at V0 B7 X0 X1 X2 X3 ⊢
  clear hb hw B6
  refine (starts1 32 8 _ _ _ _ _ _ X0.out.reads V0.out.reads (by omega) (by omega) dk_a).mono ?_
  rintro e w8 ⟨rfl, d, hw⟩
  have hb : Below w7.heap.size w7 w8 := by rw [hw]; exact below_drewN w7 d
  have B8 := hid (below_next B7.out hb)
  have X1 := hid (own_below X1.out hb)
  have X2 := hid (own_below X2.out hb)
  have X3 := hid (own_below X3.out hb)
  clear hb hw B7 X0 V0
  go_wp2_with fail
  have hb := below_alloc w8 (.cells #[Value.int IntKind.u8 174, Value.int IntKind.u8 77, Value.int IntKind.u8 12, Value.int IntKind.u8 149, Value.int IntKind.u8 175, Value.int IntKind.u8 107, Value.int IntKind.u8 70, Value.int IntKind.u8 211] 5)
  have V1 := hid (show By.Own (w8.alloc (.cells #[Value.int IntKind.u8 174, Value.int IntKind.u8 77, Value.int IntKind.u8 12, Value.int IntKind.u8 149, Value.int IntKind.u8 175, Value.int IntKind.u8 107, Value.int IntKind.u8 70, Value.int IntKind.u8 211] 5)) w8.heap.size (.slice (some ⟨w8.heap.size, 0, none⟩) 8 8) 8 (lst [174, 77, 12, 149, 175, 107, 70, 211]) from own_bytes w8 [174, 77, 12, 149, 175, 107, 70, 211] (lst_bound _ (by decide)) (by decide))
  have B9 := hid (below_next B8.out hb)
  have X1 := hid (own_below X1.out hb)
  have X2 := hid (own_below X2.out hb)
  have X3 := hid (own_below X3.out hb)
  obtain ⟨w9, hw⟩ : ∃ y, w8.alloc (.cells #[Value.int IntKind.u8 174, Value.int IntKind.u8 77, Value.int IntKind.u8 12, Value.int IntKind.u8 149, Value.int IntKind.u8 175, Value.int IntKind.u8 107, Value.int IntKind.u8 70, Value.int IntKind.u8 211] 5) = y := ⟨_, rfl⟩
  rw [hw] at V1 B9 X1 X2 X3 ⊢
  clear hb hw B8
  refine (starts1 32 8 _ _ _ _ _ _ X1.out.reads V1.out.reads (by omega) (by omega) dk_b2).mono ?_
  rintro e w10 ⟨rfl, d, hw⟩
  have hb : Below w9.heap.size w9 w10 := by rw [hw]; exact below_drewN w9 d
  have B10 := hid (below_next B9.out hb)
  have X2 := hid (own_below X2.out hb)
  have X3 := hid (own_below X3.out hb)
  clear hb hw B9 X1 V1
  go_wp2_with fail
  have hb := below_alloc w10 (.cells #[Value.int IntKind.u8 134, Value.int IntKind.u8 127, Value.int IntKind.u8 112, Value.int IntKind.u8 207, Value.int IntKind.u8 26, Value.int IntKind.u8 222, Value.int IntKind.u8 2, Value.int IntKind.u8 207] 5)
  have V2 := hid (show By.Own (w10.alloc (.cells #[Value.int IntKind.u8 134, Value.int IntKind.u8 127, Value.int IntKind.u8 112, Value.int IntKind.u8 207, Value.int IntKind.u8 26, Value.int IntKind.u8 222, Value.int IntKind.u8 2, Value.int IntKind.u8 207] 5)) w10.heap.size (.slice (some ⟨w10.heap.size, 0, none⟩) 8 8) 8 (lst [134, 127, 112, 207, 26, 222, 2, 207]) from own_bytes w10 [134, 127, 112, 207, 26, 222, 2, 207] (lst_bound _ (by decide)) (by decide))
  have B11 := hid (below_next B10.out hb)
  have X2 := hid (own_below X2.out hb)
  have X3 := hid (own_below X3.out hb)
  obtain ⟨w11, hw⟩ : ∃ y, w10.alloc (.cells #[Value.int IntKind.u8 134, Value.int IntKind.u8 127, Value.int IntKind.u8 112, Value.int IntKind.u8 207, Value.int IntKind.u8 26, Value.int IntKind.u8 222, Value.int IntKind.u8 2, Value.int IntKind.u8 207] 5) = y := ⟨_, rfl⟩
  rw [hw] at V2 B11 X2 X3 ⊢
  clear hb hw B10
  refine (starts1 64 8 _ _ _ _ _ _ X2.out.reads V2.out.reads (by omega) (by omega) dk_d).mono ?_
  rintro e w12 ⟨rfl, d, hw⟩
  have hb : Below w11.heap.size w11 w12 := by rw [hw]; exact below_drewN w11 d
  have B12 := hid (below_next B11.out hb)
  have X3 := hid (own_below X3.out hb)
  clear hb hw B11 X2 V2
  go_wp2_with fail
  have hb := below_alloc w12 (.cells #[Value.int IntKind.u8 186, Value.int IntKind.u8 120, Value.int IntKind.u8 162, Value.int IntKind.u8 193, Value.int IntKind.u8 143, Value.int IntKind.u8 225, Value.int IntKind.u8 243, Value.int IntKind.u8 207, Value.int IntKind.u8 255, Value.int IntKind.u8 171] 5)
  have V3 := hid (show By.Own (w12.alloc (.cells #[Value.int IntKind.u8 186, Value.int IntKind.u8 120, Value.int IntKind.u8 162, Value.int IntKind.u8 193, Value.int IntKind.u8 143, Value.int IntKind.u8 225, Value.int IntKind.u8 243, Value.int IntKind.u8 207, Value.int IntKind.u8 255, Value.int IntKind.u8 171] 5)) w12.heap.size (.slice (some ⟨w12.heap.size, 0, none⟩) 10 10) 10 (lst [186, 120, 162, 193, 143, 225, 243, 207, 255, 171]) from own_bytes w12 [186, 120, 162, 193, 143, 225, 243, 207, 255, 171] (lst_bound _ (by decide)) (by decide))
  have B13 := hid (below_next B12.out hb)
  have X3 := hid (own_below X3.out hb)
  obtain ⟨w13, hw⟩ : ∃ y, w12.alloc (.cells #[Value.int IntKind.u8 186, Value.int IntKind.u8 120, Value.int IntKind.u8 162, Value.int IntKind.u8 193, Value.int IntKind.u8 143, Value.int IntKind.u8 225, Value.int IntKind.u8 243, Value.int IntKind.u8 207, Value.int IntKind.u8 255, Value.int IntKind.u8 171] 5) = y := ⟨_, rfl⟩
  rw [hw] at V3 B13 X3 ⊢
  clear hb hw B12
  refine (starts1 10 10 _ _ _ _ _ _ X3.out.reads V3.out.reads (by omega) (by omega) dk_e).mono ?_
  rintro e w14 ⟨rfl, d, hw⟩
  have hb : Below w13.heap.size w13 w14 := by rw [hw]; exact below_drewN w13 d
  have B14 := hid (below_next B13.out hb)
  clear hb hw B13 X3 V3
  go_wp2
  go_ret
  exact ⟨rfl, B14.out⟩
end Go.Proofs.YtjhhnajgfngbhaaDoor.Dg
