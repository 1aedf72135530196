/- awake: two of the chapter's examples. -/
import Derived.Test.YtpgkalgnlkfmaaaDoorZmd
import Derived.Test.YtpgkalgnlkfmaaaDoorZmv
import Derived.Test.YtpgkalgnlkfmaaaDoorZmh
import Derived.Lib.SlBytesConst
import Derived.Deep.RegionHeld3
namespace Go.Proofs.YtpgkalgnlkfmaaaDoor.Dg
open Go.ChangeShapes Go.WideShapes Go.ChangeAt Go.RowKit
open Go.Proofs.YtpgkalgnlkfmaaaDoor.By
open Go.Proofs.YtpgkalgnlkfmaaaDoor.Sh (Blk size_alloc)
def sFX : ByteArray := ⟨#[102, 55, 98, 99, 56, 51, 102, 52, 51, 48, 53, 51, 56, 52, 50, 52, 98, 49, 51, 50, 57, 56, 101, 54, 97, 97, 54, 102, 98, 49, 52, 51, 101, 102, 52, 100, 53, 57, 97, 49, 52, 57, 52, 54, 49, 55, 53, 57, 57, 55, 52, 55, 57, 100, 98, 99, 50, 100, 49, 97, 51, 99, 100, 56]⟩
def sAB : ByteArray := ⟨#[51, 57, 50, 54, 97, 50, 48, 55, 99, 56, 99, 52, 50, 98, 48, 99, 52, 49, 55, 57, 50, 99, 98, 100, 51, 101, 49, 97, 49, 97, 97, 97]⟩
def sNN : ByteArray := ⟨#[98, 54, 49, 51, 54, 55, 57, 97, 48, 56, 49, 52, 100, 57, 101, 99, 55, 55, 50, 102, 57, 53, 100, 55, 55, 56, 99, 51, 53, 102, 99, 53, 102, 102, 49, 54, 57, 55, 99, 52, 57, 51, 55, 49, 53, 54, 53, 51, 99, 54, 99, 55, 49, 50, 49, 52, 52, 50, 57, 50, 99, 53, 97, 100]⟩
theorem hexFX : ∀ i, i < 32 → Sh.lf (wof wo_fx) i = hf sFX i := by decide +kernel
theorem hexNN : ∀ i, i < 32 → Sh.lf (wof wo_nn) i = hf sNN i := by decide +kernel
theorem hexAB : ∀ i, i < 16 → Sg.lf (wof wo_ab) i = hf sAB i := by decide +kernel
theorem abc_b : BB Sh.abc := lst_bound _ (by decide)
set_option maxRecDepth 8000 in
set_option maxHeartbeats 2000000 in
theorem fox1 (w : World) : Calls Tryd.prog 31 #[] w fun e w' => ∃ v u, e = .returned (.tuple #[v, u]) ∧ By.RB w' v 43 kfox ∧ By.Own w' w.heap.size u 32 (hf sFX) ∧ Below w.heap.size w w' := by
  have hcv := fun w => Lib.run_convert_bytes_const (P := Tryd.prog) w 24 5 #[Value.int IntKind.u8 84, Value.int IntKind.u8 104, Value.int IntKind.u8 101, Value.int IntKind.u8 32, Value.int IntKind.u8 113, Value.int IntKind.u8 117, Value.int IntKind.u8 105, Value.int IntKind.u8 99, Value.int IntKind.u8 107, Value.int IntKind.u8 32, Value.int IntKind.u8 98, Value.int IntKind.u8 114, Value.int IntKind.u8 111, Value.int IntKind.u8 119, Value.int IntKind.u8 110, Value.int IntKind.u8 32, Value.int IntKind.u8 102, Value.int IntKind.u8 111, Value.int IntKind.u8 120, Value.int IntKind.u8 32, Value.int IntKind.u8 106, Value.int IntKind.u8 117, Value.int IntKind.u8 109, Value.int IntKind.u8 112, Value.int IntKind.u8 115, Value.int IntKind.u8 32, Value.int IntKind.u8 111, Value.int IntKind.u8 118, Value.int IntKind.u8 101, Value.int IntKind.u8 114, Value.int IntKind.u8 32, Value.int IntKind.u8 116, Value.int IntKind.u8 104, Value.int IntKind.u8 101, Value.int IntKind.u8 32, Value.int IntKind.u8 108, Value.int IntKind.u8 97, Value.int IntKind.u8 122, Value.int IntKind.u8 121, Value.int IntKind.u8 32, Value.int IntKind.u8 100, Value.int IntKind.u8 111, Value.int IntKind.u8 103] 43 43 Tryd.underlying24 Tryd.underlying5
  go_enter Tryd.func31, Tryd.ntmps31
  go_wp2_with fail
  have hl : (bl 43 kfox).toArray = #[.int .u8 84, .int .u8 104, .int .u8 101, .int .u8 32, .int .u8 113, .int .u8 117, .int .u8 105, .int .u8 99, .int .u8 107, .int .u8 32, .int .u8 98, .int .u8 114, .int .u8 111, .int .u8 119, .int .u8 110, .int .u8 32, .int .u8 102, .int .u8 111, .int .u8 120, .int .u8 32, .int .u8 106, .int .u8 117, .int .u8 109, .int .u8 112, .int .u8 115, .int .u8 32, .int .u8 111, .int .u8 118, .int .u8 101, .int .u8 114, .int .u8 32, .int .u8 116, .int .u8 104, .int .u8 101, .int .u8 32, .int .u8 108, .int .u8 97, .int .u8 122, .int .u8 121, .int .u8 32, .int .u8 100, .int .u8 111, .int .u8 103] := rfl
  have R1 := hid (Sg.rb_marked w 43 kfox (43, 44) kfox_b (by decide))
  have b1 := hid (below_alloc w (.cells (bl 43 kfox).toArray 5 (43, 44)))
  rw [hl] at R1 b1
  clear hl
  refine (unhex1 sFX 32 _ rfl (by omega)).mono ?_
  rintro e w1 ⟨u, rfl, hu, hb⟩
  have R2 := hid (R1.out.below hb)
  have U2 := hid (Sg.own_mono hu b1.out.size)
  have b2 := hid (below_next b1.out hb)
  clear hu hb R1 b1 hcv
  go_wp2
  go_ret2
  exact ⟨_, u, rfl, R2.out, U2.out, b2.out⟩
theorem key_arr : (bl 3 kkey).toArray = #[.int .u8 107, .int .u8 101, .int .u8 121] := rfl
theorem abc_arr : (bl 3 Sh.abc).toArray = #[.int .u8 97, .int .u8 98, .int .u8 99] := rfl
set_option maxRecDepth 8000 in
set_option maxHeartbeats 4000000 in
theorem awake1 (w : World) (hk : KT w) : Calls Tryd.prog 20 #[] w fun e w' => e = .returned (.bool true) ∧ Below w.heap.size w w' := by
  have HK := hid hk
  have hcv := fun w => Lib.run_convert_bytes_const (P := Tryd.prog) w 24 5 #[Value.int .u8 107, .int .u8 101, .int .u8 121] 3 3 Tryd.underlying24 Tryd.underlying5
  have hcw := fun w => Lib.run_convert_bytes_const (P := Tryd.prog) w 24 5 #[Value.int .u8 97, .int .u8 98, .int .u8 99] 3 3 Tryd.underlying24 Tryd.underlying5
  clear hk
  go_enter Tryd.func20, Tryd.ntmps20
  go_wp2_with fail
  refine (fox1 _).mono ?_
  rintro e w1 ⟨fv, fu, rfl, hv, hu, hb⟩
  have V1 := hid hv
  have U1 := hid hu
  have b1 := hid hb
  clear hv hu hb
  go_wp2_with fail
  have R1 := hid (Sg.rb_marked w1 3 kkey (3, 4) kkey_b (by decide))
  have c1 := below_alloc w1 (.cells (bl 3 kkey).toArray 5 (3, 4))
  have V2 := hid (V1.out.below c1)
  have U2 := hid (own_below U1.out c1)
  have b2 := hid (below_next b1.out c1)
  rw [key_arr] at R1 V2 U2 b2
  clear c1 V1 U1 b1
  refine (tag256 3 43 _ _ kkey kfox none [] (fun _ => False) _ (HK.out.below b2.out) id id trivial Sg.pos_nil' (fun w' hk' => R1.out.below (Sg.below_kp hk')) (fun w' hk' => V2.out.below (Sg.below_kp hk')) (by omega) (by omega) (by decide)).mono ?_
  rintro e w3 ⟨x3, rfl, hx, -, hk3⟩
  have hb3 := Sg.below_kp hk3
  have X3 := hid (own_congr hx (hm_b _ _ _ _) (fun _ _ => rfl))
  have U3 := hid (own_below U2.out hb3)
  have b3 := hid (below_next b2.out hb3)
  clear hx hk3 hb3 R1 V2 U2 b2
  have hcx := hcw (w3.alloc (.cells #[Value.int .u8 107, .int .u8 101, .int .u8 121] 5 (3, 4)))
  rw [size_alloc] at hcx
  go_wp2_with fail
  have R3 := Sg.rb_marked w3 3 kkey (3, 4) kkey_b (by decide)
  have c3 := below_alloc w3 (.cells (bl 3 kkey).toArray 5 (3, 4))
  rw [key_arr] at R3 c3
  have R4 := Sg.rb_marked (w3.alloc (.cells #[Value.int .u8 107, .int .u8 101, .int .u8 121] 5 (3, 4))) 3 Sh.abc (3, 4) abc_b (by decide)
  have c4 := below_alloc (w3.alloc (.cells #[Value.int .u8 107, .int .u8 101, .int .u8 121] 5 (3, 4))) (.cells (bl 3 Sh.abc).toArray 5 (3, 4))
  rw [abc_arr] at R4 c4
  rw [size_alloc] at R4
  have RK := hid (R3.below c4)
  have RA := hid R4
  have c5 := below_next c3 c4
  have X4 := hid (own_below X3.out c5)
  have U4 := hid (own_below U3.out c5)
  have b4 := hid (below_next b3.out c5)
  clear R3 c3 R4 c4 c5 X3 U3 b3 hcx hcv hcw
  refine (tag512 3 3 _ _ kkey Sh.abc none [] (fun _ => False) _ (HK.out.below b4.out) id id trivial Sg.pos_nil' (fun w' hk' => RK.out.below (Sg.below_kp hk')) (fun w' hk' => RA.out.below (Sg.below_kp hk')) (by omega) (by omega) (by decide)).mono ?_
  rintro e w5 ⟨y5, rfl, hy, -, hk5⟩
  have hb5 := Sg.below_kp hk5
  have Y5 := hid hy
  have X5 := hid (own_below X4.out hb5)
  have U5 := hid (own_below U4.out hb5)
  have b5 := hid (below_next b4.out hb5)
  clear hy hk5 hb5 RK RA X4 U4 b4
  obtain ⟨gy, cy, rfl, -⟩ := own_cells Y5.out (by decide)
  have hcy : (16 : Int) ≤ cy := by have := rb_cap Y5.out.reads; omega
  have HS1 := hid (show Calls Tryd.prog 8 #[x3, fu] w5.drew (fun e w' => e = .returned (.bool true) ∧ Below w5.heap.size w5 w') from by
    refine (same_true x3 fu 32 _ _ _ (own_below X5.out (below_drewN w5 1)).reads (own_below U5.out (below_drewN w5 1)).reads (by decide) (fun i hi => (hm_fx i hi).trans (hexFX i hi))).mono ?_
    rintro e w6 ⟨rfl, d6, hw⟩
    exact ⟨rfl, by rw [hw]; exact below_next (below_drewN w5 1) (below_drewN _ d6)⟩)
  have HS2 := hid (fun (W : World) => show Calls Tryd.prog 9 #[.string ⟨#[51, 57, 50, 54, 97, 50, 48, 55, 99, 56, 99, 52, 50, 98, 48, 99, 52, 49, 55, 57, 50, 99, 98, 100, 51, 101, 49, 97, 49, 97, 97, 97]⟩] W (fun e w' => ∃ v, e = .returned v ∧ By.Own w' W.heap.size v 16 (hf sAB) ∧ Below W.heap.size W w') from unhex1 sAB 16 W rfl (by omega))
  have HS3 := hid (fun (W : World) (u : Value) (hb : Below w5.heap.size w5 W) (hu : By.RB W u 16 (hf sAB)) => show Calls Tryd.prog 8 #[.slice (some ⟨gy, 0, none⟩) 16 cy, u] W (fun e w' => e = .returned (.bool true) ∧ Below w5.heap.size w5 w') from by
    refine (same_true _ u 16 _ _ _ ((own_below Y5.out hb).reads.first 16 (by omega)) hu (by decide) (fun i hi => (hm_ab i (by omega)).trans (hexAB i hi))).mono ?_
    rintro e w8 ⟨rfl, d8, hw⟩
    exact ⟨rfl, by rw [hw]; exact below_next hb (below_drewN _ _)⟩)
  clear X5 U5 Y5
  go_upto_region 4 with fail
  go_region_held3 (fun _ => True) (trivial) (first
    | (go_at_call 8; refine (HS3.out _ u B7.out U7.out).mono ?_; rintro e w8 ⟨rfl, hb8⟩; have B8 := hid hb8; clear hb8)
    | (go_at_call 9; refine (HS2.out _).mono ?_; rintro e w7 ⟨u, rfl, hu, hb⟩; have U7 := hid hu.reads; have B7 := hid (below_next B6.out hb); clear hu hb)
    | (go_at_call 8; refine HS1.out.mono ?_; rintro e w6 ⟨rfl, hb6⟩; have B6 := hid hb6; clear hb6))
  go_wp2
  go_ret
  exact ⟨rfl, below_next b5.out B8.out⟩
end Go.Proofs.YtpgkalgnlkfmaaaDoor.Dg
