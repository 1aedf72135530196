/- code: what Begin answers. -/
import Derived.Test.YtpohogpkfdebdaaGreatDoorOh
namespace Go.Proofs.YtpohogpkfdebdaaGreatDoor.Oc
open Go.ChangeShapes Go.WideShapes Go.ChangeAt Go.RowKit
open Go.Proofs.YtpohogpkfdebdaaGreatDoor.By
open Go.Proofs.YtpohogpkfdebdaaGreatDoor.Sh (Blk size_alloc)
open Go.Proofs.YtpohogpkfdebdaaGreatDoor.Dg (BB LG lpv Lt Tl IsMk MB)
set_option maxRecDepth 20000 in
set_option maxHeartbeats 2000000 in
theorem code_no (al kn kc cn cc : Nat) (ka ca : Option Addr) (out z : Int) (hz : code al kn cn out = z) (h0 : ¬ z = 0) (w : World) : Calls Tryz.prog 38 #[.agg #[.int .u8 (al : Int), .slice ka kn kc, .slice ca cn cc, .int .i64 out]] w fun e w' => e = .returned (.int .i64 z) ∧ Below w.heap.size w w' := by
  have b0 := below_alloc w (.cells #[.int .u8 (al : Int), .slice ka kn kc, .slice ca cn cc, .int .i64 out] 25)
  have BN := hid (bgn_no al kn cn out ka ca kc cc (.pointer none) (w.alloc (.cells #[.int .u8 (al : Int), .slice ka kn kc, .slice ca cn cc, .int .i64 out] 25)) (by rw [hz]; exact h0))
  rw [hz] at BN
  have B0 := hid b0
  have h1 : (z == 0) = false := beq_eq_false_iff_ne.2 h0
  have h2 : (z != 0) = true := by unfold bne; rw [h1]; rfl
  clear b0 hz
  go_enter Tryz.func38, Tryz.ntmps38
  go_wp2_with fail
  refine BN.out.mono ?_
  rintro e w1 ⟨rfl, hb⟩
  have B1 := hid (below_next B0.out hb)
  clear hb BN
  go_wp2
  go_ret
  exact ⟨rfl, B1.out⟩
set_option maxRecDepth 20000 in
set_option maxHeartbeats 2000000 in
theorem code_yes (q : CE) (qo : Nat) (w : World) (hk : KA w) (hok : q.Ok w) (hn : q.kn ≤ 1000000) (hc : code q.al q.kn q.cn qo = 0) : Calls Tryz.prog 38 #[.agg #[.int .u8 (q.al : Int), .slice q.ka q.kn q.kc, .slice q.ca q.cn q.cc, .int .i64 (qo : Int)]] w fun e w' => e = .returned (.int .i64 0) ∧ Below w.heap.size w w' := by
  have b0 := below_alloc w (.cells #[.int .u8 (q.al : Int), .slice q.ka q.kn q.kc, .slice q.ca q.cn q.cc, .int .i64 (qo : Int)] 25)
  have G0 := (GX.start w hk).below b0
  have BG := hid (gx_begin (i := 0) (k := 8) (lo := none) (L := []) G0 rfl (by decide) q.al q.kn q.cn qo 0 (.slice q.ka q.kn q.kc) (.slice q.ca q.cn q.cc) q.f q.h Fit.nil (by decide) (fun w' hk' => (hok.rk.below b0).below (no_kp (t := fun _ => Th.no) (k := 8) rfl hk')) (fun w' hk' => (hok.rc.below b0).below (no_kp (t := fun _ => Th.no) (k := 8) rfl hk')) hc hn)
  clear b0 G0 hok hk hc hn
  go_enter Tryz.func38, Tryz.ntmps38
  go_wp2_with fail
  refine BG.out.mono ?_
  rintro e w1 ⟨x, rfl, -, -, -, t1, g1, -⟩
  have B1 := hid g1.bel
  clear g1 BG
  go_wp2
  go_ret
  exact ⟨rfl, B1.out⟩
end Go.Proofs.YtpohogpkfdebdaaGreatDoor.Oc
