/- What Box answers, and what it records, of the program and of the document. -/
import Derived.Test.YtpcnkiapbkmjbaaNlg
import Derived.Test.YtpcnkiapbkmjbaaGref
import Derived.Test.YtpcnkiapbkmjbaaGwalk
namespace Go.Proofs.Ytpcnkiapbkmjbaa.Nv
open Go.ChangeShapes Go.WideShapes Go.ChangeAt Go.RowKit
open Go.Proofs.Ytpcnkiapbkmjbaa
theorem hidb {p : Prop} (h : p) : Hid p := h
/-- A place that was looked up, as a run. -/
def ix (a : Nat) : Rn := ⟨10, a, 1⟩
theorem ix_ok (a : Nat) (ha : a < 256) : (ix a).Ok := by
  refine ⟨⟨by show (0 : Int) ≤ 10; decide, by show (10 : Int) < 256; decide⟩, ⟨by show (-9223372036854775808 : Int) ≤ a; omega, by show (a : Int) ≤ 9223372036854775807; omega⟩, by show (-9223372036854775808 : Int) ≤ 1; decide, by show (1 : Int) ≤ 9223372036854775807; decide⟩
set_option maxHeartbeats 1200000 in
theorem bx_walk {w0 w : World} {lo : Option Nat} {rv0 : Value} {L : List Rn} (a : Nat) (h : ST w0 lo rv0 w L) (hL : tot L ≤ 900000) (ha : a < 256) :
    Calls Try.prog 15 #[lpv lo, .int .u8 (a : Int)] w fun r w' => r = .returned (.int .u8 (Gf.box a : Nat)) ∧ ST w0 lo rv0 w' (putL L (ix a)) := by
  have N := hidb (note_st 10 (a : Int) h (ix_ok a ha) (by omega))
  have B := hidb (fun w => Gf.box_walk a w ha)
  clear h hL
  generalize lpv lo = p at *
  go_enter Try.func15, Try.ntmps15
  go_wp2_with (first | (go_at_call 40; refine N.out.mono ?_; rintro e w' ⟨rfl, h⟩; have R := hidb h; clear h) | (go_at_call 34; refine (B.out _).mono ?_; rintro e w' ⟨rfl, rfl⟩))
  go_ret
  exact ⟨rfl, R.out⟩
set_option maxHeartbeats 1200000 in
theorem rbx_walk {w0 w : World} {lo : Option Nat} {rv0 : Value} {L : List Rn} (a : Nat) (h : RST w0 lo rv0 w L) (hL : tot L ≤ 900000) (ha : a < 256) :
    Calls Try.prog 16 #[lpv lo, .int .u8 (a : Int)] w fun r w' => r = .returned (.int .u8 (Gf.box a : Nat)) ∧ RST w0 lo rv0 w' (putL L (ix a)) := by
  have N := hidb (rnote_st 10 (a : Int) h (ix_ok a ha) (by omega))
  have B := hidb (fun w => Gf.box_ref a w ha)
  clear h hL
  generalize lpv lo = p at *
  go_enter Try.func16, Try.ntmps16
  go_wp2_with (first | (go_at_call 41; refine N.out.mono ?_; rintro e w' ⟨rfl, h⟩; have R := hidb h; clear h) | (go_at_call 42; refine (B.out _).mono ?_; rintro e w' ⟨rfl, d, rfl⟩))
  go_ret
  exact ⟨rfl, R.out.below (below_drewN _ _)⟩
end Go.Proofs.Ytpcnkiapbkmjbaa.Nv
