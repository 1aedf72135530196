/- The document's examples: a table of strings. -/
import Derived.Test.YtodihepgfpbonaaTgS
namespace Go.Proofs.Ytodihepgfpbonaa.Tb.S
open Go.ChangeShapes Go.WideShapes Go.ChangeAt Go.RowKit
abbrev c1 : V := ⟨#[97]⟩
abbrev c2 : V := ⟨#[98]⟩
abbrev c3 : V := ⟨#[99]⟩
abbrev c4 : V := ⟨#[100]⟩
abbrev h0 : Nat → Option V := fun _ => none
abbrev h1 : Nat → Option V := addH h0 2 c1
abbrev h2 : Nat → Option V := addH h1 2 c2
abbrev h3 : Nat → Option V := addH h2 2 c3
abbrev h4 : Nat → Option V := dropH h3 0
abbrev h5 : Nat → Option V := dropH h4 0
abbrev h6 : Nat → Option V := addH h5 2 c4
set_option maxRecDepth 20000 in
set_option maxHeartbeats 1200000 in
theorem awake (w : World) : Calls Try.prog 14 #[] w fun e w' => e = .returned (.bool true) ∧ Below w.heap.size w w' := by
  obtain ⟨t0, hg, hz⟩ := gx_zero w
  have G := hid hg
  have Z := hid hz
  clear hg hz
  go_enter Try.func14, Try.ntmps14
  go_wp2_with fail
  refine (gx_new G.out Z.out 1 2 (by decide) (by decide) (by decide)).mono ?_
  rintro e W1 ⟨rfl, t1, hg, hz, ht, -⟩
  replace G := hid hg
  replace Z := hid hz
  have T := hid ht
  clear hg hz ht
  go_wp2_with fail
  refine (gx_add G.out Z.out (by decide) T.out c1).mono ?_
  rintro e W2 ⟨rfl, t2, C2, hg, hz, -, ht, -⟩
  clear G Z T
  have G := hid hg
  have Z := hid hz
  have T := hid ht
  clear hg hz ht
  rw [show addN (V := V) (fun _ => none) 2 = 0 by kernel_rfl, show addE (V := V) (fun _ => none) 2 = 0 by kernel_rfl]
  go_wp2_with fail
  refine (gx_add G.out Z.out (by decide) T.out c2).mono ?_
  rintro e W3 ⟨rfl, t3, C3, hg, hz, -, ht, -⟩
  clear G Z T
  have G := hid hg
  have Z := hid hz
  have T := hid ht
  clear hg hz ht
  rw [show addN h1 2 = 1 by kernel_rfl, show addE h1 2 = 0 by kernel_rfl]
  go_wp2_with fail
  refine (gx_add G.out Z.out (by decide) T.out c3).mono ?_
  rintro e W4 ⟨rfl, t4, C4, hg, hz, -, ht, -⟩
  clear G Z T
  have G := hid hg
  have Z := hid hz
  have T := hid ht
  clear hg hz ht
  rw [show addN h2 2 = 0 by kernel_rfl, show addE h2 2 = 8 by kernel_rfl]
  go_wp2_with fail
  refine (gx_drop G.out Z.out (by decide) T.out 0).mono ?_
  rintro e W5 ⟨rfl, t5, hg, hz, ht, -⟩
  clear G Z T
  have G := hid hg
  have Z := hid hz
  have T := hid ht
  clear hg hz ht
  rw [show gt (hdI h3 0) = .tuple #[.string c1, .int .i64 0] by kernel_rfl]
  go_wp2_with fail
  refine (gx_drop G.out Z.out (by decide) T.out 0).mono ?_
  rintro e W6 ⟨rfl, t6, hg, hz, ht, -⟩
  clear G Z T
  have G := hid hg
  have Z := hid hz
  have T := hid ht
  clear hg hz ht
  rw [show gt (hdI h4 0) = .tuple #[.string ByteArray.empty, .int .i64 5] by kernel_rfl]
  go_wp2_with fail
  refine (gx_add G.out Z.out (by decide) T.out c4).mono ?_
  rintro e W7 ⟨rfl, t7, C7, hg, hz, -, ht, -⟩
  clear G Z T
  have G := hid hg
  have Z := hid hz
  have T := hid ht
  clear hg hz ht
  rw [show addN h5 2 = 0 by kernel_rfl, show addE h5 2 = 0 by kernel_rfl]
  go_wp2_with fail
  refine (gx_get G.out Z.out T.out 0).mono ?_
  rintro e W8 ⟨rfl, hg, -⟩
  replace G := hid hg
  clear hg
  rw [show gt (hdI h6 0) = .tuple #[.string c4, .int .i64 0] by kernel_rfl]
  go_wp2_with fail
  refine (gx_full G.out T.out).mono ?_
  rintro e W9 ⟨rfl, d, rfl⟩
  replace G := hid (G.out.drewN d)
  rw [show decide (cntH h6 2 = 2) = true by kernel_rfl]
  go_wp2_with fail
  refine (gx_len G.out T.out).mono ?_
  rintro e W9 ⟨rfl, rfl⟩
  rw [show cntH h6 2 = 2 by kernel_rfl]
  go_wp2
  go_ret
  exact ⟨rfl, G.out.bel⟩
end Go.Proofs.Ytodihepgfpbonaa.Tb.S
