/- The statement CmacPieces, walked: keys that may not be. -/
import Derived.Test.YtnncgniiceglaaaDoorVlw1
namespace Go.Proofs.YtnncgniiceglaaaDoor.Vm
open Go.ChangeShapes Go.WideShapes Go.ChangeAt Go.RowKit
open Go.Proofs.YtnncgniiceglaaaDoor.By Go.Proofs.YtnncgniiceglaaaDoor.Gf Go.Proofs.YtnncgniiceglaaaDoor.Ae
set_option maxRecDepth 4000 in
set_option maxHeartbeats 4000000 in
theorem pieces_bad (a : Option Addr) (n cap : Nat) (pv qv : Value) (w : World) (hk : KM w) (h1 : n ≠ 16) (h2 : n ≠ 24) (h3 : n ≠ 32) : Calls Tryd.prog 5 #[.slice a n cap, pv, qv] w fun e w' => e = .returned (.bool true) ∧ Below w.heap.size w w' := by
  have HK := hid hk
  clear hk
  go_enter Tryd.func5, Tryd.ntmps5
  go_wp2_with fail
  refine (awake1 w HK.out).mono ?_
  rintro e w2 ⟨rfl, hb2⟩
  have B2 := hid hb2
  clear hb2
  go_wp2_with fail
  refine (new9 w2).mono ?_
  rintro e w3 ⟨rfl, hl3, hb3⟩
  have L3 := hid hl3
  have B3 := hid (below_next B2.out hb3)
  clear hl3 hb3 B2
  go_wp2_with fail
  refine (new9 w3).mono ?_
  rintro e w4 ⟨rfl, hl4, hb4⟩
  have L4 := hid (L3.out.below hb4)
  have M4 := hid hl4
  have B4 := hid (below_next B3.out hb4)
  clear hl4 hb4 B3 L3
  go_wp2_with fail
  refine (tag_bad _ _ a n cap w4 h1 h2 h3).mono ?_
  rintro e w5 ⟨rfl, hb5⟩
  have L5 := hid (L4.out.below hb5)
  have M5 := hid (M4.out.below hb5)
  have B5 := hid (below_next B4.out hb5)
  clear hb5 B4 L4 M4
  go_wp2_with fail
  refine (cnew_bad _ a n cap w5 h1 h2 h3).mono ?_
  rintro e w6 ⟨rfl, hb6⟩
  have L6 := hid (L5.out.below hb6)
  have M6 := hid (M5.out.below hb6)
  have B6 := hid (below_next B5.out hb6)
  clear hb6 B5 L5 M5
  go_wp2_with (go_at_call 23; first | (refine (len20 _ _ _ _ L6.out).mono ?_; rintro e w' ⟨rfl, hw'⟩; subst w') | (refine (len20 _ _ _ _ M6.out).mono ?_; rintro e w' ⟨rfl, hw'⟩; subst w'))
  go_ret
  exact ⟨rfl, B6.out⟩
end Go.Proofs.YtnncgniiceglaaaDoor.Vm
