/- The acts of AesScript: a block encrypted, decrypted. -/
import Derived.Test.YtehhnneomoddgaaDoorAact20
import Derived.Test.YtehhnneomoddgaaDoorAact21
import Derived.Test.YtehhnneomoddgaaDoorAact22
import Derived.Test.YtehhnneomoddgaaDoorAact23
namespace Go.Proofs.YtehhnneomoddgaaDoor.Ae
open Go.ChangeShapes Go.WideShapes Go.ChangeAt Go.RowKit
open Go.Proofs.YtehhnneomoddgaaDoor.By Go.Proofs.YtehhnneomoddgaaDoor.Gf
open Go.Proofs.YtehhnneomoddgaaDoor.Kc (own_kept own_mono own8_type)
section
variable {X : World → Prop} {w0 W W' : World} {xb lb mb : Nat} {lv mv tv wv : Value} {cv rv : Nat → Value} {D E : Nat → KD} {L M : List Rn}
theorem PS.actEnc (h : PS X w0 xb lb mb lv mv tv wv cv rv D D L L W) (on : Int) (pa : Option Addr) (pn pc : Nat) (mute : Bool) (f : Nat → Int) (hp : ∀ V, Below w0.heap.size w0 V → By.RB V (.slice pa pn pc) pn f) (hpn : pn ≤ 140737488351232) (hr : Room L) :
    Calls Tryd.prog 7 #[.pointer (some ⟨xb, 0, none⟩), .agg #[.int .i64 on, .int .i64 0, .slice pa pn pc, .bool mute]] W fun e w' => e = .returned (.bool true) ∧ ∃ k lv' mv', k < 2 ∧ PS X w0 xb lb mb lv' mv' tv wv cv rv D D (sel mute L (evE L (D k))) (sel mute L (evE L (D k))) w' := by
  cases mute
  · exact h.actEnc0 on pa pn pc f hp hpn hr
  · exact h.actEnc1 on pa pn pc f hp hpn hr
theorem PS.actDec (h : PS X w0 xb lb mb lv mv tv wv cv rv D D L L W) (on : Int) (pa : Option Addr) (pn pc : Nat) (mute : Bool) (f : Nat → Int) (hp : ∀ V, Below w0.heap.size w0 V → By.RB V (.slice pa pn pc) pn f) (hpn : pn ≤ 140737488351232) (hr : Room L) :
    Calls Tryd.prog 7 #[.pointer (some ⟨xb, 0, none⟩), .agg #[.int .i64 on, .int .i64 1, .slice pa pn pc, .bool mute]] W fun e w' => e = .returned (.bool true) ∧ ∃ k lv' mv', k < 2 ∧ PS X w0 xb lb mb lv' mv' tv wv cv rv D D (sel mute L (evE L (D k))) (sel mute L (evE L (D k))) w' := by
  cases mute
  · exact h.actDec0 on pa pn pc f hp hpn hr
  · exact h.actDec1 on pa pn pc f hp hpn hr
end
end Go.Proofs.YtehhnneomoddgaaDoor.Ae
