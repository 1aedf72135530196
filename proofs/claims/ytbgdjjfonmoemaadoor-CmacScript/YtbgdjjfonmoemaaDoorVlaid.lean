/- The package-level table: what the row's condition gives the walks, and that the door's own heap meets it. -/
import Derived.Test.YtbgdjjfonmoemaaDoorYj
import Derived.Test.YtbgdjjfonmoemaaDoorTie
import Derived.ProofKit
import Derived.LaidMore
import Derived.OpenShut
import Derived.Stop.Joined
namespace Go.Proofs.YtbgdjjfonmoemaaDoor.Vm
open Go.ChangeShapes Go.WideShapes Go.ChangeAt Go.RowKit
open Go.Proofs.YtbgdjjfonmoemaaDoor.By Go.Proofs.YtbgdjjfonmoemaaDoor.Gf Go.Proofs.YtbgdjjfonmoemaaDoor.Ae
def laid1 : List (String × DataW Unit) := [("turnkey/aes.mixing", Rows.laid_turnkey_aes_mixing)]
theorem gC : Tryd.prog.globalNamed "turnkey/aes.mixing" = some 0 := by kernel_rfl
theorem tyC : (Tryd.prog.globals[0]?).map (·.type) = some 100 := by kernel_rfl
theorem door_met (os : Os) (args : Array Value) : laidMetH Tryd.prog laid1 ((World.doorLaid Tryd.prog 400 os).forCall (fun _ _ => 0) ⟨#[], args, []⟩).memory :=
  laidMetH_of_parts3 (fuel := 8) (laidMet_of_run' 8 (by kernel_rfl) (by kernel_rfl)) (by kernel_rfl) (by kernel_rfl)
theorem cdat : (Rows.laid_turnkey_aes_mixing : DataW Unit) = .agg (([2, 3, 1, 1] : List Int).map (fun z => .lit (.int .u8 z))) := rfl
def KT (w : World) : Prop := KM w
theorem kt_of_laid {W : World} (h : laidMetH Tryd.prog laid1 W) : KT W := by
  rw [MakeChecks.laidMetH_plain _ _ _ (by kernel_rfl)] at h
  obtain ⟨ps, ⟨g0, t0, cs0, f0, p0, q0, hg0, ht0, hv0, hd0, _, _⟩, _, _⟩ := h
  obtain rfl := Option.some.inj (gC.symm.trans hg0)
  obtain rfl := Option.some.inj (tyC.symm.trans ht0)
  obtain ⟨xs, mm, rfl, hx1, hlen, hn, hel⟩ := DataW.trod_array Tryd.underlying100 hd0
  have c1 : Tryd.prog.cellsOf 5 = 1 := by kernel_rfl
  have hx : (Rows.laid_turnkey_aes_mixing : DataW Unit) = .agg (xs.map (·.1)) := congrArg Prod.fst hx1
  rw [cdat] at hx
  simp only [DataW.agg.injEq] at hx
  intro j v hj
  have hj4 : j < 4 := by have := (List.getElem?_eq_some_iff.1 hj).1; rwa [bl_length] at this
  rw [bl_get 4 _ j hj4] at hj
  obtain rfl := Option.some.inj hj
  have h1 := hel j hj4
  rw [c1, Nat.mul_one] at h1
  have hxj : xs[j]? = some (xs[j]'(by omega)) := List.getElem?_eq_getElem (by omega)
  rw [hxj] at h1
  obtain ⟨k, e1, e2, _⟩ := DataW.trod_int Tryd.underlying5 h1
  have e3 : (xs.map (·.1))[j]? = some (.lit (.int .u8 k)) := by rw [List.getElem?_map, hxj, e2]; rfl
  have hkj : ([2, 3, 1, 1] : List Int)[j]? = some (cb m1 j) := by
    have : ∀ j, j < 4 → ([2, 3, 1, 1] : List Int)[j]? = some (cb m1 j) := by decide
    exact this j hj4
  rw [← hx, List.getElem?_map, hkj] at e3
  simp only [Option.map_some, Option.some.injEq, DataW.lit.injEq, Lit.int.injEq, true_and] at e3
  have hc := World.var?_cell hg0 hv0 j
  rw [Nat.zero_add, hc]
  have h4 : cs0.toList[j]? = some (.int .u8 k) := by
    have := congrArg (fun l => l[0]?) e1
    simpa using this
  rw [e3]
  simpa using h4
end Go.Proofs.YtbgdjjfonmoemaaDoor.Vm
