/- The package-level tables: what the row's condition gives the walks, and that the door's own heap meets it. -/
import Derived.Test.YtnhhkoekghjogaaGreatDoorKf
import Derived.Test.YtnhhkoekghjogaaGreatDoorTie
import Derived.ProofKit
import Derived.LaidMore
import Derived.OpenShut
import Derived.Stop.Joined
namespace Go.Proofs.YtnhhkoekghjogaaGreatDoor.Kc
open Go.ChangeShapes Go.WideShapes Go.ChangeAt Go.RowKit

def laid1 : List (String × DataW Unit) := [("turnkey/keccak.constants", Rows.laid_turnkey_keccak_constants), ("turnkey/keccak.way", Rows.laid_turnkey_keccak_way)]
theorem gC : Tryz.prog.globalNamed "turnkey/keccak.constants" = some 0 := by kernel_rfl
theorem gW : Tryz.prog.globalNamed "turnkey/keccak.way" = some 1 := by kernel_rfl
theorem tyC : (Tryz.prog.globals[0]?).map (·.type) = some 134 := by kernel_rfl
theorem tyW : (Tryz.prog.globals[1]?).map (·.type) = some 138 := by kernel_rfl
theorem door_met (os : Os) (args : Array Value) : laidMetH Tryz.prog laid1 ((World.doorLaid Tryz.prog 400 os).forCall (fun _ _ => 0) ⟨#[], args, []⟩).memory :=
  laidMetH_of_parts3 (fuel := 8) (laidMet_of_run' 8 (by kernel_rfl) (by kernel_rfl)) (by kernel_rfl) (by kernel_rfl)
theorem cdat : (Rows.laid_turnkey_keccak_constants : DataW Unit) = .agg (cl.map (fun z => .lit (.int .u64 z))) := rfl
theorem wdat : (Rows.laid_turnkey_keccak_way : DataW Unit) = .agg (wyl.map (fun z : Nat => .lit (.int .i64 (z : Int)))) := rfl
theorem kt_of_laid {W : World} (h : laidMetH Tryz.prog laid1 W) : KT W := by
  rw [MakeChecks.laidMetH_plain _ _ _ (by kernel_rfl)] at h
  obtain ⟨ps, hv, _, _⟩ := h
  obtain ⟨g0, t0, cs0, f0, p0, q0, hg0, ht0, hv0, hd0, h2, _⟩ := hv
  obtain ⟨g1, t1, cs1, f1, p1, q1, hg1, ht1, hv1, hd1, _, _⟩ := h2
  obtain rfl := Option.some.inj (gC.symm.trans hg0)
  obtain rfl := Option.some.inj (tyC.symm.trans ht0)
  obtain rfl := Option.some.inj (gW.symm.trans hg1)
  obtain rfl := Option.some.inj (tyW.symm.trans ht1)
  refine ⟨?_, ?_⟩
  · obtain ⟨xs, m1, rfl, hx1, hlen, hn, hel⟩ := DataW.trod_array Tryz.underlying134 hd0
    have c1 : Tryz.prog.cellsOf 120 = 1 := by kernel_rfl
    have hx : (Rows.laid_turnkey_keccak_constants : DataW Unit) = .agg (xs.map (·.1)) := congrArg Prod.fst hx1
    rw [cdat] at hx
    simp only [DataW.agg.injEq] at hx
    intro j v hj
    have hj24 : j < 24 := by have := (List.getElem?_eq_some_iff.1 hj).1; rwa [wl_length] at this
    rw [wl_get 24 RC j hj24] at hj
    obtain rfl := Option.some.inj hj
    have h1 := hel j hj24
    rw [c1, Nat.mul_one] at h1
    have hxj : xs[j]? = some (xs[j]'(by omega)) := List.getElem?_eq_getElem (by omega)
    rw [hxj] at h1
    obtain ⟨k, e1, e2, _⟩ := DataW.trod_int Tryz.underlying120 h1
    have e3 : (xs.map (·.1))[j]? = some (.lit (.int .u64 k)) := by rw [List.getElem?_map, hxj, e2]; rfl
    have hkj : cl[j]? = some (RC j) := by
      unfold RC
      rw [List.getD_eq_getElem?_getD]
      rw [List.getElem?_eq_getElem (show j < cl.length from hj24)]; rfl
    rw [← hx, List.getElem?_map, hkj] at e3
    simp only [Option.map_some, Option.some.injEq, DataW.lit.injEq, Lit.int.injEq, true_and] at e3
    have hc := World.var?_cell hg0 hv0 j
    rw [Nat.zero_add, hc]
    have h4 : cs0.toList[j]? = some (.int .u64 k) := by
      have := congrArg (fun l => l[0]?) e1
      simpa using this
    rw [e3]
    simpa using h4
  · obtain ⟨xs, m1, rfl, hx1, hlen, hn, hel⟩ := DataW.trod_array Tryz.underlying138 hd1
    have c1 : Tryz.prog.cellsOf 3 = 1 := by kernel_rfl
    have hx : (Rows.laid_turnkey_keccak_way : DataW Unit) = .agg (xs.map (·.1)) := congrArg Prod.fst hx1
    rw [wdat] at hx
    simp only [DataW.agg.injEq] at hx
    intro j v hj
    have hj25 : j < 25 := by have := (List.getElem?_eq_some_iff.1 hj).1; rwa [il_length] at this
    rw [il_get 25 _ j hj25] at hj
    obtain rfl := Option.some.inj hj
    have h1 := hel j hj25
    rw [c1, Nat.mul_one] at h1
    have hxj : xs[j]? = some (xs[j]'(by omega)) := List.getElem?_eq_getElem (by omega)
    rw [hxj] at h1
    obtain ⟨k, e1, e2, _⟩ := DataW.trod_int Tryz.underlying3 h1
    have e3 : (xs.map (·.1))[j]? = some (.lit (.int .i64 k)) := by rw [List.getElem?_map, hxj, e2]; rfl
    have hkj : wyl[j]? = some (Wy j) := by
      unfold Wy
      rw [List.getD_eq_getElem?_getD]
      rw [List.getElem?_eq_getElem (show j < wyl.length from hj25)]; rfl
    rw [← hx, List.getElem?_map, hkj] at e3
    simp only [Option.map_some, Option.some.injEq, DataW.lit.injEq, Lit.int.injEq, true_and] at e3
    have hc := World.var?_cell hg1 hv1 j
    rw [Nat.zero_add, hc]
    have h4 : cs1.toList[j]? = some (.int .i64 k) := by
      have := congrArg (fun l => l[0]?) e1
      simpa using this
    rw [e3]
    simpa using h4
end Go.Proofs.YtnhhkoekghjogaaGreatDoor.Kc
