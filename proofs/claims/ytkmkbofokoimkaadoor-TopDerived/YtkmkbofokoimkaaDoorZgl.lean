/- The package-level tables: what the row's condition gives the walks, and that the door's own heap meets it. -/
import Derived.Test.YtkmkbofokoimkaaDoorZga
import Derived.Test.YtkmkbofokoimkaaDoorTie
import Derived.ProofKit
import Derived.LaidMore
import Derived.OpenShut
import Derived.Stop.Joined
namespace Go.Proofs.YtkmkbofokoimkaaDoor.Dg
open Go.ChangeShapes Go.WideShapes Go.ChangeAt Go.RowKit
open Go.Proofs.YtkmkbofokoimkaaDoor.By
def laid1 : List (String × DataW Unit) := [("turnkey/sha256.k", Rows.laid_turnkey_sha256_k), ("turnkey/sha512.k", Rows.laid_turnkey_sha512_k)]
theorem gC : Tryd.prog.globalNamed "turnkey/sha256.k" = some 0 := by kernel_rfl
theorem gW : Tryd.prog.globalNamed "turnkey/sha512.k" = some 1 := by kernel_rfl
theorem tyC : (Tryd.prog.globals[0]?).map (·.type) = some 100 := by kernel_rfl
theorem tyW : (Tryd.prog.globals[1]?).map (·.type) = some 114 := by kernel_rfl
theorem door_met (os : Os) (args : Array Value) : laidMetH Tryd.prog laid1 ((World.doorLaid Tryd.prog 400 os).forCall (fun _ _ => 0) ⟨#[], args, []⟩).memory :=
  laidMetH_of_parts3 (fuel := 8) (laidMet_of_run' 8 (by kernel_rfl) (by kernel_rfl)) (by kernel_rfl) (by kernel_rfl)
theorem cdat : (Rows.laid_turnkey_sha256_k : DataW Unit) = .agg (Sh.kl.map (fun z => .lit (.int .u32 z))) := rfl
theorem wdat : (Rows.laid_turnkey_sha512_k : DataW Unit) = .agg (Sg.kl.map (fun z => .lit (.int .u64 z))) := rfl
theorem kt_of_laid {W : World} (h : laidMetH Tryd.prog laid1 W) : KT W := by
  rw [MakeChecks.laidMetH_plain _ _ _ (by kernel_rfl)] at h
  obtain ⟨ps, hv, _, _⟩ := h
  obtain ⟨g0, t0, cs0, f0, p0, q0, hg0, ht0, hv0, hd0, h2, _⟩ := hv
  obtain ⟨g1, t1, cs1, f1, p1, q1, hg1, ht1, hv1, hd1, _, _⟩ := h2
  obtain rfl := Option.some.inj (gC.symm.trans hg0)
  obtain rfl := Option.some.inj (tyC.symm.trans ht0)
  obtain rfl := Option.some.inj (gW.symm.trans hg1)
  obtain rfl := Option.some.inj (tyW.symm.trans ht1)
  refine ⟨?_, ?_⟩
  · obtain ⟨xs, mm, rfl, hx1, hlen, hn, hel⟩ := DataW.trod_array Tryd.underlying100 hd0
    have c1 : Tryd.prog.cellsOf 45 = 1 := by kernel_rfl
    have hx : (Rows.laid_turnkey_sha256_k : DataW Unit) = .agg (xs.map (·.1)) := congrArg Prod.fst hx1
    rw [cdat] at hx
    simp only [DataW.agg.injEq] at hx
    intro j v hj
    have hj64 : j < 64 := by have := (List.getElem?_eq_some_iff.1 hj).1; rwa [Sh.wl_length] at this
    rw [Sh.wl_get 64 Sh.K j hj64] at hj
    obtain rfl := Option.some.inj hj
    have h1 := hel j hj64
    rw [c1, Nat.mul_one] at h1
    have hxj : xs[j]? = some (xs[j]'(by omega)) := List.getElem?_eq_getElem (by omega)
    rw [hxj] at h1
    obtain ⟨k, e1, e2, _⟩ := DataW.trod_int Tryd.underlying45 h1
    have e3 : (xs.map (·.1))[j]? = some (.lit (.int .u32 k)) := by rw [List.getElem?_map, hxj, e2]; rfl
    have hkj : Sh.kl[j]? = some (Sh.K j) := by
      unfold Sh.K
      rw [List.getD_eq_getElem?_getD]
      rw [List.getElem?_eq_getElem (show j < Sh.kl.length from hj64)]; rfl
    rw [← hx, List.getElem?_map, hkj] at e3
    simp only [Option.map_some, Option.some.injEq, DataW.lit.injEq, Lit.int.injEq, true_and] at e3
    have hc := World.var?_cell hg0 hv0 j
    rw [Nat.zero_add, hc]
    have h4 : cs0.toList[j]? = some (.int .u32 k) := by
      have := congrArg (fun l => l[0]?) e1
      simpa using this
    rw [e3]
    simpa using h4
  · obtain ⟨xs, mm, rfl, hx1, hlen, hn, hel⟩ := DataW.trod_array Tryd.underlying114 hd1
    have c1 : Tryd.prog.cellsOf 86 = 1 := by kernel_rfl
    have hx : (Rows.laid_turnkey_sha512_k : DataW Unit) = .agg (xs.map (·.1)) := congrArg Prod.fst hx1
    rw [wdat] at hx
    simp only [DataW.agg.injEq] at hx
    intro j v hj
    have hj64 : j < 80 := by have := (List.getElem?_eq_some_iff.1 hj).1; rwa [Sg.wl_length] at this
    rw [Sg.wl_get 80 Sg.K j hj64] at hj
    obtain rfl := Option.some.inj hj
    have h1 := hel j hj64
    rw [c1, Nat.mul_one] at h1
    have hxj : xs[j]? = some (xs[j]'(by omega)) := List.getElem?_eq_getElem (by omega)
    rw [hxj] at h1
    obtain ⟨k, e1, e2, _⟩ := DataW.trod_int Tryd.underlying86 h1
    have e3 : (xs.map (·.1))[j]? = some (.lit (.int .u64 k)) := by rw [List.getElem?_map, hxj, e2]; rfl
    have hkj : Sg.kl[j]? = some (Sg.K j) := by
      unfold Sg.K
      rw [List.getD_eq_getElem?_getD]
      rw [List.getElem?_eq_getElem (show j < Sg.kl.length from hj64)]; rfl
    rw [← hx, List.getElem?_map, hkj] at e3
    simp only [Option.map_some, Option.some.injEq, DataW.lit.injEq, Lit.int.injEq, true_and] at e3
    have hc := World.var?_cell hg1 hv1 j
    rw [Nat.zero_add, hc]
    have h4 : cs1.toList[j]? = some (.int .u64 k) := by
      have := congrArg (fun l => l[0]?) e1
      simpa using this
    rw [e3]
    simpa using h4
end Go.Proofs.YtkmkbofokoimkaaDoor.Dg
