/- The five tables: what a row's condition gives the walks, and that the door's own heap meets it. -/
import Derived.Test.YtpohogpkfdebdaaGreatDoorOb
import Derived.Test.YtpohogpkfdebdaaGreatDoorTie
import Derived.ProofKit
import Derived.LaidMore
import Derived.OpenShut
import Derived.Stop.Joined
namespace Go.Proofs.YtpohogpkfdebdaaGreatDoor.Oc
open Go.ChangeShapes Go.WideShapes Go.ChangeAt Go.RowKit
open Go.Proofs.YtpohogpkfdebdaaGreatDoor.By
def laid1 : List (String × DataW Unit) := [("turnkey/aes.mixing", Rows.laid_turnkey_aes_mixing), ("turnkey/keccak.constants", Rows.laid_turnkey_keccak_constants), ("turnkey/keccak.way", Rows.laid_turnkey_keccak_way), ("turnkey/sha256.k", Rows.laid_turnkey_sha256_k), ("turnkey/sha512.k", Rows.laid_turnkey_sha512_k)]
theorem gM : Tryz.prog.globalNamed "turnkey/aes.mixing" = some 0 := by kernel_rfl
theorem tyM : (Tryz.prog.globals[0]?).map (·.type) = some 222 := by kernel_rfl
theorem datM : (Rows.laid_turnkey_aes_mixing : DataW Unit) = .agg (([2, 3, 1, 1] : List Int).map (fun z => .lit (.int .u8 z))) := rfl
theorem gC : Tryz.prog.globalNamed "turnkey/keccak.constants" = some 2 := by kernel_rfl
theorem tyC : (Tryz.prog.globals[2]?).map (·.type) = some 304 := by kernel_rfl
theorem datC : (Rows.laid_turnkey_keccak_constants : DataW Unit) = .agg (Kc.cl.map (fun z => .lit (.int .u64 z))) := rfl
theorem gY : Tryz.prog.globalNamed "turnkey/keccak.way" = some 4 := by kernel_rfl
theorem tyY : (Tryz.prog.globals[4]?).map (·.type) = some 308 := by kernel_rfl
theorem datY : (Rows.laid_turnkey_keccak_way : DataW Unit) = .agg (Kc.wyl.map (fun z : Nat => .lit (.int .i64 (z : Int)))) := rfl
theorem gH : Tryz.prog.globalNamed "turnkey/sha256.k" = some 1 := by kernel_rfl
theorem tyH : (Tryz.prog.globals[1]?).map (·.type) = some 299 := by kernel_rfl
theorem datH : (Rows.laid_turnkey_sha256_k : DataW Unit) = .agg (Sh.kl.map (fun z => .lit (.int .u32 z))) := rfl
theorem gJ : Tryz.prog.globalNamed "turnkey/sha512.k" = some 3 := by kernel_rfl
theorem tyJ : (Tryz.prog.globals[3]?).map (·.type) = some 295 := by kernel_rfl
theorem datJ : (Rows.laid_turnkey_sha512_k : DataW Unit) = .agg (Sg.kl.map (fun z => .lit (.int .u64 z))) := rfl
theorem door_met (os : Os) (args : Array Value) : laidMetH Tryz.prog laid1 ((World.doorLaid Tryz.prog 400 os).forCall (fun _ _ => 0) ⟨#[], args, []⟩).memory :=
  laidMetH_of_parts3 (fuel := 8) (laidMet_of_run' 8 (by kernel_rfl) (by kernel_rfl)) (by kernel_rfl) (by kernel_rfl)
theorem ka_of_laid {w : World} (h : laidMetH Tryz.prog laid1 w) : KA w := by
  rw [MakeChecks.laidMetH_plain _ _ _ (by kernel_rfl)] at h
  obtain ⟨ps, hv, _, _⟩ := h
  obtain ⟨g0, t0, cs0, f0, p0, q0, hg0, ht0, hv0, hd0, h10, _⟩ := hv
  obtain ⟨g1, t1, cs1, f1, p1, q1, hg1, ht1, hv1, hd1, h11, _⟩ := h10
  obtain ⟨g2, t2, cs2, f2, p2, q2, hg2, ht2, hv2, hd2, h12, _⟩ := h11
  obtain ⟨g3, t3, cs3, f3, p3, q3, hg3, ht3, hv3, hd3, h13, _⟩ := h12
  obtain ⟨g4, t4, cs4, f4, p4, q4, hg4, ht4, hv4, hd4, _, _⟩ := h13
  obtain rfl := Option.some.inj (gM.symm.trans hg0)
  obtain rfl := Option.some.inj (tyM.symm.trans ht0)
  obtain rfl := Option.some.inj (gC.symm.trans hg1)
  obtain rfl := Option.some.inj (tyC.symm.trans ht1)
  obtain rfl := Option.some.inj (gY.symm.trans hg2)
  obtain rfl := Option.some.inj (tyY.symm.trans ht2)
  obtain rfl := Option.some.inj (gH.symm.trans hg3)
  obtain rfl := Option.some.inj (tyH.symm.trans ht3)
  obtain rfl := Option.some.inj (gJ.symm.trans hg4)
  obtain rfl := Option.some.inj (tyJ.symm.trans ht4)
  have rM : w.rangeAt 0 0 (bl 4 (Ae.cb Gf.m1)) := by
    obtain ⟨xs, mm, rfl, hx1, hlen, hn, hel⟩ := DataW.trod_array Tryz.underlying222 hd0
    have c1 : Tryz.prog.cellsOf 5 = 1 := by kernel_rfl
    have hx : (Rows.laid_turnkey_aes_mixing : DataW Unit) = .agg (xs.map (·.1)) := congrArg Prod.fst hx1
    rw [datM] at hx
    simp only [DataW.agg.injEq] at hx
    intro j v hj
    have hj4 : j < 4 := by have := (List.getElem?_eq_some_iff.1 hj).1; rwa [bl_length] at this
    rw [bl_get 4 _ j hj4] at hj
    obtain rfl := Option.some.inj hj
    have h1 := hel j hj4
    rw [c1, Nat.mul_one] at h1
    have hxj : xs[j]? = some (xs[j]'(by omega)) := List.getElem?_eq_getElem (by omega)
    rw [hxj] at h1
    obtain ⟨k, e1, e2, _⟩ := DataW.trod_int Tryz.underlying5 h1
    have e3 : (xs.map (·.1))[j]? = some (.lit (.int .u8 k)) := by rw [List.getElem?_map, hxj, e2]; rfl
    have hkj : ([2, 3, 1, 1] : List Int)[j]? = some (Ae.cb Gf.m1 j) := by
      have : ∀ j, j < 4 → ([2, 3, 1, 1] : List Int)[j]? = some (Ae.cb Gf.m1 j) := by decide
      exact this j hj4
    rw [← hx, List.getElem?_map, hkj] at e3
    simp only [Option.map_some, Option.some.injEq, DataW.lit.injEq, Lit.int.injEq, true_and] at e3
    have hc := World.var?_cell hg0 hv0 j
    rw [Nat.zero_add, hc]
    have h4 : cs0.toList[j]? = some (.int .u8 k) := by
      have := congrArg (fun l => l[0]?) e1
      simpa using this
    rw [e3]
    simpa using h4
  have rC : w.rangeAt 2 0 (Kc.wl 24 Kc.RC) := by
    obtain ⟨xs, mm, rfl, hx1, hlen, hn, hel⟩ := DataW.trod_array Tryz.underlying304 hd1
    have c1 : Tryz.prog.cellsOf 211 = 1 := by kernel_rfl
    have hx : (Rows.laid_turnkey_keccak_constants : DataW Unit) = .agg (xs.map (·.1)) := congrArg Prod.fst hx1
    rw [datC] at hx
    simp only [DataW.agg.injEq] at hx
    intro j v hj
    have hj4 : j < 24 := by have := (List.getElem?_eq_some_iff.1 hj).1; rwa [Kc.wl_length] at this
    rw [Kc.wl_get 24 Kc.RC j hj4] at hj
    obtain rfl := Option.some.inj hj
    have h1 := hel j hj4
    rw [c1, Nat.mul_one] at h1
    have hxj : xs[j]? = some (xs[j]'(by omega)) := List.getElem?_eq_getElem (by omega)
    rw [hxj] at h1
    obtain ⟨k, e1, e2, _⟩ := DataW.trod_int Tryz.underlying211 h1
    have e3 : (xs.map (·.1))[j]? = some (.lit (.int .u64 k)) := by rw [List.getElem?_map, hxj, e2]; rfl
    have hkj : Kc.cl[j]? = some (Kc.RC j) := by
      unfold Kc.RC
      rw [List.getD_eq_getElem?_getD, List.getElem?_eq_getElem (show j < Kc.cl.length from hj4)]; rfl
    rw [← hx, List.getElem?_map, hkj] at e3
    simp only [Option.map_some, Option.some.injEq, DataW.lit.injEq, Lit.int.injEq, true_and] at e3
    have hc := World.var?_cell hg1 hv1 j
    rw [Nat.zero_add, hc]
    have h4 : cs1.toList[j]? = some (.int .u64 k) := by
      have := congrArg (fun l => l[0]?) e1
      simpa using this
    rw [e3]
    simpa using h4
  have rY : w.rangeAt 4 0 (Kc.il 25 (fun t => (Kc.Wy t : Int))) := by
    obtain ⟨xs, mm, rfl, hx1, hlen, hn, hel⟩ := DataW.trod_array Tryz.underlying308 hd2
    have c1 : Tryz.prog.cellsOf 3 = 1 := by kernel_rfl
    have hx : (Rows.laid_turnkey_keccak_way : DataW Unit) = .agg (xs.map (·.1)) := congrArg Prod.fst hx1
    rw [datY] at hx
    simp only [DataW.agg.injEq] at hx
    intro j v hj
    have hj4 : j < 25 := by have := (List.getElem?_eq_some_iff.1 hj).1; rwa [Kc.il_length] at this
    rw [Kc.il_get 25 _ j hj4] at hj
    obtain rfl := Option.some.inj hj
    have h1 := hel j hj4
    rw [c1, Nat.mul_one] at h1
    have hxj : xs[j]? = some (xs[j]'(by omega)) := List.getElem?_eq_getElem (by omega)
    rw [hxj] at h1
    obtain ⟨k, e1, e2, _⟩ := DataW.trod_int Tryz.underlying3 h1
    have e3 : (xs.map (·.1))[j]? = some (.lit (.int .i64 k)) := by rw [List.getElem?_map, hxj, e2]; rfl
    have hkj : Kc.wyl[j]? = some (Kc.Wy j) := by
      unfold Kc.Wy
      rw [List.getD_eq_getElem?_getD, List.getElem?_eq_getElem (show j < Kc.wyl.length from hj4)]; rfl
    rw [← hx, List.getElem?_map, hkj] at e3
    simp only [Option.map_some, Option.some.injEq, DataW.lit.injEq, Lit.int.injEq, true_and] at e3
    have hc := World.var?_cell hg2 hv2 j
    rw [Nat.zero_add, hc]
    have h4 : cs2.toList[j]? = some (.int .i64 k) := by
      have := congrArg (fun l => l[0]?) e1
      simpa using this
    rw [e3]
    simpa using h4
  have rH : w.rangeAt 1 0 (Sh.wl 64 Sh.K) := by
    obtain ⟨xs, mm, rfl, hx1, hlen, hn, hel⟩ := DataW.trod_array Tryz.underlying299 hd3
    have c1 : Tryz.prog.cellsOf 268 = 1 := by kernel_rfl
    have hx : (Rows.laid_turnkey_sha256_k : DataW Unit) = .agg (xs.map (·.1)) := congrArg Prod.fst hx1
    rw [datH] at hx
    simp only [DataW.agg.injEq] at hx
    intro j v hj
    have hj4 : j < 64 := by have := (List.getElem?_eq_some_iff.1 hj).1; rwa [Sh.wl_length] at this
    rw [Sh.wl_get 64 Sh.K j hj4] at hj
    obtain rfl := Option.some.inj hj
    have h1 := hel j hj4
    rw [c1, Nat.mul_one] at h1
    have hxj : xs[j]? = some (xs[j]'(by omega)) := List.getElem?_eq_getElem (by omega)
    rw [hxj] at h1
    obtain ⟨k, e1, e2, _⟩ := DataW.trod_int Tryz.underlying268 h1
    have e3 : (xs.map (·.1))[j]? = some (.lit (.int .u32 k)) := by rw [List.getElem?_map, hxj, e2]; rfl
    have hkj : Sh.kl[j]? = some (Sh.K j) := by
      unfold Sh.K
      rw [List.getD_eq_getElem?_getD, List.getElem?_eq_getElem (show j < Sh.kl.length from hj4)]; rfl
    rw [← hx, List.getElem?_map, hkj] at e3
    simp only [Option.map_some, Option.some.injEq, DataW.lit.injEq, Lit.int.injEq, true_and] at e3
    have hc := World.var?_cell hg3 hv3 j
    rw [Nat.zero_add, hc]
    have h4 : cs3.toList[j]? = some (.int .u32 k) := by
      have := congrArg (fun l => l[0]?) e1
      simpa using this
    rw [e3]
    simpa using h4
  have rJ : w.rangeAt 3 0 (Sg.wl 80 Sg.K) := by
    obtain ⟨xs, mm, rfl, hx1, hlen, hn, hel⟩ := DataW.trod_array Tryz.underlying295 hd4
    have c1 : Tryz.prog.cellsOf 211 = 1 := by kernel_rfl
    have hx : (Rows.laid_turnkey_sha512_k : DataW Unit) = .agg (xs.map (·.1)) := congrArg Prod.fst hx1
    rw [datJ] at hx
    simp only [DataW.agg.injEq] at hx
    intro j v hj
    have hj4 : j < 80 := by have := (List.getElem?_eq_some_iff.1 hj).1; rwa [Sg.wl_length] at this
    rw [Sg.wl_get 80 Sg.K j hj4] at hj
    obtain rfl := Option.some.inj hj
    have h1 := hel j hj4
    rw [c1, Nat.mul_one] at h1
    have hxj : xs[j]? = some (xs[j]'(by omega)) := List.getElem?_eq_getElem (by omega)
    rw [hxj] at h1
    obtain ⟨k, e1, e2, _⟩ := DataW.trod_int Tryz.underlying211 h1
    have e3 : (xs.map (·.1))[j]? = some (.lit (.int .u64 k)) := by rw [List.getElem?_map, hxj, e2]; rfl
    have hkj : Sg.kl[j]? = some (Sg.K j) := by
      unfold Sg.K
      rw [List.getD_eq_getElem?_getD, List.getElem?_eq_getElem (show j < Sg.kl.length from hj4)]; rfl
    rw [← hx, List.getElem?_map, hkj] at e3
    simp only [Option.map_some, Option.some.injEq, DataW.lit.injEq, Lit.int.injEq, true_and] at e3
    have hc := World.var?_cell hg4 hv4 j
    rw [Nat.zero_add, hc]
    have h4 : cs4.toList[j]? = some (.int .u64 k) := by
      have := congrArg (fun l => l[0]?) e1
      simpa using this
    rw [e3]
    simpa using h4
  exact ⟨⟨rH, rJ⟩, rM, ⟨rC, rY⟩⟩
end Go.Proofs.YtpohogpkfdebdaaGreatDoor.Oc
