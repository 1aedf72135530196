/- The law TopDerived. -/
import Derived.Test.YtkmkbofokoimkaaDoorTexp
import Derived.Test.YtkmkbofokoimkaaDoorTit
namespace Go.Proofs.YtkmkbofokoimkaaDoor.Dg
open Go.ChangeShapes Go.WideShapes Go.ChangeAt Go.RowKit
open Go.Proofs.YtkmkbofokoimkaaDoor.By
open Go.Proofs.YtkmkbofokoimkaaDoor.Sh (Blk size_alloc)
theorem nrm (n : Int) (M : Nat) (h0 : 0 < M) (h1 : M ≤ 1000) : ∃ N : Nat, wrap64 (1 + (wrap64 (n.tmod M + M)).tmod M) = (N : Int) ∧ 1 ≤ N ∧ N ≤ M := by
  have hM : (0 : Int) < M := by omega
  have a1 := Int.tmod_lt_of_pos n hM
  have a2 : - (M : Int) < n.tmod M := by
    have := Int.lt_tmod_of_pos n hM
    omega
  obtain ⟨q, hq⟩ : ∃ q, n.tmod M = q := ⟨_, rfl⟩
  rw [hq] at a1 a2 ⊢
  have e1 : wrap64 (q + M) = q + M := by unfold wrap64; omega
  rw [e1, Int.tmod_eq_emod_of_nonneg (show 0 ≤ q + (M : Int) by omega)]
  have b1 := Int.emod_nonneg (q + M) (show (M : Int) ≠ 0 by omega)
  have b2 := Int.emod_lt_of_pos (q + M) hM
  obtain ⟨r, hr⟩ : ∃ r, (q + (M : Int)) % M = r := ⟨_, rfl⟩
  rw [hr] at b1 b2 ⊢
  refine ⟨(1 + r).toNat, ?_, by omega, by omega⟩
  unfold wrap64
  omega
theorem iter_f (ka sa : Option Addr) (np pc ns sc N C : Nat) (g f : Nat → Int) (w : World) (hr : By.RB w (.slice ka np pc) np g) (hr2 : By.RB w (.slice sa ns sc) ns f) (hk : KT w) (hn : np ≤ 500) (hns : ns ≤ 500) (hN1 : 1 ≤ N) (hN2 : N ≤ 200) (hC1 : 1 ≤ C) (hC2 : C ≤ 12) :
    Calls Tryd.prog 6 #[.int .u8 1, .slice ka np pc, .slice sa ns sc, .int .i64 N, .int .i64 C] w fun e w' => e = .returned (.bool true) ∧ Below w.heap.size w w' := iterates1 false ka sa np pc ns sc N C g f w hr hr2 hk hn hns hN1 hN2 hC1 hC2
theorem iter_t (ka sa : Option Addr) (np pc ns sc N C : Nat) (g f : Nat → Int) (w : World) (hr : By.RB w (.slice ka np pc) np g) (hr2 : By.RB w (.slice sa ns sc) ns f) (hk : KT w) (hn : np ≤ 500) (hns : ns ≤ 500) (hN1 : 1 ≤ N) (hN2 : N ≤ 200) (hC1 : 1 ≤ C) (hC2 : C ≤ 12) :
    Calls Tryd.prog 6 #[.int .u8 2, .slice ka np pc, .slice sa ns sc, .int .i64 N, .int .i64 C] w fun e w' => e = .returned (.bool true) ∧ Below w.heap.size w w' := iterates1 true ka sa np pc ns sc N C g f w hr hr2 hk hn hns hN1 hN2 hC1 hC2
set_option maxRecDepth 8000 in
set_option maxHeartbeats 8000000 in
theorem top_bbb (ka sa ia : Option Addr) (np pc ns sc ni ic : Nat) (g f inf : Nat → Int) (n c : Int) (w : World) (hr : By.RB w (.slice ka np pc) np g) (hr2 : By.RB w (.slice sa ns sc) ns f) (hr3 : By.RB w (.slice ia ni ic) ni inf) (hk : KT w) (h1 : (500 : Int) < (np : Int)) (h2 : (500 : Int) < (ns : Int)) (h3 : (500 : Int) < (ni : Int)) :
    Calls Tryd.prog 3 #[.slice ka np pc, .slice sa ns sc, .slice ia ni ic, .int .i64 n, .int .i64 c] w fun e w' => e = .returned (.bool true) ∧ Below w.heap.size w w' := by
  have HK := hid hk
  have sA1 : ∀ W, (Instr.sliceAt 22 (.slice ka np pc) none (some (.int .i64 500)) none).run Tryd.prog W = .ok (.slice ka 500 pc) W := fun W => xsub_h ka np pc 500 W (by omega) (rb_cap hr)
  have A1 := hid (show ∀ w', Below w.heap.size w w' → By.RB w' (.slice ka 500 pc) 500 g from fun w' hb => (hr.first 500 (by omega)).below hb)
  have sA2 : ∀ W, (Instr.sliceAt 22 (.slice sa ns sc) none (some (.int .i64 500)) none).run Tryd.prog W = .ok (.slice sa 500 sc) W := fun W => xsub_h sa ns sc 500 W (by omega) (rb_cap hr2)
  have A2 := hid (show ∀ w', Below w.heap.size w w' → By.RB w' (.slice sa 500 sc) 500 f from fun w' hb => (hr2.first 500 (by omega)).below hb)
  have sA3 : ∀ W, (Instr.sliceAt 22 (.slice ia ni ic) none (some (.int .i64 500)) none).run Tryd.prog W = .ok (.slice ia 500 ic) W := fun W => xsub_h ia ni ic 500 W (by omega) (rb_cap hr3)
  have A3 := hid (show ∀ w', Below w.heap.size w w' → By.RB w' (.slice ia 500 ic) 500 inf from fun w' hb => (hr3.first 500 (by omega)).below hb)
  obtain ⟨N, hN, hN1, hN2⟩ := nrm n 200 (by omega) (by omega)
  obtain ⟨C, hC, hC1, hC2⟩ := nrm c 12 (by omega) (by omega)
  replace hN : wrap64 (1 + (wrap64 (n.tmod 200 + 200)).tmod 200) = (N : Int) := hN
  replace hC : wrap64 (1 + (wrap64 (c.tmod 12 + 12)).tmod 12) = (C : Int) := hC
  have hl1 : 500 ≤ 500 := by omega
  have hl2 : 500 ≤ 500 := by omega
  have hl3 : 500 ≤ 500 := by omega
  clear hr hr2 hr3 hk
  go_enter Tryd.func3, Tryd.ntmps3
  go_wp2_with fail
  refine (tagged1 _ HK.out).mono ?_
  rintro e w1 ⟨rfl, hb⟩
  have B1 := hid hb
  clear hb
  go_wp2_with fail
  rw [hN, hC]
  clear hN hC
  go_loopw [11] (fun av wr => ∃ j : Nat, j ≤ 2 ∧ av = .int .u8 ((j : Int) + 1) ∧ Below w.heap.size w wr) (fun av _ => 4 - (intOf av).toNat)
  case atStart => exact ⟨0, by omega, rfl, B1.out⟩
  case round =>
    clear B1
    obtain ⟨j, hj, rfl, hb⟩ := hrel
    have B := hid hb
    clear hb
    match j, hj with
    | 0, _ =>
      rw [show (((0 : Nat) : Int) + 1) = 1 from rfl]
      go_wp2_with fail
      refine (expands_false ka sa ia 500 pc 500 sc 500 ic N g f inf _ (A1.out _ B.out) (A2.out _ B.out) (A3.out _ B.out) (HK.out.below B.out) hl1 hl2 hl3 hN1 hN2).mono ?_
      rintro e w2 ⟨rfl, hb⟩
      have B2 := hid (below_next B.out hb)
      clear hb B
      go_wp2_with fail
      refine (iter_f ka sa 500 pc 500 sc N C g f _ (A1.out _ B2.out) (A2.out _ B2.out) (HK.out.below B2.out) hl1 hl2 hN1 hN2 hC1 hC2).mono ?_
      rintro e w3 ⟨rfl, hb⟩
      have B3 := hid (below_next B2.out hb)
      clear hb B2
      go_wp2_with fail
      exact ⟨⟨1, by omega, by rfl, B3.out⟩, by simp [intOf]⟩
    | 1, _ =>
      rw [show (((1 : Nat) : Int) + 1) = 2 from rfl]
      go_wp2_with fail
      refine (expands_true ka sa ia 500 pc 500 sc 500 ic N g f inf _ (A1.out _ B.out) (A2.out _ B.out) (A3.out _ B.out) (HK.out.below B.out) hl1 hl2 hl3 hN1 hN2).mono ?_
      rintro e w2 ⟨rfl, hb⟩
      have B2 := hid (below_next B.out hb)
      clear hb B
      go_wp2_with fail
      refine (iter_t ka sa 500 pc 500 sc N C g f _ (A1.out _ B2.out) (A2.out _ B2.out) (HK.out.below B2.out) hl1 hl2 hN1 hN2 hC1 hC2).mono ?_
      rintro e w3 ⟨rfl, hb⟩
      have B3 := hid (below_next B2.out hb)
      clear hb B2
      go_wp2_with fail
      exact ⟨⟨2, by omega, by rfl, B3.out⟩, by simp [intOf]⟩
    | 2, _ =>
      rw [show (((2 : Nat) : Int) + 1) = 3 from rfl]
      go_wp2
      go_ret
      exact ⟨rfl, B.out⟩
set_option maxRecDepth 8000 in
set_option maxHeartbeats 8000000 in
theorem top_bbs (ka sa ia : Option Addr) (np pc ns sc ni ic : Nat) (g f inf : Nat → Int) (n c : Int) (w : World) (hr : By.RB w (.slice ka np pc) np g) (hr2 : By.RB w (.slice sa ns sc) ns f) (hr3 : By.RB w (.slice ia ni ic) ni inf) (hk : KT w) (h1 : (500 : Int) < (np : Int)) (h2 : (500 : Int) < (ns : Int)) (h3 : ¬ (500 : Int) < (ni : Int)) :
    Calls Tryd.prog 3 #[.slice ka np pc, .slice sa ns sc, .slice ia ni ic, .int .i64 n, .int .i64 c] w fun e w' => e = .returned (.bool true) ∧ Below w.heap.size w w' := by
  have HK := hid hk
  have sA1 : ∀ W, (Instr.sliceAt 22 (.slice ka np pc) none (some (.int .i64 500)) none).run Tryd.prog W = .ok (.slice ka 500 pc) W := fun W => xsub_h ka np pc 500 W (by omega) (rb_cap hr)
  have A1 := hid (show ∀ w', Below w.heap.size w w' → By.RB w' (.slice ka 500 pc) 500 g from fun w' hb => (hr.first 500 (by omega)).below hb)
  have sA2 : ∀ W, (Instr.sliceAt 22 (.slice sa ns sc) none (some (.int .i64 500)) none).run Tryd.prog W = .ok (.slice sa 500 sc) W := fun W => xsub_h sa ns sc 500 W (by omega) (rb_cap hr2)
  have A2 := hid (show ∀ w', Below w.heap.size w w' → By.RB w' (.slice sa 500 sc) 500 f from fun w' hb => (hr2.first 500 (by omega)).below hb)
  have A3 := hid (show ∀ w', Below w.heap.size w w' → By.RB w' (.slice ia ni ic) ni inf from fun w' hb => hr3.below hb)
  obtain ⟨N, hN, hN1, hN2⟩ := nrm n 200 (by omega) (by omega)
  obtain ⟨C, hC, hC1, hC2⟩ := nrm c 12 (by omega) (by omega)
  replace hN : wrap64 (1 + (wrap64 (n.tmod 200 + 200)).tmod 200) = (N : Int) := hN
  replace hC : wrap64 (1 + (wrap64 (c.tmod 12 + 12)).tmod 12) = (C : Int) := hC
  have hl1 : 500 ≤ 500 := by omega
  have hl2 : 500 ≤ 500 := by omega
  have hl3 : ni ≤ 500 := by omega
  clear hr hr2 hr3 hk
  go_enter Tryd.func3, Tryd.ntmps3
  go_wp2_with fail
  refine (tagged1 _ HK.out).mono ?_
  rintro e w1 ⟨rfl, hb⟩
  have B1 := hid hb
  clear hb
  go_wp2_with fail
  rw [hN, hC]
  clear hN hC
  go_loopw [11] (fun av wr => ∃ j : Nat, j ≤ 2 ∧ av = .int .u8 ((j : Int) + 1) ∧ Below w.heap.size w wr) (fun av _ => 4 - (intOf av).toNat)
  case atStart => exact ⟨0, by omega, rfl, B1.out⟩
  case round =>
    clear B1
    obtain ⟨j, hj, rfl, hb⟩ := hrel
    have B := hid hb
    clear hb
    match j, hj with
    | 0, _ =>
      rw [show (((0 : Nat) : Int) + 1) = 1 from rfl]
      go_wp2_with fail
      refine (expands_false ka sa ia 500 pc 500 sc ni ic N g f inf _ (A1.out _ B.out) (A2.out _ B.out) (A3.out _ B.out) (HK.out.below B.out) hl1 hl2 hl3 hN1 hN2).mono ?_
      rintro e w2 ⟨rfl, hb⟩
      have B2 := hid (below_next B.out hb)
      clear hb B
      go_wp2_with fail
      refine (iter_f ka sa 500 pc 500 sc N C g f _ (A1.out _ B2.out) (A2.out _ B2.out) (HK.out.below B2.out) hl1 hl2 hN1 hN2 hC1 hC2).mono ?_
      rintro e w3 ⟨rfl, hb⟩
      have B3 := hid (below_next B2.out hb)
      clear hb B2
      go_wp2_with fail
      exact ⟨⟨1, by omega, by rfl, B3.out⟩, by simp [intOf]⟩
    | 1, _ =>
      rw [show (((1 : Nat) : Int) + 1) = 2 from rfl]
      go_wp2_with fail
      refine (expands_true ka sa ia 500 pc 500 sc ni ic N g f inf _ (A1.out _ B.out) (A2.out _ B.out) (A3.out _ B.out) (HK.out.below B.out) hl1 hl2 hl3 hN1 hN2).mono ?_
      rintro e w2 ⟨rfl, hb⟩
      have B2 := hid (below_next B.out hb)
      clear hb B
      go_wp2_with fail
      refine (iter_t ka sa 500 pc 500 sc N C g f _ (A1.out _ B2.out) (A2.out _ B2.out) (HK.out.below B2.out) hl1 hl2 hN1 hN2 hC1 hC2).mono ?_
      rintro e w3 ⟨rfl, hb⟩
      have B3 := hid (below_next B2.out hb)
      clear hb B2
      go_wp2_with fail
      exact ⟨⟨2, by omega, by rfl, B3.out⟩, by simp [intOf]⟩
    | 2, _ =>
      rw [show (((2 : Nat) : Int) + 1) = 3 from rfl]
      go_wp2
      go_ret
      exact ⟨rfl, B.out⟩
set_option maxRecDepth 8000 in
set_option maxHeartbeats 8000000 in
theorem top_bsb (ka sa ia : Option Addr) (np pc ns sc ni ic : Nat) (g f inf : Nat → Int) (n c : Int) (w : World) (hr : By.RB w (.slice ka np pc) np g) (hr2 : By.RB w (.slice sa ns sc) ns f) (hr3 : By.RB w (.slice ia ni ic) ni inf) (hk : KT w) (h1 : (500 : Int) < (np : Int)) (h2 : ¬ (500 : Int) < (ns : Int)) (h3 : (500 : Int) < (ni : Int)) :
    Calls Tryd.prog 3 #[.slice ka np pc, .slice sa ns sc, .slice ia ni ic, .int .i64 n, .int .i64 c] w fun e w' => e = .returned (.bool true) ∧ Below w.heap.size w w' := by
  have HK := hid hk
  have sA1 : ∀ W, (Instr.sliceAt 22 (.slice ka np pc) none (some (.int .i64 500)) none).run Tryd.prog W = .ok (.slice ka 500 pc) W := fun W => xsub_h ka np pc 500 W (by omega) (rb_cap hr)
  have A1 := hid (show ∀ w', Below w.heap.size w w' → By.RB w' (.slice ka 500 pc) 500 g from fun w' hb => (hr.first 500 (by omega)).below hb)
  have A2 := hid (show ∀ w', Below w.heap.size w w' → By.RB w' (.slice sa ns sc) ns f from fun w' hb => hr2.below hb)
  have sA3 : ∀ W, (Instr.sliceAt 22 (.slice ia ni ic) none (some (.int .i64 500)) none).run Tryd.prog W = .ok (.slice ia 500 ic) W := fun W => xsub_h ia ni ic 500 W (by omega) (rb_cap hr3)
  have A3 := hid (show ∀ w', Below w.heap.size w w' → By.RB w' (.slice ia 500 ic) 500 inf from fun w' hb => (hr3.first 500 (by omega)).below hb)
  obtain ⟨N, hN, hN1, hN2⟩ := nrm n 200 (by omega) (by omega)
  obtain ⟨C, hC, hC1, hC2⟩ := nrm c 12 (by omega) (by omega)
  replace hN : wrap64 (1 + (wrap64 (n.tmod 200 + 200)).tmod 200) = (N : Int) := hN
  replace hC : wrap64 (1 + (wrap64 (c.tmod 12 + 12)).tmod 12) = (C : Int) := hC
  have hl1 : 500 ≤ 500 := by omega
  have hl2 : ns ≤ 500 := by omega
  have hl3 : 500 ≤ 500 := by omega
  clear hr hr2 hr3 hk
  go_enter Tryd.func3, Tryd.ntmps3
  go_wp2_with fail
  refine (tagged1 _ HK.out).mono ?_
  rintro e w1 ⟨rfl, hb⟩
  have B1 := hid hb
  clear hb
  go_wp2_with fail
  rw [hN, hC]
  clear hN hC
  go_loopw [11] (fun av wr => ∃ j : Nat, j ≤ 2 ∧ av = .int .u8 ((j : Int) + 1) ∧ Below w.heap.size w wr) (fun av _ => 4 - (intOf av).toNat)
  case atStart => exact ⟨0, by omega, rfl, B1.out⟩
  case round =>
    clear B1
    obtain ⟨j, hj, rfl, hb⟩ := hrel
    have B := hid hb
    clear hb
    match j, hj with
    | 0, _ =>
      rw [show (((0 : Nat) : Int) + 1) = 1 from rfl]
      go_wp2_with fail
      refine (expands_false ka sa ia 500 pc ns sc 500 ic N g f inf _ (A1.out _ B.out) (A2.out _ B.out) (A3.out _ B.out) (HK.out.below B.out) hl1 hl2 hl3 hN1 hN2).mono ?_
      rintro e w2 ⟨rfl, hb⟩
      have B2 := hid (below_next B.out hb)
      clear hb B
      go_wp2_with fail
      refine (iter_f ka sa 500 pc ns sc N C g f _ (A1.out _ B2.out) (A2.out _ B2.out) (HK.out.below B2.out) hl1 hl2 hN1 hN2 hC1 hC2).mono ?_
      rintro e w3 ⟨rfl, hb⟩
      have B3 := hid (below_next B2.out hb)
      clear hb B2
      go_wp2_with fail
      exact ⟨⟨1, by omega, by rfl, B3.out⟩, by simp [intOf]⟩
    | 1, _ =>
      rw [show (((1 : Nat) : Int) + 1) = 2 from rfl]
      go_wp2_with fail
      refine (expands_true ka sa ia 500 pc ns sc 500 ic N g f inf _ (A1.out _ B.out) (A2.out _ B.out) (A3.out _ B.out) (HK.out.below B.out) hl1 hl2 hl3 hN1 hN2).mono ?_
      rintro e w2 ⟨rfl, hb⟩
      have B2 := hid (below_next B.out hb)
      clear hb B
      go_wp2_with fail
      refine (iter_t ka sa 500 pc ns sc N C g f _ (A1.out _ B2.out) (A2.out _ B2.out) (HK.out.below B2.out) hl1 hl2 hN1 hN2 hC1 hC2).mono ?_
      rintro e w3 ⟨rfl, hb⟩
      have B3 := hid (below_next B2.out hb)
      clear hb B2
      go_wp2_with fail
      exact ⟨⟨2, by omega, by rfl, B3.out⟩, by simp [intOf]⟩
    | 2, _ =>
      rw [show (((2 : Nat) : Int) + 1) = 3 from rfl]
      go_wp2
      go_ret
      exact ⟨rfl, B.out⟩
set_option maxRecDepth 8000 in
set_option maxHeartbeats 8000000 in
theorem top_bss (ka sa ia : Option Addr) (np pc ns sc ni ic : Nat) (g f inf : Nat → Int) (n c : Int) (w : World) (hr : By.RB w (.slice ka np pc) np g) (hr2 : By.RB w (.slice sa ns sc) ns f) (hr3 : By.RB w (.slice ia ni ic) ni inf) (hk : KT w) (h1 : (500 : Int) < (np : Int)) (h2 : ¬ (500 : Int) < (ns : Int)) (h3 : ¬ (500 : Int) < (ni : Int)) :
    Calls Tryd.prog 3 #[.slice ka np pc, .slice sa ns sc, .slice ia ni ic, .int .i64 n, .int .i64 c] w fun e w' => e = .returned (.bool true) ∧ Below w.heap.size w w' := by
  have HK := hid hk
  have sA1 : ∀ W, (Instr.sliceAt 22 (.slice ka np pc) none (some (.int .i64 500)) none).run Tryd.prog W = .ok (.slice ka 500 pc) W := fun W => xsub_h ka np pc 500 W (by omega) (rb_cap hr)
  have A1 := hid (show ∀ w', Below w.heap.size w w' → By.RB w' (.slice ka 500 pc) 500 g from fun w' hb => (hr.first 500 (by omega)).below hb)
  have A2 := hid (show ∀ w', Below w.heap.size w w' → By.RB w' (.slice sa ns sc) ns f from fun w' hb => hr2.below hb)
  have A3 := hid (show ∀ w', Below w.heap.size w w' → By.RB w' (.slice ia ni ic) ni inf from fun w' hb => hr3.below hb)
  obtain ⟨N, hN, hN1, hN2⟩ := nrm n 200 (by omega) (by omega)
  obtain ⟨C, hC, hC1, hC2⟩ := nrm c 12 (by omega) (by omega)
  replace hN : wrap64 (1 + (wrap64 (n.tmod 200 + 200)).tmod 200) = (N : Int) := hN
  replace hC : wrap64 (1 + (wrap64 (c.tmod 12 + 12)).tmod 12) = (C : Int) := hC
  have hl1 : 500 ≤ 500 := by omega
  have hl2 : ns ≤ 500 := by omega
  have hl3 : ni ≤ 500 := by omega
  clear hr hr2 hr3 hk
  go_enter Tryd.func3, Tryd.ntmps3
  go_wp2_with fail
  refine (tagged1 _ HK.out).mono ?_
  rintro e w1 ⟨rfl, hb⟩
  have B1 := hid hb
  clear hb
  go_wp2_with fail
  rw [hN, hC]
  clear hN hC
  go_loopw [11] (fun av wr => ∃ j : Nat, j ≤ 2 ∧ av = .int .u8 ((j : Int) + 1) ∧ Below w.heap.size w wr) (fun av _ => 4 - (intOf av).toNat)
  case atStart => exact ⟨0, by omega, rfl, B1.out⟩
  case round =>
    clear B1
    obtain ⟨j, hj, rfl, hb⟩ := hrel
    have B := hid hb
    clear hb
    match j, hj with
    | 0, _ =>
      rw [show (((0 : Nat) : Int) + 1) = 1 from rfl]
      go_wp2_with fail
      refine (expands_false ka sa ia 500 pc ns sc ni ic N g f inf _ (A1.out _ B.out) (A2.out _ B.out) (A3.out _ B.out) (HK.out.below B.out) hl1 hl2 hl3 hN1 hN2).mono ?_
      rintro e w2 ⟨rfl, hb⟩
      have B2 := hid (below_next B.out hb)
      clear hb B
      go_wp2_with fail
      refine (iter_f ka sa 500 pc ns sc N C g f _ (A1.out _ B2.out) (A2.out _ B2.out) (HK.out.below B2.out) hl1 hl2 hN1 hN2 hC1 hC2).mono ?_
      rintro e w3 ⟨rfl, hb⟩
      have B3 := hid (below_next B2.out hb)
      clear hb B2
      go_wp2_with fail
      exact ⟨⟨1, by omega, by rfl, B3.out⟩, by simp [intOf]⟩
    | 1, _ =>
      rw [show (((1 : Nat) : Int) + 1) = 2 from rfl]
      go_wp2_with fail
      refine (expands_true ka sa ia 500 pc ns sc ni ic N g f inf _ (A1.out _ B.out) (A2.out _ B.out) (A3.out _ B.out) (HK.out.below B.out) hl1 hl2 hl3 hN1 hN2).mono ?_
      rintro e w2 ⟨rfl, hb⟩
      have B2 := hid (below_next B.out hb)
      clear hb B
      go_wp2_with fail
      refine (iter_t ka sa 500 pc ns sc N C g f _ (A1.out _ B2.out) (A2.out _ B2.out) (HK.out.below B2.out) hl1 hl2 hN1 hN2 hC1 hC2).mono ?_
      rintro e w3 ⟨rfl, hb⟩
      have B3 := hid (below_next B2.out hb)
      clear hb B2
      go_wp2_with fail
      exact ⟨⟨2, by omega, by rfl, B3.out⟩, by simp [intOf]⟩
    | 2, _ =>
      rw [show (((2 : Nat) : Int) + 1) = 3 from rfl]
      go_wp2
      go_ret
      exact ⟨rfl, B.out⟩
set_option maxRecDepth 8000 in
set_option maxHeartbeats 8000000 in
theorem top_sbb (ka sa ia : Option Addr) (np pc ns sc ni ic : Nat) (g f inf : Nat → Int) (n c : Int) (w : World) (hr : By.RB w (.slice ka np pc) np g) (hr2 : By.RB w (.slice sa ns sc) ns f) (hr3 : By.RB w (.slice ia ni ic) ni inf) (hk : KT w) (h1 : ¬ (500 : Int) < (np : Int)) (h2 : (500 : Int) < (ns : Int)) (h3 : (500 : Int) < (ni : Int)) :
    Calls Tryd.prog 3 #[.slice ka np pc, .slice sa ns sc, .slice ia ni ic, .int .i64 n, .int .i64 c] w fun e w' => e = .returned (.bool true) ∧ Below w.heap.size w w' := by
  have HK := hid hk
  have A1 := hid (show ∀ w', Below w.heap.size w w' → By.RB w' (.slice ka np pc) np g from fun w' hb => hr.below hb)
  have sA2 : ∀ W, (Instr.sliceAt 22 (.slice sa ns sc) none (some (.int .i64 500)) none).run Tryd.prog W = .ok (.slice sa 500 sc) W := fun W => xsub_h sa ns sc 500 W (by omega) (rb_cap hr2)
  have A2 := hid (show ∀ w', Below w.heap.size w w' → By.RB w' (.slice sa 500 sc) 500 f from fun w' hb => (hr2.first 500 (by omega)).below hb)
  have sA3 : ∀ W, (Instr.sliceAt 22 (.slice ia ni ic) none (some (.int .i64 500)) none).run Tryd.prog W = .ok (.slice ia 500 ic) W := fun W => xsub_h ia ni ic 500 W (by omega) (rb_cap hr3)
  have A3 := hid (show ∀ w', Below w.heap.size w w' → By.RB w' (.slice ia 500 ic) 500 inf from fun w' hb => (hr3.first 500 (by omega)).below hb)
  obtain ⟨N, hN, hN1, hN2⟩ := nrm n 200 (by omega) (by omega)
  obtain ⟨C, hC, hC1, hC2⟩ := nrm c 12 (by omega) (by omega)
  replace hN : wrap64 (1 + (wrap64 (n.tmod 200 + 200)).tmod 200) = (N : Int) := hN
  replace hC : wrap64 (1 + (wrap64 (c.tmod 12 + 12)).tmod 12) = (C : Int) := hC
  have hl1 : np ≤ 500 := by omega
  have hl2 : 500 ≤ 500 := by omega
  have hl3 : 500 ≤ 500 := by omega
  clear hr hr2 hr3 hk
  go_enter Tryd.func3, Tryd.ntmps3
  go_wp2_with fail
  refine (tagged1 _ HK.out).mono ?_
  rintro e w1 ⟨rfl, hb⟩
  have B1 := hid hb
  clear hb
  go_wp2_with fail
  rw [hN, hC]
  clear hN hC
  go_loopw [11] (fun av wr => ∃ j : Nat, j ≤ 2 ∧ av = .int .u8 ((j : Int) + 1) ∧ Below w.heap.size w wr) (fun av _ => 4 - (intOf av).toNat)
  case atStart => exact ⟨0, by omega, rfl, B1.out⟩
  case round =>
    clear B1
    obtain ⟨j, hj, rfl, hb⟩ := hrel
    have B := hid hb
    clear hb
    match j, hj with
    | 0, _ =>
      rw [show (((0 : Nat) : Int) + 1) = 1 from rfl]
      go_wp2_with fail
      refine (expands_false ka sa ia np pc 500 sc 500 ic N g f inf _ (A1.out _ B.out) (A2.out _ B.out) (A3.out _ B.out) (HK.out.below B.out) hl1 hl2 hl3 hN1 hN2).mono ?_
      rintro e w2 ⟨rfl, hb⟩
      have B2 := hid (below_next B.out hb)
      clear hb B
      go_wp2_with fail
      refine (iter_f ka sa np pc 500 sc N C g f _ (A1.out _ B2.out) (A2.out _ B2.out) (HK.out.below B2.out) hl1 hl2 hN1 hN2 hC1 hC2).mono ?_
      rintro e w3 ⟨rfl, hb⟩
      have B3 := hid (below_next B2.out hb)
      clear hb B2
      go_wp2_with fail
      exact ⟨⟨1, by omega, by rfl, B3.out⟩, by simp [intOf]⟩
    | 1, _ =>
      rw [show (((1 : Nat) : Int) + 1) = 2 from rfl]
      go_wp2_with fail
      refine (expands_true ka sa ia np pc 500 sc 500 ic N g f inf _ (A1.out _ B.out) (A2.out _ B.out) (A3.out _ B.out) (HK.out.below B.out) hl1 hl2 hl3 hN1 hN2).mono ?_
      rintro e w2 ⟨rfl, hb⟩
      have B2 := hid (below_next B.out hb)
      clear hb B
      go_wp2_with fail
      refine (iter_t ka sa np pc 500 sc N C g f _ (A1.out _ B2.out) (A2.out _ B2.out) (HK.out.below B2.out) hl1 hl2 hN1 hN2 hC1 hC2).mono ?_
      rintro e w3 ⟨rfl, hb⟩
      have B3 := hid (below_next B2.out hb)
      clear hb B2
      go_wp2_with fail
      exact ⟨⟨2, by omega, by rfl, B3.out⟩, by simp [intOf]⟩
    | 2, _ =>
      rw [show (((2 : Nat) : Int) + 1) = 3 from rfl]
      go_wp2
      go_ret
      exact ⟨rfl, B.out⟩
set_option maxRecDepth 8000 in
set_option maxHeartbeats 8000000 in
theorem top_sbs (ka sa ia : Option Addr) (np pc ns sc ni ic : Nat) (g f inf : Nat → Int) (n c : Int) (w : World) (hr : By.RB w (.slice ka np pc) np g) (hr2 : By.RB w (.slice sa ns sc) ns f) (hr3 : By.RB w (.slice ia ni ic) ni inf) (hk : KT w) (h1 : ¬ (500 : Int) < (np : Int)) (h2 : (500 : Int) < (ns : Int)) (h3 : ¬ (500 : Int) < (ni : Int)) :
    Calls Tryd.prog 3 #[.slice ka np pc, .slice sa ns sc, .slice ia ni ic, .int .i64 n, .int .i64 c] w fun e w' => e = .returned (.bool true) ∧ Below w.heap.size w w' := by
  have HK := hid hk
  have A1 := hid (show ∀ w', Below w.heap.size w w' → By.RB w' (.slice ka np pc) np g from fun w' hb => hr.below hb)
  have sA2 : ∀ W, (Instr.sliceAt 22 (.slice sa ns sc) none (some (.int .i64 500)) none).run Tryd.prog W = .ok (.slice sa 500 sc) W := fun W => xsub_h sa ns sc 500 W (by omega) (rb_cap hr2)
  have A2 := hid (show ∀ w', Below w.heap.size w w' → By.RB w' (.slice sa 500 sc) 500 f from fun w' hb => (hr2.first 500 (by omega)).below hb)
  have A3 := hid (show ∀ w', Below w.heap.size w w' → By.RB w' (.slice ia ni ic) ni inf from fun w' hb => hr3.below hb)
  obtain ⟨N, hN, hN1, hN2⟩ := nrm n 200 (by omega) (by omega)
  obtain ⟨C, hC, hC1, hC2⟩ := nrm c 12 (by omega) (by omega)
  replace hN : wrap64 (1 + (wrap64 (n.tmod 200 + 200)).tmod 200) = (N : Int) := hN
  replace hC : wrap64 (1 + (wrap64 (c.tmod 12 + 12)).tmod 12) = (C : Int) := hC
  have hl1 : np ≤ 500 := by omega
  have hl2 : 500 ≤ 500 := by omega
  have hl3 : ni ≤ 500 := by omega
  clear hr hr2 hr3 hk
  go_enter Tryd.func3, Tryd.ntmps3
  go_wp2_with fail
  refine (tagged1 _ HK.out).mono ?_
  rintro e w1 ⟨rfl, hb⟩
  have B1 := hid hb
  clear hb
  go_wp2_with fail
  rw [hN, hC]
  clear hN hC
  go_loopw [11] (fun av wr => ∃ j : Nat, j ≤ 2 ∧ av = .int .u8 ((j : Int) + 1) ∧ Below w.heap.size w wr) (fun av _ => 4 - (intOf av).toNat)
  case atStart => exact ⟨0, by omega, rfl, B1.out⟩
  case round =>
    clear B1
    obtain ⟨j, hj, rfl, hb⟩ := hrel
    have B := hid hb
    clear hb
    match j, hj with
    | 0, _ =>
      rw [show (((0 : Nat) : Int) + 1) = 1 from rfl]
      go_wp2_with fail
      refine (expands_false ka sa ia np pc 500 sc ni ic N g f inf _ (A1.out _ B.out) (A2.out _ B.out) (A3.out _ B.out) (HK.out.below B.out) hl1 hl2 hl3 hN1 hN2).mono ?_
      rintro e w2 ⟨rfl, hb⟩
      have B2 := hid (below_next B.out hb)
      clear hb B
      go_wp2_with fail
      refine (iter_f ka sa np pc 500 sc N C g f _ (A1.out _ B2.out) (A2.out _ B2.out) (HK.out.below B2.out) hl1 hl2 hN1 hN2 hC1 hC2).mono ?_
      rintro e w3 ⟨rfl, hb⟩
      have B3 := hid (below_next B2.out hb)
      clear hb B2
      go_wp2_with fail
      exact ⟨⟨1, by omega, by rfl, B3.out⟩, by simp [intOf]⟩
    | 1, _ =>
      rw [show (((1 : Nat) : Int) + 1) = 2 from rfl]
      go_wp2_with fail
      refine (expands_true ka sa ia np pc 500 sc ni ic N g f inf _ (A1.out _ B.out) (A2.out _ B.out) (A3.out _ B.out) (HK.out.below B.out) hl1 hl2 hl3 hN1 hN2).mono ?_
      rintro e w2 ⟨rfl, hb⟩
      have B2 := hid (below_next B.out hb)
      clear hb B
      go_wp2_with fail
      refine (iter_t ka sa np pc 500 sc N C g f _ (A1.out _ B2.out) (A2.out _ B2.out) (HK.out.below B2.out) hl1 hl2 hN1 hN2 hC1 hC2).mono ?_
      rintro e w3 ⟨rfl, hb⟩
      have B3 := hid (below_next B2.out hb)
      clear hb B2
      go_wp2_with fail
      exact ⟨⟨2, by omega, by rfl, B3.out⟩, by simp [intOf]⟩
    | 2, _ =>
      rw [show (((2 : Nat) : Int) + 1) = 3 from rfl]
      go_wp2
      go_ret
      exact ⟨rfl, B.out⟩
set_option maxRecDepth 8000 in
set_option maxHeartbeats 8000000 in
theorem top_ssb (ka sa ia : Option Addr) (np pc ns sc ni ic : Nat) (g f inf : Nat → Int) (n c : Int) (w : World) (hr : By.RB w (.slice ka np pc) np g) (hr2 : By.RB w (.slice sa ns sc) ns f) (hr3 : By.RB w (.slice ia ni ic) ni inf) (hk : KT w) (h1 : ¬ (500 : Int) < (np : Int)) (h2 : ¬ (500 : Int) < (ns : Int)) (h3 : (500 : Int) < (ni : Int)) :
    Calls Tryd.prog 3 #[.slice ka np pc, .slice sa ns sc, .slice ia ni ic, .int .i64 n, .int .i64 c] w fun e w' => e = .returned (.bool true) ∧ Below w.heap.size w w' := by
  have HK := hid hk
  have A1 := hid (show ∀ w', Below w.heap.size w w' → By.RB w' (.slice ka np pc) np g from fun w' hb => hr.below hb)
  have A2 := hid (show ∀ w', Below w.heap.size w w' → By.RB w' (.slice sa ns sc) ns f from fun w' hb => hr2.below hb)
  have sA3 : ∀ W, (Instr.sliceAt 22 (.slice ia ni ic) none (some (.int .i64 500)) none).run Tryd.prog W = .ok (.slice ia 500 ic) W := fun W => xsub_h ia ni ic 500 W (by omega) (rb_cap hr3)
  have A3 := hid (show ∀ w', Below w.heap.size w w' → By.RB w' (.slice ia 500 ic) 500 inf from fun w' hb => (hr3.first 500 (by omega)).below hb)
  obtain ⟨N, hN, hN1, hN2⟩ := nrm n 200 (by omega) (by omega)
  obtain ⟨C, hC, hC1, hC2⟩ := nrm c 12 (by omega) (by omega)
  replace hN : wrap64 (1 + (wrap64 (n.tmod 200 + 200)).tmod 200) = (N : Int) := hN
  replace hC : wrap64 (1 + (wrap64 (c.tmod 12 + 12)).tmod 12) = (C : Int) := hC
  have hl1 : np ≤ 500 := by omega
  have hl2 : ns ≤ 500 := by omega
  have hl3 : 500 ≤ 500 := by omega
  clear hr hr2 hr3 hk
  go_enter Tryd.func3, Tryd.ntmps3
  go_wp2_with fail
  refine (tagged1 _ HK.out).mono ?_
  rintro e w1 ⟨rfl, hb⟩
  have B1 := hid hb
  clear hb
  go_wp2_with fail
  rw [hN, hC]
  clear hN hC
  go_loopw [11] (fun av wr => ∃ j : Nat, j ≤ 2 ∧ av = .int .u8 ((j : Int) + 1) ∧ Below w.heap.size w wr) (fun av _ => 4 - (intOf av).toNat)
  case atStart => exact ⟨0, by omega, rfl, B1.out⟩
  case round =>
    clear B1
    obtain ⟨j, hj, rfl, hb⟩ := hrel
    have B := hid hb
    clear hb
    match j, hj with
    | 0, _ =>
      rw [show (((0 : Nat) : Int) + 1) = 1 from rfl]
      go_wp2_with fail
      refine (expands_false ka sa ia np pc ns sc 500 ic N g f inf _ (A1.out _ B.out) (A2.out _ B.out) (A3.out _ B.out) (HK.out.below B.out) hl1 hl2 hl3 hN1 hN2).mono ?_
      rintro e w2 ⟨rfl, hb⟩
      have B2 := hid (below_next B.out hb)
      clear hb B
      go_wp2_with fail
      refine (iter_f ka sa np pc ns sc N C g f _ (A1.out _ B2.out) (A2.out _ B2.out) (HK.out.below B2.out) hl1 hl2 hN1 hN2 hC1 hC2).mono ?_
      rintro e w3 ⟨rfl, hb⟩
      have B3 := hid (below_next B2.out hb)
      clear hb B2
      go_wp2_with fail
      exact ⟨⟨1, by omega, by rfl, B3.out⟩, by simp [intOf]⟩
    | 1, _ =>
      rw [show (((1 : Nat) : Int) + 1) = 2 from rfl]
      go_wp2_with fail
      refine (expands_true ka sa ia np pc ns sc 500 ic N g f inf _ (A1.out _ B.out) (A2.out _ B.out) (A3.out _ B.out) (HK.out.below B.out) hl1 hl2 hl3 hN1 hN2).mono ?_
      rintro e w2 ⟨rfl, hb⟩
      have B2 := hid (below_next B.out hb)
      clear hb B
      go_wp2_with fail
      refine (iter_t ka sa np pc ns sc N C g f _ (A1.out _ B2.out) (A2.out _ B2.out) (HK.out.below B2.out) hl1 hl2 hN1 hN2 hC1 hC2).mono ?_
      rintro e w3 ⟨rfl, hb⟩
      have B3 := hid (below_next B2.out hb)
      clear hb B2
      go_wp2_with fail
      exact ⟨⟨2, by omega, by rfl, B3.out⟩, by simp [intOf]⟩
    | 2, _ =>
      rw [show (((2 : Nat) : Int) + 1) = 3 from rfl]
      go_wp2
      go_ret
      exact ⟨rfl, B.out⟩
set_option maxRecDepth 8000 in
set_option maxHeartbeats 8000000 in
theorem top_sss (ka sa ia : Option Addr) (np pc ns sc ni ic : Nat) (g f inf : Nat → Int) (n c : Int) (w : World) (hr : By.RB w (.slice ka np pc) np g) (hr2 : By.RB w (.slice sa ns sc) ns f) (hr3 : By.RB w (.slice ia ni ic) ni inf) (hk : KT w) (h1 : ¬ (500 : Int) < (np : Int)) (h2 : ¬ (500 : Int) < (ns : Int)) (h3 : ¬ (500 : Int) < (ni : Int)) :
    Calls Tryd.prog 3 #[.slice ka np pc, .slice sa ns sc, .slice ia ni ic, .int .i64 n, .int .i64 c] w fun e w' => e = .returned (.bool true) ∧ Below w.heap.size w w' := by
  have HK := hid hk
  have A1 := hid (show ∀ w', Below w.heap.size w w' → By.RB w' (.slice ka np pc) np g from fun w' hb => hr.below hb)
  have A2 := hid (show ∀ w', Below w.heap.size w w' → By.RB w' (.slice sa ns sc) ns f from fun w' hb => hr2.below hb)
  have A3 := hid (show ∀ w', Below w.heap.size w w' → By.RB w' (.slice ia ni ic) ni inf from fun w' hb => hr3.below hb)
  obtain ⟨N, hN, hN1, hN2⟩ := nrm n 200 (by omega) (by omega)
  obtain ⟨C, hC, hC1, hC2⟩ := nrm c 12 (by omega) (by omega)
  replace hN : wrap64 (1 + (wrap64 (n.tmod 200 + 200)).tmod 200) = (N : Int) := hN
  replace hC : wrap64 (1 + (wrap64 (c.tmod 12 + 12)).tmod 12) = (C : Int) := hC
  have hl1 : np ≤ 500 := by omega
  have hl2 : ns ≤ 500 := by omega
  have hl3 : ni ≤ 500 := by omega
  clear hr hr2 hr3 hk
  go_enter Tryd.func3, Tryd.ntmps3
  go_wp2_with fail
  refine (tagged1 _ HK.out).mono ?_
  rintro e w1 ⟨rfl, hb⟩
  have B1 := hid hb
  clear hb
  go_wp2_with fail
  rw [hN, hC]
  clear hN hC
  go_loopw [11] (fun av wr => ∃ j : Nat, j ≤ 2 ∧ av = .int .u8 ((j : Int) + 1) ∧ Below w.heap.size w wr) (fun av _ => 4 - (intOf av).toNat)
  case atStart => exact ⟨0, by omega, rfl, B1.out⟩
  case round =>
    clear B1
    obtain ⟨j, hj, rfl, hb⟩ := hrel
    have B := hid hb
    clear hb
    match j, hj with
    | 0, _ =>
      rw [show (((0 : Nat) : Int) + 1) = 1 from rfl]
      go_wp2_with fail
      refine (expands_false ka sa ia np pc ns sc ni ic N g f inf _ (A1.out _ B.out) (A2.out _ B.out) (A3.out _ B.out) (HK.out.below B.out) hl1 hl2 hl3 hN1 hN2).mono ?_
      rintro e w2 ⟨rfl, hb⟩
      have B2 := hid (below_next B.out hb)
      clear hb B
      go_wp2_with fail
      refine (iter_f ka sa np pc ns sc N C g f _ (A1.out _ B2.out) (A2.out _ B2.out) (HK.out.below B2.out) hl1 hl2 hN1 hN2 hC1 hC2).mono ?_
      rintro e w3 ⟨rfl, hb⟩
      have B3 := hid (below_next B2.out hb)
      clear hb B2
      go_wp2_with fail
      exact ⟨⟨1, by omega, by rfl, B3.out⟩, by simp [intOf]⟩
    | 1, _ =>
      rw [show (((1 : Nat) : Int) + 1) = 2 from rfl]
      go_wp2_with fail
      refine (expands_true ka sa ia np pc ns sc ni ic N g f inf _ (A1.out _ B.out) (A2.out _ B.out) (A3.out _ B.out) (HK.out.below B.out) hl1 hl2 hl3 hN1 hN2).mono ?_
      rintro e w2 ⟨rfl, hb⟩
      have B2 := hid (below_next B.out hb)
      clear hb B
      go_wp2_with fail
      refine (iter_t ka sa np pc ns sc N C g f _ (A1.out _ B2.out) (A2.out _ B2.out) (HK.out.below B2.out) hl1 hl2 hN1 hN2 hC1 hC2).mono ?_
      rintro e w3 ⟨rfl, hb⟩
      have B3 := hid (below_next B2.out hb)
      clear hb B2
      go_wp2_with fail
      exact ⟨⟨2, by omega, by rfl, B3.out⟩, by simp [intOf]⟩
    | 2, _ =>
      rw [show (((2 : Nat) : Int) + 1) = 3 from rfl]
      go_wp2
      go_ret
      exact ⟨rfl, B.out⟩
theorem top_on (ka sa ia : Option Addr) (np pc ns sc ni ic : Nat) (g f inf : Nat → Int) (n c : Int) (w : World) (hr : By.RB w (.slice ka np pc) np g) (hr2 : By.RB w (.slice sa ns sc) ns f) (hr3 : By.RB w (.slice ia ni ic) ni inf) (hk : KT w) :
    Calls Tryd.prog 3 #[.slice ka np pc, .slice sa ns sc, .slice ia ni ic, .int .i64 n, .int .i64 c] w fun e w' => e = .returned (.bool true) ∧ Below w.heap.size w w' := by
  by_cases h1 : (500 : Int) < (np : Int) <;> by_cases h2 : (500 : Int) < (ns : Int) <;> by_cases h3 : (500 : Int) < (ni : Int)
  · exact top_bbb ka sa ia np pc ns sc ni ic g f inf n c w hr hr2 hr3 hk h1 h2 h3
  · exact top_bbs ka sa ia np pc ns sc ni ic g f inf n c w hr hr2 hr3 hk h1 h2 h3
  · exact top_bsb ka sa ia np pc ns sc ni ic g f inf n c w hr hr2 hr3 hk h1 h2 h3
  · exact top_bss ka sa ia np pc ns sc ni ic g f inf n c w hr hr2 hr3 hk h1 h2 h3
  · exact top_sbb ka sa ia np pc ns sc ni ic g f inf n c w hr hr2 hr3 hk h1 h2 h3
  · exact top_sbs ka sa ia np pc ns sc ni ic g f inf n c w hr hr2 hr3 hk h1 h2 h3
  · exact top_ssb ka sa ia np pc ns sc ni ic g f inf n c w hr hr2 hr3 hk h1 h2 h3
  · exact top_sss ka sa ia np pc ns sc ni ic g f inf n c w hr hr2 hr3 hk h1 h2 h3
end Go.Proofs.YtkmkbofokoimkaaDoor.Dg
