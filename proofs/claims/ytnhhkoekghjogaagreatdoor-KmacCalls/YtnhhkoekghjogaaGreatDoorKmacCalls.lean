/- KmacCalls holds of every two cases (strength, key, customization) and every script of calls. -/
import Derived.Test.YtnhhkoekghjogaaGreatDoorUcal
import Derived.Test.YtnhhkoekghjogaaGreatDoorKm
import Derived.Test.YtnhhkoekghjogaaGreatDoorQlaid
import Derived.Test.YtnhhkoekghjogaaGreatDoorTie
import Derived.Test.YtnhhkoekghjogaaGreatDoorCards
import Derived.SevenTiedAt
import Derived.SizedLaws
import Derived.LaidMore
import Derived.Stop.Joined
import Derived.Test.YtnhhkoekghjogaaGreatDoorRows
import Derived.WalkKit
import Derived.ProofKit
import Derived.OpenShut
import Derived.ShutString
import Derived.ChangeOld
import Derived.Below
namespace Go.Proofs.YtnhhkoekghjogaaGreatDoor.kmacCalls
open Go.ChangeShapes Go.WideShapes Go.ChangeAt Go.RowKit
open Go.ChangeMaps (open_string shut_string)
set_option linter.unusedVariables false

theorem own : ownKnob Tryz.prog.godebug = none := by kernel_rfl
theorem laidOut : laidOutB Tryz.prog = true := by kernel_rfl
set_option maxRecDepth 100000 in
theorem lifted (os : Os) (started : os.Started) (H : Type) (enc : TypeId × Value → H) :
    ReturnsInHanded {} Tryz.checked os 3 .any (fun w args => (Rows.kmacCallsSpec.pre enc Tryz.prog Tryz.f3 [] false w args ∧ laidMetH Tryz.prog Kc.laid1 w) ∧ sizedMet enc Tryz.prog Tryz.f3 (OpenSpec.ofChange Rows.kmacCallsSpec) false w args) (Rows.kmacCallsSpec.post enc Tryz.prog Tryz.f3 false true false false) := by
  refine returnsInHanded_of_change_and (C := Tryz.checked) (X := fun w _ => laidMetH Tryz.prog Kc.laid1 w) (fun _ _ _ hh h => h.of_heap hh) own started (by kernel_rfl) Tryz.func3
    (ChangeSpec.witness_shaped (enc := enc) (C := Tryz.checked) (os := os) (X := fun w _ => laidMetH Tryz.prog Kc.laid1 w) false (World.doorLaid Tryz.prog 400 os) #[.agg #[.int .i64 0, .slice none 0 0, .slice none 0 0], .agg #[.int .i64 0, .slice none 0 0, .slice none 0 0], .slice none 0 0] 8 rfl (World.shaped_of_RefB (by kernel_rfl) (by kernel_rfl)) (by kernel_rfl) (by kernel_rfl) (by kernel_rfl) (Kc.door_met os _)) ?_
  intro W base args ds gs before hval0 hW hcnd hsz0 hL _
  have hsz : (DataW.weightsEach Tryz.prog (Tryz.f3.params.toList ++ Rows.kmacCallsSpec.plain.varTypes Tryz.prog) (ds ++ gs)).all (· ≤ reachBytes) = true := hsz0
  clear hsz0
  have hval : ∀ (j : Nat) t v, Tryz.f3.params[j]? = some t → args[j]? = some v → Value.okWide Tryz.prog W .any base t v := hval0
  have hW' := hW
  obtain ⟨p, q, hA0, hV, rfl, hfz, hnd⟩ := hW
  have hA : DataW.TrodAll enc Tryz.prog W 0 (fun _ => true) true Tryz.f3.params.toList args.toList ds p := hA0
  rw [Tryz.params3] at hA hval hsz
  obtain ⟨v0, vs0, d0, ds0, p0, q0, hargs, rfl, rfl, h0, r0⟩ := trodAll_cons hA
  obtain ⟨v1, vs1, d1, ds1, p1, q1, rfl, rfl, rfl, h1, r1⟩ := trodAll_cons r0
  obtain ⟨v2, vs2, d2, ds2, p2, q2, rfl, rfl, rfl, h2, r2⟩ := trodAll_cons r1
  obtain ⟨rfl, rfl, rfl⟩ := trodAll_nil r2
  obtain rfl : args = #[v0, v1, v2] := by cases args; simp_all
  obtain ⟨rfl, rfl⟩ := trodVars_none hV
  obtain ⟨cs0, rfl, hz0⟩ := okWide_struct Tryz.underlying24 (hval 0 24 v0 rfl rfl)
  have k0 := h0
  have lt0 : ∀ x ∈ p0, x.block < W.heap.size := by obtain ⟨m, hm⟩ := k0; exact DataW.trod_lt m _ _ _ hm
  have s0 : Kc.Sz d0 24 := Kc.sz_each hsz (j := 0) rfl rfl
  obtain ⟨q0, ⟨rk0, rc0, lk0, lc0⟩, e0⟩ := (show ∃ q : Kc.CE, (By.RB W (.slice q.ka q.kn q.kc) q.kn q.f ∧ By.RB W (.slice q.ca q.cn q.cc) q.cn q.h ∧ q.kn ≤ 140737488355328 ∧ q.cn ≤ 140737488355328) ∧ cs0.toList = [.int .i64 q.st, .slice q.ka q.kn q.kc, .slice q.ca q.cn q.cc] from by
    obtain ⟨fuel, hf⟩ := h0
    exact Kc.open_case hf s0)
  obtain rfl : cs0 = #[.int .i64 q0.st, .slice q0.ka q0.kn q0.kc, .slice q0.ca q0.cn q0.cc] := Array.toList_inj.1 e0
  obtain ⟨cs1, rfl, hz1⟩ := okWide_struct Tryz.underlying24 (hval 1 24 v1 rfl rfl)
  have k1 := h1
  have lt1 : ∀ x ∈ p1, x.block < W.heap.size := by obtain ⟨m, hm⟩ := k1; exact DataW.trod_lt m _ _ _ hm
  have s1 : Kc.Sz d1 24 := Kc.sz_each hsz (j := 1) rfl rfl
  obtain ⟨q1, ⟨rk1, rc1, lk1, lc1⟩, e1⟩ := (show ∃ q : Kc.CE, (By.RB W (.slice q.ka q.kn q.kc) q.kn q.f ∧ By.RB W (.slice q.ca q.cn q.cc) q.cn q.h ∧ q.kn ≤ 140737488355328 ∧ q.cn ≤ 140737488355328) ∧ cs1.toList = [.int .i64 q.st, .slice q.ka q.kn q.kc, .slice q.ca q.cn q.cc] from by
    obtain ⟨fuel, hf⟩ := h1
    exact Kc.open_case hf s1)
  obtain rfl : cs1 = #[.int .i64 q1.st, .slice q1.ka q1.kn q1.kc, .slice q1.ca q1.cn q1.cc] := Array.toList_inj.1 e1
  obtain ⟨a2, len2, cap2, rfl⟩ := okWide_slice Tryz.underlying25 (hval 2 25 v2 rfl rfl)
  have k2 := h2
  have lt2 : ∀ x ∈ p2, x.block < W.heap.size := by obtain ⟨m, hm⟩ := k2; exact DataW.trod_lt m _ _ _ hm
  have s2 : Kc.Sz d2 25 := Kc.sz_each hsz (j := 2) rfl rfl
  obtain ⟨bb, off, a, hA2, hm2, hcap, hscr, hel⟩ := (show ∃ bb off a, (0 < len2 → a2 = some ⟨bb, off, none⟩) ∧ len2 ≤ cap2 ∧ cap2 ≤ maxLen ∧ Kc.Scr W bb off len2 a ∧ ∀ i, i < len2 → By.RB W (.slice (a i).pa (a i).pn (a i).pc) (a i).pn (a i).g ∧ (a i).pn ≤ 140737488355328 from by
    obtain ⟨fuel, hf⟩ := h2
    exact Kc.openActs hf s2)
  clear hA0 hval0
  refine (Kc.calls_walk q0 q1 a2 bb off len2 cap2 hA2 a W (Kc.kt_of_laid hL) (fun V hV => Kc.scr_below hscr hV) hm2 hcap (fun i hi => (hel i hi).2) (fun i hi V hV => (hel i hi).1.below hV) (fun c hc => by rcases hc with rfl | rfl; exact ⟨fun V hV => ⟨rk0.below hV, rc0.below hV⟩, lk0, lc0⟩; exact ⟨fun V hV => ⟨rk1.below hV, rc1.below hV⟩, lk1, lc1⟩)).mono fun e W' ⟨he, bel⟩ => ?_
  subst he
  exact ⟨_, rfl, _, _, _, [], _, [], hW', trodAll_mk1 (shut_bool Tryz.underlying4 _), (trodAll_cons_mk (Below.trod laidOut (by kernel_rfl) (of_decide_eq_true (by kernel_rfl)) k0 bel lt0) (trodAll_cons_mk (Below.trod laidOut (by kernel_rfl) (of_decide_eq_true (by kernel_rfl)) k1 bel lt1) (trodAll_cons_mk (Below.trod laidOut (by kernel_rfl) (of_decide_eq_true (by kernel_rfl)) k2 bel lt2) trodAll_mk0))), rfl, bel.frame _, fun h => by cases h⟩

theorem over : Rows.kmacCallsRow.holds Tryz.pinned (OpenSpec.ofChange Rows.kmacCallsSpec) :=
  OpenClaim.holds_of_wide 3 Tryz.f3 rfl rfl rfl rfl rfl rfl rfl ⟨rfl, rfl, rfl, rfl, rfl⟩ rfl rfl rfl rfl rfl (by kernel_rfl) Tryz.func3 (by kernel_rfl)
    (of_decide_eq_true (by kernel_rfl)) (by unfold Func.isWrapper; first | (rw [if_pos (by decide +kernel)]; kernel_rfl) | (rw [if_neg (by decide +kernel)]; exact ⟨rfl, rfl⟩))
    (fun os started H enc _ => lifted os started H enc)

theorem proved : Rows.KmacCallsSaid := over
end Go.Proofs.YtnhhkoekghjogaaGreatDoor.kmacCalls
namespace Go.Proofs.YtnhhkoekghjogaaGreatDoor
theorem kmacCalls_card : Rows.KmacCallsCardSaid :=
  Claim7.holds_tied_plain_at .later [] [.data, .data] true (true, "007fcc3ab8333928eafc3a148fde3a8d360526a3bea3e6b1b4440fe753bf0f3b") false
    kmacCalls.proved (fun _ h => by cases h) (by kernel_rfl) (fun _ h => by cases h) kmacCalls_row_tie rfl ⟨rfl, rfl⟩ (by kernel_rfl) rfl
    (fun f fn hf hfn => by
      obtain rfl : f = 3 := Option.some.inj ((show Tryz.prog.funcNamed "turnkey/turnkeylaw14.KmacCalls" = some 3 by kernel_rfl).symm.trans hf) |>.symm
      obtain rfl : fn = Tryz.f3 := (Option.some.inj (Tryz.func3.symm.trans hfn)).symm
      exact ⟨by kernel_rfl, fun j t ht => by
        rw [Tryz.params3] at ht
        match j, ht with
        | 0, ht =>
          obtain rfl : t = 24 := by simpa using ht.symm
          exact (show Tryz.prog.wantsStandIn 24 = false by kernel_rfl)
        | 1, ht =>
          obtain rfl : t = 24 := by simpa using ht.symm
          exact (show Tryz.prog.wantsStandIn 24 = false by kernel_rfl)
        | 2, ht =>
          obtain rfl : t = 25 := by simpa using ht.symm
          exact (show Tryz.prog.wantsStandIn 25 = false by kernel_rfl)
        | j + 3, ht => simp at ht⟩)
    (by kernel_rfl)
#print axioms kmacCalls_card
end Go.Proofs.YtnhhkoekghjogaaGreatDoor
