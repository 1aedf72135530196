/- KmacTags holds of every case (strength, key, customization) and every message, number and kind of tag. -/
import Derived.Test.YtnhhkoekghjogaaDoorUtags
import Derived.Test.YtnhhkoekghjogaaDoorUopn
import Derived.Test.YtnhhkoekghjogaaDoorQlaid
import Derived.Test.YtnhhkoekghjogaaDoorTie
import Derived.Test.YtnhhkoekghjogaaDoorCards
import Derived.SevenTiedAt
import Derived.SizedLaws
import Derived.LaidMore
import Derived.Stop.Joined
import Derived.Test.YtnhhkoekghjogaaDoorRows
import Derived.WalkKit
import Derived.ProofKit
import Derived.OpenShut
import Derived.ShutString
import Derived.ChangeOld
import Derived.Below
namespace Go.Proofs.YtnhhkoekghjogaaDoor.kmacTags
open Go.ChangeShapes Go.WideShapes Go.ChangeAt Go.RowKit
open Go.ChangeMaps (open_string shut_string)
set_option linter.unusedVariables false

theorem own : ownKnob Tryd.prog.godebug = none := by kernel_rfl
theorem laidOut : laidOutB Tryd.prog = true := by kernel_rfl
set_option maxRecDepth 100000 in
theorem lifted (os : Os) (started : os.Started) (H : Type) (enc : TypeId × Value → H) :
    ReturnsInHanded {} Tryd.checked os 3 .any (fun w args => (Rows.kmacTagsSpec.pre enc Tryd.prog Tryd.f3 [] false w args ∧ laidMetH Tryd.prog Kc.laid1 w) ∧ sizedMet enc Tryd.prog Tryd.f3 (OpenSpec.ofChange Rows.kmacTagsSpec) false w args) (Rows.kmacTagsSpec.post enc Tryd.prog Tryd.f3 false true false false) := by
  refine returnsInHanded_of_change_and (C := Tryd.checked) (X := fun w _ => laidMetH Tryd.prog Kc.laid1 w) (fun _ _ _ hh h => h.of_heap hh) own started (by kernel_rfl) Tryd.func3
    (ChangeSpec.witness_shaped (enc := enc) (C := Tryd.checked) (os := os) (X := fun w _ => laidMetH Tryd.prog Kc.laid1 w) false (World.doorLaid Tryd.prog 400 os) #[.agg #[.int .i64 0, .slice none 0 0, .slice none 0 0], .agg #[.slice none 0 0, .int .i64 0, .bool false]] 8 rfl (World.shaped_of_RefB (by kernel_rfl) (by kernel_rfl)) (by kernel_rfl) (by kernel_rfl) (by kernel_rfl) (Kc.door_met os _)) ?_
  intro W base args ds gs before hval0 hW hcnd hsz0 hL _
  have hsz : (DataW.weightsEach Tryd.prog (Tryd.f3.params.toList ++ Rows.kmacTagsSpec.plain.varTypes Tryd.prog) (ds ++ gs)).all (· ≤ reachBytes) = true := hsz0
  clear hsz0
  have hval : ∀ (j : Nat) t v, Tryd.f3.params[j]? = some t → args[j]? = some v → Value.okWide Tryd.prog W .any base t v := hval0
  have hW' := hW
  obtain ⟨p, q, hA0, hV, rfl, hfz, hnd⟩ := hW
  have hA : DataW.TrodAll enc Tryd.prog W 0 (fun _ => true) true Tryd.f3.params.toList args.toList ds p := hA0
  rw [Tryd.params3] at hA hval hsz
  obtain ⟨v0, vs0, d0, ds0, p0, q0, hargs, rfl, rfl, h0, r0⟩ := trodAll_cons hA
  obtain ⟨v1, vs1, d1, ds1, p1, q1, rfl, rfl, rfl, h1, r1⟩ := trodAll_cons r0
  obtain ⟨rfl, rfl, rfl⟩ := trodAll_nil r1
  obtain rfl : args = #[v0, v1] := by cases args; simp_all
  obtain ⟨rfl, rfl⟩ := trodVars_none hV
  obtain ⟨cs0, rfl, hz0⟩ := okWide_struct Tryd.underlying24 (hval 0 24 v0 rfl rfl)
  have k0 := h0
  have lt0 : ∀ x ∈ p0, x.block < W.heap.size := by obtain ⟨m, hm⟩ := k0; exact DataW.trod_lt m _ _ _ hm
  have s0 : Kc.Sz d0 24 := Kc.sz_each hsz (j := 0) rfl rfl
  obtain ⟨q0, ⟨rk0, rc0, lk0, lc0⟩, e0⟩ := (show ∃ q : Kc.CE, (By.RB W (.slice q.ka q.kn q.kc) q.kn q.f ∧ By.RB W (.slice q.ca q.cn q.cc) q.cn q.h ∧ q.kn ≤ 140737488355328 ∧ q.cn ≤ 140737488355328) ∧ cs0.toList = [.int .i64 q.st, .slice q.ka q.kn q.kc, .slice q.ca q.cn q.cc] from by
    obtain ⟨fuel, hf⟩ := h0
    exact Kc.open_case hf s0)
  obtain rfl : cs0 = #[.int .i64 q0.st, .slice q0.ka q0.kn q0.kc, .slice q0.ca q0.cn q0.cc] := Array.toList_inj.1 e0
  obtain ⟨cs1, rfl, hz1⟩ := okWide_struct Tryd.underlying26 (hval 1 26 v1 rfl rfl)
  have k1 := h1
  have lt1 : ∀ x ∈ p1, x.block < W.heap.size := by obtain ⟨m, hm⟩ := k1; exact DataW.trod_lt m _ _ _ hm
  have s1 : Kc.Sz d1 26 := Kc.sz_each hsz (j := 1) rfl rfl
  obtain ⟨pa1, pn1, pc1, g1, n1, x1, rp1, lp1, e1⟩ := (show ∃ (pa : Option Addr) (pn pc : Nat) (g : Nat → Int) (n : Int) (xof : Bool), By.RB W (.slice pa pn pc) pn g ∧ pn ≤ 140737488355328 ∧ cs1.toList = [.slice pa pn pc, .int .i64 n, .bool xof] from by
    obtain ⟨fuel, hf⟩ := h1
    exact Kc.open_whole hf s1)
  obtain rfl : cs1 = #[.slice pa1 pn1 pc1, .int .i64 n1, .bool x1] := Array.toList_inj.1 e1
  clear hA0 hval0
  refine (Kc.tags_walk q0.st n1 x1 q0.ka q0.kn q0.kc q0.ca q0.cn q0.cc pa1 pn1 pc1 q0.f q0.h g1 W (Kc.kt_of_laid hL) rk0 rc0 rp1 ⟨lk0, lc0, lp1⟩).mono fun e W' ⟨he, bel⟩ => ?_
  subst he
  exact ⟨_, rfl, _, _, _, [], _, [], hW', trodAll_mk1 (shut_bool Tryd.underlying4 _), (trodAll_cons_mk (Below.trod laidOut (by kernel_rfl) (of_decide_eq_true (by kernel_rfl)) k0 bel lt0) (trodAll_cons_mk (Below.trod laidOut (by kernel_rfl) (of_decide_eq_true (by kernel_rfl)) k1 bel lt1) trodAll_mk0)), rfl, bel.frame _, fun h => by cases h⟩

theorem over : Rows.kmacTagsRow.holds Tryd.pinned (OpenSpec.ofChange Rows.kmacTagsSpec) :=
  OpenClaim.holds_of_wide 3 Tryd.f3 rfl rfl rfl rfl rfl rfl rfl ⟨rfl, rfl, rfl, rfl, rfl⟩ rfl rfl rfl rfl rfl (by kernel_rfl) Tryd.func3 (by kernel_rfl)
    (of_decide_eq_true (by kernel_rfl)) (by unfold Func.isWrapper; first | (rw [if_pos (by decide +kernel)]; kernel_rfl) | (rw [if_neg (by decide +kernel)]; exact ⟨rfl, rfl⟩))
    (fun os started H enc _ => lifted os started H enc)

theorem proved : Rows.KmacTagsSaid := over
end Go.Proofs.YtnhhkoekghjogaaDoor.kmacTags
namespace Go.Proofs.YtnhhkoekghjogaaDoor
theorem kmacTags_card : Rows.KmacTagsCardSaid :=
  Claim7.holds_tied_plain_at .later [] [.data, .data] true (true, "b7d225290ffed541fb51d1ea489096ef7149a6d87e07dfa346e1f10e3992c1a0") false
    kmacTags.proved (fun _ h => by cases h) (by kernel_rfl) (fun _ h => by cases h) kmacTags_row_tie rfl ⟨rfl, rfl⟩ (by kernel_rfl) rfl
    (fun f fn hf hfn => by
      obtain rfl : f = 3 := Option.some.inj ((show Tryd.prog.funcNamed "turnkey/turnkeylaw14.KmacTags" = some 3 by kernel_rfl).symm.trans hf) |>.symm
      obtain rfl : fn = Tryd.f3 := (Option.some.inj (Tryd.func3.symm.trans hfn)).symm
      exact ⟨by kernel_rfl, fun j t ht => by
        rw [Tryd.params3] at ht
        match j, ht with
        | 0, ht =>
          obtain rfl : t = 24 := by simpa using ht.symm
          exact (show Tryd.prog.wantsStandIn 24 = false by kernel_rfl)
        | 1, ht =>
          obtain rfl : t = 26 := by simpa using ht.symm
          exact (show Tryd.prog.wantsStandIn 26 = false by kernel_rfl)
        | j + 2, ht => simp at ht⟩)
    (by kernel_rfl)
#print axioms kmacTags_card
end Go.Proofs.YtnhhkoekghjogaaDoor
