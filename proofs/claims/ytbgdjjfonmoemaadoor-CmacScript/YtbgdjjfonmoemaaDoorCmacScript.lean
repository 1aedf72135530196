/- CmacScript holds of every two keys and every script of calls. -/
import Derived.Test.YtbgdjjfonmoemaaDoorVcal
import Derived.Test.YtbgdjjfonmoemaaDoorVopn
import Derived.Test.YtbgdjjfonmoemaaDoorVlaid
import Derived.Test.YtbgdjjfonmoemaaDoorTie
import Derived.Test.YtbgdjjfonmoemaaDoorCards
import Derived.SevenTiedAt
import Derived.SizedLaws
import Derived.LaidMore
import Derived.Stop.Joined
import Derived.Test.YtbgdjjfonmoemaaDoorRows
import Derived.WalkKit
import Derived.ProofKit
import Derived.OpenShut
import Derived.ShutString
import Derived.ChangeOld
import Derived.Below
namespace Go.Proofs.YtbgdjjfonmoemaaDoor.cmacScript
open Go.ChangeShapes Go.WideShapes Go.ChangeAt Go.RowKit
open Go.ChangeMaps (open_string shut_string)
set_option linter.unusedVariables false

theorem own : ownKnob Tryd.prog.godebug = none := by kernel_rfl
theorem laidOut : laidOutB Tryd.prog = true := by kernel_rfl
set_option maxRecDepth 100000 in
theorem lifted (os : Os) (started : os.Started) (H : Type) (enc : TypeId × Value → H) :
    ReturnsInHanded {} Tryd.checked os 3 .any (fun w args => (Rows.cmacScriptSpec.pre enc Tryd.prog Tryd.f3 [] false w args ∧ laidMetH Tryd.prog Vm.laid1 w) ∧ sizedMet enc Tryd.prog Tryd.f3 (OpenSpec.ofChange Rows.cmacScriptSpec) false w args) (Rows.cmacScriptSpec.post enc Tryd.prog Tryd.f3 false true false false) := by
  refine returnsInHanded_of_change_and (C := Tryd.checked) (X := fun w _ => laidMetH Tryd.prog Vm.laid1 w) (fun _ _ _ hh h => h.of_heap hh) own started (by kernel_rfl) Tryd.func3
    (ChangeSpec.witness_shaped (enc := enc) (C := Tryd.checked) (os := os) (X := fun w _ => laidMetH Tryd.prog Vm.laid1 w) false (World.doorLaid Tryd.prog 400 os) #[.slice none 0 0, .slice none 0 0, .slice none 0 0] 8 rfl (World.shaped_of_RefB (by kernel_rfl) (by kernel_rfl)) (by kernel_rfl) (by kernel_rfl) (by kernel_rfl) (Vm.door_met os _)) ?_
  intro W base args ds gs before hval0 hW hcnd hsz0 hL _
  have hsz : (DataW.weightsEach Tryd.prog (Tryd.f3.params.toList ++ Rows.cmacScriptSpec.plain.varTypes Tryd.prog) (ds ++ gs)).all (· ≤ reachBytes) = true := hsz0
  clear hsz0
  have hval : ∀ (j : Nat) t v, Tryd.f3.params[j]? = some t → args[j]? = some v → Value.okWide Tryd.prog W .any base t v := hval0
  have hW' := hW
  obtain ⟨p, q, hA0, hV, rfl, hfz, hnd⟩ := hW
  have hA : DataW.TrodAll enc Tryd.prog W 0 (fun _ => true) true Tryd.f3.params.toList args.toList ds p := hA0
  rw [Tryd.params3] at hA hval hsz
  obtain ⟨v0, vs0, d0, ds0, p0, q0, hargs, rfl, rfl, h0, r0⟩ := trodAll_cons hA
  obtain ⟨v1, vs1, d1, ds1, p1, q1, rfl, rfl, rfl, h1, r1⟩ := trodAll_cons r0
  obtain ⟨v2, vs2, d2, ds2, p2, q2, rfl, rfl, rfl, h2, r2⟩ := trodAll_cons r1
  obtain ⟨rfl, rfl, rfl⟩ := trodAll_nil r2
  obtain rfl : args = #[v0, v1, v2] := by cases args; simp_all
  obtain ⟨rfl, rfl⟩ := trodVars_none hV
  obtain ⟨a0, len0, cap0, rfl⟩ := okWide_slice Tryd.underlying22 (hval 0 22 v0 rfl rfl)
  have k0 := h0
  have lt0 : ∀ x ∈ p0, x.block < W.heap.size := by obtain ⟨m, hm⟩ := k0; exact DataW.trod_lt m _ _ _ hm
  have s0 : Vm.Sz d0 22 := Vm.sz_each hsz (j := 0) rfl rfl
  obtain ⟨pa0, pn0, pc0, g0, ec0, rp0, lp0⟩ := (show ∃ pa pn pc g, Value.slice a0 len0 cap0 = .slice pa pn pc ∧ By.RB W (.slice pa pn pc) pn g ∧ pn ≤ 140737488351232 from by
    obtain ⟨fuel, hf⟩ := h0
    exact Vm.open_p hf s0)
  simp only [Value.slice.injEq] at ec0
  obtain ⟨rfl, rfl, rfl⟩ := ec0
  obtain ⟨a1, len1, cap1, rfl⟩ := okWide_slice Tryd.underlying22 (hval 1 22 v1 rfl rfl)
  have k1 := h1
  have lt1 : ∀ x ∈ p1, x.block < W.heap.size := by obtain ⟨m, hm⟩ := k1; exact DataW.trod_lt m _ _ _ hm
  have s1 : Vm.Sz d1 22 := Vm.sz_each hsz (j := 1) rfl rfl
  obtain ⟨pa1, pn1, pc1, g1, ec1, rp1, lp1⟩ := (show ∃ pa pn pc g, Value.slice a1 len1 cap1 = .slice pa pn pc ∧ By.RB W (.slice pa pn pc) pn g ∧ pn ≤ 140737488351232 from by
    obtain ⟨fuel, hf⟩ := h1
    exact Vm.open_p hf s1)
  simp only [Value.slice.injEq] at ec1
  obtain ⟨rfl, rfl, rfl⟩ := ec1
  obtain ⟨a2, len2, cap2, rfl⟩ := okWide_slice Tryd.underlying23 (hval 2 23 v2 rfl rfl)
  have k2 := h2
  have lt2 : ∀ x ∈ p2, x.block < W.heap.size := by obtain ⟨m, hm⟩ := k2; exact DataW.trod_lt m _ _ _ hm
  have s2 : Vm.Sz d2 23 := Vm.sz_each hsz (j := 2) rfl rfl
  obtain ⟨bb, off, a, hA2, hm2, hcap, hscr, hel⟩ := (show ∃ bb off a, (0 < len2 → a2 = some ⟨bb, off, none⟩) ∧ len2 ≤ cap2 ∧ cap2 ≤ maxLen ∧ Vm.Scr W bb off len2 a ∧ ∀ i, i < len2 → (By.RB W (.slice (a i).ka (a i).kn (a i).kc) (a i).kn (Ae.cb (a i).fk) ∧ (a i).kn ≤ 140737488351232) ∧ (By.RB W (.slice (a i).da (a i).dn (a i).dc) (a i).dn (Ae.cb (a i).fd) ∧ (a i).dn ≤ 140737488351232) from by
    obtain ⟨fuel, hf⟩ := h2
    exact Vm.openActs hf s2)
  clear hA0 hval0
  refine (Vm.script_walk a0 len0 cap0 _ a1 len1 cap1 _ a2 bb off len2 cap2 hA2 a W (Vm.kt_of_laid hL) (fun V hV => (Vm.rb_kf rp0).below hV) (fun V hV => (Vm.rb_kf rp1).below hV) lp0 lp1 (fun V hV => Vm.scr_below hscr hV) hm2 hcap (fun i hi => ⟨(hel i hi).1.2, (hel i hi).2.2⟩) (fun i hi V hV => ⟨(hel i hi).1.1.below hV, (hel i hi).2.1.below hV⟩)).mono fun e W' ⟨he, bel⟩ => ?_
  subst he
  exact ⟨_, rfl, _, _, _, [], _, [], hW', trodAll_mk1 (shut_bool Tryd.underlying4 _), (trodAll_cons_mk (Below.trod laidOut (by kernel_rfl) (of_decide_eq_true (by kernel_rfl)) k0 bel lt0) (trodAll_cons_mk (Below.trod laidOut (by kernel_rfl) (of_decide_eq_true (by kernel_rfl)) k1 bel lt1) (trodAll_cons_mk (Below.trod laidOut (by kernel_rfl) (of_decide_eq_true (by kernel_rfl)) k2 bel lt2) trodAll_mk0))), rfl, bel.frame _, fun h => by cases h⟩

theorem over : Rows.cmacScriptRow.holds Tryd.pinned (OpenSpec.ofChange Rows.cmacScriptSpec) :=
  OpenClaim.holds_of_wide 3 Tryd.f3 rfl rfl rfl rfl rfl rfl rfl ⟨rfl, rfl, rfl, rfl, rfl⟩ rfl rfl rfl rfl rfl (by kernel_rfl) Tryd.func3 (by kernel_rfl)
    (of_decide_eq_true (by kernel_rfl)) (by unfold Func.isWrapper; first | (rw [if_pos (by decide +kernel)]; kernel_rfl) | (rw [if_neg (by decide +kernel)]; exact ⟨rfl, rfl⟩))
    (fun os started H enc _ => lifted os started H enc)

theorem proved : Rows.CmacScriptSaid := over
end Go.Proofs.YtbgdjjfonmoemaaDoor.cmacScript
namespace Go.Proofs.YtbgdjjfonmoemaaDoor
theorem cmacScript_card : Rows.CmacScriptCardSaid :=
  Claim7.holds_tied_plain_at .later [] [.data] true (true, "d9c13091ae9ab04f8394d848772d8e95ec4e1cdf30231a7f6cd7e19e719f7b93") false
    cmacScript.proved (fun _ h => by cases h) (by kernel_rfl) (fun _ h => by cases h) cmacScript_row_tie rfl ⟨rfl, rfl⟩ (by kernel_rfl) rfl
    (fun f fn hf hfn => by
      obtain rfl : f = 3 := Option.some.inj ((show Tryd.prog.funcNamed "turnkey/turnkeylaw13.CmacScript" = some 3 by kernel_rfl).symm.trans hf) |>.symm
      obtain rfl : fn = Tryd.f3 := (Option.some.inj (Tryd.func3.symm.trans hfn)).symm
      exact ⟨by kernel_rfl, fun j t ht => by
        rw [Tryd.params3] at ht
        match j, ht with
        | 0, ht =>
          obtain rfl : t = 22 := by simpa using ht.symm
          exact (show Tryd.prog.wantsStandIn 22 = false by kernel_rfl)
        | 1, ht =>
          obtain rfl : t = 22 := by simpa using ht.symm
          exact (show Tryd.prog.wantsStandIn 22 = false by kernel_rfl)
        | 2, ht =>
          obtain rfl : t = 23 := by simpa using ht.symm
          exact (show Tryd.prog.wantsStandIn 23 = false by kernel_rfl)
        | j + 3, ht => simp at ht⟩)
    (by kernel_rfl)
#print axioms cmacScript_card
end Go.Proofs.YtbgdjjfonmoemaaDoor
