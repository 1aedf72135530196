/- SlotLast answers true for every list of puts, every list of wipes and every other bytes: a memory has what was put last, then noughts. -/
import Derived.Test.YthoklddoeoedgaaSarg
import Derived.SizedLaws
import Derived.Test.YthoklddoeoedgaaRows
import Derived.WalkKit
import Derived.ProofKit
import Derived.OpenShut
import Derived.ShutString
import Derived.ChangeOld
import Derived.Below
namespace Go.Proofs.Ythoklddoeoedgaa.slotLast
open Go.ChangeShapes Go.WideShapes Go.ChangeAt Go.RowKit
open Go.ChangeMaps (open_string shut_string)
set_option linter.unusedVariables false

theorem own : ownKnob Try.prog.godebug = none := by kernel_rfl
theorem laidOut : laidOutB Try.prog = true := by kernel_rfl
set_option maxRecDepth 100000 in
theorem lifted (os : Os) (started : os.Started) (H : Type) (enc : TypeId × Value → H) :
    ReturnsInHanded {} Try.checked os 6 .any (Rows.slotLastSpec.pre6 enc Try.prog Try.f6 Rows.slotLastRow.domain false) (Rows.slotLastSpec.post enc Try.prog Try.f6 false true false false) := by
  refine returnsInHanded_of_change_sized (C := Try.checked) own started (by kernel_rfl) Try.func6
    (ChangeSpec.witness6 (enc := enc) (C := Try.checked) false ⟨#[], #[.slice none 0 0, .slice none 0 0, .slice none 0 0], []⟩ 8 (by kernel_rfl) (by kernel_rfl) (by kernel_rfl) (by kernel_rfl)) ?_
  intro W base args ds gs before hval0 hW hcnd hsz0 _
  have hsz : (DataW.weightsEach Try.prog (Try.f6.params.toList ++ Rows.slotLastSpec.plain.varTypes Try.prog) (ds ++ gs)).all (· ≤ reachBytes) = true := hsz0
  clear hsz0
  have hval : ∀ (j : Nat) t v, Try.f6.params[j]? = some t → args[j]? = some v → Value.okWide Try.prog W .any base t v := hval0
  have hW' := hW
  obtain ⟨p, q, hA0, hV, rfl, hfz, hnd⟩ := hW
  have hA : DataW.TrodAll enc Try.prog W 0 (fun _ => true) true Try.f6.params.toList args.toList ds p := hA0
  rw [Try.params6] at hA hval hsz
  obtain ⟨v0, vs0, d0, ds0, p0, q0, hargs, rfl, rfl, h0, r0⟩ := trodAll_cons hA
  obtain ⟨v1, vs1, d1, ds1, p1, q1, rfl, rfl, rfl, h1, r1⟩ := trodAll_cons r0
  obtain ⟨v2, vs2, d2, ds2, p2, q2, rfl, rfl, rfl, h2, r2⟩ := trodAll_cons r1
  obtain ⟨rfl, rfl, rfl⟩ := trodAll_nil r2
  obtain rfl : args = #[v0, v1, v2] := by cases args; simp_all
  obtain ⟨rfl, rfl⟩ := trodVars_none hV
  obtain ⟨a0, len0, cap0, rfl⟩ := okWide_slice Try.underlying40 (hval 0 40 v0 rfl rfl)
  have k0 := h0
  have lt0 : ∀ x ∈ p0, x.block < W.heap.size := by obtain ⟨m, hm⟩ := k0; exact DataW.trod_lt m _ _ _ hm
  have s0 : Sl.Sz d0 40 := Sl.sz_each hsz (j := 0) rfl rfl
  obtain ⟨pv0, pn0, pf0, al0, le0⟩ := (show ∃ pv pn pf, Sl.AL W a0 len0 pv pn pf ∧ len0 ≤ 140737488355328 from by
    obtain ⟨fuel, hf⟩ := h0
    exact Sl.openLists hf s0)
  obtain ⟨a1, len1, cap1, rfl⟩ := okWide_slice Try.underlying67 (hval 1 67 v1 rfl rfl)
  have k1 := h1
  have lt1 : ∀ x ∈ p1, x.block < W.heap.size := by obtain ⟨m, hm⟩ := k1; exact DataW.trod_lt m _ _ _ hm
  have s1 : Sl.Sz d1 67 := Sl.sz_each hsz (j := 1) rfl rfl
  obtain ⟨bv1, at1⟩ := (show ∃ bv, Sl.AT W a1 len1 bv from by
    obtain ⟨fuel, hf⟩ := h1
    exact Sl.openBools hf)
  obtain ⟨a2, len2, cap2, rfl⟩ := okWide_slice Try.underlying36 (hval 2 36 v2 rfl rfl)
  have k2 := h2
  have lt2 : ∀ x ∈ p2, x.block < W.heap.size := by obtain ⟨m, hm⟩ := k2; exact DataW.trod_lt m _ _ _ hm
  have s2 : Sl.Sz d2 36 := Sl.sz_each hsz (j := 2) rfl rfl
  obtain ⟨pa2, pn2, pc2, g2, ec2, rp2, lp2⟩ := (show ∃ pa pn pc g, Value.slice a2 len2 cap2 = .slice pa pn pc ∧ By.RB W (.slice pa pn pc) pn g ∧ pn ≤ 140737488355328 from by
    obtain ⟨fuel, hf⟩ := h2
    exact Sl.open_p hf s2)
  simp only [Value.slice.injEq] at ec2
  obtain ⟨rfl, rfl, rfl⟩ := ec2
  clear hA0 hval0
  refine (Sl.last_w a0 a1 a2 len0 cap0 len1 cap1 len2 cap2 pv0 pn0 pf0 bv1 g2 W (fun V hV => Sl.al_below al0 hV) (fun V hV => Sl.at_below at1 hV) (fun V hV => rp2.below hV) le0).mono fun e W' ⟨he, bel⟩ => ?_
  subst he
  exact ⟨_, rfl, _, _, _, [], _, [], hW', trodAll_mk1 (shut_bool Try.underlying4 _), (trodAll_cons_mk (Below.trod laidOut (by kernel_rfl) (of_decide_eq_true (by kernel_rfl)) k0 bel lt0) (trodAll_cons_mk (Below.trod laidOut (by kernel_rfl) (of_decide_eq_true (by kernel_rfl)) k1 bel lt1) (trodAll_cons_mk (Below.trod laidOut (by kernel_rfl) (of_decide_eq_true (by kernel_rfl)) k2 bel lt2) trodAll_mk0))), rfl, bel.frame _, fun h => by cases h⟩

theorem over : Rows.slotLastRow.holds Try.pinned (OpenSpec.ofChange Rows.slotLastSpec) :=
  OpenClaim.holds_of_wide 6 Try.f6 rfl rfl rfl rfl rfl rfl rfl ⟨rfl, rfl, rfl, rfl, rfl⟩ rfl rfl rfl rfl rfl (by kernel_rfl) Try.func6 (by kernel_rfl)
    (of_decide_eq_true (by kernel_rfl)) (by unfold Func.isWrapper; first | (rw [if_pos (by decide +kernel)]; kernel_rfl) | (rw [if_neg (by decide +kernel)]; exact ⟨rfl, rfl⟩))
    (fun os started H enc _ => lifted os started H enc)

theorem proved : Rows.SlotLastSaid := over
end Go.Proofs.Ythoklddoeoedgaa.slotLast
namespace Go.Proofs.Ythoklddoeoedgaa
theorem slotLast_holds : Rows.SlotLastSaid := slotLast.proved
#print axioms slotLast_holds
end Go.Proofs.Ythoklddoeoedgaa
