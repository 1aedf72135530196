/- NaiveCalls answers true for whatever is asked: all five functions answer and record what the document's answer and record. -/
import Derived.Test.YtpcnkiapbkmjbaaNwa
import Derived.SizedLaws
import Derived.Test.YtpcnkiapbkmjbaaRows
import Derived.WalkKit
import Derived.ProofKit
import Derived.OpenShut
import Derived.ShutString
import Derived.ChangeOld
import Derived.Below
namespace Go.Proofs.Ytpcnkiapbkmjbaa.naiveCalls
open Go.ChangeShapes Go.WideShapes Go.ChangeAt Go.RowKit
open Go.ChangeMaps (open_string shut_string)
set_option linter.unusedVariables false

theorem own : ownKnob Try.prog.godebug = none := by kernel_rfl
theorem laidOut : laidOutB Try.prog = true := by kernel_rfl
set_option maxRecDepth 100000 in
theorem lifted (os : Os) (started : os.Started) (H : Type) (enc : TypeId × Value → H) :
    ReturnsInHanded {} Try.checked os 3 .any (Rows.naiveCallsSpec.pre6 enc Try.prog Try.f3 Rows.naiveCallsRow.domain false) (Rows.naiveCallsSpec.post enc Try.prog Try.f3 false true false false) := by
  refine returnsInHanded_of_change_sized (C := Try.checked) own started (by kernel_rfl) Try.func3
    (ChangeSpec.witness6 (enc := enc) (C := Try.checked) false ⟨#[], #[.agg #[.slice none 0 0, .slice none 0 0, .int .u8 0, .int .u64 0, .int .u64 0, .int .u64 0]], []⟩ 8 (by kernel_rfl) (by kernel_rfl) (by kernel_rfl) (by kernel_rfl)) ?_
  intro W base args ds gs before hval0 hW hcnd hsz0 _
  have hsz : (DataW.weightsEach Try.prog (Try.f3.params.toList ++ Rows.naiveCallsSpec.plain.varTypes Try.prog) (ds ++ gs)).all (· ≤ reachBytes) = true := hsz0
  clear hsz0
  have hval : ∀ (j : Nat) t v, Try.f3.params[j]? = some t → args[j]? = some v → Value.okWide Try.prog W .any base t v := hval0
  have hW' := hW
  obtain ⟨p, q, hA0, hV, rfl, hfz, hnd⟩ := hW
  have hA : DataW.TrodAll enc Try.prog W 0 (fun _ => true) true Try.f3.params.toList args.toList ds p := hA0
  rw [Try.params3] at hA hval hsz
  obtain ⟨v0, vs0, d0, ds0, p0, q0, hargs, rfl, rfl, h0, r0⟩ := trodAll_cons hA
  obtain ⟨rfl, rfl, rfl⟩ := trodAll_nil r0
  obtain rfl : args = #[v0] := by cases args; simp_all
  obtain ⟨rfl, rfl⟩ := trodVars_none hV
  obtain ⟨cs0, rfl, hz0⟩ := okWide_struct Try.underlying25 (hval 0 25 v0 rfl rfl)
  have k0 := h0
  have lt0 : ∀ x ∈ p0, x.block < W.heap.size := by obtain ⟨m, hm⟩ := k0; exact DataW.trod_lt m _ _ _ hm
  have s0 : Nv.Sz d0 25 := Nv.sz_each hsz (j := 0) rfl rfl
  obtain ⟨q0, ok0, e0⟩ := (show ∃ y : Nv.Ask, y.Ok W ∧ cs0.toList = [.slice y.aa y.an y.ac, .slice y.ba y.bn y.bc, .int .u8 (y.x : Int), .int .u64 (y.b : Int), .int .u64 (y.e : Int), .int .u64 (y.m : Int)] from by
    obtain ⟨fuel, hf⟩ := h0
    exact Nv.open_ask hf s0)
  obtain rfl : cs0 = #[.slice q0.aa q0.an q0.ac, .slice q0.ba q0.bn q0.bc, .int .u8 (q0.x : Int), .int .u64 (q0.b : Int), .int .u64 (q0.e : Int), .int .u64 (q0.m : Int)] := Array.toList_inj.1 e0
  clear hA0 hval0
  refine (Nv.calls_law q0 W ok0).mono fun e W' ⟨he, bel⟩ => ?_
  subst he
  exact ⟨_, rfl, _, _, _, [], _, [], hW', trodAll_mk1 (shut_bool Try.underlying4 _), (trodAll_cons_mk (Below.trod laidOut (by kernel_rfl) (of_decide_eq_true (by kernel_rfl)) k0 bel lt0) trodAll_mk0), rfl, bel.frame _, fun h => by cases h⟩

theorem over : Rows.naiveCallsRow.holds Try.pinned (OpenSpec.ofChange Rows.naiveCallsSpec) :=
  OpenClaim.holds_of_wide 3 Try.f3 rfl rfl rfl rfl rfl rfl rfl ⟨rfl, rfl, rfl, rfl, rfl⟩ rfl rfl rfl rfl rfl (by kernel_rfl) Try.func3 (by kernel_rfl)
    (of_decide_eq_true (by kernel_rfl)) (by unfold Func.isWrapper; first | (rw [if_pos (by decide +kernel)]; kernel_rfl) | (rw [if_neg (by decide +kernel)]; exact ⟨rfl, rfl⟩))
    (fun os started H enc _ => lifted os started H enc)

theorem proved : Rows.NaiveCallsSaid := over
end Go.Proofs.Ytpcnkiapbkmjbaa.naiveCalls
namespace Go.Proofs.Ytpcnkiapbkmjbaa
theorem naiveCalls_holds : Rows.NaiveCallsSaid := naiveCalls.proved
#print axioms naiveCalls_holds
end Go.Proofs.Ytpcnkiapbkmjbaa
