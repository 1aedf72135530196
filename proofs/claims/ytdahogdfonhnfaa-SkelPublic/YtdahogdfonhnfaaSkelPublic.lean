/- SkelPublic answers true for every operation, byte and skeleton: the skeleton is all but the bytes. -/
import Derived.Test.YtdahogdfonhnfaaVwp
import Derived.Test.YtdahogdfonhnfaaVopn
import Derived.SizedLaws
import Derived.Test.YtdahogdfonhnfaaRows
import Derived.WalkKit
import Derived.ProofKit
import Derived.OpenShut
import Derived.ShutString
import Derived.ChangeOld
import Derived.Below
namespace Go.Proofs.Ytdahogdfonhnfaa.skelPublic
open Go.ChangeShapes Go.WideShapes Go.ChangeAt Go.RowKit
open Go.ChangeMaps (open_string shut_string)
set_option linter.unusedVariables false

theorem own : ownKnob Try.prog.godebug = none := by kernel_rfl
theorem laidOut : laidOutB Try.prog = true := by kernel_rfl
set_option maxRecDepth 100000 in
theorem lifted (os : Os) (started : os.Started) (H : Type) (enc : TypeId × Value → H) :
    ReturnsInHanded {} Try.checked os 7 .any (Rows.skelPublicSpec.pre6 enc Try.prog Try.f7 Rows.skelPublicRow.domain false) (Rows.skelPublicSpec.post enc Try.prog Try.f7 false true false false) := by
  refine returnsInHanded_of_change_sized (C := Try.checked) own started (by kernel_rfl) Try.func7
    (ChangeSpec.witness6 (enc := enc) (C := Try.checked) false ⟨#[], #[.agg #[.int .u8 0, .int .i64 0, .int .u8 0, .int .i64 0, .int .i64 0, .slice none 0 0, .slice none 0 0], .int .u8 0, .agg #[.int .u8 0, .int .i64 0, .int .u8 0, .int .i64 0, .int .i64 0, .int .i64 0, .int .i64 0]], []⟩ 8 (by kernel_rfl) (by kernel_rfl) (by kernel_rfl) (by kernel_rfl)) ?_
  intro W base args ds gs before hval0 hW hcnd hsz0 _
  have hsz : (DataW.weightsEach Try.prog (Try.f7.params.toList ++ Rows.skelPublicSpec.plain.varTypes Try.prog) (ds ++ gs)).all (· ≤ reachBytes) = true := hsz0
  clear hsz0
  have hval : ∀ (j : Nat) t v, Try.f7.params[j]? = some t → args[j]? = some v → Value.okWide Try.prog W .any base t v := hval0
  have hW' := hW
  obtain ⟨p, q, hA0, hV, rfl, hfz, hnd⟩ := hW
  have hA : DataW.TrodAll enc Try.prog W 0 (fun _ => true) true Try.f7.params.toList args.toList ds p := hA0
  rw [Try.params7] at hA hval hsz
  obtain ⟨v0, vs0, d0, ds0, p0, q0, hargs, rfl, rfl, h0, r0⟩ := trodAll_cons hA
  obtain ⟨v1, vs1, d1, ds1, p1, q1, rfl, rfl, rfl, h1, r1⟩ := trodAll_cons r0
  obtain ⟨v2, vs2, d2, ds2, p2, q2, rfl, rfl, rfl, h2, r2⟩ := trodAll_cons r1
  obtain ⟨rfl, rfl, rfl⟩ := trodAll_nil r2
  obtain rfl : args = #[v0, v1, v2] := by cases args; simp_all
  obtain ⟨rfl, rfl⟩ := trodVars_none hV
  obtain ⟨cs0, rfl, hz0⟩ := okWide_struct Try.underlying28 (hval 0 28 v0 rfl rfl)
  have k0 := h0
  have lt0 : ∀ x ∈ p0, x.block < W.heap.size := by obtain ⟨m, hm⟩ := k0; exact DataW.trod_lt m _ _ _ hm
  have s0 : Ou.Sz d0 28 := Ou.sz_each hsz (j := 0) rfl rfl
  obtain ⟨q0, ok0, e0⟩ := (show ∃ y : Ou.OE, y.Ok W ∧ cs0.toList = [.int .u8 y.q.k, .int .i64 y.q.h, .int .u8 y.q.a, .int .i64 y.q.c, .int .i64 y.q.o, .slice y.da y.dn y.dc, .slice y.ma y.mn y.mc] from by
    obtain ⟨fuel, hf⟩ := h0
    exact Ou.open_op hf s0)
  obtain rfl : cs0 = #[.int .u8 q0.q.k, .int .i64 q0.q.h, .int .u8 q0.q.a, .int .i64 q0.q.c, .int .i64 q0.q.o, .slice q0.da q0.dn q0.dc, .slice q0.ma q0.mn q0.mc] := Array.toList_inj.1 e0
  obtain ⟨a1, rfl, rfl, rfl, w1⟩ := open_int Try.underlying5 (hval 1 5 v1 rfl rfl) h1
  have wb1 := Ou.wf_u8 w1
  obtain ⟨cs2, rfl, hz2⟩ := okWide_struct Try.underlying33 (hval 2 33 v2 rfl rfl)
  have k2 := h2
  have lt2 : ∀ x ∈ p2, x.block < W.heap.size := by obtain ⟨m, hm⟩ := k2; exact DataW.trod_lt m _ _ _ hm
  obtain ⟨q2, ok2, e2⟩ := (show ∃ y : Ou.Sk, y.Ok ∧ cs2.toList = Ou.sL y from by
    obtain ⟨fuel, hf⟩ := h2
    exact Ou.open_sk hf)
  obtain rfl : cs2 = (Ou.sL q2).toArray := Array.toList_inj.1 e2
  clear hA0 hval0
  refine (Ou.public_w q0 a1 q2 W ok0 wb1).mono fun e W' ⟨he, bel⟩ => ?_
  subst he
  exact ⟨_, rfl, _, _, _, [], _, [], hW', trodAll_mk1 (shut_bool Try.underlying4 _), (trodAll_cons_mk (Below.trod laidOut (by kernel_rfl) (of_decide_eq_true (by kernel_rfl)) k0 bel lt0) (trodAll_cons_mk (shut_int Try.underlying5 w1) (trodAll_cons_mk (Below.trod laidOut (by kernel_rfl) (of_decide_eq_true (by kernel_rfl)) k2 bel lt2) trodAll_mk0))), rfl, bel.frame _, fun h => by cases h⟩

theorem over : Rows.skelPublicRow.holds Try.pinned (OpenSpec.ofChange Rows.skelPublicSpec) :=
  OpenClaim.holds_of_wide 7 Try.f7 rfl rfl rfl rfl rfl rfl rfl ⟨rfl, rfl, rfl, rfl, rfl⟩ rfl rfl rfl rfl rfl (by kernel_rfl) Try.func7 (by kernel_rfl)
    (of_decide_eq_true (by kernel_rfl)) (by unfold Func.isWrapper; first | (rw [if_pos (by decide +kernel)]; kernel_rfl) | (rw [if_neg (by decide +kernel)]; exact ⟨rfl, rfl⟩))
    (fun os started H enc _ => lifted os started H enc)

theorem proved : Rows.SkelPublicSaid := over
end Go.Proofs.Ytdahogdfonhnfaa.skelPublic
namespace Go.Proofs.Ytdahogdfonhnfaa
theorem skelPublic_holds : Rows.SkelPublicSaid := skelPublic.proved
#print axioms skelPublic_holds
end Go.Proofs.Ytdahogdfonhnfaa
