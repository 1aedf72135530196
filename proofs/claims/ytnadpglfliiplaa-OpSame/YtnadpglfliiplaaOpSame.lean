/- OpSame answers true for every two operations: Same tells whether all fields are the same. -/
import Derived.Test.YtnadpglfliiplaaUws
import Derived.Test.YtnadpglfliiplaaUopn
import Derived.SizedLaws
import Derived.Test.YtnadpglfliiplaaRows
import Derived.WalkKit
import Derived.ProofKit
import Derived.OpenShut
import Derived.ShutString
import Derived.ChangeOld
import Derived.Below
namespace Go.Proofs.Ytnadpglfliiplaa.opSame
open Go.ChangeShapes Go.WideShapes Go.ChangeAt Go.RowKit
open Go.ChangeMaps (open_string shut_string)
set_option linter.unusedVariables false

theorem own : ownKnob Try.prog.godebug = none := by kernel_rfl
theorem laidOut : laidOutB Try.prog = true := by kernel_rfl
set_option maxRecDepth 100000 in
theorem lifted (os : Os) (started : os.Started) (H : Type) (enc : TypeId × Value → H) :
    ReturnsInHanded {} Try.checked os 4 .any (Rows.opSameSpec.pre6 enc Try.prog Try.f4 Rows.opSameRow.domain false) (Rows.opSameSpec.post enc Try.prog Try.f4 false true false false) := by
  refine returnsInHanded_of_change_sized (C := Try.checked) own started (by kernel_rfl) Try.func4
    (ChangeSpec.witness6 (enc := enc) (C := Try.checked) false ⟨#[], #[.agg #[.int .u8 0, .int .i64 0, .int .u8 0, .int .i64 0, .int .i64 0, .slice none 0 0, .slice none 0 0], .agg #[.int .u8 0, .int .i64 0, .int .u8 0, .int .i64 0, .int .i64 0, .slice none 0 0, .slice none 0 0]], []⟩ 8 (by kernel_rfl) (by kernel_rfl) (by kernel_rfl) (by kernel_rfl)) ?_
  intro W base args ds gs before hval0 hW hcnd hsz0 _
  have hsz : (DataW.weightsEach Try.prog (Try.f4.params.toList ++ Rows.opSameSpec.plain.varTypes Try.prog) (ds ++ gs)).all (· ≤ reachBytes) = true := hsz0
  clear hsz0
  have hval : ∀ (j : Nat) t v, Try.f4.params[j]? = some t → args[j]? = some v → Value.okWide Try.prog W .any base t v := hval0
  have hW' := hW
  obtain ⟨p, q, hA0, hV, rfl, hfz, hnd⟩ := hW
  have hA : DataW.TrodAll enc Try.prog W 0 (fun _ => true) true Try.f4.params.toList args.toList ds p := hA0
  rw [Try.params4] at hA hval hsz
  obtain ⟨v0, vs0, d0, ds0, p0, q0, hargs, rfl, rfl, h0, r0⟩ := trodAll_cons hA
  obtain ⟨v1, vs1, d1, ds1, p1, q1, rfl, rfl, rfl, h1, r1⟩ := trodAll_cons r0
  obtain ⟨rfl, rfl, rfl⟩ := trodAll_nil r1
  obtain rfl : args = #[v0, v1] := by cases args; simp_all
  obtain ⟨rfl, rfl⟩ := trodVars_none hV
  obtain ⟨cs0, rfl, hz0⟩ := okWide_struct Try.underlying26 (hval 0 26 v0 rfl rfl)
  have k0 := h0
  have lt0 : ∀ x ∈ p0, x.block < W.heap.size := by obtain ⟨m, hm⟩ := k0; exact DataW.trod_lt m _ _ _ hm
  have s0 : Ou.Sz d0 26 := Ou.sz_each hsz (j := 0) rfl rfl
  obtain ⟨q0, ok0, e0⟩ := (show ∃ y : Ou.OE, y.Ok W ∧ cs0.toList = [.int .u8 y.q.k, .int .i64 y.q.h, .int .u8 y.q.a, .int .i64 y.q.c, .int .i64 y.q.o, .slice y.da y.dn y.dc, .slice y.ma y.mn y.mc] from by
    obtain ⟨fuel, hf⟩ := h0
    exact Ou.open_op hf s0)
  obtain rfl : cs0 = #[.int .u8 q0.q.k, .int .i64 q0.q.h, .int .u8 q0.q.a, .int .i64 q0.q.c, .int .i64 q0.q.o, .slice q0.da q0.dn q0.dc, .slice q0.ma q0.mn q0.mc] := Array.toList_inj.1 e0
  obtain ⟨cs1, rfl, hz1⟩ := okWide_struct Try.underlying26 (hval 1 26 v1 rfl rfl)
  have k1 := h1
  have lt1 : ∀ x ∈ p1, x.block < W.heap.size := by obtain ⟨m, hm⟩ := k1; exact DataW.trod_lt m _ _ _ hm
  have s1 : Ou.Sz d1 26 := Ou.sz_each hsz (j := 1) rfl rfl
  obtain ⟨q1, ok1, e1⟩ := (show ∃ y : Ou.OE, y.Ok W ∧ cs1.toList = [.int .u8 y.q.k, .int .i64 y.q.h, .int .u8 y.q.a, .int .i64 y.q.c, .int .i64 y.q.o, .slice y.da y.dn y.dc, .slice y.ma y.mn y.mc] from by
    obtain ⟨fuel, hf⟩ := h1
    exact Ou.open_op hf s1)
  obtain rfl : cs1 = #[.int .u8 q1.q.k, .int .i64 q1.q.h, .int .u8 q1.q.a, .int .i64 q1.q.c, .int .i64 q1.q.o, .slice q1.da q1.dn q1.dc, .slice q1.ma q1.mn q1.mc] := Array.toList_inj.1 e1
  clear hA0 hval0
  refine (Ou.same_w q0.q q1.q _ _ _ _ q0.dn q1.dn q0.mn q1.mn q0.f q1.f q0.g q1.g W ok0.rd ok1.rd ok0.rm ok1.rm ok0.ld ok1.ld ok0.lm ok1.lm).mono fun e W' ⟨he, bel⟩ => ?_
  subst he
  exact ⟨_, rfl, _, _, _, [], _, [], hW', trodAll_mk1 (shut_bool Try.underlying4 _), (trodAll_cons_mk (Below.trod laidOut (by kernel_rfl) (of_decide_eq_true (by kernel_rfl)) k0 bel lt0) (trodAll_cons_mk (Below.trod laidOut (by kernel_rfl) (of_decide_eq_true (by kernel_rfl)) k1 bel lt1) trodAll_mk0)), rfl, bel.frame _, fun h => by cases h⟩

theorem over : Rows.opSameRow.holds Try.pinned (OpenSpec.ofChange Rows.opSameSpec) :=
  OpenClaim.holds_of_wide 4 Try.f4 rfl rfl rfl rfl rfl rfl rfl ⟨rfl, rfl, rfl, rfl, rfl⟩ rfl rfl rfl rfl rfl (by kernel_rfl) Try.func4 (by kernel_rfl)
    (of_decide_eq_true (by kernel_rfl)) (by unfold Func.isWrapper; first | (rw [if_pos (by decide +kernel)]; kernel_rfl) | (rw [if_neg (by decide +kernel)]; exact ⟨rfl, rfl⟩))
    (fun os started H enc _ => lifted os started H enc)

theorem proved : Rows.OpSameSaid := over
end Go.Proofs.Ytnadpglfliiplaa.opSame
namespace Go.Proofs.Ytnadpglfliiplaa
theorem opSame_holds : Rows.OpSameSaid := opSame.proved
#print axioms opSame_holds
end Go.Proofs.Ytnadpglfliiplaa
