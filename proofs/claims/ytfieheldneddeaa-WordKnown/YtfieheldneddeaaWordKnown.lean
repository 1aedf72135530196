/- WordKnown: the document's examples hold of the code; a closed statement, no condition. -/
import Derived.Test.YtfieheldneddeaaAwake
import Derived.Test.YtfieheldneddeaaRows
import Derived.WalkKit
import Derived.ProofKit
import Derived.OpenShut
import Derived.ShutString
import Derived.ChangeOld
import Derived.Below
namespace Go.Proofs.Ytfieheldneddeaa.wordKnown
open Go.ChangeShapes Go.WideShapes Go.ChangeAt Go.RowKit
open Go.ChangeMaps (open_string shut_string)
set_option linter.unusedVariables false      -- a walk need not use every 'w<i>' (that an integer argument fits its kind)

theorem own : ownKnob Try.prog.godebug = none := by kernel_rfl

/-! ### STEP 1: THE WALK: the Go text returns true. 'Grown w w'': the world has at most new blocks (Derived/RowKit3.lean). Part the cases AHEAD of 'go_enter' where a test parts the walk; take each callee by a contract of your own. -/
set_option maxHeartbeats 1000000 in
theorem walk  (w : World) :
    Calls Try.prog 8 #[] w fun e w' => e = .returned (.bool true) ∧ Below w.heap.size w w' := by
  have S0 : Hid (RB (w.alloc (.cells #[.int .u8 1, .int .u8 2, .int .u8 3, .int .u8 4, .int .u8 5] 5)) (.slice (some ⟨w.heap.size, 0, none⟩) 5 5) 5 five) := rb_lit w _ 5 five five_bound (by simp [maxLen]) rfl five_cells
  go_enter Try.func8, Try.ntmps8
  go_wp2_with fail
  refine (turn9 _ _ _ (by omega) (by omega)).mono ?_
  rw [show Rot 32 2147483649 33 = 3 from by decide +kernel]
  rintro e w' ⟨rfl, k1, rfl⟩
  go_wp2_with fail
  refine (turn9 _ _ _ (by omega) (by omega)).mono ?_
  rw [show Rot 32 2147483649 (-1) = 3221225472 from by decide +kernel]
  rintro e w' ⟨rfl, k2, rfl⟩
  go_wp2_with fail
  refine (turn9 _ _ _ (by omega) (by omega)).mono ?_
  rw [show Rot 32 2147483649 32 = 2147483649 from by decide +kernel]
  rintro e w' ⟨rfl, k3, rfl⟩
  go_wp2_with fail
  refine (turn12 _ _ _ (by omega) (by omega)).mono ?_
  rw [show Rot 64 1 63 = 9223372036854775808 from by decide +kernel]
  rintro e w' ⟨rfl, k4, rfl⟩
  go_wp2_with fail
  refine (turn12 _ _ _ (by omega) (by omega)).mono ?_
  rw [show Rot 64 1 (-9223372036854775808) = 1 from by decide +kernel]
  rintro e w' ⟨rfl, k5, rfl⟩
  go_wp2_with fail
  refine (take36 _ 5 five _ _ (RB.drewN S0.out _) (by omega) (by omega) (by omega)).mono ?_
  rw [show BE (fun i => Byt five 5 (3 + i)) 4 = 67436544 from by decide +kernel]
  rintro e w' ⟨rfl, rfl⟩
  go_wp2_with fail
  refine (take36 _ 5 five _ _ (RB.drewN S0.out _) (by omega) (by omega) (by omega)).mono ?_
  rw [show BE (fun i => Byt five 5 (5 + i)) 4 = 0 from by decide +kernel]
  rintro e w' ⟨rfl, rfl⟩
  go_wp2_with fail
  refine (take34 _ 5 five _ _ (RB.drewN S0.out _) (by omega) (by omega) (by omega)).mono ?_
  rw [show BE (fun i => Byt five 5 (0 + i)) 8 = 72623859789987840 from by decide +kernel]
  rintro e w' ⟨rfl, rfl⟩
  go_wp2_with fail
  refine (take37 _ 5 five _ _ (RB.drewN S0.out _) (by omega) (by omega) (by omega)).mono ?_
  rw [show LE (fun i => Byt five 5 (3 + i)) 4 = 1284 from by decide +kernel]
  rintro e w' ⟨rfl, rfl⟩
  go_wp2_with fail
  refine (take34 _ 5 five _ _ (RB.drewN S0.out _) (by omega) (by omega) (by omega)).mono ?_
  rw [show BE (fun i => Byt five 5 (9223372036854775807 + i)) 8 = 0 from by decide +kernel]
  rintro e w' ⟨rfl, rfl⟩
  go_wp2_with fail
  refine (take34 _ 5 five _ _ (RB.drewN S0.out _) (by omega) (by omega) (by omega)).mono ?_
  rw [show BE (fun i => Byt five 5 (-9223372036854775808 + i)) 8 = 0 from by decide +kernel]
  rintro e w' ⟨rfl, rfl⟩
  go_wp2_with fail
  refine (take35 _ 5 five _ _ (RB.drewN S0.out _) (by omega) (by omega) (by omega)).mono ?_
  rw [show LE (fun i => Byt five 5 (9223372036854775805 + i)) 8 = 0 from by decide +kernel]
  rintro e w' ⟨rfl, rfl⟩
  go_wp2_with fail
  refine (lay21 _ _ (by omega) (by omega)).mono ?_
  rintro e w1 ⟨v1, rfl, ho1, hb1⟩
  have B0 : Hid (Below w.heap.size w w1) := (Below.drewN' ((Below.refl w.heap.size w).alloc (Nat.le_refl _) _) _).trans (hb1.mono (by simp))
  have O1 : Hid (RB w1 v1 4 (leByte 16909060)) := ho1.reads
  clear ho1 hb1 S0
  go_wp2_with fail
  refine (same_true _ _ 4 _ (leByte 16909060) _ (RB.alloc O1.out _) (rb_lit w1 _ 4 (leByte 16909060) (leByte_bound _) (by simp [maxLen]) rfl (by kernel_rfl)) (by omega) (fun _ _ => rfl)).mono ?_
  rintro e w' ⟨rfl, k6, rfl⟩
  clear O1
  go_wp2_with fail
  refine (xor32 _ _ 0 1 (lst []) (lst [7]) _ ?xa ?xb (by omega) (by omega)).mono ?_
  case xa => exact ⟨lst_bound _ rfl, none, 0, rfl, Nat.le_refl _, by simp [maxLen], .inl ⟨rfl, fun _ => rfl⟩⟩
  case xb =>
    refine rb_lit' _ _ _ 1 (lst [7]) ?_ (lst_bound _ rfl) (by simp [maxLen]) rfl (by kernel_rfl)
    simp
  rintro e w2 ⟨v2, rfl, ho2, hb2⟩
  have B1 : Hid (Below w.heap.size w w2) := (below_alloc (Below.drewN' (below_alloc B0.out rfl _) _) rfl _).trans (hb2.mono (by have := B0.out.size; simp; omega))
  have hv : ∃ a c, v2 = .slice a 0 c := by
    obtain ⟨_, a, c, h, _⟩ := ho2.reads
    exact ⟨a, c, h⟩
  obtain ⟨a, c, hv⟩ := hv
  clear ho2 hb2 B0
  rw [hv]
  go_wp2_with fail
  refine (awake33 _).mono ?_
  rintro e w3 ⟨rfl, hb3⟩
  have B2 : Hid (Below w.heap.size w w3) := B1.out.trans (hb3.mono B1.out.size)
  clear hb3
  go_wp2
  go_ret
  exact ⟨rfl, B2.out⟩

/-! ### THE ROW's STEP: WRITTEN OUT: LEAVE IT -/
set_option maxRecDepth 100000 in
theorem lifted (os : Os) (started : os.Started) (H : Type) (enc : TypeId × Value → H) :
    ReturnsInHanded {} Try.checked os 8 .any (Rows.wordKnownSpec.pre6 enc Try.prog Try.f8 Rows.wordKnownRow.domain false) (Rows.wordKnownSpec.post enc Try.prog Try.f8 false true false false) := by
  refine returnsInHanded_of_change (C := Try.checked) own started (by kernel_rfl) Try.func8
    (ChangeSpec.witness6 (enc := enc) (C := Try.checked) false ⟨#[], #[], []⟩ 8 (by kernel_rfl) (by kernel_rfl) (by kernel_rfl) (by kernel_rfl)) ?_
  intro W base args ds gs before hval0 hW hcnd _
  have hval : ∀ (j : Nat) t v, Try.f8.params[j]? = some t → args[j]? = some v → Value.okWide Try.prog W .any base t v := hval0
  have hW' := hW
  obtain ⟨p, q, hA0, hV, rfl, hfz, hnd⟩ := hW
  have hA : DataW.TrodAll enc Try.prog W 0 (fun _ => true) true Try.f8.params.toList args.toList ds p := hA0
  rw [Try.params8] at hA hval
  obtain ⟨rfl, rfl, rfl⟩ := trodAll_none hA
  obtain ⟨rfl, rfl⟩ := trodVars_none hV
  clear hA0 hval0
  refine (walk  W).mono fun e W' ⟨he, hg⟩ => ?_
  subst he
  exact ⟨_, rfl, _, _, _, [], _, [], hW', trodAll_mk1 (shut_bool Try.underlying4 _), trodAll_mk0, rfl, hg.frame _, fun h => by cases h⟩

theorem over : Rows.wordKnownRow.holds Try.pinned (OpenSpec.ofChange Rows.wordKnownSpec) :=
  OpenClaim.holds_of_wide 8 Try.f8 rfl rfl rfl rfl rfl rfl rfl ⟨rfl, rfl, rfl, rfl, rfl⟩ rfl rfl rfl rfl rfl (by kernel_rfl) Try.func8 (by kernel_rfl)
    (of_decide_eq_true (by kernel_rfl)) (by unfold Func.isWrapper; first | (rw [if_pos (by decide +kernel)]; kernel_rfl) | (rw [if_neg (by decide +kernel)]; exact ⟨rfl, rfl⟩))
    (fun os started H enc _ => lifted os started H enc)

/-- ████ THE STATEMENT ████ -/
theorem proved : Rows.WordKnownSaid :=
  over
end Go.Proofs.Ytfieheldneddeaa.wordKnown
namespace Go.Proofs.Ytfieheldneddeaa
theorem wordKnown_holds : Rows.WordKnownSaid := wordKnown.proved
#print axioms wordKnown_holds
end Go.Proofs.Ytfieheldneddeaa
