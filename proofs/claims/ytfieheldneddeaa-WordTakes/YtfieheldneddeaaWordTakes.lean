/- WordTakes: of every list of bytes and every place the code takes, in four types and either way, the words that the document takes; the list stays as it was; and of the list written over, what stands there then; no condition. -/
import Derived.Test.YtfieheldneddeaaTakes
import Derived.SizedLaws
import Derived.Test.YtfieheldneddeaaRows
import Derived.WalkKit
import Derived.ProofKit
import Derived.OpenShut
import Derived.ShutString
import Derived.ChangeOld
import Derived.Below
namespace Go.Proofs.Ytfieheldneddeaa.wordTakes
open Go.ChangeShapes Go.WideShapes Go.ChangeAt Go.RowKit
open Go.ChangeMaps (open_string shut_string)
set_option linter.unusedVariables false

theorem own : ownKnob Try.prog.godebug = none := by kernel_rfl
theorem laidOut : laidOutB Try.prog = true := by kernel_rfl

/-- WHAT THE WALK IS TOLD OF A SLICE OF INTEGERS THAT CAME IN: it is nil; or it leads to a row of 'cap' cells, the numbers 'zs' (the first 'len' are its elements, the rest its spare room), each fitting its kind. -/
def IsRow (k : IntKind) (w : World) (a : Option Addr) (len cap : Nat) (zs : List Int) : Prop :=
  (a = none ∧ len = 0 ∧ cap = 0 ∧ zs = []) ∨
  ∃ x, a = some x ∧ len ≤ cap ∧ cap ≤ maxLen ∧ zs.length = cap ∧ (∀ i, i < zs.length → w.cell? (x.add i) = some (.int k (zs.getD i 0))) ∧ ∀ n ∈ zs, (Lit.int k n).wf = true

/-! ### STEP 1: THE WALK: the Go text returns true, AND WRITES NOTHING THAT WAS THERE: 'Below w.heap.size w w'' (Derived/Below.lean: '.refl', '.alloc', '.drew', '.setCell' at a new block, '.trans'). Open each 'IsRow' by 'rcases' AHEAD of 'go_enter'; part every test ahead of the walk. -/
set_option maxHeartbeats 2000000 in
theorem walk (a0 : Option Addr) (len0 cap0 : Nat) (z0 : List Int) (a1 : Int) (w : World) (w0 : IsRow .u8 w a0 len0 cap0 z0) (w1 : (Lit.int .i64 a1).wf = true) (q0 : len0 ≤ 140737488351232) :
    Calls Try.prog 4 #[.slice a0 len0 cap0, .int .i64 a1] w fun e w' => e = .returned (.bool true) ∧ Below w.heap.size w w' := by
  obtain ⟨i0, i1⟩ := i64_bound w1
  have HR : Hid (RB w (.slice a0 len0 cap0) len0 (lst z0)) := rb_of_row w0
  clear w0 w1
  generalize lst z0 = f at *
  go_enter Try.func4, Try.ntmps4
  go_wp2_with fail
  refine (lent14 _ len0 f w HR.out (by omega)).mono ?_
  rintro e w1 ⟨v, rfl, ho, hb⟩
  obtain ⟨g, cap, hv, hg0, hg1, hnc, hcm⟩ : ∃ g cap, v = .slice (some ⟨g, 0, none⟩) (len0 + 6) cap ∧ w.heap.size ≤ g ∧ g < w1.heap.size ∧ len0 + 6 ≤ cap ∧ cap ≤ maxLen := by
    rcases ho.shape with ⟨_, h⟩ | ⟨g, cap, h, h1, h2, h3, h4, _⟩
    · omega
    · exact ⟨g, cap, h, h1, h2, h3, h4⟩
  rw [hv] at ho ⊢
  have HO : Hid (Own w1 w.heap.size (.slice (some ⟨g, 0, none⟩) (len0 + 6) cap) (len0 + 6) (lent len0 f)) := ho
  have HB : Hid (Below w.heap.size w w1) := hb
  have S1 : Hid (RB w1 (.slice (some ⟨g, 0, none⟩) len0 cap) len0 f) :=
    (ho.reads.first len0 (by omega)).congr HR.out.1 (fun i hi => by unfold lent; rw [if_pos hi])
  have S2 : Hid (RB w1 (.slice a0 len0 cap0) len0 f) := HR.out.below hb
  clear ho hb hv
  have hl1 : (len0 : Int) ≤ cap := by omega
  go_wp2_with fail
  refine (copy16 _ len0 f _ S2.out (by omega)).mono ?_
  rintro e w2 ⟨v2, rfl, ho2, hb2⟩
  have T1 : Hid (RB w2 (.slice (some ⟨g, 0, none⟩) len0 cap) len0 f) := S1.out.below hb2
  have T2 : Hid (RB w2 v2 len0 f) := ho2.reads
  have T3 : Hid (RB w2 (.slice (some ⟨g, 0, none⟩) (len0 + 6) cap) (len0 + 6) (lent len0 f)) := HO.out.reads.below hb2
  have T4 : Hid (RB w2 (.slice a0 len0 cap0) len0 f) := S2.out.below hb2
  have T5 : Hid (Own w2 w.heap.size (.slice (some ⟨g, 0, none⟩) (len0 + 6) cap) (len0 + 6) (lent len0 f)) := own_below HO.out hb2
  have T6 : Hid (Below w.heap.size w w2) := HB.out.trans (hb2.mono HB.out.size)
  clear ho2 hb2 S1 S2 HO HB
  go_wp2_with fail
  refine (takes15 _ _ len0 f a1 _ T1.out T2.out (by omega) i0 i1).mono ?_
  rintro e w' ⟨rfl, h⟩
  rw [h]; clear h w'
  go_wp2_with fail
  refine (kept17 _ _ len0 f _ T3.out T4.out (by omega)).mono ?_
  rintro e w3 ⟨rfl, hb3⟩
  have U1 : Hid (Own w3 w.heap.size (.slice (some ⟨g, 0, none⟩) (len0 + 6) cap) (len0 + 6) (lent len0 f)) := own_below T5.out hb3
  have U2 : Hid (Below w.heap.size w w3) := T6.out.trans (hb3.mono T6.out.size)
  clear hb3 T1 T2 T3 T4 T5 T6
  go_wp2_with fail
  refine (over18 g cap (len0 + 6) w.heap.size (lent len0 f) _ U1.out (by omega)).mono ?_
  rintro e w4 ⟨rfl, ho4, hg4⟩
  have V1 : Hid (RB w4 (.slice (some ⟨g, 0, none⟩) len0 cap) len0 over) := ho4.reads.first len0 (by omega)
  have V2 : Hid (Below w.heap.size w w4) := U2.out.grown hg4 U2.out.size (fun k hk => by cases hk; exact hg0)
  clear ho4 hg4 U1 U2
  go_wp2_with fail
  refine (copy16 _ len0 over _ V1.out (by omega)).mono ?_
  rintro e w5 ⟨v5, rfl, ho5, hb5⟩
  have X1 : Hid (RB w5 (.slice (some ⟨g, 0, none⟩) len0 cap) len0 over) := V1.out.below hb5
  have X2 : Hid (RB w5 v5 len0 over) := ho5.reads
  have X3 : Hid (Below w.heap.size w w5) := V2.out.trans (hb5.mono V2.out.size)
  clear ho5 hb5 V1 V2
  go_wp2_with fail
  refine (takes15 _ _ len0 over a1 _ X1.out X2.out (by omega) i0 i1).mono ?_
  rintro e w' ⟨rfl, h⟩
  rw [h]; clear h w'
  go_wp2
  go_ret
  exact ⟨rfl, X3.out⟩

/-! ### THE ROW's STEP: WRITTEN OUT: LEAVE IT -/
set_option maxRecDepth 100000 in
theorem lifted (os : Os) (started : os.Started) (H : Type) (enc : TypeId × Value → H) :
    ReturnsInHanded {} Try.checked os 4 .any (Rows.wordTakesSpec.pre6 enc Try.prog Try.f4 Rows.wordTakesRow.domain false) (Rows.wordTakesSpec.post enc Try.prog Try.f4 false true false false) := by
  refine returnsInHanded_of_change_sized (C := Try.checked) own started (by kernel_rfl) Try.func4
    (ChangeSpec.witness6 (enc := enc) (C := Try.checked) false ⟨#[], #[.slice none 0 0, .int .i64 0], []⟩ 8 (by kernel_rfl) (by kernel_rfl) (by kernel_rfl) (by kernel_rfl)) ?_
  intro W base args ds gs before hval0 hW hcnd hsz0 _
  have hsz : (DataW.weightsEach Try.prog (Try.f4.params.toList ++ Rows.wordTakesSpec.plain.varTypes Try.prog) (ds ++ gs)).all (· ≤ reachBytes) = true := hsz0
  clear hsz0
  have hval : ∀ (j : Nat) t v, Try.f4.params[j]? = some t → args[j]? = some v → Value.okWide Try.prog W .any base t v := hval0
  have hW' := hW
  obtain ⟨p, q, hA0, hV, rfl, hfz, hnd⟩ := hW
  have hA : DataW.TrodAll enc Try.prog W 0 (fun _ => true) true Try.f4.params.toList args.toList ds p := hA0
  rw [Try.params4] at hA hval hsz
  obtain ⟨v0, vs0, d0, ds0, p0, q0, hargs, rfl, rfl, h0, r0⟩ := trodAll_cons hA
  obtain ⟨v1, vs1, d1, ds1, p1, q1, rfl, rfl, rfl, h1, r1⟩ := trodAll_cons r0
  obtain ⟨rfl, rfl, rfl⟩ := trodAll_nil r1
  obtain rfl : args = #[v0, v1] := by cases args; simp_all
  obtain ⟨rfl, rfl⟩ := trodVars_none hV
  obtain ⟨a0, len0, cap0, rfl⟩ := okWide_slice Try.underlying32 (hval 0 32 v0 rfl rfl)
  have k0 := h0
  have lt0 : ∀ x ∈ p0, x.block < W.heap.size := by obtain ⟨m, hm⟩ := k0; exact DataW.trod_lt m _ _ _ hm
  obtain ⟨z0, w0, q0⟩ : ∃ zs, IsRow .u8 W a0 len0 cap0 zs ∧ len0 ≤ 140737488351232 := by
    obtain ⟨fuel, hf⟩ := h0
    rcases open_ints Try.underlying32 Try.underlying5 (by kernel_rfl) hf with ⟨hcs, _⟩ | ⟨x, l, c, zs, hcs, _, hl, hm, hz, hx, hcell, hwz⟩
    · simp [Value.cells] at hcs
      obtain ⟨rfl, rfl, rfl⟩ := hcs
      exact ⟨[], .inl ⟨rfl, rfl, rfl, rfl⟩, by omega⟩
    · simp [Value.cells] at hcs
      obtain ⟨rfl, rfl, rfl⟩ := hcs
      refine ⟨zs, .inr ⟨_, rfl, hl, hm, by simpa using hz, hcell, hwz⟩, ?_⟩
      have hd := congrArg Prod.fst hx
      have hs := sized_slice hsz (j := 0) (t := 32) (e := 5) rfl (by show some d0 = _; exact congrArg some hd) Try.underlying32
      rw [bytes5] at hs
      simp only [lits, List.length_map, List.length_take, List.length_drop, reachBytes] at hs
      have hz' : zs.length = cap0 := by simpa using hz
      omega
  obtain ⟨a1, rfl, rfl, rfl, w1⟩ := open_int Try.underlying3 (hval 1 3 v1 rfl rfl) h1
  clear hA0 hval0
  refine (walk a0 len0 cap0 z0 a1 W w0 w1 q0).mono fun e W' ⟨he, bel⟩ => ?_
  subst he
  exact ⟨_, rfl, _, _, _, [], _, [], hW', trodAll_mk1 (shut_bool Try.underlying4 _), (trodAll_cons_mk (Below.trod laidOut (by kernel_rfl) (of_decide_eq_true (by kernel_rfl)) k0 bel lt0) (trodAll_cons_mk (shut_int Try.underlying3 w1) trodAll_mk0)), rfl, bel.frame _, fun h => by cases h⟩

theorem over : Rows.wordTakesRow.holds Try.pinned (OpenSpec.ofChange Rows.wordTakesSpec) :=
  OpenClaim.holds_of_wide 4 Try.f4 rfl rfl rfl rfl rfl rfl rfl ⟨rfl, rfl, rfl, rfl, rfl⟩ rfl rfl rfl rfl rfl (by kernel_rfl) Try.func4 (by kernel_rfl)
    (of_decide_eq_true (by kernel_rfl)) (by unfold Func.isWrapper; first | (rw [if_pos (by decide +kernel)]; kernel_rfl) | (rw [if_neg (by decide +kernel)]; exact ⟨rfl, rfl⟩))
    (fun os started H enc _ => lifted os started H enc)

/-- ████ THE STATEMENT ████ -/
theorem proved : Rows.WordTakesSaid := over
end Go.Proofs.Ytfieheldneddeaa.wordTakes
namespace Go.Proofs.Ytfieheldneddeaa
theorem wordTakes_holds : Rows.WordTakesSaid := wordTakes.proved
#print axioms wordTakes_holds
end Go.Proofs.Ytfieheldneddeaa
