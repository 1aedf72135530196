/- WordXors: of every two lists of bytes the code gives the exclusive or that the document gives; both lists stay as they were; of the first list written over, what stands there then; each answer is memory of its own; no condition. -/
import Derived.Test.YtfieheldneddeaaRefXor
import Derived.SizedLaws
import Derived.Test.YtfieheldneddeaaRows
import Derived.WalkKit
import Derived.ProofKit
import Derived.OpenShut
import Derived.ShutString
import Derived.ChangeOld
import Derived.Below
namespace Go.Proofs.Ytfieheldneddeaa.wordXors
open Go.ChangeShapes Go.WideShapes Go.ChangeAt Go.RowKit
open Go.ChangeMaps (open_string shut_string)
set_option linter.unusedVariables false

theorem own : ownKnob Try.prog.godebug = none := by kernel_rfl
theorem laidOut : laidOutB Try.prog = true := by kernel_rfl

/-- WHAT THE WALK IS TOLD OF A SLICE OF INTEGERS THAT CAME IN: it is nil; or it leads to a row of 'cap' cells, the numbers 'zs' (the first 'len' are its elements, the rest its spare room), each fitting its kind. -/
def IsRow (k : IntKind) (w : World) (a : Option Addr) (len cap : Nat) (zs : List Int) : Prop :=
  (a = none ∧ len = 0 ∧ cap = 0 ∧ zs = []) ∨
  ∃ x, a = some x ∧ len ≤ cap ∧ cap ≤ maxLen ∧ zs.length = cap ∧ (∀ i, i < zs.length → w.cell? (x.add i) = some (.int k (zs.getD i 0))) ∧ ∀ n ∈ zs, (Lit.int k n).wf = true

/-! ### STEP 1: THE WALK: the Go text returns true, AND WRITES NOTHING THAT WAS THERE: 'Below w.heap.size w w'' (Derived/Below.lean: '.refl', '.alloc', '.drew', '.setCell' at a new block, '.trans'). Open each 'IsRow' by 'rcases' AHEAD of 'go_enter'; part every test ahead of the walk. -/
set_option maxRecDepth 100000 in
set_option maxHeartbeats 4000000 in
theorem walk (a0 : Option Addr) (len0 cap0 : Nat) (z0 : List Int) (a1 : Option Addr) (len1 cap1 : Nat) (z1 : List Int) (w : World) (w0 : IsRow .u8 w a0 len0 cap0 z0) (w1 : IsRow .u8 w a1 len1 cap1 z1) (q0 : len0 ≤ 140737488351232) (q1 : len1 ≤ 140737488351232) :
    Calls Try.prog 6 #[.slice a0 len0 cap0, .slice a1 len1 cap1] w fun e w' => e = .returned (.bool true) ∧ Below w.heap.size w w' := by
  have HP : Hid (RB w (.slice a0 len0 cap0) len0 (lst z0)) := rb_of_row w0
  have HQ : Hid (RB w (.slice a1 len1 cap1) len1 (lst z1)) := rb_of_row w1
  clear w0 w1
  generalize lst z0 = f at *
  generalize lst z1 = g at *
  have B0 : Hid (Below w.heap.size w w) := Below.refl _ _
  go_enter Try.func6, Try.ntmps6
  go_wp2_with fail
  refine (lent14 _ len0 f w HP.out (by omega)).mono ?_
  rintro e W1 ⟨v1, rfl, ho, hb⟩
  have O1 := hid ho
  have B1 := hid hb
  clear ho hb B0
  go_wp2_with fail
  refine (lent14 _ len1 g W1 (HQ.out.below B1.out) (by omega)).mono ?_
  rintro e W2 ⟨v2, rfl, ho, hb⟩
  have A12 := hid (own_apart O1.out (Nat.le_refl _) ho)
  have O2 := hid ho
  replace O1 := hid (own_below O1.out hb)
  have B2 : Hid (Below w.heap.size w W2) := B1.out.trans (hb.mono B1.out.size)
  clear ho hb B1
  obtain ⟨g1, c1, hv1, hg1b, hc1⟩ : ∃ g cap, v1 = .slice (some ⟨g, 0, none⟩) (len0 + 6) cap ∧ w.heap.size ≤ g ∧ len0 + 6 ≤ cap := by
    rcases O1.out.shape with ⟨_, h⟩ | ⟨g, cap, h, h1, h2, h3, _⟩
    · omega
    · exact ⟨g, cap, h, h1, h3⟩
  obtain ⟨g2, c2, hv2, hc2⟩ : ∃ g cap, v2 = .slice (some ⟨g, 0, none⟩) (len1 + 6) cap ∧ len1 + 6 ≤ cap := by
    rcases O2.out.shape with ⟨_, h⟩ | ⟨g, cap, h, h1, h2, h3, _⟩
    · omega
    · exact ⟨g, cap, h, h3⟩
  subst hv1 hv2
  have i1 : (len0 : Int) ≤ c1 := by omega
  have i2 : (len1 : Int) ≤ c2 := by omega
  have hmn : min len0 len1 ≤ 140737488355000 := by omega
  go_wp2_with fail
  refine (refXor31 _ _ len0 len1 f g _ (HP.out.below B2.out) (HQ.out.below B2.out) (by omega)).mono ?_
  rintro e W3 ⟨v3, rfl, ho, hb⟩
  have A13 := hid (own_apart O1.out (Nat.le_refl _) ho)
  have X3 := hid ho
  replace O1 := hid (own_below O1.out hb)
  replace O2 := hid (own_below O2.out hb)
  have B3 : Hid (Below w.heap.size w W3) := B2.out.trans (hb.mono B2.out.size)
  clear ho hb B2
  go_wp2_with fail
  refine (xor32 _ _ len0 len1 f g _ (rb_lent O1.out HP.out.1) (rb_lent O2.out HQ.out.1) (by omega) (by omega)).mono ?_
  rintro e W4 ⟨v4, rfl, ho, hb⟩
  have A14 := hid (own_apart O1.out (Nat.le_refl _) ho)
  have X4 := hid ho
  have B3s := B3.out.size
  replace O1 := hid (own_below O1.out hb)
  replace O2 := hid (own_below O2.out hb)
  replace X3 := hid (own_below X3.out hb)
  have B4 : Hid (Below w.heap.size w W4) := B3.out.trans (hb.mono B3.out.size)
  clear ho hb B3
  go_wp2_with fail
  refine (xor32 _ _ len0 len1 f g _ (rb_lent O1.out HP.out.1) (rb_lent O2.out HQ.out.1) (by omega) (by omega)).mono ?_
  rintro e W5 ⟨v5, rfl, ho, hb⟩
  have A15 := hid (own_apart O1.out (Nat.le_refl _) ho)
  have X5 := hid ho
  have B4s := B4.out.size
  have A45 := hid (own_apart X4.out (Nat.le_refl _) ho)
  replace O1 := hid (own_below O1.out hb)
  replace O2 := hid (own_below O2.out hb)
  replace X3 := hid (own_below X3.out hb)
  replace X4 := hid (own_below X4.out hb)
  have B5 : Hid (Below w.heap.size w W5) := B4.out.trans (hb.mono B4.out.size)
  clear ho hb B4
  obtain ⟨a3, d3, hv3⟩ := own_lit_slice X3.out
  obtain ⟨a4, d4, hv4⟩ := own_lit_slice X4.out
  obtain ⟨a5, d5, hv5⟩ := own_lit_slice X5.out
  subst hv3 hv4 hv5
  go_wp2_with fail
  refine (same_true _ _ (min len0 len1) _ _ _ X4.out.reads X3.out.reads (by omega) (fun _ _ => rfl)).mono ?_
  rintro e w' ⟨rfl, k1, rfl⟩
  go_wp2_with fail
  refine (same_true _ _ (min len0 len1) _ _ _ (RB.drewN X5.out.reads _) (RB.drewN X3.out.reads _) (by omega) (fun _ _ => rfl)).mono ?_
  rintro e w' ⟨rfl, k2, rfl⟩
  go_wp2_with fail
  refine (kept17 _ _ len0 f _ (RB.drewN O1.out.reads _) (RB.drewN (HP.out.below B5.out) _) (by omega)).mono ?_
  rintro e W6 ⟨rfl, hb⟩
  replace O1 := hid (own_below (own_drewN O1.out _) hb)
  replace O2 := hid (own_below (own_drewN O2.out _) hb)
  replace X3 := hid (own_below (own_drewN X3.out _) hb)
  replace X4 := hid (own_below (own_drewN X4.out _) hb)
  replace X5 := hid (own_below (own_drewN X5.out _) hb)
  have B6 : Hid (Below w.heap.size w W6) := (Below.drewN' B5.out _).trans (hb.mono B5.out.size)
  clear hb B5
  go_wp2_with fail
  refine (kept17 _ _ len1 g _ O2.out.reads (HQ.out.below B6.out) (by omega)).mono ?_
  rintro e W7 ⟨rfl, hb⟩
  replace O1 := hid (own_below O1.out hb)
  replace O2 := hid (own_below O2.out hb)
  replace X3 := hid (own_below X3.out hb)
  replace X4 := hid (own_below X4.out hb)
  replace X5 := hid (own_below X5.out hb)
  have B7 : Hid (Below w.heap.size w W7) := B6.out.trans (hb.mono B6.out.size)
  clear hb B6
  go_wp2_with fail
  refine (over18 g1 c1 (len0 + 6) w.heap.size (lent len0 f) _ O1.out (by omega)).mono ?_
  rintro e W8 ⟨rfl, ho, hg⟩
  replace O2 := hid (own_kept O2.out hg (apart_symm A12.out))
  replace X3 := hid (own_kept X3.out hg (apart_symm A13.out))
  replace X4 := hid (own_kept X4.out hg (apart_symm A14.out))
  replace X5 := hid (own_kept X5.out hg (apart_symm A15.out))
  have B8 : Hid (Below w.heap.size w W8) := B7.out.grown hg B7.out.size (fun k hk => by cases hk; exact hg1b)
  replace O1 := hid ho
  clear ho hg B7 A12 A13 A14 A15
  go_wp2_with fail
  refine (xor32 _ _ len0 len1 over g _ (O1.out.reads.first len0 (by omega)) (rb_lent O2.out HQ.out.1) (by omega) (by omega)).mono ?_
  rintro e W9 ⟨v9, rfl, ho, hb⟩
  have A49 := hid (own_apart X4.out (Nat.le_refl _) ho)
  have A59 := hid (own_apart X5.out (Nat.le_refl _) ho)
  have X9 := hid ho
  have B8s := B8.out.size
  replace O1 := hid (own_below O1.out hb)
  replace O2 := hid (own_below O2.out hb)
  replace X3 := hid (own_below X3.out hb)
  replace X4 := hid (own_below X4.out hb)
  replace X5 := hid (own_below X5.out hb)
  have B9 : Hid (Below w.heap.size w W9) := B8.out.trans (hb.mono B8.out.size)
  clear ho hb B8
  obtain ⟨a9, d9, hv9⟩ := own_lit_slice X9.out
  subst hv9
  go_wp2_with fail
  refine (copy16 _ len0 over _ (O1.out.reads.first len0 (by omega)) (by omega)).mono ?_
  rintro e W10 ⟨v10, rfl, ho, hb⟩
  have X10 := hid ho
  replace X3 := hid (own_below X3.out hb)
  replace X4 := hid (own_below X4.out hb)
  replace X5 := hid (own_below X5.out hb)
  replace X9 := hid (own_below X9.out hb)
  have B10 : Hid (Below w.heap.size w W10) := B9.out.trans (hb.mono B9.out.size)
  clear ho hb B9 O1 O2
  go_wp2_with fail
  refine (refXor31 _ _ len0 len1 over g _ X10.out.reads (HQ.out.below B10.out) (by omega)).mono ?_
  rintro e W11 ⟨v11, rfl, ho, hb⟩
  have X11 := hid ho
  replace X3 := hid (own_below X3.out hb)
  replace X4 := hid (own_below X4.out hb)
  replace X5 := hid (own_below X5.out hb)
  replace X9 := hid (own_below X9.out hb)
  have B11 : Hid (Below w.heap.size w W11) := B10.out.trans (hb.mono B10.out.size)
  clear ho hb B10 X10
  go_wp2_with fail
  refine (same_true _ _ (min len0 len1) _ _ _ X9.out.reads X11.out.reads (by omega) (fun _ _ => rfl)).mono ?_
  rintro e w' ⟨rfl, k3, rfl⟩
  clear X11
  go_wp2_with fail
  refine (same_true _ _ (min len0 len1) _ _ _ (RB.drewN X4.out.reads _) (RB.drewN X3.out.reads _) (by omega) (fun _ _ => rfl)).mono ?_
  rintro e w' ⟨rfl, k4, rfl⟩
  clear X3
  go_wp2_with fail
  have hO : ∀ j, j < 3 → Own (W11.drewN (k3 + k4)) w.heap.size (lv [.slice a4 (min len0 len1) d4, .slice a5 (min len0 len1) d5, .slice a9 (min len0 len1) d9] j) (min len0 len1) ((fun j => if j < 2 then (fun i => xb (f i) (g i)) else (fun i => xb (over i) (g i))) j) := by
    intro j hj
    rcases (show j = 0 ∨ j = 1 ∨ j = 2 by omega) with rfl | rfl | rfl
    · exact own_base (own_drewN X4.out _) B3s
    · exact own_base (own_drewN X5.out _) B4s
    · exact own_base (own_drewN X9.out _) B8s
  have hAP : AP 3 W11.heap.size (lv [.slice a4 (min len0 len1) d4, .slice a5 (min len0 len1) d5, .slice a9 (min len0 len1) d9]) := by
    refine ap_of [.slice a4 (min len0 len1) d4, .slice a5 (min len0 len1) d5, .slice a9 (min len0 len1) d9] _ (fun i j hij hj => ?_) (fun j hj q hq => own_lt (hO j hj) q hq)
    rcases (show (i = 0 ∧ j = 1) ∨ (i = 0 ∧ j = 2) ∨ (i = 1 ∧ j = 2) by simp at hj; omega) with ⟨rfl, rfl⟩ | ⟨rfl, rfl⟩ | ⟨rfl, rfl⟩
    · exact A45.out
    · exact A49.out
    · exact A59.out
  have hF : ∀ j i, 0 ≤ ((fun j => if j < 2 then (fun i => xb (f i) (g i)) else (fun i => xb (over i) (g i))) j : Nat → Int) i ∧ ((fun j => if j < 2 then (fun i => xb (f i) (g i)) else (fun i => xb (over i) (g i))) j : Nat → Int) i < 256 := by
    intro j i
    by_cases h : j < 2
    · simp only [h, if_true]; exact xb_bound _ _ (HP.out.1 i) (HQ.out.1 i)
    · simp only [h, if_false]; exact xb_bound _ _ (over_bound i) (HQ.out.1 i)
  have hI := inv1_lit (W11.drewN (k3 + k4)) w.heap.size [.slice a4 (min len0 len1) d4, .slice a5 (min len0 len1) d5, .slice a9 (min len0 len1) d9] _ rfl (fun _ => min len0 len1) _ hO
  refine (apart30 w.heap.size 3 W11.heap.size 3 _ (fun _ => min len0 len1) _ _ hAP hI hF (by omega) (by omega) (fun _ _ => hmn) (by have := B11.out.size; simp; omega)).mono ?_
  rintro e W12 ⟨rfl, hb⟩
  have B12 : Hid (Below w.heap.size w W12) := (below_alloc (Below.drewN' B11.out _) rfl _).trans hb
  clear hb hO hAP hF hI X4 X5 X9 A45 A49 A59
  go_wp2
  go_ret
  exact ⟨rfl, B12.out⟩

/-! ### THE ROW's STEP: WRITTEN OUT: LEAVE IT -/
set_option maxRecDepth 100000 in
theorem lifted (os : Os) (started : os.Started) (H : Type) (enc : TypeId × Value → H) :
    ReturnsInHanded {} Try.checked os 6 .any (Rows.wordXorsSpec.pre6 enc Try.prog Try.f6 Rows.wordXorsRow.domain false) (Rows.wordXorsSpec.post enc Try.prog Try.f6 false true false false) := by
  refine returnsInHanded_of_change_sized (C := Try.checked) own started (by kernel_rfl) Try.func6
    (ChangeSpec.witness6 (enc := enc) (C := Try.checked) false ⟨#[], #[.slice none 0 0, .slice none 0 0], []⟩ 8 (by kernel_rfl) (by kernel_rfl) (by kernel_rfl) (by kernel_rfl)) ?_
  intro W base args ds gs before hval0 hW hcnd hsz0 _
  have hsz : (DataW.weightsEach Try.prog (Try.f6.params.toList ++ Rows.wordXorsSpec.plain.varTypes Try.prog) (ds ++ gs)).all (· ≤ reachBytes) = true := hsz0
  clear hsz0
  have hval : ∀ (j : Nat) t v, Try.f6.params[j]? = some t → args[j]? = some v → Value.okWide Try.prog W .any base t v := hval0
  have hW' := hW
  obtain ⟨p, q, hA0, hV, rfl, hfz, hnd⟩ := hW
  have hA : DataW.TrodAll enc Try.prog W 0 (fun _ => true) true Try.f6.params.toList args.toList ds p := hA0
  rw [Try.params6] at hA hval hsz
  obtain ⟨v0, vs0, d0, ds0, p0, q0, hargs, rfl, rfl, h0, r0⟩ := trodAll_cons hA
  obtain ⟨v1, vs1, d1, ds1, p1, q1, rfl, rfl, rfl, h1, r1⟩ := trodAll_cons r0
  obtain ⟨rfl, rfl, rfl⟩ := trodAll_nil r1
  obtain rfl : args = #[v0, v1] := by cases args; simp_all
  obtain ⟨rfl, rfl⟩ := trodVars_none hV
  obtain ⟨a0, len0, cap0, rfl⟩ := okWide_slice Try.underlying32 (hval 0 32 v0 rfl rfl)
  have k0 := h0
  have lt0 : ∀ x ∈ p0, x.block < W.heap.size := by obtain ⟨m, hm⟩ := k0; exact DataW.trod_lt m _ _ _ hm
  obtain ⟨z0, w0, q0⟩ : ∃ zs, IsRow .u8 W a0 len0 cap0 zs ∧ len0 ≤ 140737488351232 := by
    obtain ⟨fuel, hf⟩ := h0
    rcases open_ints Try.underlying32 Try.underlying5 (by kernel_rfl) hf with ⟨hcs, _⟩ | ⟨x, l, c, zs, hcs, _, hl, hm, hz, hx, hcell, hwz⟩
    · simp [Value.cells] at hcs
      obtain ⟨rfl, rfl, rfl⟩ := hcs
      exact ⟨[], .inl ⟨rfl, rfl, rfl, rfl⟩, by omega⟩
    · simp [Value.cells] at hcs
      obtain ⟨rfl, rfl, rfl⟩ := hcs
      refine ⟨zs, .inr ⟨_, rfl, hl, hm, by simpa using hz, hcell, hwz⟩, ?_⟩
      have hd := congrArg Prod.fst hx
      have hs := sized_slice hsz (j := 0) (t := 32) (e := 5) rfl (by show some d0 = _; exact congrArg some hd) Try.underlying32
      rw [bytes5] at hs
      simp only [lits, List.length_map, List.length_take, List.length_drop, reachBytes] at hs
      have hz' : zs.length = cap0 := by simpa using hz
      omega
  obtain ⟨a1, len1, cap1, rfl⟩ := okWide_slice Try.underlying32 (hval 1 32 v1 rfl rfl)
  have k1 := h1
  have lt1 : ∀ x ∈ p1, x.block < W.heap.size := by obtain ⟨m, hm⟩ := k1; exact DataW.trod_lt m _ _ _ hm
  obtain ⟨z1, w1, q1⟩ : ∃ zs, IsRow .u8 W a1 len1 cap1 zs ∧ len1 ≤ 140737488351232 := by
    obtain ⟨fuel, hf⟩ := h1
    rcases open_ints Try.underlying32 Try.underlying5 (by kernel_rfl) hf with ⟨hcs, _⟩ | ⟨x, l, c, zs, hcs, _, hl, hm, hz, hx, hcell, hwz⟩
    · simp [Value.cells] at hcs
      obtain ⟨rfl, rfl, rfl⟩ := hcs
      exact ⟨[], .inl ⟨rfl, rfl, rfl, rfl⟩, by omega⟩
    · simp [Value.cells] at hcs
      obtain ⟨rfl, rfl, rfl⟩ := hcs
      refine ⟨zs, .inr ⟨_, rfl, hl, hm, by simpa using hz, hcell, hwz⟩, ?_⟩
      have hd := congrArg Prod.fst hx
      have hs := sized_slice hsz (j := 1) (t := 32) (e := 5) rfl (by show some d1 = _; exact congrArg some hd) Try.underlying32
      rw [bytes5] at hs
      simp only [lits, List.length_map, List.length_take, List.length_drop, reachBytes] at hs
      have hz' : zs.length = cap1 := by simpa using hz
      omega
  clear hA0 hval0
  refine (walk a0 len0 cap0 z0 a1 len1 cap1 z1 W w0 w1 q0 q1).mono fun e W' ⟨he, bel⟩ => ?_
  subst he
  exact ⟨_, rfl, _, _, _, [], _, [], hW', trodAll_mk1 (shut_bool Try.underlying4 _), (trodAll_cons_mk (Below.trod laidOut (by kernel_rfl) (of_decide_eq_true (by kernel_rfl)) k0 bel lt0) (trodAll_cons_mk (Below.trod laidOut (by kernel_rfl) (of_decide_eq_true (by kernel_rfl)) k1 bel lt1) trodAll_mk0)), rfl, bel.frame _, fun h => by cases h⟩

theorem over : Rows.wordXorsRow.holds Try.pinned (OpenSpec.ofChange Rows.wordXorsSpec) :=
  OpenClaim.holds_of_wide 6 Try.f6 rfl rfl rfl rfl rfl rfl rfl ⟨rfl, rfl, rfl, rfl, rfl⟩ rfl rfl rfl rfl rfl (by kernel_rfl) Try.func6 (by kernel_rfl)
    (of_decide_eq_true (by kernel_rfl)) (by unfold Func.isWrapper; first | (rw [if_pos (by decide +kernel)]; kernel_rfl) | (rw [if_neg (by decide +kernel)]; exact ⟨rfl, rfl⟩))
    (fun os started H enc _ => lifted os started H enc)

/-- ████ THE STATEMENT ████ -/
theorem proved : Rows.WordXorsSaid := over
end Go.Proofs.Ytfieheldneddeaa.wordXors
namespace Go.Proofs.Ytfieheldneddeaa
theorem wordXors_holds : Rows.WordXorsSaid := wordXors.proved
#print axioms wordXors_holds
end Go.Proofs.Ytfieheldneddeaa
