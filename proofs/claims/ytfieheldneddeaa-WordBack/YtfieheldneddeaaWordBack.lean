/- WordBack: the document's examples hold; of every word, every two numbers and every two lists of bytes: what is laid is taken again, either way; the one laying is the other's reverse; turning by two numbers one behind the other is turning by their sum; turning by none changes nothing; the exclusive or twice gives the first list again; no condition. -/
import Derived.Test.YtfieheldneddeaaThere
import Derived.Deep.RegionWith
import Derived.Deep.DeepCutAuto
import Derived.Deep.RegionHeld3
import Derived.SizedLaws
import Derived.Test.YtfieheldneddeaaRows
import Derived.WalkKit
import Derived.ProofKit
import Derived.OpenShut
import Derived.ShutString
import Derived.ChangeOld
import Derived.Below
namespace Go.Proofs.Ytfieheldneddeaa.wordBack
open Go.ChangeShapes Go.WideShapes Go.ChangeAt Go.RowKit
open Go.ChangeMaps (open_string shut_string)
set_option linter.unusedVariables false

theorem own : ownKnob Try.prog.godebug = none := by kernel_rfl
theorem laidOut : laidOutB Try.prog = true := by kernel_rfl

/-- WHAT THE WALK IS TOLD OF A SLICE OF INTEGERS THAT CAME IN: it is nil; or it leads to a row of 'cap' cells, the numbers 'zs' (the first 'len' are its elements, the rest its spare room), each fitting its kind. -/
def IsRow (k : IntKind) (w : World) (a : Option Addr) (len cap : Nat) (zs : List Int) : Prop :=
  (a = none ∧ len = 0 ∧ cap = 0 ∧ zs = []) ∨
  ∃ x, a = some x ∧ len ≤ cap ∧ cap ≤ maxLen ∧ zs.length = cap ∧ (∀ i, i < zs.length → w.cell? (x.add i) = some (.int k (zs.getD i 0))) ∧ ∀ n ∈ zs, (Lit.int k n).wf = true

/-! ### STEP 1: THE WALK: the Go text returns true, AND WRITES NOTHING THAT WAS THERE: 'Below w.heap.size w w'' (Derived/Below.lean: '.refl', '.alloc', '.drew', '.setCell' at a new block, '.trans'). Open each 'IsRow' by 'rcases' AHEAD of 'go_enter'; part every test ahead of the walk. -/
set_option maxRecDepth 100000 in
set_option maxHeartbeats 4000000 in
theorem walk (a0 : Int) (a1 : Int) (a2 : Int) (a3 : Option Addr) (len3 cap3 : Nat) (z3 : List Int) (a4 : Option Addr) (len4 cap4 : Nat) (z4 : List Int) (w : World) (w0 : (Lit.int .u64 a0).wf = true) (w1 : (Lit.int .i64 a1).wf = true) (w2 : (Lit.int .i64 a2).wf = true) (w3 : IsRow .u8 w a3 len3 cap3 z3) (w4 : IsRow .u8 w a4 len4 cap4 z4) (q3 : len3 ≤ 140737488351232) (q4 : len4 ≤ 140737488351232) :
    Calls Try.prog 7 #[.int .u64 a0, .int .i64 a1, .int .i64 a2, .slice a3 len3 cap3, .slice a4 len4 cap4] w fun e w' => e = .returned (.bool true) ∧ Below w.heap.size w w' := by
  obtain ⟨b0, b1⟩ := u64_bound w0
  obtain ⟨n0, n1⟩ := i64_bound w1
  obtain ⟨m0, m1⟩ := i64_bound w2
  have HP : Hid (RB w (.slice a3 len3 cap3) len3 (lst z3)) := rb_of_row w3
  have HQ : Hid (RB w (.slice a4 len4 cap4) len4 (lst z4)) := rb_of_row w4
  clear w0 w1 w2 w3 w4
  generalize lst z3 = f at *
  generalize lst z4 = g at *
  have hy : 0 ≤ a0 % 4294967296 ∧ a0 % 4294967296 < 4294967296 := by omega
  obtain ⟨y0, y1⟩ := hy
  go_enter Try.func7, Try.ntmps7
  go_wp2_with fail
  refine (awake33 _).mono ?_
  rintro e W1 ⟨rfl, hb⟩
  have B1 : Hid (Below w.heap.size w W1) := hb
  clear hb
  go_wp2_with fail
  refine (lay23 _ _ b0 b1).mono ?_
  rintro e W2 ⟨v2, rfl, ho, hb⟩
  have B2 : Hid (Below w.heap.size w W2) := B1.out.trans (hb.mono B1.out.size)
  have R2 : Hid (RB W2 v2 8 (beByte 8 a0)) := ho.reads
  clear ho hb B1
  go_wp2_with fail
  refine (take34 _ 8 _ _ _ R2.out (by omega) (by omega) (by omega)).mono ?_
  rw [be_back8 a0 b0 b1]
  rintro e w' ⟨rfl, h⟩; rw [h]; clear h w' R2
  go_wp2_with fail
  refine (lay25 _ _ b0 b1).mono ?_
  rintro e W3 ⟨v3, rfl, ho, hb⟩
  have B3 : Hid (Below w.heap.size w W3) := B2.out.trans (hb.mono B2.out.size)
  have R3 : Hid (RB W3 v3 8 (leByte a0)) := ho.reads
  clear ho hb B2
  go_wp2_with fail
  refine (take35 _ 8 _ _ _ R3.out (by omega) (by omega) (by omega)).mono ?_
  rw [le_back8 a0 b0 b1]
  rintro e w' ⟨rfl, h⟩; rw [h]; clear h w' R3
  go_wp2_with fail
  refine (lay19 _ _ y0 y1).mono ?_
  rintro e W4 ⟨v4, rfl, ho, hb⟩
  have B4 : Hid (Below w.heap.size w W4) := B3.out.trans (hb.mono B3.out.size)
  have R4 : Hid (RB W4 v4 4 (beByte 4 (a0 % 4294967296))) := ho.reads
  clear ho hb B3
  go_wp2_with fail
  refine (take36 _ 4 _ _ _ R4.out (by omega) (by omega) (by omega)).mono ?_
  rw [be_back4 _ y0 y1]
  rintro e w' ⟨rfl, h⟩; rw [h]; clear h w' R4
  go_wp2_with fail
  refine (lay21 _ _ y0 y1).mono ?_
  rintro e W5 ⟨v5, rfl, ho, hb⟩
  have B5 : Hid (Below w.heap.size w W5) := B4.out.trans (hb.mono B4.out.size)
  have R5 : Hid (RB W5 v5 4 (leByte (a0 % 4294967296))) := ho.reads
  clear ho hb B4
  go_wp2_with fail
  refine (take37 _ 4 _ _ _ R5.out (by omega) (by omega) (by omega)).mono ?_
  rw [le_back4 _ y0 y1]
  rintro e w' ⟨rfl, h⟩; rw [h]; clear h w' R5
  go_wp2_with fail
  refine (lay23 _ _ b0 b1).mono ?_
  rintro e W6 ⟨v6, rfl, ho, hb⟩
  have B6 : Hid (Below w.heap.size w W6) := B5.out.trans (hb.mono B5.out.size)
  have R6 : Hid (Own W6 W5.heap.size v6 8 (beByte 8 a0)) := ho
  clear ho hb B5
  go_wp2_with fail
  refine (lay25 _ _ b0 b1).mono ?_
  rintro e W7 ⟨v7, rfl, ho, hb⟩
  have B7 : Hid (Below w.heap.size w W7) := B6.out.trans (hb.mono B6.out.size)
  obtain ⟨g6, c6, hv6, k6⟩ := own_cells (own_below R6.out hb) (by omega)
  obtain ⟨g7, c7, hv7, k7⟩ := own_cells ho (by omega)
  have K6 := hid k6
  have K7 : Hid (∀ i, i < 8 → W7.cell? ⟨g7, i, none⟩ = some (.int .u8 (beByte 8 a0 (7 - i)))) := by
    intro i hi
    rw [k7 i hi]
    show some (Value.int IntKind.u8 (a0 / 256 ^ i % 256)) = some (Value.int IntKind.u8 (a0 / 256 ^ (8 - 1 - (7 - i)) % 256))
    rw [show 8 - 1 - (7 - i) = i by omega]
  clear ho hb B6 R6 k6 k7
  rw [hv6, hv7]
  clear hv6 hv7 v6 v7
  generalize beByte 8 a0 = h at *
  go_wp2_with fail
  go_loopw [15] (fun i wr => ∃ k : Nat, k ≤ 8 ∧ i = .int .i64 k ∧ ∃ d, wr = W7.drewN d) (fun i _ => 8 - (intOf i).toNat)
  case atStart => exact ⟨0, Nat.zero_le _, rfl, 0, rfl⟩
  case round =>
    obtain ⟨k, hk, rfl, d, rfl⟩ := hrel
    by_cases hlt : k < 8
    · have e1 := K6.out k hlt
      have e2 := K7.out (7 - k) (by omega)
      rw [show 7 - (7 - k) = k by omega] at e2
      have e3 : ((7 : Int) - (k : Int)).toNat = 7 - k := by omega
      have l1 : (k : Int) < 8 := by omega
      go_wp2
      go_quiet (fail)
      go_wp2
      go_roundw
      case rel => exact ⟨k + 1, by omega, by go_num, _, rfl⟩
      case measure => simp [intOf]; omega
    · clear K6 K7
      go_upto_region 12 with fail
      go_cut [88] (fun c wx => (∃ B : Bool, c = .bool B) ∧ wx = W7.drewN d)
      case first =>
        go_wp2_with fail
        all_goals
          go_meet
          case rel => exact ⟨⟨_, rfl⟩, rfl⟩
      case rest =>
      obtain ⟨⟨B, rfl⟩, rfl⟩ := hcut
      go_upto_if 88 with fail
      go_cut [10] (fun _ wx => ∃ d', wx = W7.drewN d')
      case first =>
        cases B
        · go_wp2_with fail
          go_meet
          case rel => exact ⟨_, rfl⟩
        · go_wp2_with fail
          refine (turn12 _ _ _ b0 b1).mono ?_
          rintro e w' ⟨rfl, d1, rfl⟩
          go_wp2_with fail
          refine (turn12 _ _ _ (Rot64_bound a0 a1 b0 b1).1 (Rot64_bound a0 a1 b0 b1).2).mono ?_
          rw [rot_two64 a0 a1 a2 b0 b1]
          rintro e w' ⟨rfl, d2, rfl⟩
          go_wp2_with fail
          refine (turn12 _ _ _ b0 b1).mono ?_
          rw [rot_wrap64]
          rintro e w' ⟨rfl, d3, rfl⟩
          go_wp2_with fail
          refine (turn9 _ _ _ y0 y1).mono ?_
          rintro e w' ⟨rfl, d4, rfl⟩
          go_wp2_with fail
          refine (turn9 _ _ _ (Rot32_bound _ a1 y0 y1).1 (Rot32_bound _ a1 y0 y1).2).mono ?_
          rw [rot_two32 _ a1 a2 y0 y1]
          rintro e w' ⟨rfl, d5, rfl⟩
          go_wp2_with fail
          refine (turn9 _ _ _ y0 y1).mono ?_
          rw [rot_wrap32]
          rintro e w' ⟨rfl, d6, rfl⟩
          go_wp2_with fail
          go_meet
          case rel => exact ⟨_, rfl⟩
      case rest =>
      obtain ⟨dd, rfl⟩ := hcut
      go_wp2_with fail
      refine (turn12 _ _ _ b0 b1).mono ?_
      rw [rot_zero64 a0 b0 b1]
      rintro e w' ⟨rfl, d7, rfl⟩
      go_wp2_with fail
      refine (turn9 _ _ _ y0 y1).mono ?_
      rw [rot_zero32 _ y0 y1]
      rintro e w' ⟨rfl, d8, rfl⟩
      have B7L : Hid (Below w.heap.size w W7) := B7.out
      have c3 : len3 ≤ cap3 := rb_cap HP.out
      have c4 : len4 ≤ cap4 := rb_cap HQ.out
      rcases Nat.lt_or_ge len4 len3 with hmn | hmn
      · have P1 : Hid (RB W7 (.slice a3 len4 cap3) len4 f) := (HP.out.below B7L.out).first len4 (by omega)
        have Q1 : Hid (RB W7 (.slice a4 len4 cap4) len4 g) := (HQ.out.below B7L.out).first len4 (by omega)
        have z1 : (len4 : Int) ≤ cap3 := by omega
        have z2 : (len4 : Int) ≤ cap4 := by omega
        go_upto_region 18 with fail
        go_cut [17] (fun v8 W8 => (∃ a c, v8 = .slice a len4 c ∧ RB W8 (.slice a len4 c) len4 (fun i => xb (f i) (g i))) ∧ RB W8 (.slice a3 len4 cap3) len4 f ∧ RB W8 (.slice a4 len4 cap4) len4 g ∧ Below w.heap.size w W8)
        case first =>
          go_region_with (go_at_call 32; refine (xor32 _ _ len4 len4 f g _ (RB.drewN P1.out _) (RB.drewN Q1.out _) (by omega) (by omega)).mono ?_; rintro e W8 ⟨v8, rfl, ho, hb⟩; have HX := hid ho; have HY := hid hb; clear ho hb)
          go_wp2_with fail
          go_meet
          case rel =>
            have ho := HX.out
            have hb := HY.out
            rw [Nat.min_self] at ho
            obtain ⟨h1, a, c, h2, h3⟩ := ho.reads
            refine ⟨⟨a, c, h2, ?_⟩, (RB.drewN P1.out _).below hb, (RB.drewN Q1.out _).below hb, (Below.drewN' B7L.out _).trans (hb.mono B7L.out.size)⟩
            rw [← h2]
            exact ho.reads
        case rest =>
          obtain ⟨⟨z8, c8, rfl, hr8⟩, hp8, hq8, hb8⟩ := hcut
          have R8 := hid hr8
          have P8 := hid hp8
          have Q8 := hid hq8
          have B8 := hid hb8
          clear hr8 hp8 hq8 hb8 P1 Q1 B7L B7
          go_wp2_with fail
          go_region_held3 (fun _ => True) (trivial) (first | (go_at_call 32; refine (xor32 _ _ len4 len4 (fun i => xb (f i) (g i)) g _ (by exact R8.out) (by exact Q8.out) (by omega) (by omega)).mono ?_; rintro e W9 ⟨v9, rfl, ho, hb⟩; rw [Nat.min_self] at ho; have R9 := hid ho.reads; have P9 := hid (RB.below (w := wc.drew) P8.out hb); have B9 : Hid (Below w.heap.size w W9) := (Below.drew B8.out).trans (hb.mono B8.out.size); clear ho hb) | (go_at_call 29; refine (same_true _ _ len4 _ _ _ R9.out P9.out (by omega) (fun i _ => xb_twice _ _ (HP.out.1 i) (HQ.out.1 i))).mono ?_; rintro e W10 ⟨rfl, d9, rfl⟩))
          go_wp2
          go_ret
          exact ⟨rfl, Below.drewN' B9.out _⟩
      · have P1 : Hid (RB W7 (.slice a3 len3 cap3) len3 f) := (HP.out.below B7L.out).first len3 (by omega)
        have Q1 : Hid (RB W7 (.slice a4 len3 cap4) len3 g) := (HQ.out.below B7L.out).first len3 (by omega)
        have z1 : (len3 : Int) ≤ cap3 := by omega
        have z2 : (len3 : Int) ≤ cap4 := by omega
        go_upto_region 18 with fail
        go_cut [17] (fun v8 W8 => (∃ a c, v8 = .slice a len3 c ∧ RB W8 (.slice a len3 c) len3 (fun i => xb (f i) (g i))) ∧ RB W8 (.slice a3 len3 cap3) len3 f ∧ RB W8 (.slice a4 len3 cap4) len3 g ∧ Below w.heap.size w W8)
        case first =>
          go_region_with (go_at_call 32; refine (xor32 _ _ len3 len3 f g _ (RB.drewN P1.out _) (RB.drewN Q1.out _) (by omega) (by omega)).mono ?_; rintro e W8 ⟨v8, rfl, ho, hb⟩; have HX := hid ho; have HY := hid hb; clear ho hb)
          go_wp2_with fail
          go_meet
          case rel =>
            have ho := HX.out
            have hb := HY.out
            rw [Nat.min_self] at ho
            obtain ⟨h1, a, c, h2, h3⟩ := ho.reads
            refine ⟨⟨a, c, h2, ?_⟩, (RB.drewN P1.out _).below hb, (RB.drewN Q1.out _).below hb, (Below.drewN' B7L.out _).trans (hb.mono B7L.out.size)⟩
            rw [← h2]
            exact ho.reads
        case rest =>
          obtain ⟨⟨z8, c8, rfl, hr8⟩, hp8, hq8, hb8⟩ := hcut
          have R8 := hid hr8
          have P8 := hid hp8
          have Q8 := hid hq8
          have B8 := hid hb8
          clear hr8 hp8 hq8 hb8 P1 Q1 B7L B7
          go_wp2_with fail
          go_region_held3 (fun _ => True) (trivial) (first | (go_at_call 32; refine (xor32 _ _ len3 len3 (fun i => xb (f i) (g i)) g _ (by exact R8.out) (by exact Q8.out) (by omega) (by omega)).mono ?_; rintro e W9 ⟨v9, rfl, ho, hb⟩; rw [Nat.min_self] at ho; have R9 := hid ho.reads; have P9 := hid (RB.below (w := wc.drew) P8.out hb); have B9 : Hid (Below w.heap.size w W9) := (Below.drew B8.out).trans (hb.mono B8.out.size); clear ho hb) | (go_at_call 29; refine (same_true _ _ len3 _ _ _ R9.out P9.out (by omega) (fun i _ => xb_twice _ _ (HP.out.1 i) (HQ.out.1 i))).mono ?_; rintro e W10 ⟨rfl, d9, rfl⟩))
          go_wp2
          go_ret
          exact ⟨rfl, Below.drewN' B9.out _⟩

/-! ### THE ROW's STEP: WRITTEN OUT: LEAVE IT -/
set_option maxRecDepth 100000 in
theorem lifted (os : Os) (started : os.Started) (H : Type) (enc : TypeId × Value → H) :
    ReturnsInHanded {} Try.checked os 7 .any (Rows.wordBackSpec.pre6 enc Try.prog Try.f7 Rows.wordBackRow.domain false) (Rows.wordBackSpec.post enc Try.prog Try.f7 false true false false) := by
  refine returnsInHanded_of_change_sized (C := Try.checked) own started (by kernel_rfl) Try.func7
    (ChangeSpec.witness6 (enc := enc) (C := Try.checked) false ⟨#[], #[.int .u64 0, .int .i64 0, .int .i64 0, .slice none 0 0, .slice none 0 0], []⟩ 8 (by kernel_rfl) (by kernel_rfl) (by kernel_rfl) (by kernel_rfl)) ?_
  intro W base args ds gs before hval0 hW hcnd hsz0 _
  have hsz : (DataW.weightsEach Try.prog (Try.f7.params.toList ++ Rows.wordBackSpec.plain.varTypes Try.prog) (ds ++ gs)).all (· ≤ reachBytes) = true := hsz0
  clear hsz0
  have hval : ∀ (j : Nat) t v, Try.f7.params[j]? = some t → args[j]? = some v → Value.okWide Try.prog W .any base t v := hval0
  have hW' := hW
  obtain ⟨p, q, hA0, hV, rfl, hfz, hnd⟩ := hW
  have hA : DataW.TrodAll enc Try.prog W 0 (fun _ => true) true Try.f7.params.toList args.toList ds p := hA0
  rw [Try.params7] at hA hval hsz
  obtain ⟨v0, vs0, d0, ds0, p0, q0, hargs, rfl, rfl, h0, r0⟩ := trodAll_cons hA
  obtain ⟨v1, vs1, d1, ds1, p1, q1, rfl, rfl, rfl, h1, r1⟩ := trodAll_cons r0
  obtain ⟨v2, vs2, d2, ds2, p2, q2, rfl, rfl, rfl, h2, r2⟩ := trodAll_cons r1
  obtain ⟨v3, vs3, d3, ds3, p3, q3, rfl, rfl, rfl, h3, r3⟩ := trodAll_cons r2
  obtain ⟨v4, vs4, d4, ds4, p4, q4, rfl, rfl, rfl, h4, r4⟩ := trodAll_cons r3
  obtain ⟨rfl, rfl, rfl⟩ := trodAll_nil r4
  obtain rfl : args = #[v0, v1, v2, v3, v4] := by cases args; simp_all
  obtain ⟨rfl, rfl⟩ := trodVars_none hV
  obtain ⟨a0, rfl, rfl, rfl, w0⟩ := open_int Try.underlying22 (hval 0 22 v0 rfl rfl) h0
  obtain ⟨a1, rfl, rfl, rfl, w1⟩ := open_int Try.underlying3 (hval 1 3 v1 rfl rfl) h1
  obtain ⟨a2, rfl, rfl, rfl, w2⟩ := open_int Try.underlying3 (hval 2 3 v2 rfl rfl) h2
  obtain ⟨a3, len3, cap3, rfl⟩ := okWide_slice Try.underlying32 (hval 3 32 v3 rfl rfl)
  have k3 := h3
  have lt3 : ∀ x ∈ p3, x.block < W.heap.size := by obtain ⟨m, hm⟩ := k3; exact DataW.trod_lt m _ _ _ hm
  obtain ⟨z3, w3, q3⟩ : ∃ zs, IsRow .u8 W a3 len3 cap3 zs ∧ len3 ≤ 140737488351232 := by
    obtain ⟨fuel, hf⟩ := h3
    rcases open_ints Try.underlying32 Try.underlying5 (by kernel_rfl) hf with ⟨hcs, _⟩ | ⟨x, l, c, zs, hcs, _, hl, hm, hz, hx, hcell, hwz⟩
    · simp [Value.cells] at hcs
      obtain ⟨rfl, rfl, rfl⟩ := hcs
      exact ⟨[], .inl ⟨rfl, rfl, rfl, rfl⟩, by omega⟩
    · simp [Value.cells] at hcs
      obtain ⟨rfl, rfl, rfl⟩ := hcs
      refine ⟨zs, .inr ⟨_, rfl, hl, hm, by simpa using hz, hcell, hwz⟩, ?_⟩
      have hd := congrArg Prod.fst hx
      have hs := sized_slice hsz (j := 3) (t := 32) (e := 5) rfl (by show some d3 = _; exact congrArg some hd) Try.underlying32
      rw [bytes5] at hs
      simp only [lits, List.length_map, List.length_take, List.length_drop, reachBytes] at hs
      have hz' : zs.length = cap3 := by simpa using hz
      omega
  obtain ⟨a4, len4, cap4, rfl⟩ := okWide_slice Try.underlying32 (hval 4 32 v4 rfl rfl)
  have k4 := h4
  have lt4 : ∀ x ∈ p4, x.block < W.heap.size := by obtain ⟨m, hm⟩ := k4; exact DataW.trod_lt m _ _ _ hm
  obtain ⟨z4, w4, q4⟩ : ∃ zs, IsRow .u8 W a4 len4 cap4 zs ∧ len4 ≤ 140737488351232 := by
    obtain ⟨fuel, hf⟩ := h4
    rcases open_ints Try.underlying32 Try.underlying5 (by kernel_rfl) hf with ⟨hcs, _⟩ | ⟨x, l, c, zs, hcs, _, hl, hm, hz, hx, hcell, hwz⟩
    · simp [Value.cells] at hcs
      obtain ⟨rfl, rfl, rfl⟩ := hcs
      exact ⟨[], .inl ⟨rfl, rfl, rfl, rfl⟩, by omega⟩
    · simp [Value.cells] at hcs
      obtain ⟨rfl, rfl, rfl⟩ := hcs
      refine ⟨zs, .inr ⟨_, rfl, hl, hm, by simpa using hz, hcell, hwz⟩, ?_⟩
      have hd := congrArg Prod.fst hx
      have hs := sized_slice hsz (j := 4) (t := 32) (e := 5) rfl (by show some d4 = _; exact congrArg some hd) Try.underlying32
      rw [bytes5] at hs
      simp only [lits, List.length_map, List.length_take, List.length_drop, reachBytes] at hs
      have hz' : zs.length = cap4 := by simpa using hz
      omega
  clear hA0 hval0
  refine (walk a0 a1 a2 a3 len3 cap3 z3 a4 len4 cap4 z4 W w0 w1 w2 w3 w4 q3 q4).mono fun e W' ⟨he, bel⟩ => ?_
  subst he
  exact ⟨_, rfl, _, _, _, [], _, [], hW', trodAll_mk1 (shut_bool Try.underlying4 _), (trodAll_cons_mk (shut_int Try.underlying22 w0) (trodAll_cons_mk (shut_int Try.underlying3 w1) (trodAll_cons_mk (shut_int Try.underlying3 w2) (trodAll_cons_mk (Below.trod laidOut (by kernel_rfl) (of_decide_eq_true (by kernel_rfl)) k3 bel lt3) (trodAll_cons_mk (Below.trod laidOut (by kernel_rfl) (of_decide_eq_true (by kernel_rfl)) k4 bel lt4) trodAll_mk0))))), rfl, bel.frame _, fun h => by cases h⟩

theorem over : Rows.wordBackRow.holds Try.pinned (OpenSpec.ofChange Rows.wordBackSpec) :=
  OpenClaim.holds_of_wide 7 Try.f7 rfl rfl rfl rfl rfl rfl rfl ⟨rfl, rfl, rfl, rfl, rfl⟩ rfl rfl rfl rfl rfl (by kernel_rfl) Try.func7 (by kernel_rfl)
    (of_decide_eq_true (by kernel_rfl)) (by unfold Func.isWrapper; first | (rw [if_pos (by decide +kernel)]; kernel_rfl) | (rw [if_neg (by decide +kernel)]; exact ⟨rfl, rfl⟩))
    (fun os started H enc _ => lifted os started H enc)

/-- ████ THE STATEMENT ████ -/
theorem proved : Rows.WordBackSaid := over
end Go.Proofs.Ytfieheldneddeaa.wordBack
namespace Go.Proofs.Ytfieheldneddeaa
theorem wordBack_holds : Rows.WordBackSaid := wordBack.proved
#print axioms wordBack_holds
end Go.Proofs.Ytfieheldneddeaa
