/- LedgerNone: a nil ledger takes nothing and tells nothing, for every event and every number; no condition. -/
import Derived.Test.YtonggccbgiecmaaIter
import Derived.Test.YtonggccbgiecmaaLives
import Derived.OpenShut
import Derived.ChangeOld
import Derived.Carry
namespace Go.Proofs.Ytonggccbgiecmaa
open Go.ChangeShapes Go.WideShapes Go.ChangeAt Go.RowKit Go.Shelf
attribute [local go_sem] Oper.semAt_some

set_option maxHeartbeats 1200000 in
theorem since23n (m : Int) (w : World) : Calls Try.prog 23 #[.pointer none, .int .i64 m] w fun e w' => e = .returned (.slice none 0 0) ∧ w' = w := by
  by_cases hm : m ≤ 0
  · go_enter Try.func23, Try.ntmps23
    go_wp2_with fail
    refine (runs22n w).mono ?_
    rintro e w' ⟨rfl, rfl⟩
    go_wp2
    go_ret
    exact ⟨rfl, rfl⟩
  · have h2 : (0 : Int) ≤ m := by omega
    go_enter Try.func23, Try.ntmps23
    go_wp2_with fail
    refine (len20n w).mono ?_
    rintro e w' ⟨rfl, rfl⟩
    go_wp2
    go_ret
    exact ⟨rfl, rfl⟩

theorem kp_cell' {S : Nat → Prop} {w w' : World} (hk : Kp S w w') {b off : Nat} {v : Value} (h : w.cell? ⟨b, off, none⟩ = some v) (hn : ¬ S b) : w'.cell? ⟨b, off, none⟩ = some v := by
  rw [World.cell?_of_block (w := w) (a := ⟨b, off, none⟩) (hk.block b (block_lt_of_cell h) hn)]; exact h
theorem eqlFunc0 (d : Nat) (fn : Fn) (a b : Array Value) (w : World) : (Op.equalIn (d + 1) 49 (.func fn a b) .nilFunc).run Try.prog w = .ok false w := by
  simp [Op.equalIn, run_underlying Try.underlying49]
theorem eqlFunc (fn : Fn) (a b : Array Value) (w : World) : (binOp .eql 49 (.func fn a b) .nilFunc).run Try.prog w = .ok (.bool false) w := by
  simp only [binOp]
  simp [Op.equal, Op.maxDepth, eqlFunc0 9999 fn a b w]
set_option maxRecDepth 100000 in
set_option maxHeartbeats 2000000 in
theorem noneWalk (k s n : Int) (w : World) : Calls Try.prog 4 #[.agg #[.int .u8 k, .int .i64 s], .int .i64 n] w fun e w' => e = .returned (.bool true) ∧ Below w.heap.size w w' := by
  refine (callsIn_wide (n := 7)).1 ?_
  refine callsIn_of_wp_marks Try.func4 rfl trivial ?_ rfl
  simp only [Try.ntmps4, List.size_toArray, List.length_cons, List.length_nil, Nat.reduceAdd, Nat.reduceSub, Array.replicate_succ, Array.replicate_zero, List.push_toArray, List.append_toArray, List.nil_append, List.cons_append]
  have X0 : Hid (Box (w.alloc (.cells #[.int .u8 k, .int .i64 s] 39)) w.heap.size k s) := heap_alloc_new w _
  have B0 := hid (below_alloc w (.cells #[.int .u8 k, .int .i64 s] 39))
  gi_wp2_with fail
  refine ⟨trivial, (callsIn_wide.2 (note16n k s _)).mono ?_⟩
  rintro e w1 ⟨rfl, hb⟩
  have X1 := hid (X0.out.kept (Kp.of_below (fun _ => False) hb) id)
  have B1 := hid (below_next B0.out hb)
  clear hb X0 B0
  have c0 := X1.out.c0
  have c1 := X1.out.c1
  gi_wp2_with fail
  refine ⟨trivial, (callsIn_wide.2 (noteTimes17n k s n _)).mono ?_⟩
  rintro e w2 ⟨rfl, hb⟩
  have X2 := hid (X1.out.kept (Kp.of_below (fun _ => False) hb) id)
  have B2 := hid (below_next B1.out hb)
  clear hb X1 B1 c0 c1
  gi_wp2_with fail
  refine ⟨trivial, (callsIn_wide.2 (reset18n _)).mono ?_⟩
  rintro e w' ⟨rfl, rfl⟩
  gi_wp2_with fail
  refine ⟨trivial, (callsIn_wide.2 (all19n _)).mono ?_⟩
  rintro e w3 ⟨Bs, rfl, hbs, hbz, hb⟩
  have X3 := hid (X2.out.kept (Kp.of_below (fun _ => False) hb) id)
  have B3 := hid (below_next B2.out hb)
  have HBS := hid hbs
  have HBZ := hid hbz
  clear hb X2 B2 hbs hbz
  have hnil := eqlFunc
  gi_wp2_with fail
  have hKc : (w3.alloc (.cells #[.int .i64 0] 3)).cell? ⟨w3.heap.size, 0, none⟩ = some (.int .i64 0) := by rw [cell_of_row _ _ 0 _ 3 (0, 0) (heap_alloc_new w3 _)]; rfl
  have hBl : Bs < w3.heap.size := block_lt_of_cell HBS.out
  have hB4 : Below w.heap.size w (w3.alloc (.cells #[.int .i64 0] 3)) := B3.out.alloc B3.out.size _
  refine wpIn_rangeFunc_ownF (α := Int × Int) (hro := rfl) (h1 := by omega) (gf := 48) (lb := #[.pointer (some ⟨Bs, 0, none⟩)]) rfl trivial (enters_of Try.func48 (by kernel_rfl) rfl)
    (all_stops Fence.wide _ trivial rfl (by omega) Bs (fun b => b = w3.heap.size) (.slice none 0 0) [] pos_nil (by simp) (w3.alloc (.cells #[.int .i64 0] 3)) (by rw [(below_alloc w3 _).cell (p := ⟨Bs, 0, none⟩) hBl]; exact HBS.out) (Own.nil _ 0).reads (fun b e => by subst e; simp) (fun b e => by simp [Value.ownBlock] at e)) (fun h k => h.trans k) (fun W l o o' hl ho hc _ => KC.putObj ho hc) (Below.refl _ _) (fun _ => rfl)
    (fun pre W => (W.cell? ⟨w3.heap.size, 0, none⟩ = some (.int .i64 pre.length) ∧ W.frozen? ⟨w3.heap.size, 0, none⟩ = false) ∧ (Box W w.heap.size k s ∧ Below w.heap.size w W))
    (fun _ _ _ => False) ?hI ?hIx ?h0 (fun x => { tmps := #[.agg #[.int .u8 k, .int .i64 s], .int .i64 n, .pointer (some ⟨w.heap.size, 0, none⟩), undef, .bool false, .pointer none, .func (.func 48) #[] #[.pointer (some ⟨Bs, 0, none⟩)], .pointer (some ⟨w3.heap.size, 0, none⟩), .pointer none, .agg #[.int .u8 k, .int .i64 s], .tuple #[], .pointer none, .agg #[.int .u8 k, .int .i64 s], .int .i64 n, .tuple #[], .pointer none, .tuple #[], .pointer none, .func (.func 48) #[] #[.pointer (some ⟨Bs, 0, none⟩)], .func (.func 48) #[] #[.pointer (some ⟨Bs, 0, none⟩)], .bool false, .func (.func 48) #[] #[.pointer (some ⟨Bs, 0, none⟩)], .agg #[.int .u8 x.1, .int .i64 x.2], undef, undef, undef, undef, undef, undef, undef, undef, undef, undef, undef, undef, undef, undef, undef, undef, undef, undef, undef, undef, undef, undef, undef, undef, undef, undef, undef, undef, undef, undef, undef, undef, undef, undef, undef, undef, undef], defers := [] }) ?assign ?body ?done ?stop
  case hI =>
    refine OwnFrom.and (Go.Own.from (fun s A B row hs hg hr => ⟨cell_kept hs.1 hg hr, (frozen_kept hs.1 hg hr).trans hs.2⟩) _) (OwnFrom.and ?_ (ownFrom_below (Nat.le_refl _) (by have := hB4.size; omega)))
    intro q A B row hs hg hr
    refine (hg.block w.heap.size hs.lt ?_).trans hs
    intro e
    obtain ⟨_, o, ho, hc⟩ := hr _ e.symm
    rw [hs] at ho
    cases ho
    simp [Obj.isCells] at hc
  case hIx => exact fun _ _ _ _ _ h _ _ => h
  case h0 => exact ⟨⟨hKc, frozen_of_row _ _ 0 _ 3 (heap_alloc_new w3 _)⟩, X3.out.kept (Kp.of_below (fun _ => False) (below_alloc _ _)) id, hB4⟩
  case assign =>
    intro l x W K hK
    gi_wp2
    exact hK
  case body =>
    rintro l pre x W ⟨⟨hc, hf⟩, hx, hb⟩ hlt
    simp [evs] at hlt
  case done =>
    rintro D ys W hD rfl ⟨⟨hc, hf⟩, hx, hb⟩ hK
    have hc2 : W.cell? ⟨w3.heap.size, 0, none⟩ = some (.int .i64 0) := by simpa [evs] using hc
    have HC := hid hc2
    have HX := hid hx
    have HB := hid hb
    have HK := hid hK
    have HD : Hid (w.heap.size ≤ D) := by have := hB4.size; show _ ≤ _; simp at hD this; omega
    clear hc hf hx hb hK hc2 hKc hB4 hD
    gi_wp2_with fail
    refine ⟨trivial, (callsIn_wide.2 (lives8 _)).mono ?_⟩
    rintro e w5 ⟨rfl, hb⟩
    have C5 := kp_cell' (Kp.of_below (fun _ => False) hb) HC.out id
    have X5 := HX.out.kept (Kp.of_below (fun _ => False) hb) id
    have D5 : Hid (w5.heap[D]? = some (.deferred (some []))) := (hb.block D (Array.getElem?_eq_some_iff.1 HK.out).1).trans HK.out
    have B5 := hid (HB.out.trans (hb.mono HB.out.size))
    have x0 := X5.c0
    have x1 := X5.c1
    clear hb X5 HC HX HB HK
    gi_wp2_with fail
    refine ⟨trivial, (callsIn_wide.2 (len20n _)).mono ?_⟩
    rintro e w' ⟨rfl, rfl⟩
    gi_wp2_with fail
    refine ⟨trivial, (callsIn_wide.2 (mark21n _)).mono ?_⟩
    rintro e w' ⟨rfl, rfl⟩
    gi_wp2_with fail
    refine ⟨trivial, (callsIn_wide.2 (runs22n _)).mono ?_⟩
    rintro e w' ⟨rfl, rfl⟩
    gi_wp2_with fail
    refine ⟨trivial, (callsIn_wide.2 (since23n n _)).mono ?_⟩
    rintro e w' ⟨rfl, rfl⟩
    gi_wp2_with fail
    refine ⟨trivial, (callsIn_wide.2 (count24n k _)).mono ?_⟩
    rintro e w' ⟨rfl, rfl⟩
    gi_wp2
    refine ⟨by simp, .inl ⟨_, _, rfl, run_takeDeferred D5.out, ?_⟩⟩
    exact ⟨_, results_tmp rfl _ _ _, rfl, B5.out.trans (belowK_b (w := w) (Nat.le_refl _) _ D _ _ HD.out D5.out rfl rfl)⟩
  case stop =>
    rintro D c pre W _ _ h _
    exact h.elim

/-- Cells of an event, as an argument's reading opens them. -/
theorem open_ev {H : Type} {enc : TypeId × Value → H} {w : World} {base : Nat} {spare : Nat → Bool} {held : Bool} {fuel : Nat} {cs : List Value} {x : DataW H × List MemPlace} (h : DataW.trod enc Try.prog w base spare held fuel 39 cs = some x) : ∃ k s, cs = [.int .u8 k, .int .i64 s] ∧ (0 ≤ k ∧ k < 256) ∧ (-9223372036854775808 ≤ s ∧ s ≤ 9223372036854775807) := by
  obtain ⟨zs, n2, _, _, hl, hzl, hz⟩ := DataW.trod_struct Try.underlying39 h
  have hl2 : cs.length = 2 := by rw [hl]; kernel_rfl
  match cs, hl2 with
  | [a, b], _ =>
    have k0 := hz 0 { name := "Kind", type := 37, offset := 0, embedded := false, tag := "", pkgPath := "", byteOffset := 0 } rfl
    have k1 := hz 1 { name := "Size", type := 3, offset := 1, embedded := false, tag := "", pkgPath := "", byteOffset := 8 } rfl
    have e3 : Try.prog.cellsOf 3 = 1 := by kernel_rfl
    have e37 : Try.prog.cellsOf 37 = 1 := by kernel_rfl
    dsimp only at k0 k1
    rw [e37] at k0
    rw [e3] at k1
    simp only [List.drop_zero, List.take_succ_cons, List.take_zero, List.drop_succ_cons] at k0 k1
    obtain ⟨u0, hu0⟩ : ∃ y, zs[0]? = some y := ⟨_, List.getElem?_eq_getElem (by rw [hzl]; decide)⟩
    obtain ⟨u1, hu1⟩ : ∃ y, zs[1]? = some y := ⟨_, List.getElem?_eq_getElem (by rw [hzl]; decide)⟩
    rw [hu0] at k0
    rw [hu1] at k1
    obtain ⟨a', ha, _, wa⟩ := DataW.trod_int Try.underlying37 k0
    obtain ⟨b', hb, _, wb⟩ := DataW.trod_int Try.underlying3 k1
    simp only [List.cons.injEq, and_true] at ha hb
    subst ha hb
    refine ⟨a', b', rfl, ?_, ?_⟩
    · have : 0 ≤ a' ∧ a' ≤ 255 := by simpa [Lit.wf, IntKind.min, IntKind.max, IntKind.signed, IntKind.bits] using wa
      omega
    · simpa [Lit.wf, IntKind.min, IntKind.max, IntKind.signed, IntKind.bits] using wb
end Go.Proofs.Ytonggccbgiecmaa
namespace Go.Proofs.Ytonggccbgiecmaa.ledgerNone
open Go.ChangeShapes Go.WideShapes Go.ChangeAt Go.RowKit
set_option linter.unusedVariables false

theorem own : ownKnob Try.prog.godebug = none := by kernel_rfl
theorem laidOut : laidOutB Try.prog = true := by kernel_rfl

set_option maxRecDepth 100000 in
theorem lifted (os : Os) (started : os.Started) (H : Type) (enc : TypeId × Value → H) :
    ReturnsInHanded {} Try.checked os 4 .any (Rows.ledgerNoneSpec.pre6 enc Try.prog Try.f4 Rows.ledgerNoneRow.domain false) (Rows.ledgerNoneSpec.post enc Try.prog Try.f4 false true false false) := by
  refine returnsInHanded_of_change (C := Try.checked) own started (by kernel_rfl) Try.func4
    (ChangeSpec.witness6 (enc := enc) (C := Try.checked) false ⟨#[], #[.agg #[.int .u8 0, .int .i64 0], .int .i64 0], []⟩ 8 (by kernel_rfl) (by kernel_rfl) (by kernel_rfl) (by kernel_rfl)) ?_
  intro W base args ds gs before hval0 hW hcnd _
  have hval : ∀ (j : Nat) t v, Try.f4.params[j]? = some t → args[j]? = some v → Value.okWide Try.prog W .any base t v := hval0
  have hW' := hW
  obtain ⟨p, q, hA0, hV, rfl, hfz, hnd⟩ := hW
  have hA : DataW.TrodAll enc Try.prog W 0 (fun _ => true) true Try.f4.params.toList args.toList ds p := hA0
  rw [Try.params4] at hA hval
  obtain ⟨v0, vs0, d0, ds0, p0, q0, hargs, rfl, rfl, h0, r0⟩ := trodAll_cons hA
  obtain ⟨v1, vs1, d1, ds1, p1, q1, rfl, rfl, rfl, h1, r1⟩ := trodAll_cons r0
  obtain ⟨rfl, rfl, rfl⟩ := trodAll_nil r1
  obtain rfl : args = #[v0, v1] := by cases args; simp_all
  obtain ⟨rfl, rfl⟩ := trodVars_none hV
  have k0 := h0
  have lt0 : ∀ x ∈ p0, x.block < W.heap.size := by obtain ⟨m, hm⟩ := k0; exact DataW.trod_lt m _ _ _ hm
  have k1 := h1
  have lt1 : ∀ x ∈ p1, x.block < W.heap.size := by obtain ⟨m, hm⟩ := k1; exact DataW.trod_lt m _ _ _ hm
  obtain ⟨k, s, rfl⟩ : ∃ k s, v0 = .agg #[.int .u8 k, .int .i64 s] := by
    obtain ⟨cs, rfl, hcs⟩ := okWide_struct Try.underlying39 (hval 0 39 v0 rfl rfl)
    obtain ⟨fuel, hf⟩ := h0
    obtain ⟨k, s, e, _⟩ := open_ev hf
    refine ⟨k, s, ?_⟩
    have e2 : cs.toList = [.int .u8 k, .int .i64 s] := by simpa [Value.cells] using e
    rw [← Array.toArray_toList (xs := cs), e2]
  obtain ⟨n, rfl, _, _, _⟩ := open_int Try.underlying3 (hval 1 3 v1 rfl rfl) h1
  clear hA0 hval0
  refine (noneWalk k s n W).mono fun e W' ⟨he, bel⟩ => ?_
  subst he
  exact ⟨_, rfl, _, _, _, [], _, [], hW', trodAll_mk1 (shut_bool Try.underlying4 _), (trodAll_cons_mk (Below.trod laidOut (by kernel_rfl) (of_decide_eq_true (by kernel_rfl)) k0 bel lt0) (trodAll_cons_mk (Below.trod laidOut (by kernel_rfl) (of_decide_eq_true (by kernel_rfl)) k1 bel lt1) trodAll_mk0)), rfl, bel.frame _, fun h => by cases h⟩

theorem over : Rows.ledgerNoneRow.holds Try.pinned (OpenSpec.ofChange Rows.ledgerNoneSpec) :=
  OpenClaim.holds_of_wide 4 Try.f4 rfl rfl rfl rfl rfl rfl rfl ⟨rfl, rfl, rfl, rfl, rfl⟩ rfl rfl rfl rfl rfl (by kernel_rfl) Try.func4 (by kernel_rfl)
    (of_decide_eq_true (by kernel_rfl)) (by unfold Func.isWrapper; first | (rw [if_pos (by decide +kernel)]; kernel_rfl) | (rw [if_neg (by decide +kernel)]; exact ⟨rfl, rfl⟩))
    (fun os started H enc _ => lifted os started H enc)
theorem proved : Rows.LedgerNoneSaid := over
end Go.Proofs.Ytonggccbgiecmaa.ledgerNone
namespace Go.Proofs.Ytonggccbgiecmaa
theorem ledgerNone_holds : Rows.LedgerNoneSaid := ledgerNone.proved
#print axioms ledgerNone_holds
end Go.Proofs.Ytonggccbgiecmaa
