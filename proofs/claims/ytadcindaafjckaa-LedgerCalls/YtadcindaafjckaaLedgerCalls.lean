/- LedgerCalls: for every script of calls, two ledgers of the program answer what the document says, call by call; what they tell stays and lies apart, neither touches the other; nothing that is handed in is changed; no condition. -/
import Derived.Test.YtadcindaafjckaaLmain
import Derived.SizedLaws
import Derived.Deep.Slices
import Derived.OpenShut
import Derived.ChangeOld
import Derived.Carry
namespace Go.Proofs.Ytadcindaafjckaa
open Go.ChangeShapes Go.WideShapes Go.ChangeAt Go.RowKit
theorem some_at {α : Type} {l : List α} {i : Nat} (h : i < l.length) : ∃ y, l[i]? = some y := ⟨l[i], List.getElem?_eq_getElem h⟩
/-- Cells of an event, as an argument's reading opens them. -/
theorem open_ev {H : Type} {enc : TypeId × Value → H} {w : World} {base : Nat} {spare : Nat → Bool} {held : Bool} {fuel : Nat} {cs : List Value} {x : DataW H × List MemPlace} (h : DataW.trod enc Try.prog w base spare held fuel 39 cs = some x) : ∃ k s, cs = [.int .u8 k, .int .i64 s] ∧ (0 ≤ k ∧ k < 256) ∧ (-9223372036854775808 ≤ s ∧ s ≤ 9223372036854775807) := by
  obtain ⟨zs, n2, _, _, hl, hzl, hz⟩ := DataW.trod_struct Try.underlying39 h
  have hl2 : cs.length = 2 := by rw [hl]; kernel_rfl
  match cs, hl2 with
  | [a, b], _ =>
    have k0 := hz 0 { name := "Kind", type := 37, offset := 0, embedded := false, tag := "", pkgPath := "", byteOffset := 0 } rfl
    have k1 := hz 1 { name := "Size", type := 3, offset := 1, embedded := false, tag := "", pkgPath := "", byteOffset := 8 } rfl
    have e3 : Try.prog.cellsOf 3 = 1 := by kernel_rfl
    have e37 : Try.prog.cellsOf 37 = 1 := by kernel_rfl
    dsimp only at k0 k1
    rw [e37] at k0
    rw [e3] at k1
    simp only [List.drop_zero, List.take_succ_cons, List.take_zero, List.drop_succ_cons] at k0 k1
    obtain ⟨u0, hu0⟩ : ∃ y, zs[0]? = some y := ⟨_, List.getElem?_eq_getElem (by rw [hzl]; decide)⟩
    obtain ⟨u1, hu1⟩ : ∃ y, zs[1]? = some y := ⟨_, List.getElem?_eq_getElem (by rw [hzl]; decide)⟩
    rw [hu0] at k0
    rw [hu1] at k1
    obtain ⟨a', ha, _, wa⟩ := DataW.trod_int Try.underlying37 k0
    obtain ⟨b', hb, _, wb⟩ := DataW.trod_int Try.underlying3 k1
    simp only [List.cons.injEq, and_true] at ha hb
    subst ha hb
    refine ⟨a', b', rfl, ?_, ?_⟩
    · have : 0 ≤ a' ∧ a' ≤ 255 := by simpa [Lit.wf, IntKind.min, IntKind.max, IntKind.signed, IntKind.bits] using wa
      omega
    · simpa [Lit.wf, IntKind.min, IntKind.max, IntKind.signed, IntKind.bits] using wb
/-- Cells of an act, as an argument's reading opens them. -/
theorem open_act {H : Type} {enc : TypeId × Value → H} {w : World} {base : Nat} {spare : Nat → Bool} {held : Bool} {fuel : Nat} {cs : List Value} {x : DataW H × List MemPlace} (h : DataW.trod enc Try.prog w base spare held fuel 41 cs = some x) : ∃ r : Ac, r.Ok ∧ cs = [.int .i64 r.on, .int .i64 r.c, .int .u8 r.k, .int .i64 r.s, .int .i64 r.n] := by
  obtain ⟨xs, n1, _, _, hl, hxl, hf⟩ := DataW.trod_struct Try.underlying41 h
  have hl5 : cs.length = 5 := by rw [hl]; kernel_rfl
  match cs, hl5 with
  | [a, b, c, d, e], _ =>
    have g0 := hf 0 { name := "On", type := 3, offset := 0, embedded := false, tag := "", pkgPath := "", byteOffset := 0 } rfl
    have g1 := hf 1 { name := "Call", type := 3, offset := 1, embedded := false, tag := "", pkgPath := "", byteOffset := 8 } rfl
    have g2 := hf 2 { name := "Event", type := 39, offset := 2, embedded := false, tag := "", pkgPath := "", byteOffset := 16 } rfl
    have g3 := hf 3 { name := "N", type := 3, offset := 4, embedded := false, tag := "", pkgPath := "", byteOffset := 32 } rfl
    have e39 : Try.prog.cellsOf 39 = 2 := by kernel_rfl
    have e3 : Try.prog.cellsOf 3 = 1 := by kernel_rfl
    dsimp only at g0 g1 g2 g3
    rw [e3] at g0 g1 g3
    rw [e39] at g2
    simp only [List.drop_zero, List.take_succ_cons, List.take_zero, List.drop_succ_cons] at g0 g1 g2 g3
    obtain ⟨y0, hy0⟩ : ∃ y, xs[0]? = some y := some_at (by rw [hxl]; decide)
    obtain ⟨y1, hy1⟩ : ∃ y, xs[1]? = some y := some_at (by rw [hxl]; decide)
    obtain ⟨y2, hy2⟩ : ∃ y, xs[2]? = some y := some_at (by rw [hxl]; decide)
    obtain ⟨y3, hy3⟩ : ∃ y, xs[3]? = some y := some_at (by rw [hxl]; decide)
    rw [hy0] at g0
    rw [hy1] at g1
    rw [hy2] at g2
    rw [hy3] at g3
    obtain ⟨a', ha, _, wa⟩ := DataW.trod_int Try.underlying3 g0
    obtain ⟨b', hb, _, wb⟩ := DataW.trod_int Try.underlying3 g1
    obtain ⟨k, s, hks, hk, hs⟩ := open_ev g2
    obtain ⟨n', hn, _, wn⟩ := DataW.trod_int Try.underlying3 g3
    simp only [List.cons.injEq, and_true] at ha hb hks hn
    subst ha hb hn
    obtain ⟨rfl, rfl⟩ := hks
    exact ⟨⟨a', b', k, s, n'⟩, ⟨hk, hs, by simpa [Lit.wf, IntKind.min, IntKind.max, IntKind.signed, IntKind.bits] using wn⟩, rfl⟩
/-- A list of acts, as an argument's reading opens it. -/
theorem openActs {H : Type} {enc : TypeId × Value → H} {w : World} {base : Nat} {spare : Nat → Bool} {held : Bool} {fuel : Nat} {v : Value} {x : DataW H × List MemPlace} (hv : ∃ a l c, v = .slice a l c) (h : DataW.trod enc Try.prog w base spare held fuel 22 v.cells.toList = some x) :
    ∃ X, AB w v X ∧ (X = [] ∨ ∃ A B, x.1 = .slice A B ∧ X.length ≤ A.length + B.length) := by
  obtain ⟨a0, l0, c0, rfl⟩ := hv
  rcases Deep.open_slice Try.underlying22 h with ⟨hcs, _⟩ | ⟨a, len, cap, m, n, D, Pl, hcs, _, hl, hm, hmm, hx, hel⟩
  · simp [Value.cells] at hcs
    obtain ⟨rfl, rfl, rfl⟩ := hcs
    exact ⟨[], ⟨by simp, none, 0, rfl, by simp, by simp⟩, .inl rfl⟩
  · simp [Value.cells] at hcs
    obtain ⟨rfl, rfl, rfl⟩ := hcs
    have e41 : Try.prog.cellsOf 41 = 5 := by kernel_rfl
    have hlm : l0 ≤ m := by rw [hmm]; split <;> omega
    have each : ∀ i, i < l0 → ∃ r : Ac, r.Ok ∧ w.cell? (a.add (i * 5)) = some (.int .i64 r.on) ∧ w.cell? (a.add (i * 5 + 1)) = some (.int .i64 r.c) ∧ w.cell? (a.add (i * 5 + 2)) = some (.int .u8 r.k) ∧ w.cell? (a.add (i * 5 + 3)) = some (.int .i64 r.s) ∧ w.cell? (a.add (i * 5 + 4)) = some (.int .i64 r.n) := by
      intro i hi
      obtain ⟨cs, h1, h2⟩ := hel i (by omega)
      rw [e41] at h1
      obtain ⟨_, _, hcell⟩ := World.cells?_some h1
      obtain ⟨r, hr, rfl⟩ := open_act h2
      have q0 := hcell 0 (by omega)
      have q1 := hcell 1 (by omega)
      have q2 := hcell 2 (by omega)
      have q3 := hcell 3 (by omega)
      have q4 := hcell 4 (by omega)
      rw [Deep.add_add] at q0 q1 q2 q3 q4
      exact ⟨r, hr, q0, q1, q2, q3, q4⟩
    obtain ⟨R, hR⟩ := @Deep.choose_lt Ac ⟨⟨0, 0, 0, 0, 0⟩⟩ _ _ each
    have hlen : ((List.range l0).map R).length = l0 := by simp
    refine ⟨(List.range l0).map R, ⟨fun r hr => ?_, some a, c0, by rw [hlen], (fun h => by cases h), fun i r hi => ?_⟩, ?_⟩
    · simp at hr
      obtain ⟨i, hi, rfl⟩ := hr
      exact (hR i hi).1
    · have hi2 : i < l0 := by have := (List.getElem?_eq_some_iff.1 hi).1; rw [hlen] at this; exact this
      simp [hi2] at hi
      subst hi
      obtain ⟨b, off, spot⟩ := a
      have hc := (hR 0 (by omega)).2.1
      have hspot : spot = none := by simpa [Addr.add] using World.cell?_spot hc
      subst hspot
      have q := (hR i hi2).2
      rw [add_plain, add_plain, add_plain, add_plain, add_plain, ← Nat.add_assoc, ← Nat.add_assoc, ← Nat.add_assoc, ← Nat.add_assoc] at q
      exact ⟨b, off, rfl, q⟩
    · right
      rw [hx]
      refine ⟨_, _, rfl, ?_⟩
      simp
end Go.Proofs.Ytadcindaafjckaa
namespace Go.Proofs.Ytadcindaafjckaa.ledgerCalls
open Go.ChangeShapes Go.WideShapes Go.ChangeAt Go.RowKit
set_option linter.unusedVariables false

theorem own : ownKnob Try.prog.godebug = none := by kernel_rfl
theorem laidOut : laidOutB Try.prog = true := by kernel_rfl
theorem bytes41 : Try.prog.bytesOf 41 = 40 := by kernel_rfl

set_option maxRecDepth 100000 in
theorem lifted (os : Os) (started : os.Started) (H : Type) (enc : TypeId × Value → H) :
    ReturnsInHanded {} Try.checked os 3 .any (Rows.ledgerCallsSpec.pre6 enc Try.prog Try.f3 Rows.ledgerCallsRow.domain false) (Rows.ledgerCallsSpec.post enc Try.prog Try.f3 false true false false) := by
  refine returnsInHanded_of_change_sized (C := Try.checked) own started (by kernel_rfl) Try.func3
    (ChangeSpec.witness6 (enc := enc) (C := Try.checked) false ⟨#[], #[.slice none 0 0], []⟩ 8 (by kernel_rfl) (by kernel_rfl) (by kernel_rfl) (by kernel_rfl)) ?_
  intro W base args ds gs before hval0 hW hcnd hsz0 _
  have hsz : (DataW.weightsEach Try.prog (Try.f3.params.toList ++ Rows.ledgerCallsSpec.plain.varTypes Try.prog) (ds ++ gs)).all (· ≤ reachBytes) = true := hsz0
  clear hsz0
  have hval : ∀ (j : Nat) t v, Try.f3.params[j]? = some t → args[j]? = some v → Value.okWide Try.prog W .any base t v := hval0
  have hW' := hW
  obtain ⟨p, q, hA0, hV, rfl, hfz, hnd⟩ := hW
  have hA : DataW.TrodAll enc Try.prog W 0 (fun _ => true) true Try.f3.params.toList args.toList ds p := hA0
  rw [Try.params3] at hA hval hsz
  obtain ⟨v0, vs0, d0, ds0, p0, q0, hargs, rfl, rfl, h0, r0⟩ := trodAll_cons hA
  obtain ⟨rfl, rfl, rfl⟩ := trodAll_nil r0
  obtain rfl : args = #[v0] := by cases args; simp_all
  obtain ⟨rfl, rfl⟩ := trodVars_none hV
  have k0 := h0
  have lt0 : ∀ x ∈ p0, x.block < W.heap.size := by obtain ⟨m, hm⟩ := k0; exact DataW.trod_lt m _ _ _ hm
  obtain ⟨X, hX, hXn⟩ : ∃ X, AB W v0 X ∧ X.length < 1000000000000000000 := by
    obtain ⟨fuel, hf⟩ := h0
    obtain ⟨a0, len0, cap0, e⟩ := okWide_slice Try.underlying22 (hval 0 22 v0 rfl rfl)
    obtain ⟨X, hX, rfl | ⟨A, B, hd, hl⟩⟩ := openActs ⟨a0, len0, cap0, e⟩ hf
    · exact ⟨[], hX, by simp⟩
    · refine ⟨X, hX, ?_⟩
      have hs := sized_slice hsz (j := 0) (t := 22) (e := 41) rfl (by show some d0 = _; exact congrArg some hd) Try.underlying22
      rw [bytes41] at hs
      simp only [reachBytes] at hs
      omega
  clear hA0 hval0
  refine (callsWalk v0 X W hX hXn).mono fun e W' ⟨he, bel⟩ => ?_
  subst he
  exact ⟨_, rfl, _, _, _, [], _, [], hW', trodAll_mk1 (shut_bool Try.underlying4 _), (trodAll_cons_mk (Below.trod laidOut (by kernel_rfl) (of_decide_eq_true (by kernel_rfl)) k0 bel lt0) trodAll_mk0), rfl, bel.frame _, fun h => by cases h⟩

theorem over : Rows.ledgerCallsRow.holds Try.pinned (OpenSpec.ofChange Rows.ledgerCallsSpec) :=
  OpenClaim.holds_of_wide 3 Try.f3 rfl rfl rfl rfl rfl rfl rfl ⟨rfl, rfl, rfl, rfl, rfl⟩ rfl rfl rfl rfl rfl (by kernel_rfl) Try.func3 (by kernel_rfl)
    (of_decide_eq_true (by kernel_rfl)) (by unfold Func.isWrapper; first | (rw [if_pos (by decide +kernel)]; kernel_rfl) | (rw [if_neg (by decide +kernel)]; exact ⟨rfl, rfl⟩))
    (fun os started H enc _ => lifted os started H enc)
theorem proved : Rows.LedgerCallsSaid := over
end Go.Proofs.Ytadcindaafjckaa.ledgerCalls
namespace Go.Proofs.Ytadcindaafjckaa
theorem ledgerCalls_holds : Rows.LedgerCallsSaid := ledgerCalls.proved
#print axioms ledgerCalls_holds
end Go.Proofs.Ytadcindaafjckaa
