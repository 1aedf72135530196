/- LedgerMarks: for every two lists of notes, what Mark and Since say between and behind them is what the document says; nothing that is handed in is changed; no condition. -/
import Derived.Test.YtonggccbgiecmaaMarks
import Derived.Test.YtonggccbgiecmaaGone
import Derived.SizedLaws
import Derived.Deep.Slices
import Derived.OpenShut
import Derived.ChangeOld
import Derived.Carry
namespace Go.Proofs.Ytonggccbgiecmaa
open Go.ChangeShapes Go.WideShapes Go.ChangeAt Go.RowKit
theorem gone_holds : Gone34 := fun b rv v L w h hv hn => gone34 b rv v L w h hv hn
theorem some_at {α : Type} {l : List α} {i : Nat} (h : i < l.length) : ∃ y, l[i]? = some y := ⟨l[i], List.getElem?_eq_getElem h⟩
/-- Cells of a note, as an argument's reading opens them. -/
theorem open_note {H : Type} {enc : TypeId × Value → H} {w : World} {base : Nat} {spare : Nat → Bool} {held : Bool} {fuel : Nat} {cs : List Value} {x : DataW H × List MemPlace} (h : DataW.trod enc Try.prog w base spare held fuel 63 cs = some x) : ∃ r : Rn, (r.Ok ∧ 0 ≤ r.c ∧ r.c ≤ 65535) ∧ cs = [.int .u8 r.k, .int .i64 r.s, .int .u16 r.c] := by
  obtain ⟨xs, n1, _, _, hl, hxl, hf⟩ := DataW.trod_struct Try.underlying63 h
  have hl3 : cs.length = 3 := by rw [hl]; kernel_rfl
  match cs, hl3 with
  | [a, b, c], _ =>
    have g0 := hf 0 { name := "Event", type := 39, offset := 0, embedded := false, tag := "", pkgPath := "", byteOffset := 0 } rfl
    have g1 := hf 1 { name := "N", type := 61, offset := 2, embedded := false, tag := "", pkgPath := "", byteOffset := 16 } rfl
    have e39 : Try.prog.cellsOf 39 = 2 := by kernel_rfl
    have e61 : Try.prog.cellsOf 61 = 1 := by kernel_rfl
    dsimp only at g0 g1
    rw [e39] at g0
    rw [e61] at g1
    simp only [List.drop_zero, List.take_succ_cons, List.take_zero, List.drop_succ_cons] at g0 g1
    obtain ⟨y0, hy0⟩ : ∃ y, xs[0]? = some y := some_at (by rw [hxl]; decide)
    obtain ⟨y1, hy1⟩ : ∃ y, xs[1]? = some y := some_at (by rw [hxl]; decide)
    rw [hy0] at g0
    rw [hy1] at g1
    obtain ⟨c', hc, _, wc⟩ := DataW.trod_int Try.underlying61 g1
    obtain ⟨k, s, e, hk, hs⟩ := open_ev g0
    simp only [List.cons.injEq, and_true] at e hc
    obtain ⟨rfl, rfl⟩ := e
    subst hc
    have hc' : 0 ≤ c' ∧ c' ≤ 65535 := by simpa [Lit.wf, IntKind.min, IntKind.max, IntKind.signed, IntKind.bits] using wc
    exact ⟨⟨k, s, c'⟩, ⟨⟨hk, hs, by show _ ≤ c' ∧ c' ≤ _; omega⟩, hc'.1, hc'.2⟩, rfl⟩

/-- A list of notes, as an argument's reading opens it. -/
theorem openNotes {H : Type} {enc : TypeId × Value → H} {w : World} {base : Nat} {spare : Nat → Bool} {held : Bool} {fuel : Nat} {v : Value} {x : DataW H × List MemPlace} (hv : ∃ a l c, v = .slice a l c) (h : DataW.trod enc Try.prog w base spare held fuel 60 v.cells.toList = some x) :
    ∃ X, NB w v X ∧ (X = [] ∨ ∃ A B, x.1 = .slice A B ∧ X.length ≤ A.length + B.length) := by
  obtain ⟨a0, l0, c0, rfl⟩ := hv
  rcases Deep.open_slice Try.underlying60 h with ⟨hcs, _⟩ | ⟨a, len, cap, m, n, D, Pl, hcs, _, hl, hm, hmm, hx, hel⟩
  · simp [Value.cells] at hcs
    obtain ⟨rfl, rfl, rfl⟩ := hcs
    exact ⟨[], ⟨by simp, none, 0, rfl, by simp, by simp⟩, .inl rfl⟩
  · simp [Value.cells] at hcs
    obtain ⟨rfl, rfl, rfl⟩ := hcs
    have e63 : Try.prog.cellsOf 63 = 3 := by kernel_rfl
    have hlm : l0 ≤ m := by rw [hmm]; split <;> omega
    have each : ∀ i, i < l0 → ∃ r : Rn, (r.Ok ∧ 0 ≤ r.c ∧ r.c ≤ 65535) ∧ w.cell? (a.add (i * 3)) = some (.int .u8 r.k) ∧ w.cell? (a.add (i * 3 + 1)) = some (.int .i64 r.s) ∧ w.cell? (a.add (i * 3 + 2)) = some (.int .u16 r.c) := by
      intro i hi
      obtain ⟨cs, h1, h2⟩ := hel i (by omega)
      rw [e63] at h1
      obtain ⟨_, _, hcell⟩ := World.cells?_some h1
      obtain ⟨r, hr, rfl⟩ := open_note h2
      have q0 := hcell 0 (by omega)
      have q1 := hcell 1 (by omega)
      have q2 := hcell 2 (by omega)
      rw [Deep.add_add] at q0 q1 q2
      exact ⟨r, hr, q0, q1, q2⟩
    obtain ⟨R, hR⟩ := @Deep.choose_lt Rn ⟨⟨0, 0, 0⟩⟩ _ _ each
    have hlen : ((List.range l0).map R).length = l0 := by simp
    refine ⟨(List.range l0).map R, ⟨fun r hr => ?_, some a, c0, by rw [hlen], (fun h => by cases h), fun i r hi => ?_⟩, ?_⟩
    · simp at hr
      obtain ⟨i, hi, rfl⟩ := hr
      exact (hR i hi).1
    · have hi2 : i < l0 := by have := (List.getElem?_eq_some_iff.1 hi).1; rw [hlen] at this; exact this
      simp [hi2] at hi
      subst hi
      obtain ⟨b, off, spot⟩ := a
      have hc := (hR 0 (by omega)).2.1
      have hspot : spot = none := by simpa [Addr.add] using World.cell?_spot hc
      subst hspot
      have q := (hR i hi2).2
      rw [add_plain, add_plain, add_plain, ← Nat.add_assoc, ← Nat.add_assoc] at q
      exact ⟨b, off, rfl, q⟩
    · right
      rw [hx]
      refine ⟨_, _, rfl, ?_⟩
      simp
end Go.Proofs.Ytonggccbgiecmaa
namespace Go.Proofs.Ytonggccbgiecmaa.ledgerMarks
open Go.ChangeShapes Go.WideShapes Go.ChangeAt Go.RowKit
set_option linter.unusedVariables false

theorem own : ownKnob Try.prog.godebug = none := by kernel_rfl
theorem laidOut : laidOutB Try.prog = true := by kernel_rfl
theorem bytes63 : Try.prog.bytesOf 63 = 24 := by kernel_rfl

set_option maxRecDepth 100000 in
theorem lifted (os : Os) (started : os.Started) (H : Type) (enc : TypeId × Value → H) :
    ReturnsInHanded {} Try.checked os 6 .any (Rows.ledgerMarksSpec.pre6 enc Try.prog Try.f6 Rows.ledgerMarksRow.domain false) (Rows.ledgerMarksSpec.post enc Try.prog Try.f6 false true false false) := by
  refine returnsInHanded_of_change_sized (C := Try.checked) own started (by kernel_rfl) Try.func6
    (ChangeSpec.witness6 (enc := enc) (C := Try.checked) false ⟨#[], #[.slice none 0 0, .slice none 0 0], []⟩ 8 (by kernel_rfl) (by kernel_rfl) (by kernel_rfl) (by kernel_rfl)) ?_
  intro W base args ds gs before hval0 hW hcnd hsz0 _
  have hsz : (DataW.weightsEach Try.prog (Try.f6.params.toList ++ Rows.ledgerMarksSpec.plain.varTypes Try.prog) (ds ++ gs)).all (· ≤ reachBytes) = true := hsz0
  clear hsz0
  have hval : ∀ (j : Nat) t v, Try.f6.params[j]? = some t → args[j]? = some v → Value.okWide Try.prog W .any base t v := hval0
  have hW' := hW
  obtain ⟨p, q, hA0, hV, rfl, hfz, hnd⟩ := hW
  have hA : DataW.TrodAll enc Try.prog W 0 (fun _ => true) true Try.f6.params.toList args.toList ds p := hA0
  rw [Try.params6] at hA hval hsz
  obtain ⟨v0, vs0, d0, ds0, p0, q0, hargs, rfl, rfl, h0, r0⟩ := trodAll_cons hA
  obtain ⟨v1, vs1, d1, ds1, p1, q1, rfl, rfl, rfl, h1, r1⟩ := trodAll_cons r0
  obtain ⟨rfl, rfl, rfl⟩ := trodAll_nil r1
  obtain rfl : args = #[v0, v1] := by cases args; simp_all
  obtain ⟨rfl, rfl⟩ := trodVars_none hV
  have k0 := h0
  have lt0 : ∀ x ∈ p0, x.block < W.heap.size := by obtain ⟨m, hm⟩ := k0; exact DataW.trod_lt m _ _ _ hm
  have k1 := h1
  have lt1 : ∀ x ∈ p1, x.block < W.heap.size := by obtain ⟨m, hm⟩ := k1; exact DataW.trod_lt m _ _ _ hm
  obtain ⟨X, hX, hXn⟩ : ∃ X, NB W v0 X ∧ X.length < 1000000000000000000 := by
    obtain ⟨fuel, hf⟩ := h0
    obtain ⟨a0, len0, cap0, e⟩ := okWide_slice Try.underlying60 (hval 0 60 v0 rfl rfl)
    obtain ⟨X, hX, rfl | ⟨A, B, hd, hl⟩⟩ := openNotes ⟨a0, len0, cap0, e⟩ hf
    · exact ⟨[], hX, by simp⟩
    · refine ⟨X, hX, ?_⟩
      have hs := sized_slice hsz (j := 0) (t := 60) (e := 63) rfl (by show some d0 = _; exact congrArg some hd) Try.underlying60
      rw [bytes63] at hs
      simp only [reachBytes] at hs
      omega
  obtain ⟨Y, hY, hYn⟩ : ∃ X, NB W v1 X ∧ X.length < 1000000000000000000 := by
    obtain ⟨fuel, hf⟩ := h1
    obtain ⟨a0, len0, cap0, e⟩ := okWide_slice Try.underlying60 (hval 1 60 v1 rfl rfl)
    obtain ⟨X, hX, rfl | ⟨A, B, hd, hl⟩⟩ := openNotes ⟨a0, len0, cap0, e⟩ hf
    · exact ⟨[], hX, by simp⟩
    · refine ⟨X, hX, ?_⟩
      have hs := sized_slice hsz (j := 1) (t := 60) (e := 63) rfl (by show some d1 = _; exact congrArg some hd) Try.underlying60
      rw [bytes63] at hs
      simp only [reachBytes] at hs
      omega
  clear hA0 hval0
  refine (marksWalk gone_holds v0 v1 X Y W hX hY hXn hYn).mono fun e W' ⟨he, bel⟩ => ?_
  subst he
  exact ⟨_, rfl, _, _, _, [], _, [], hW', trodAll_mk1 (shut_bool Try.underlying4 _), (trodAll_cons_mk (Below.trod laidOut (by kernel_rfl) (of_decide_eq_true (by kernel_rfl)) k0 bel lt0) (trodAll_cons_mk (Below.trod laidOut (by kernel_rfl) (of_decide_eq_true (by kernel_rfl)) k1 bel lt1) trodAll_mk0)), rfl, bel.frame _, fun h => by cases h⟩

theorem over : Rows.ledgerMarksRow.holds Try.pinned (OpenSpec.ofChange Rows.ledgerMarksSpec) :=
  OpenClaim.holds_of_wide 6 Try.f6 rfl rfl rfl rfl rfl rfl rfl ⟨rfl, rfl, rfl, rfl, rfl⟩ rfl rfl rfl rfl rfl (by kernel_rfl) Try.func6 (by kernel_rfl)
    (of_decide_eq_true (by kernel_rfl)) (by unfold Func.isWrapper; first | (rw [if_pos (by decide +kernel)]; kernel_rfl) | (rw [if_neg (by decide +kernel)]; exact ⟨rfl, rfl⟩))
    (fun os started H enc _ => lifted os started H enc)
theorem proved : Rows.LedgerMarksSaid := over
end Go.Proofs.Ytonggccbgiecmaa.ledgerMarks
namespace Go.Proofs.Ytonggccbgiecmaa
theorem ledgerMarks_holds : Rows.LedgerMarksSaid := ledgerMarks.proved
#print axioms ledgerMarks_holds
end Go.Proofs.Ytonggccbgiecmaa
