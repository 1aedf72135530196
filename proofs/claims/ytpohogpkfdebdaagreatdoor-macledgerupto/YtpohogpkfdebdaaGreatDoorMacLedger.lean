/- Proved: MacLedger returns true for every case, message and way of cutting and spoiling it that hold together at most 1048576 values, and leaves them as they were, the five tables being as the program's text lays them (the tied card, in its upto form). No condition besides. -/
import Derived.Test.YtpohogpkfdebdaaGreatDoorOllg
import Derived.Test.YtpohogpkfdebdaaGreatDoorOlaid
import Derived.Test.YtpohogpkfdebdaaGreatDoorOf
import Derived.Test.YtpohogpkfdebdaaGreatDoorTie
import Derived.Test.YtpohogpkfdebdaaGreatDoorCards
import Derived.SevenTiedAt
import Derived.Deep.DeepHandedRow
import Derived.LaidMore
import Derived.Stop.Joined
import Derived.Test.YtpohogpkfdebdaaGreatDoorRows
import Derived.WalkKit
import Derived.ProofKit
import Derived.OpenShut
import Derived.ShutString
import Derived.ChangeOld
import Derived.Below
namespace Go.Proofs.YtpohogpkfdebdaaGreatDoor.macLedger
open Go.ChangeShapes Go.WideShapes Go.ChangeAt Go.RowKit
open Go.ChangeMaps (open_string shut_string)
set_option linter.unusedVariables false

theorem own : ownKnob Tryz.prog.godebug = none := by kernel_rfl
theorem laidOut : laidOutB Tryz.prog = true := by kernel_rfl

/-! ### What the walk gives -/
theorem one_le {H : Type} (d : DataW H) : 1 ≤ Rows.uptoBulk d := by
  cases d with
  | lit l => cases l <;> simp [Rows.uptoBulk]
  | nil => simp [Rows.uptoBulk]
  | ptr d => simp [Rows.uptoBulk]
  | slice a b => simp [Rows.uptoBulk]
  | agg a => simp [Rows.uptoBulk]
  | iface a b => simp [Rows.uptoBulk]
  | map a => simp [Rows.uptoBulk]
  | held a => simp [Rows.uptoBulk]
theorem len_bulk {H : Type} (l : List (DataW H)) : l.length ≤ Rows.uptoBulkAll l := by
  induction l with
  | nil => simp [Rows.uptoBulkAll]
  | cons x r ih => have := one_le x; simp only [Rows.uptoBulkAll, List.length_cons]; omega
theorem slice_bulk {H : Type} (a b : List (DataW H)) : a.length ≤ Rows.uptoBulk (.slice a b) := by
  have := len_bulk a
  simp only [Rows.uptoBulk]; omega
theorem mem_bulk {H : Type} {l : List (DataW H)} {x : DataW H} (h : x ∈ l) : Rows.uptoBulk x ≤ Rows.uptoBulkAll l := by
  induction l with
  | nil => cases h
  | cons y r ih =>
    simp only [Rows.uptoBulkAll]
    rcases List.mem_cons.1 h with rfl | h
    · omega
    · have := ih h; omega
theorem agg_bulk {H : Type} {l : List (DataW H)} {x : DataW H} (h : x ∈ l) : Rows.uptoBulk x ≤ Rows.uptoBulk (.agg l) := by
  have := mem_bulk h
  simp only [Rows.uptoBulk]; omega
theorem opened {H : Type} {enc : TypeId × Value → H} {W : World} {base : Nat} {held : Bool} {n : Nat} {c : Value} {y : DataW H × List MemPlace} (hf : DataW.trod enc Tryz.prog W base (fun _ => true) held n 23 [c] = some y) :
    ∃ a len cap g, c = Value.slice a len cap ∧ By.RB W (.slice a len cap) len g ∧ len ≤ Rows.uptoBulk y.1 := by
  rcases open_ints Tryz.underlying23 Tryz.underlying5 (by kernel_rfl) hf with ⟨hcs, _⟩ | ⟨x, l, cp, zs, hcs, _, hl, hm, hz, hx, hcell, hwz⟩
  · simp only [List.cons.injEq, and_true] at hcs
    subst hcs
    exact ⟨none, 0, 0, _, rfl, By.rb_of_row (zs := []) (.inl ⟨rfl, rfl, rfl, rfl⟩), Nat.zero_le _⟩
  · simp only [List.cons.injEq, and_true] at hcs
    subst hcs
    have hz' : zs.length = cp := by simpa using hz
    refine ⟨some x, l, cp, _, rfl, By.rb_of_row (zs := zs) (.inr ⟨_, rfl, hl, hm, hz', hcell, hwz⟩), ?_⟩
    have hd := congrArg Prod.fst hx
    rw [show y.1 = _ from hd]
    refine Nat.le_trans ?_ (slice_bulk _ _)
    simp only [lits, List.length_map, List.length_take]
    omega
set_option maxRecDepth 100000 in
theorem open_case {H : Type} {enc : TypeId × Value → H} {w : World} {base : Nat} {held : Bool} {fuel : Nat} {cs : List Value} {x : DataW H × List MemPlace} (h : DataW.trod enc Tryz.prog w base (fun _ => true) held fuel 25 cs = some x) : ∃ q : Oc.CE, (Rows.uptoBulk x.1 ≤ 1048576 → q.Ok w) ∧ cs = [.int .u8 (q.al : Int), .slice q.ka q.kn q.kc, .slice q.ca q.cn q.cc, .int .i64 q.out] := by
  obtain ⟨xs, n1, _, hx, hl, hxl, hf⟩ := DataW.trod_struct Tryz.underlying25 h
  have hl7 : cs.length = 4 := by rw [hl]; kernel_rfl
  match cs, hl7 with
  | [c0, c1, c2, c3], _ =>
    have g0 := hf 0 { name := "Alg", type := 22, offset := 0, embedded := false, tag := "", pkgPath := "", byteOffset := 0 } rfl
    have g1 := hf 1 { name := "Key", type := 23, offset := 1, embedded := false, tag := "", pkgPath := "", byteOffset := 8 } rfl
    have g2 := hf 2 { name := "Custom", type := 23, offset := 2, embedded := false, tag := "", pkgPath := "", byteOffset := 32 } rfl
    have g3 := hf 3 { name := "Out", type := 3, offset := 3, embedded := false, tag := "", pkgPath := "", byteOffset := 56 } rfl
    have ea : Tryz.prog.cellsOf 22 = 1 := by kernel_rfl
    have es : Tryz.prog.cellsOf 23 = 1 := by kernel_rfl
    have ei : Tryz.prog.cellsOf 3 = 1 := by kernel_rfl
    dsimp only at g0 g1 g2 g3
    rw [ea] at g0
    rw [es] at g1 g2
    rw [ei] at g3
    simp only [List.drop_zero, List.take_succ_cons, List.take_zero, List.drop_succ_cons] at g0 g1 g2 g3
    have hx7 : xs.length = 4 := by rw [hxl]; rfl
    match xs, hx7 with
    | [y0, y1, y2, y3], _ =>
      have hd : x.1 = .agg [y0.1, y1.1, y2.1, y3.1] := by have := congrArg Prod.fst hx; simpa using this
      obtain ⟨a0, h0, _, w0⟩ := DataW.trod_int Tryz.underlying22 (show _ = some y0 from g0)
      obtain ⟨p1, n1', c1', f1, h1, r1, l1⟩ := opened (show _ = some y1 from g1)
      have L1 : n1' ≤ Rows.uptoBulk x.1 := by rw [hd]; exact Nat.le_trans l1 (agg_bulk (by simp))
      obtain ⟨p2, n2', c2', f2, h2, r2, l2⟩ := opened (show _ = some y2 from g2)
      have L2 : n2' ≤ Rows.uptoBulk x.1 := by rw [hd]; exact Nat.le_trans l2 (agg_bulk (by simp))
      obtain ⟨a3, h3, _, w3⟩ := DataW.trod_int Tryz.underlying3 (show _ = some y3 from g3)
      simp only [List.cons.injEq, and_true] at h0 h3
      subst h0 h1 h2 h3
      have u0 := Oc.wf_u8 w0
      have u3 := Oc.wf_i64 w3
      refine ⟨⟨a0.toNat, a3, p1, n1', c1', p2, n2', c2', f1, f2⟩, fun hb => ⟨r1, r2, by show n1' ≤ _; omega, by show n2' ≤ _; omega, by show a0.toNat < 256; omega, u3⟩, ?_⟩
      show _ = [Value.int .u8 ((a0.toNat : Nat) : Int), _, _, _]
      rw [show ((a0.toNat : Nat) : Int) = a0 by omega]
set_option maxRecDepth 100000 in
theorem open_spoil {H : Type} {enc : TypeId × Value → H} {w : World} {base : Nat} {held : Bool} {fuel : Nat} {cs : List Value} {x : DataW H × List MemPlace} (h : DataW.trod enc Tryz.prog w base (fun _ => true) held fuel 59 cs = some x) : ∃ q : Oc.SE, (Rows.uptoBulk x.1 ≤ 1048576 → q.Ok w ∧ q.pn ≤ 1048576) ∧ cs = [.slice q.pa q.pn q.pc, .int .i64 q.at', .int .u8 q.bit] := by
  obtain ⟨xs, n1, _, hx, hl, hxl, hf⟩ := DataW.trod_struct Tryz.underlying59 h
  have hl7 : cs.length = 3 := by rw [hl]; kernel_rfl
  match cs, hl7 with
  | [c0, c1, c2], _ =>
    have g0 := hf 0 { name := "Cuts", type := 23, offset := 0, embedded := false, tag := "", pkgPath := "", byteOffset := 0 } rfl
    have g1 := hf 1 { name := "At", type := 3, offset := 1, embedded := false, tag := "", pkgPath := "", byteOffset := 24 } rfl
    have g2 := hf 2 { name := "Bit", type := 5, offset := 2, embedded := false, tag := "", pkgPath := "", byteOffset := 32 } rfl
    have es : Tryz.prog.cellsOf 23 = 1 := by kernel_rfl
    have ei : Tryz.prog.cellsOf 3 = 1 := by kernel_rfl
    have e8 : Tryz.prog.cellsOf 5 = 1 := by kernel_rfl
    dsimp only at g0 g1 g2
    rw [es] at g0
    rw [ei] at g1
    rw [e8] at g2
    simp only [List.drop_zero, List.take_succ_cons, List.take_zero, List.drop_succ_cons] at g0 g1 g2
    have hx7 : xs.length = 3 := by rw [hxl]; rfl
    match xs, hx7 with
    | [y0, y1, y2], _ =>
      have hd : x.1 = .agg [y0.1, y1.1, y2.1] := by have := congrArg Prod.fst hx; simpa using this
      obtain ⟨p0, n0', c0', f0, h0, r0, l0⟩ := opened (show _ = some y0 from g0)
      have L0 : n0' ≤ Rows.uptoBulk x.1 := by rw [hd]; exact Nat.le_trans l0 (agg_bulk (by simp))
      obtain ⟨a1, h1, _, w1⟩ := DataW.trod_int Tryz.underlying3 (show _ = some y1 from g1)
      obtain ⟨a2, h2, _, w2⟩ := DataW.trod_int Tryz.underlying5 (show _ = some y2 from g2)
      simp only [List.cons.injEq, and_true] at h1 h2
      subst h0 h1 h2
      exact ⟨⟨p0, n0', c0', f0, a1, a2⟩, fun hb => ⟨⟨r0, by show n0' ≤ _; omega, Oc.wf_i64 w1, Oc.wf_u8 w2⟩, by show n0' ≤ _; omega⟩, rfl⟩
set_option maxRecDepth 100000 in
theorem contract (H : Type) (enc : TypeId × Value → H) (W : World) (base : Nat) (args : Array Value) (ds gs : List (DataW H)) (before : List MemPlace)
    (hval : ∀ (j : Nat) t v, Tryz.f6.params[j]? = some t → args[j]? = some v → Value.okWide Tryz.prog W .any base t v)
    (hW : DataW.Whole enc Tryz.prog Tryz.f6.params.toList Rows.macLedgerSpec.vars false W args.toList ds gs before) (hk : Rows.uptoSmall H (ds ++ gs) = true) (hL : laidMetH Tryz.prog Oc.laid1 W) :
    Calls Tryz.prog 6 args W fun e W' => ∃ v, e = .returned v ∧ Rows.macLedgerSpec.post enc Tryz.prog Tryz.f6 false true false false W args v W' := by
  have hW' := hW
  obtain ⟨p, q, hA0, hV, rfl, hfz, hnd⟩ := hW
  have hA : DataW.TrodAll enc Tryz.prog W 0 (fun _ => true) true Tryz.f6.params.toList args.toList ds p := hA0
  rw [Tryz.params6] at hA hval
  obtain ⟨v0, vs0, d0, ds0, p0, q0, hargs, rfl, rfl, h0, r0⟩ := trodAll_cons hA
  obtain ⟨v1, vs1, d1, ds1, p1, q1, rfl, rfl, rfl, h1, r1⟩ := trodAll_cons r0
  obtain ⟨v2, vs2, d2, ds2, p2, q2, rfl, rfl, rfl, h2, r2⟩ := trodAll_cons r1
  obtain ⟨rfl, rfl, rfl⟩ := trodAll_nil r2
  obtain rfl : args = #[v0, v1, v2] := by cases args; simp_all
  obtain ⟨rfl, rfl⟩ := trodVars_none hV
  obtain ⟨cs0, rfl, hz0⟩ := okWide_struct Tryz.underlying25 (hval 0 25 v0 rfl rfl)
  have k0 := h0
  have lt0 : ∀ x ∈ p0, x.block < W.heap.size := by obtain ⟨m, hm⟩ := k0; exact DataW.trod_lt m _ _ _ hm
  obtain ⟨q0, ok0, e0⟩ := (show ∃ q : Oc.CE, (Rows.uptoBulk d0 ≤ 1048576 → q.Ok W) ∧ cs0.toList = [.int .u8 (q.al : Int), .slice q.ka q.kn q.kc, .slice q.ca q.cn q.cc, .int .i64 q.out] from by
    obtain ⟨fuel, hf⟩ := h0
    exact open_case hf)
  obtain rfl : cs0 = #[.int .u8 (q0.al : Int), .slice q0.ka q0.kn q0.kc, .slice q0.ca q0.cn q0.cc, .int .i64 q0.out] := Array.toList_inj.1 e0
  obtain ⟨a1, len1, cap1, rfl⟩ := okWide_slice Tryz.underlying23 (hval 1 23 v1 rfl rfl)
  have k1 := h1
  have lt1 : ∀ x ∈ p1, x.block < W.heap.size := by obtain ⟨m, hm⟩ := k1; exact DataW.trod_lt m _ _ _ hm
  obtain ⟨pa1, pn1, pc1, g1, ec1, rp1, lp1⟩ := (show ∃ pa pn pc g, Value.slice a1 len1 cap1 = .slice pa pn pc ∧ By.RB W (.slice pa pn pc) pn g ∧ pn ≤ Rows.uptoBulk d1 from by
    obtain ⟨fuel, hf⟩ := h1
    exact opened hf)
  simp only [Value.slice.injEq] at ec1
  obtain ⟨rfl, rfl, rfl⟩ := ec1
  obtain ⟨cs2, rfl, hz2⟩ := okWide_struct Tryz.underlying59 (hval 2 59 v2 rfl rfl)
  have k2 := h2
  have lt2 : ∀ x ∈ p2, x.block < W.heap.size := by obtain ⟨m, hm⟩ := k2; exact DataW.trod_lt m _ _ _ hm
  obtain ⟨q2', ok2, e2⟩ := (show ∃ q : Oc.SE, (Rows.uptoBulk d2 ≤ 1048576 → q.Ok W ∧ q.pn ≤ 1048576) ∧ cs2.toList = [.slice q.pa q.pn q.pc, .int .i64 q.at', .int .u8 q.bit] from by
    obtain ⟨fuel, hf⟩ := h2
    exact open_spoil hf)
  obtain rfl : cs2 = #[.slice q2'.pa q2'.pn q2'.pc, .int .i64 q2'.at', .int .u8 q2'.bit] := Array.toList_inj.1 e2
  have hb : Rows.uptoBulk d0 + Rows.uptoBulk d1 + Rows.uptoBulk d2 ≤ 1048576 := by
    have h := of_decide_eq_true hk
    simp only [List.append_nil, Rows.uptoBulkAll] at h
    omega
  clear hA0
  refine (Oc.ledger_walk q0 a1 len1 cap1 g1 q2' W (Oc.ka_of_laid hL) (ok0 (by omega)) rp1 (by omega) (ok2 (by omega)).1 (ok2 (by omega)).2).mono fun e W' ⟨he, bel⟩ => ?_
  subst he
  exact ⟨_, rfl, _, _, _, [], _, [], hW', trodAll_mk1 (shut_bool Tryz.underlying4 _), (trodAll_cons_mk (Below.trod laidOut (by kernel_rfl) (of_decide_eq_true (by kernel_rfl)) k0 bel lt0) (trodAll_cons_mk (Below.trod laidOut (by kernel_rfl) (of_decide_eq_true (by kernel_rfl)) k1 bel lt1) (trodAll_cons_mk (Below.trod laidOut (by kernel_rfl) (of_decide_eq_true (by kernel_rfl)) k2 bel lt2) trodAll_mk0))), rfl, bel.frame _, fun h => by cases h⟩
theorem reads (os : Os) {H : Type} (enc : TypeId × Value → H) : ∃ places, DataW.whole enc Tryz.prog ((World.doorLaid Tryz.prog 400 os).forCall (fun _ _ => 0) ⟨#[], #[.agg #[.int .u8 0, .slice none 0 0, .slice none 0 0, .int .i64 0], .slice none 0 0, .agg #[.slice none 0 0, .int .i64 0, .int .u8 0]], []⟩).memory Tryz.f6.params.toList Rows.macLedgerSpec.vars false (#[.agg #[.int .u8 0, .slice none 0 0, .slice none 0 0, .int .i64 0], .slice none 0 0, .agg #[.slice none 0 0, .int .i64 0, .int .u8 0]] : Array Value).toList 8 = some ([.agg [.lit (.int .u8 0), .nil, .nil, .lit (.int .i64 0)], .nil, .agg [.nil, .lit (.int .i64 0), .lit (.int .u8 0)]], [], places) :=
  ⟨[], by kernel_rfl⟩
theorem laid_met (os : Os) : laidMet Tryz.prog Rows.macLedgerUptoRow.laid ((World.doorLaid Tryz.prog 400 os).forCall (fun _ _ => 0) ⟨#[], #[.agg #[.int .u8 0, .slice none 0 0, .slice none 0 0, .int .i64 0], .slice none 0 0, .agg #[.slice none 0 0, .int .i64 0, .int .u8 0]], []⟩).memory :=
  laidMet_of_run' 8 (by kernel_rfl) (by kernel_rfl)
set_option maxRecDepth 100000 in
theorem lifted (os : Os) (started : os.Started) (H : Type) (enc : TypeId × Value → H) (F : Stop.Interp) :
    ReturnsInHanded {} Tryz.checked os 6 .any ((Rows.OpenSpec.upto Rows.macLedgerSpec).preRow enc Tryz.prog Tryz.f6 Rows.macLedgerUptoRow.domain false Rows.macLedgerUptoRow.laid) (((Rows.OpenSpec.upto Rows.macLedgerSpec).at F).post enc Tryz.prog Tryz.f6 false true false false) := by
  obtain ⟨places, hx⟩ := reads os enc
  refine returnsInHanded_of_row (C := Tryz.checked) (s := Rows.OpenSpec.upto Rows.macLedgerSpec) own started (by kernel_rfl) Tryz.func6
    (witness_row_at (enc := enc) (C := Tryz.checked) false (World.doorLaid Tryz.prog 400 os) #[.agg #[.int .u8 0, .slice none 0 0, .slice none 0 0, .int .i64 0], .slice none 0 0, .agg #[.slice none 0 0, .int .i64 0, .int .u8 0]] rfl (by kernel_rfl) (by kernel_rfl) (by kernel_rfl)
      (OpenSpec.preRow_of_cond 8 hx (by kernel_rfl) (fun k hk => by cases hk; kernel_rfl) (by kernel_rfl) (laid_met os))) ?_
  intro W base args ds gs before hval hW _ hcond _ hL _ _
  exact contract H enc W base args ds gs before hval hW (hcond _ rfl) hL

theorem over : Rows.MacLedgerUptoSaid :=
  OpenClaim.holds_of_cond 6 Tryz.f6 rfl rfl rfl rfl rfl rfl rfl ⟨rfl, rfl, rfl, rfl, rfl⟩ rfl rfl rfl rfl rfl (by kernel_rfl) Tryz.func6 (by kernel_rfl)
    (of_decide_eq_true (by kernel_rfl)) (by unfold Func.isWrapper; first | (rw [if_pos (by decide +kernel)]; kernel_rfl) | (rw [if_neg (by decide +kernel)]; exact ⟨rfl, rfl⟩))
    (fun os started H enc _ F => by rw [OpenClaim.pre_eq_preRow]; exact lifted os started H enc F)
theorem plain (f : FuncId) (fn : Func) (hf : Tryz.pinned.checked.prog.funcNamed "turnkey/turnkeylaw17.MacLedger" = some f) (hfn : Tryz.pinned.checked.prog.funcs[f]? = some fn) :
    false = Tryz.pinned.checked.prog.looks [] ∧ ∀ (j : Nat) t, fn.params[j]? = some t → Tryz.pinned.checked.prog.wantsStandIn t = false := by
  obtain rfl : f = 6 := Option.some.inj ((show Tryz.prog.funcNamed "turnkey/turnkeylaw17.MacLedger" = some 6 by kernel_rfl).symm.trans hf) |>.symm
  obtain rfl : fn = Tryz.f6 := (Option.some.inj (Tryz.func6.symm.trans hfn)).symm
  refine ⟨by kernel_rfl, fun j t ht => ?_⟩
  rw [Tryz.params6] at ht
  have h3 : t = 25 ∨ t = 23 ∨ t = 59 := by
    match j, ht with
    | 0, ht => exact .inl (by simpa using ht.symm)
    | 1, ht => exact .inr (.inl (by simpa using ht.symm))
    | 2, ht => exact .inr (.inr (by simpa using ht.symm))
    | j + 3, ht => simp at ht
  rcases h3 with rfl | rfl | rfl
  · exact (show Tryz.prog.wantsStandIn 25 = false by kernel_rfl)
  · exact (show Tryz.prog.wantsStandIn 23 = false by kernel_rfl)
  · exact (show Tryz.prog.wantsStandIn 59 = false by kernel_rfl)
end Go.Proofs.YtpohogpkfdebdaaGreatDoor.macLedger
namespace Go.Proofs.YtpohogpkfdebdaaGreatDoor
theorem macLedgerUpto_card : Rows.MacLedgerUptoCardSaid :=
  Claim7.holds_tied_plain_at .later [] _ _ _ _ macLedger.over (fun _ h => by cases h) (by kernel_rfl) (fun _ h => by cases h) macLedgerUpto_row_tie rfl ⟨rfl, rfl⟩ (by kernel_rfl) rfl macLedger.plain (by kernel_rfl)
#print axioms macLedgerUpto_card
end Go.Proofs.YtpohogpkfdebdaaGreatDoor
