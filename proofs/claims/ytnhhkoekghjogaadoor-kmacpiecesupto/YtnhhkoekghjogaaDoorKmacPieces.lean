/- Proved: KmacPieces returns true for every case (strength, key, customization), message, number, kind of tag and cuts that hold together at most 1048576 values, and leaves them as they were, the tables of keccak being as the program's text lays them (the tied card, in its upto form). No condition besides. -/
import Derived.Test.YtnhhkoekghjogaaDoorUpcs
import Derived.Test.YtnhhkoekghjogaaDoorQlaid
import Derived.Test.YtnhhkoekghjogaaDoorTie
import Derived.Test.YtnhhkoekghjogaaDoorCards
import Derived.SevenTiedAt
import Derived.Deep.DeepHandedRow
import Derived.LaidMore
import Derived.Stop.Joined
import Derived.Test.YtnhhkoekghjogaaDoorRows
import Derived.WalkKit
import Derived.ProofKit
import Derived.OpenShut
import Derived.ShutString
import Derived.ChangeOld
import Derived.Below
namespace Go.Proofs.YtnhhkoekghjogaaDoor.kmacPieces
open Go.ChangeShapes Go.WideShapes Go.ChangeAt Go.RowKit
open Go.ChangeMaps (open_string shut_string)
set_option linter.unusedVariables false

theorem own : ownKnob Tryd.prog.godebug = none := by kernel_rfl
theorem laidOut : laidOutB Tryd.prog = true := by kernel_rfl

/-! ### What the walk gives -/
theorem one_le {H : Type} (d : DataW H) : 1 ≤ Rows.uptoBulk d := by
  cases d with
  | lit l => cases l <;> simp [Rows.uptoBulk]
  | nil => simp [Rows.uptoBulk]
  | ptr d => simp [Rows.uptoBulk]
  | slice a b => simp [Rows.uptoBulk]
  | agg a => simp [Rows.uptoBulk]
  | iface a b => simp [Rows.uptoBulk]
  | map a => simp [Rows.uptoBulk]
  | held a => simp [Rows.uptoBulk]
theorem len_bulk {H : Type} (l : List (DataW H)) : l.length ≤ Rows.uptoBulkAll l := by
  induction l with
  | nil => simp [Rows.uptoBulkAll]
  | cons x r ih => have := one_le x; simp only [Rows.uptoBulkAll, List.length_cons]; omega
theorem slice_bulk {H : Type} (a b : List (DataW H)) : a.length ≤ Rows.uptoBulk (.slice a b) := by
  have := len_bulk a
  simp only [Rows.uptoBulk]; omega
theorem mem_bulk {H : Type} {l : List (DataW H)} {x : DataW H} (h : x ∈ l) : Rows.uptoBulk x ≤ Rows.uptoBulkAll l := by
  induction l with
  | nil => cases h
  | cons y r ih =>
    simp only [Rows.uptoBulkAll]
    rcases List.mem_cons.1 h with rfl | h
    · omega
    · have := ih h; omega
theorem agg_bulk {H : Type} {l : List (DataW H)} {x : DataW H} (h : x ∈ l) : Rows.uptoBulk x ≤ Rows.uptoBulk (.agg l) := by
  have := mem_bulk h
  simp only [Rows.uptoBulk]; omega
theorem opened {H : Type} {enc : TypeId × Value → H} {W : World} {base : Nat} {held : Bool} {n : Nat} {c : Value} {y : DataW H × List MemPlace} (hf : DataW.trod enc Tryd.prog W base (fun _ => true) held n 22 [c] = some y) :
    ∃ a len cap g, c = Value.slice a len cap ∧ By.RB W (.slice a len cap) len g ∧ len ≤ Rows.uptoBulk y.1 := by
  rcases open_ints Tryd.underlying22 Tryd.underlying5 (by kernel_rfl) hf with ⟨hcs, _⟩ | ⟨x, l, cp, zs, hcs, _, hl, hm, hz, hx, hcell, hwz⟩
  · simp only [List.cons.injEq, and_true] at hcs
    subst hcs
    exact ⟨none, 0, 0, _, rfl, By.rb_of_row (zs := []) (.inl ⟨rfl, rfl, rfl, rfl⟩), Nat.zero_le _⟩
  · simp only [List.cons.injEq, and_true] at hcs
    subst hcs
    have hz' : zs.length = cp := by simpa using hz
    refine ⟨some x, l, cp, _, rfl, By.rb_of_row (zs := zs) (.inr ⟨_, rfl, hl, hm, hz', hcell, hwz⟩), ?_⟩
    have hd := congrArg Prod.fst hx
    rw [show y.1 = _ from hd]
    refine Nat.le_trans ?_ (slice_bulk _ _)
    simp only [lits, List.length_map, List.length_take]
    omega
set_option maxRecDepth 100000 in
theorem open_case {H : Type} {enc : TypeId × Value → H} {w : World} {base : Nat} {held : Bool} {fuel : Nat} {cs : List Value} {x : DataW H × List MemPlace} (h : DataW.trod enc Tryd.prog w base (fun _ => true) held fuel 24 cs = some x) : ∃ q : Kc.CE, (By.RB w (.slice q.ka q.kn q.kc) q.kn q.f ∧ By.RB w (.slice q.ca q.cn q.cc) q.cn q.h ∧ q.kn ≤ Rows.uptoBulk x.1 ∧ q.cn ≤ Rows.uptoBulk x.1) ∧ cs = [.int .i64 q.st, .slice q.ka q.kn q.kc, .slice q.ca q.cn q.cc] := by
  obtain ⟨xs, n1, _, hx, hl, hxl, hf⟩ := DataW.trod_struct Tryd.underlying24 h
  have hl7 : cs.length = 3 := by rw [hl]; kernel_rfl
  match cs, hl7 with
  | [c0, c1, c2], _ =>
    have g0 := hf 0 { name := "Strength", type := 3, offset := 0, embedded := false, tag := "", pkgPath := "", byteOffset := 0 } rfl
    have g1 := hf 1 { name := "Key", type := 22, offset := 1, embedded := false, tag := "", pkgPath := "", byteOffset := 8 } rfl
    have g2 := hf 2 { name := "Custom", type := 22, offset := 2, embedded := false, tag := "", pkgPath := "", byteOffset := 32 } rfl
    have ei : Tryd.prog.cellsOf 3 = 1 := by kernel_rfl
    have es : Tryd.prog.cellsOf 22 = 1 := by kernel_rfl
    dsimp only at g0 g1 g2
    rw [ei] at g0
    rw [es] at g1 g2
    simp only [List.drop_zero, List.take_succ_cons, List.take_zero, List.drop_succ_cons] at g0 g1 g2
    have hx7 : xs.length = 3 := by rw [hxl]; rfl
    match xs, hx7 with
    | [y0, y1, y2], _ =>
      have hd : x.1 = .agg [y0.1, y1.1, y2.1] := by have := congrArg Prod.fst hx; simpa using this
      obtain ⟨a0, h0, _, w0⟩ := DataW.trod_int Tryd.underlying3 (show _ = some y0 from g0)
      obtain ⟨p1, n1', c1', f1, h1, r1, l1⟩ := opened (show _ = some y1 from g1)
      have L1 : n1' ≤ Rows.uptoBulk x.1 := by rw [hd]; exact Nat.le_trans l1 (agg_bulk (by simp))
      obtain ⟨p2, n2', c2', f2, h2, r2, l2⟩ := opened (show _ = some y2 from g2)
      have L2 : n2' ≤ Rows.uptoBulk x.1 := by rw [hd]; exact Nat.le_trans l2 (agg_bulk (by simp))
      simp only [List.cons.injEq, and_true] at h0
      subst h0 h1 h2
      exact ⟨⟨a0, p1, n1', c1', p2, n2', c2', f1, f2⟩, ⟨r1, r2, L1, L2⟩, rfl⟩
set_option maxRecDepth 100000 in
theorem open_whole {H : Type} {enc : TypeId × Value → H} {w : World} {base : Nat} {held : Bool} {fuel : Nat} {cs : List Value} {x : DataW H × List MemPlace} (h : DataW.trod enc Tryd.prog w base (fun _ => true) held fuel 26 cs = some x) : ∃ (pa : Option Addr) (pn pc : Nat) (g : Nat → Int) (n : Int) (xof : Bool), By.RB w (.slice pa pn pc) pn g ∧ pn ≤ Rows.uptoBulk x.1 ∧ cs = [.slice pa pn pc, .int .i64 n, .bool xof] := by
  obtain ⟨xs, n1, _, hx, hl, hxl, hf⟩ := DataW.trod_struct Tryd.underlying26 h
  have hl7 : cs.length = 3 := by rw [hl]; kernel_rfl
  match cs, hl7 with
  | [c0, c1, c2], _ =>
    have g0 := hf 0 { name := "P", type := 22, offset := 0, embedded := false, tag := "", pkgPath := "", byteOffset := 0 } rfl
    have g1 := hf 1 { name := "N", type := 3, offset := 1, embedded := false, tag := "", pkgPath := "", byteOffset := 24 } rfl
    have g2 := hf 2 { name := "Xof", type := 4, offset := 2, embedded := false, tag := "", pkgPath := "", byteOffset := 32 } rfl
    have eb : Tryd.prog.cellsOf 4 = 1 := by kernel_rfl
    have ei : Tryd.prog.cellsOf 3 = 1 := by kernel_rfl
    have es : Tryd.prog.cellsOf 22 = 1 := by kernel_rfl
    dsimp only at g0 g1 g2
    rw [eb] at g2
    rw [ei] at g1
    rw [es] at g0
    simp only [List.drop_zero, List.take_succ_cons, List.take_zero, List.drop_succ_cons] at g0 g1 g2
    have hx7 : xs.length = 3 := by rw [hxl]; rfl
    match xs, hx7 with
    | [y0, y1, y2], _ =>
      have hd : x.1 = .agg [y0.1, y1.1, y2.1] := by have := congrArg Prod.fst hx; simpa using this
      obtain ⟨p0, n0', c0', f0, h0, r0, l0⟩ := opened (show _ = some y0 from g0)
      have L0 : n0' ≤ Rows.uptoBulk x.1 := by rw [hd]; exact Nat.le_trans l0 (agg_bulk (by simp))
      obtain ⟨a1, h1, _, w1⟩ := DataW.trod_int Tryd.underlying3 (show _ = some y1 from g1)
      obtain ⟨a2, h2, _⟩ := DataW.trod_bool Tryd.underlying4 (show _ = some y2 from g2)
      simp only [List.cons.injEq, and_true] at h1 h2
      subst h0 h1 h2
      exact ⟨p0, n0', c0', f0, a1, a2, r0, L0, rfl⟩
set_option maxRecDepth 100000 in
theorem contract (H : Type) (enc : TypeId × Value → H) (W : World) (base : Nat) (args : Array Value) (ds gs : List (DataW H)) (before : List MemPlace)
    (hval : ∀ (j : Nat) t v, Tryd.f4.params[j]? = some t → args[j]? = some v → Value.okWide Tryd.prog W .any base t v)
    (hW : DataW.Whole enc Tryd.prog Tryd.f4.params.toList Rows.kmacPiecesSpec.vars false W args.toList ds gs before) (hk : Rows.uptoSmall H (ds ++ gs) = true) (hL : laidMetH Tryd.prog Kc.laid1 W) :
    Calls Tryd.prog 4 args W fun e W' => ∃ v, e = .returned v ∧ Rows.kmacPiecesSpec.post enc Tryd.prog Tryd.f4 false true false false W args v W' := by
  have hW' := hW
  obtain ⟨p, q, hA0, hV, rfl, hfz, hnd⟩ := hW
  have hA : DataW.TrodAll enc Tryd.prog W 0 (fun _ => true) true Tryd.f4.params.toList args.toList ds p := hA0
  rw [Tryd.params4] at hA hval
  obtain ⟨v0, vs0, d0, ds0, p0, q0, hargs, rfl, rfl, h0, r0⟩ := trodAll_cons hA
  obtain ⟨v1, vs1, d1, ds1, p1, q1, rfl, rfl, rfl, h1, r1⟩ := trodAll_cons r0
  obtain ⟨v2, vs2, d2, ds2, p2, q2, rfl, rfl, rfl, h2, r2⟩ := trodAll_cons r1
  obtain ⟨rfl, rfl, rfl⟩ := trodAll_nil r2
  obtain rfl : args = #[v0, v1, v2] := by cases args; simp_all
  obtain ⟨rfl, rfl⟩ := trodVars_none hV
  obtain ⟨cs0, rfl, hz0⟩ := okWide_struct Tryd.underlying24 (hval 0 24 v0 rfl rfl)
  have k0 := h0
  have lt0 : ∀ x ∈ p0, x.block < W.heap.size := by obtain ⟨m, hm⟩ := k0; exact DataW.trod_lt m _ _ _ hm
  obtain ⟨q0, ⟨rk0, rc0, lk0, lc0⟩, e0⟩ := (show ∃ q : Kc.CE, (By.RB W (.slice q.ka q.kn q.kc) q.kn q.f ∧ By.RB W (.slice q.ca q.cn q.cc) q.cn q.h ∧ q.kn ≤ Rows.uptoBulk d0 ∧ q.cn ≤ Rows.uptoBulk d0) ∧ cs0.toList = [.int .i64 q.st, .slice q.ka q.kn q.kc, .slice q.ca q.cn q.cc] from by
    obtain ⟨fuel, hf⟩ := h0
    exact open_case hf)
  obtain rfl : cs0 = #[.int .i64 q0.st, .slice q0.ka q0.kn q0.kc, .slice q0.ca q0.cn q0.cc] := Array.toList_inj.1 e0
  obtain ⟨cs1, rfl, hz1⟩ := okWide_struct Tryd.underlying26 (hval 1 26 v1 rfl rfl)
  have k1 := h1
  have lt1 : ∀ x ∈ p1, x.block < W.heap.size := by obtain ⟨m, hm⟩ := k1; exact DataW.trod_lt m _ _ _ hm
  obtain ⟨pa1, pn1, pc1, g1, n1, x1, rp1, lp1, e1⟩ := (show ∃ (pa : Option Addr) (pn pc : Nat) (g : Nat → Int) (n : Int) (xof : Bool), By.RB W (.slice pa pn pc) pn g ∧ pn ≤ Rows.uptoBulk d1 ∧ cs1.toList = [.slice pa pn pc, .int .i64 n, .bool xof] from by
    obtain ⟨fuel, hf⟩ := h1
    exact open_whole hf)
  obtain rfl : cs1 = #[.slice pa1 pn1 pc1, .int .i64 n1, .bool x1] := Array.toList_inj.1 e1
  obtain ⟨a2, len2, cap2, rfl⟩ := okWide_slice Tryd.underlying22 (hval 2 22 v2 rfl rfl)
  have k2 := h2
  have lt2 : ∀ x ∈ p2, x.block < W.heap.size := by obtain ⟨m, hm⟩ := k2; exact DataW.trod_lt m _ _ _ hm
  obtain ⟨pa2, pn2, pc2, g2, ec2, rp2, lp2⟩ := (show ∃ pa pn pc g, Value.slice a2 len2 cap2 = .slice pa pn pc ∧ By.RB W (.slice pa pn pc) pn g ∧ pn ≤ Rows.uptoBulk d2 from by
    obtain ⟨fuel, hf⟩ := h2
    exact opened hf)
  simp only [Value.slice.injEq] at ec2
  obtain ⟨rfl, rfl, rfl⟩ := ec2
  have hb : Rows.uptoBulk d0 + Rows.uptoBulk d1 + Rows.uptoBulk d2 ≤ 1048576 := by
    have h := of_decide_eq_true hk
    simp only [List.append_nil, Rows.uptoBulkAll] at h
    omega
  clear hA0
  refine (Kc.pieces_walk q0.st n1 x1 q0.ka q0.kn q0.kc q0.ca q0.cn q0.cc pa1 pn1 pc1 a2 len2 cap2 q0.f q0.h g1 g2 W (Kc.kt_of_laid hL) rk0 rc0 rp1 rp2 ⟨by omega, by omega, by omega⟩ (by omega)).mono fun e W' ⟨he, bel⟩ => ?_
  subst he
  exact ⟨_, rfl, _, _, _, [], _, [], hW', trodAll_mk1 (shut_bool Tryd.underlying4 _), (trodAll_cons_mk (Below.trod laidOut (by kernel_rfl) (of_decide_eq_true (by kernel_rfl)) k0 bel lt0) (trodAll_cons_mk (Below.trod laidOut (by kernel_rfl) (of_decide_eq_true (by kernel_rfl)) k1 bel lt1) (trodAll_cons_mk (Below.trod laidOut (by kernel_rfl) (of_decide_eq_true (by kernel_rfl)) k2 bel lt2) trodAll_mk0))), rfl, bel.frame _, fun h => by cases h⟩
theorem reads (os : Os) {H : Type} (enc : TypeId × Value → H) : ∃ places, DataW.whole enc Tryd.prog ((World.doorLaid Tryd.prog 400 os).forCall (fun _ _ => 0) ⟨#[], #[.agg #[.int .i64 0, .slice none 0 0, .slice none 0 0], .agg #[.slice none 0 0, .int .i64 0, .bool false], .slice none 0 0], []⟩).memory Tryd.f4.params.toList Rows.kmacPiecesSpec.vars false (#[.agg #[.int .i64 0, .slice none 0 0, .slice none 0 0], .agg #[.slice none 0 0, .int .i64 0, .bool false], .slice none 0 0] : Array Value).toList 8 = some ([.agg [.lit (.int .i64 0), .nil, .nil], .agg [.nil, .lit (.int .i64 0), .lit (.bool false)], .nil], [], places) :=
  ⟨[], by kernel_rfl⟩
theorem laid_met (os : Os) : laidMet Tryd.prog Rows.kmacPiecesUptoRow.laid ((World.doorLaid Tryd.prog 400 os).forCall (fun _ _ => 0) ⟨#[], #[.agg #[.int .i64 0, .slice none 0 0, .slice none 0 0], .agg #[.slice none 0 0, .int .i64 0, .bool false], .slice none 0 0], []⟩).memory :=
  laidMet_of_run' 8 (by kernel_rfl) (by kernel_rfl)
set_option maxRecDepth 100000 in
theorem lifted (os : Os) (started : os.Started) (H : Type) (enc : TypeId × Value → H) (F : Stop.Interp) :
    ReturnsInHanded {} Tryd.checked os 4 .any ((Rows.OpenSpec.upto Rows.kmacPiecesSpec).preRow enc Tryd.prog Tryd.f4 Rows.kmacPiecesUptoRow.domain false Rows.kmacPiecesUptoRow.laid) (((Rows.OpenSpec.upto Rows.kmacPiecesSpec).at F).post enc Tryd.prog Tryd.f4 false true false false) := by
  obtain ⟨places, hx⟩ := reads os enc
  refine returnsInHanded_of_row (C := Tryd.checked) (s := Rows.OpenSpec.upto Rows.kmacPiecesSpec) own started (by kernel_rfl) Tryd.func4
    (witness_row_at (enc := enc) (C := Tryd.checked) false (World.doorLaid Tryd.prog 400 os) #[.agg #[.int .i64 0, .slice none 0 0, .slice none 0 0], .agg #[.slice none 0 0, .int .i64 0, .bool false], .slice none 0 0] rfl (by kernel_rfl) (by kernel_rfl) (by kernel_rfl)
      (OpenSpec.preRow_of_cond 8 hx (by kernel_rfl) (fun k hk => by cases hk; kernel_rfl) (by kernel_rfl) (laid_met os))) ?_
  intro W base args ds gs before hval hW _ hcond _ hL _ _
  exact contract H enc W base args ds gs before hval hW (hcond _ rfl) hL

theorem over : Rows.KmacPiecesUptoSaid :=
  OpenClaim.holds_of_cond 4 Tryd.f4 rfl rfl rfl rfl rfl rfl rfl ⟨rfl, rfl, rfl, rfl, rfl⟩ rfl rfl rfl rfl rfl (by kernel_rfl) Tryd.func4 (by kernel_rfl)
    (of_decide_eq_true (by kernel_rfl)) (by unfold Func.isWrapper; first | (rw [if_pos (by decide +kernel)]; kernel_rfl) | (rw [if_neg (by decide +kernel)]; exact ⟨rfl, rfl⟩))
    (fun os started H enc _ F => by rw [OpenClaim.pre_eq_preRow]; exact lifted os started H enc F)
theorem plain (f : FuncId) (fn : Func) (hf : Tryd.pinned.checked.prog.funcNamed "turnkey/turnkeylaw14.KmacPieces" = some f) (hfn : Tryd.pinned.checked.prog.funcs[f]? = some fn) :
    false = Tryd.pinned.checked.prog.looks [] ∧ ∀ (j : Nat) t, fn.params[j]? = some t → Tryd.pinned.checked.prog.wantsStandIn t = false := by
  obtain rfl : f = 4 := Option.some.inj ((show Tryd.prog.funcNamed "turnkey/turnkeylaw14.KmacPieces" = some 4 by kernel_rfl).symm.trans hf) |>.symm
  obtain rfl : fn = Tryd.f4 := (Option.some.inj (Tryd.func4.symm.trans hfn)).symm
  refine ⟨by kernel_rfl, fun j t ht => ?_⟩
  rw [Tryd.params4] at ht
  have h3 : t = 24 ∨ t = 26 ∨ t = 22 := by
    match j, ht with
    | 0, ht => exact .inl (by simpa using ht.symm)
    | 1, ht => exact .inr (.inl (by simpa using ht.symm))
    | 2, ht => exact .inr (.inr (by simpa using ht.symm))
    | j + 3, ht => simp at ht
  rcases h3 with rfl | rfl | rfl
  · exact (show Tryd.prog.wantsStandIn 24 = false by kernel_rfl)
  · exact (show Tryd.prog.wantsStandIn 26 = false by kernel_rfl)
  · exact (show Tryd.prog.wantsStandIn 22 = false by kernel_rfl)
end Go.Proofs.YtnhhkoekghjogaaDoor.kmacPieces
namespace Go.Proofs.YtnhhkoekghjogaaDoor
theorem kmacPiecesUpto_card : Rows.KmacPiecesUptoCardSaid :=
  Claim7.holds_tied_plain_at .later [] _ _ _ _ kmacPieces.over (fun _ h => by cases h) (by kernel_rfl) (fun _ h => by cases h) kmacPiecesUpto_row_tie rfl ⟨rfl, rfl⟩ (by kernel_rfl) rfl kmacPieces.plain (by kernel_rfl)
#print axioms kmacPiecesUpto_card
end Go.Proofs.YtnhhkoekghjogaaDoor
