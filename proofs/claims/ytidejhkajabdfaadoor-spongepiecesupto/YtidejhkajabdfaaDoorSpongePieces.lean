/- Proved: SpongePieces returns true for every number, suffix and stream (bytes that go in, how they are cut, how many come out, how these are cut) that hold together at most 1048576 values, and leaves them as they were, the tables of keccak being as the program's text lays them (the tied card, in its upto form). No condition besides. -/
import Derived.Test.YtidejhkajabdfaaDoorSpcs
import Derived.Test.YtidejhkajabdfaaDoorQlaid
import Derived.Test.YtidejhkajabdfaaDoorTie
import Derived.Test.YtidejhkajabdfaaDoorCards
import Derived.SevenTiedAt
import Derived.Deep.DeepHandedRow
import Derived.LaidMore
import Derived.Stop.Joined
import Derived.Test.YtidejhkajabdfaaDoorRows
import Derived.WalkKit
import Derived.ProofKit
import Derived.OpenShut
import Derived.ShutString
import Derived.ChangeOld
import Derived.Below
namespace Go.Proofs.YtidejhkajabdfaaDoor.spongePieces
open Go.ChangeShapes Go.WideShapes Go.ChangeAt Go.RowKit
open Go.ChangeMaps (open_string shut_string)
set_option linter.unusedVariables false

theorem own : ownKnob Tryd.prog.godebug = none := by kernel_rfl
theorem laidOut : laidOutB Tryd.prog = true := by kernel_rfl

/-- WHAT THE WALK IS TOLD OF A SLICE OF INTEGERS THAT CAME IN: it is nil; or it leads to a row of 'cap' cells, the numbers 'zs' (the first 'len' are its elements, the rest its spare room), each fitting its kind. -/
def IsRow (k : IntKind) (w : World) (a : Option Addr) (len cap : Nat) (zs : List Int) : Prop :=
  (a = none ∧ len = 0 ∧ cap = 0 ∧ zs = []) ∨
  ∃ x, a = some x ∧ len ≤ cap ∧ cap ≤ maxLen ∧ zs.length = cap ∧ (∀ i, i < zs.length → w.cell? (x.add i) = some (.int k (zs.getD i 0))) ∧ ∀ n ∈ zs, (Lit.int k n).wf = true

/-! ### STEP 1: THE WALK: the Go text returns true, AND WRITES NOTHING THAT WAS THERE: 'Below w.heap.size w w'' (Derived/Below.lean: '.refl', '.alloc', '.drew', '.setCell' at a new block, '.trans'). Open each 'IsRow' by 'rcases' AHEAD of 'go_enter'; part every test ahead of the walk. -/
theorem walk (k0 s1 : Int) (a : Option Addr) (n cap : Nat) (za : List Int) (c : Option Addr) (nc cc : Nat) (zc : List Int) (o : Int) (d : Option Addr) (nd cd : Nat) (zd : List Int) (w : World) (w1 : (Lit.int .u8 s1).wf = true) (ra : IsRow .u8 w a n cap za) (rc : IsRow .u8 w c nc cc zc) (rd : IsRow .u8 w d nd cd zd) (hk : Kc.KT w) (q1 : nc ≤ 1048576) (q2 : nd ≤ 1048576) :
    Calls Tryd.prog 4 #[.int .i64 k0, .int .u8 s1, .agg #[.slice a n cap, .slice c nc cc, .int .i64 o, .slice d nd cd]] w fun e w' => e = .returned (.bool true) ∧ Below w.heap.size w w' := by
  have h2 : 0 ≤ s1 ∧ s1 < 256 := by simp [Lit.wf, IntKind.min, IntKind.max, IntKind.bits, IntKind.signed] at w1; omega
  exact Kc.pieces_walk a c d n cap nc cc nd cd _ _ _ k0 s1 o w (By.rb_of_row ra) (By.rb_of_row rc) (By.rb_of_row rd) h2 hk q1 q2

/-! ### What the walk gives -/
theorem one_le {H : Type} (d : DataW H) : 1 ≤ Rows.uptoBulk d := by
  cases d with
  | lit l => cases l <;> simp [Rows.uptoBulk]
  | nil => simp [Rows.uptoBulk]
  | ptr d => simp [Rows.uptoBulk]
  | slice a b => simp [Rows.uptoBulk]
  | agg a => simp [Rows.uptoBulk]
  | iface a b => simp [Rows.uptoBulk]
  | map a => simp [Rows.uptoBulk]
  | held a => simp [Rows.uptoBulk]
theorem len_bulk {H : Type} (l : List (DataW H)) : l.length ≤ Rows.uptoBulkAll l := by
  induction l with
  | nil => simp [Rows.uptoBulkAll]
  | cons x r ih => have := one_le x; simp only [Rows.uptoBulkAll, List.length_cons]; omega
theorem slice_bulk {H : Type} (a b : List (DataW H)) : a.length ≤ Rows.uptoBulk (.slice a b) := by
  have := len_bulk a
  simp only [Rows.uptoBulk]; omega
theorem mem_bulk {H : Type} {l : List (DataW H)} {x : DataW H} (h : x ∈ l) : Rows.uptoBulk x ≤ Rows.uptoBulkAll l := by
  induction l with
  | nil => cases h
  | cons y r ih =>
    simp only [Rows.uptoBulkAll]
    rcases List.mem_cons.1 h with rfl | h
    · omega
    · have := ih h; omega
theorem agg_bulk {H : Type} {l : List (DataW H)} {x : DataW H} (h : x ∈ l) : Rows.uptoBulk x ≤ Rows.uptoBulk (.agg l) := by
  have := mem_bulk h
  simp only [Rows.uptoBulk]; omega
theorem four {cs : Array Value} (h : cs.size = 4) : ∃ c0 c1 c2 c3, cs = #[c0, c1, c2, c3] := by
  obtain ⟨l⟩ := cs
  match l, h with
  | [c0, c1, c2, c3], _ => exact ⟨c0, c1, c2, c3, rfl⟩
theorem opened {H : Type} {enc : TypeId × Value → H} {W : World} {n : Nat} {c : Value} {y : DataW H × List MemPlace} (hf : DataW.trod enc Tryd.prog W 0 (fun _ => true) true n 39 [c] = some y) :
    ∃ a len cap zs, c = Value.slice a len cap ∧ IsRow .u8 W a len cap zs ∧ len ≤ Rows.uptoBulk y.1 := by
  rcases open_ints Tryd.underlying39 Tryd.underlying5 (by kernel_rfl) hf with ⟨hcs, _⟩ | ⟨x, l, cp, zs, hcs, _, hl, hm, hz, hx, hcell, hwz⟩
  · simp at hcs
    exact ⟨none, 0, 0, [], hcs, .inl ⟨rfl, rfl, rfl, rfl⟩, Nat.zero_le _⟩
  · simp at hcs
    refine ⟨some x, l, cp, zs, hcs, .inr ⟨_, rfl, hl, hm, by simpa using hz, hcell, hwz⟩, ?_⟩
    have hd := congrArg Prod.fst hx
    have hz' : zs.length = cp := by simpa using hz
    rw [show y.1 = _ from hd]
    refine Nat.le_trans ?_ (slice_bulk _ _)
    simp only [lits, List.length_map, List.length_take]
    omega
set_option maxRecDepth 100000 in
theorem contract (H : Type) (enc : TypeId × Value → H) (W : World) (base : Nat) (args : Array Value) (ds gs : List (DataW H)) (before : List MemPlace)
    (hval : ∀ (j : Nat) t v, Tryd.f4.params[j]? = some t → args[j]? = some v → Value.okWide Tryd.prog W .any base t v)
    (hW : DataW.Whole enc Tryd.prog Tryd.f4.params.toList Rows.spongePiecesSpec.vars false W args.toList ds gs before) (hk : Rows.uptoSmall H (ds ++ gs) = true) (hL : laidMetH Tryd.prog Kc.laid1 W) :
    Calls Tryd.prog 4 args W fun e W' => ∃ v, e = .returned v ∧ Rows.spongePiecesSpec.post enc Tryd.prog Tryd.f4 false true false false W args v W' := by
  have hW' := hW
  obtain ⟨p, q, hA0, hV, rfl, hfz, hnd⟩ := hW
  have hA : DataW.TrodAll enc Tryd.prog W 0 (fun _ => true) true Tryd.f4.params.toList args.toList ds p := hA0
  rw [Tryd.params4] at hA hval
  obtain ⟨v0, vs0, d0, ds0, p0, q0, hargs, rfl, rfl, h0, r0⟩ := trodAll_cons hA
  obtain ⟨v1, vs1, d1, ds1, p1, q1, rfl, rfl, rfl, h1, r1⟩ := trodAll_cons r0
  obtain ⟨v2, vs2, d2, ds2, p2, q2, rfl, rfl, rfl, h2, r2⟩ := trodAll_cons r1
  obtain ⟨rfl, rfl, rfl⟩ := trodAll_nil r2
  obtain rfl : args = #[v0, v1, v2] := by cases args; simp_all
  obtain ⟨rfl, rfl⟩ := trodVars_none hV
  obtain ⟨a0, rfl, rfl, rfl, w0⟩ := open_int Tryd.underlying3 (hval 0 3 v0 rfl rfl) h0
  obtain ⟨a1, rfl, rfl, rfl, w1⟩ := open_int Tryd.underlying5 (hval 1 5 v1 rfl rfl) h1
  obtain ⟨cs, rfl, hsz⟩ := okWide_struct Tryd.underlying50 (hval 2 50 v2 rfl rfl)
  obtain ⟨c0, c1, c2, c3, rfl⟩ := four (hsz.trans (show Tryd.prog.cellsOf 50 = 4 by kernel_rfl))
  have k2 := h2
  have lt2 : ∀ x ∈ p2, x.block < W.heap.size := by obtain ⟨m, hm⟩ := k2; exact DataW.trod_lt m _ _ _ hm
  have hop : ∃ a n cap za c nc cc zc o d nd cd zd, c0 = Value.slice a n cap ∧ c1 = Value.slice c nc cc ∧ c2 = Value.int .i64 o ∧ c3 = Value.slice d nd cd ∧ IsRow .u8 W a n cap za ∧ IsRow .u8 W c nc cc zc ∧ IsRow .u8 W d nd cd zd ∧ nc ≤ Rows.uptoBulk d2 ∧ nd ≤ Rows.uptoBulk d2 := by
    obtain ⟨fuel, hf⟩ := h2
    obtain ⟨xs, n, _, hx, hl, hlen, hfl⟩ := DataW.trod_struct Tryd.underlying50 hf
    have t1 : Tryd.prog.cellsOf 39 = 1 := by kernel_rfl
    have t3 : Tryd.prog.cellsOf 3 = 1 := by kernel_rfl
    match xs, hlen, hx, hfl with
    | [y0, y1, y2, y3], _, hx, hfl =>
      have g0 := hfl 0 { name := "In", type := 39, offset := 0, embedded := false, tag := "", pkgPath := "", byteOffset := 0 } rfl
      have g1 := hfl 1 { name := "Cuts", type := 39, offset := 1, embedded := false, tag := "", pkgPath := "", byteOffset := 24 } rfl
      have g2 := hfl 2 { name := "Out", type := 3, offset := 2, embedded := false, tag := "", pkgPath := "", byteOffset := 48 } rfl
      have g3 := hfl 3 { name := "Parts", type := 39, offset := 3, embedded := false, tag := "", pkgPath := "", byteOffset := 56 } rfl
      dsimp only at g0 g1 g2 g3
      rw [t1] at g0 g1 g3
      rw [t3] at g2
      have hd : d2 = .agg [y0.1, y1.1, y2.1, y3.1] := by have := congrArg Prod.fst hx; simpa using this
      obtain ⟨a, n0, cap, za, e0, ra, _⟩ := opened (c := c0) (y := y0) g0
      obtain ⟨c, nc, cc, zc, e1, rc, q1⟩ := opened (c := c1) (y := y1) g1
      obtain ⟨d, nd, cd, zd, e3, rd, q3⟩ := opened (c := c3) (y := y3) g3
      obtain ⟨o, e2, _⟩ := DataW.trod_int Tryd.underlying3 g2
      have e2' : c2 = .int .i64 o := by
        have := congrArg (fun l => l[0]?) e2
        simpa [Value.cells] using this
      refine ⟨a, n0, cap, za, c, nc, cc, zc, o, d, nd, cd, zd, e0, e1, e2', e3, ra, rc, rd, ?_, ?_⟩
      · rw [hd]; exact Nat.le_trans q1 (agg_bulk (by simp))
      · rw [hd]; exact Nat.le_trans q3 (agg_bulk (by simp))
  obtain ⟨a, n, cap, za, c, nc, cc, zc, o, d, nd, cd, zd, rfl, rfl, rfl, rfl, ra, rc, rd, q1, q2⟩ := hop
  have hb : Rows.uptoBulk d2 ≤ 1048576 := by
    have h := of_decide_eq_true hk
    simp only [List.append_nil, Rows.uptoBulkAll] at h
    omega
  clear hA0
  refine (walk a0 a1 a n cap za c nc cc zc o d nd cd zd W w1 ra rc rd (Kc.kt_of_laid hL) (by omega) (by omega)).mono fun e W' ⟨he, bel⟩ => ?_
  subst he
  exact ⟨_, rfl, _, _, _, [], _, [], hW', trodAll_mk1 (shut_bool Tryd.underlying4 _), (trodAll_cons_mk (shut_int Tryd.underlying3 w0) (trodAll_cons_mk (shut_int Tryd.underlying5 w1) (trodAll_cons_mk (Below.trod laidOut (by kernel_rfl) (of_decide_eq_true (by kernel_rfl)) k2 bel lt2) trodAll_mk0))), rfl, bel.frame _, fun h => by cases h⟩
theorem reads (os : Os) {H : Type} (enc : TypeId × Value → H) : ∃ places, DataW.whole enc Tryd.prog ((World.doorLaid Tryd.prog 400 os).forCall (fun _ _ => 0) ⟨#[], #[.int .i64 0, .int .u8 0, .agg #[.slice none 0 0, .slice none 0 0, .int .i64 0, .slice none 0 0]], []⟩).memory Tryd.f4.params.toList Rows.spongePiecesSpec.vars false (#[.int .i64 0, .int .u8 0, .agg #[.slice none 0 0, .slice none 0 0, .int .i64 0, .slice none 0 0]] : Array Value).toList 8 = some ([.lit (.int .i64 0), .lit (.int .u8 0), .agg [.nil, .nil, .lit (.int .i64 0), .nil]], [], places) :=
  ⟨[], by kernel_rfl⟩
theorem laid_met (os : Os) : laidMet Tryd.prog Rows.spongePiecesUptoRow.laid ((World.doorLaid Tryd.prog 400 os).forCall (fun _ _ => 0) ⟨#[], #[.int .i64 0, .int .u8 0, .agg #[.slice none 0 0, .slice none 0 0, .int .i64 0, .slice none 0 0]], []⟩).memory :=
  laidMet_of_run' 8 (by kernel_rfl) (by kernel_rfl)
set_option maxRecDepth 100000 in
theorem lifted (os : Os) (started : os.Started) (H : Type) (enc : TypeId × Value → H) (F : Stop.Interp) :
    ReturnsInHanded {} Tryd.checked os 4 .any ((Rows.OpenSpec.upto Rows.spongePiecesSpec).preRow enc Tryd.prog Tryd.f4 Rows.spongePiecesUptoRow.domain false Rows.spongePiecesUptoRow.laid) (((Rows.OpenSpec.upto Rows.spongePiecesSpec).at F).post enc Tryd.prog Tryd.f4 false true false false) := by
  obtain ⟨places, hx⟩ := reads os enc
  refine returnsInHanded_of_row (C := Tryd.checked) (s := Rows.OpenSpec.upto Rows.spongePiecesSpec) own started (by kernel_rfl) Tryd.func4
    (witness_row_at (enc := enc) (C := Tryd.checked) false (World.doorLaid Tryd.prog 400 os) #[.int .i64 0, .int .u8 0, .agg #[.slice none 0 0, .slice none 0 0, .int .i64 0, .slice none 0 0]] rfl (by kernel_rfl) (by kernel_rfl) (by kernel_rfl)
      (OpenSpec.preRow_of_cond 8 hx (by kernel_rfl) (fun k hk => by cases hk; kernel_rfl) (by kernel_rfl) (laid_met os))) ?_
  intro W base args ds gs before hval hW _ hcond _ hL _ _
  exact contract H enc W base args ds gs before hval hW (hcond _ rfl) hL

theorem over : Rows.SpongePiecesUptoSaid :=
  OpenClaim.holds_of_cond 4 Tryd.f4 rfl rfl rfl rfl rfl rfl rfl ⟨rfl, rfl, rfl, rfl, rfl⟩ rfl rfl rfl rfl rfl (by kernel_rfl) Tryd.func4 (by kernel_rfl)
    (of_decide_eq_true (by kernel_rfl)) (by unfold Func.isWrapper; first | (rw [if_pos (by decide +kernel)]; kernel_rfl) | (rw [if_neg (by decide +kernel)]; exact ⟨rfl, rfl⟩))
    (fun os started H enc _ F => by rw [OpenClaim.pre_eq_preRow]; exact lifted os started H enc F)
theorem plain (f : FuncId) (fn : Func) (hf : Tryd.pinned.checked.prog.funcNamed "turnkey/turnkeylaw08.SpongePieces" = some f) (hfn : Tryd.pinned.checked.prog.funcs[f]? = some fn) :
    false = Tryd.pinned.checked.prog.looks [] ∧ ∀ (j : Nat) t, fn.params[j]? = some t → Tryd.pinned.checked.prog.wantsStandIn t = false := by
  obtain rfl : f = 4 := Option.some.inj ((show Tryd.prog.funcNamed "turnkey/turnkeylaw08.SpongePieces" = some 4 by kernel_rfl).symm.trans hf) |>.symm
  obtain rfl : fn = Tryd.f4 := (Option.some.inj (Tryd.func4.symm.trans hfn)).symm
  refine ⟨by kernel_rfl, fun j t ht => ?_⟩
  rw [Tryd.params4] at ht
  have h3 : t = 3 ∨ t = 5 ∨ t = 50 := by
    match j, ht with
    | 0, ht => exact .inl (by simpa using ht.symm)
    | 1, ht => exact .inr (.inl (by simpa using ht.symm))
    | 2, ht => exact .inr (.inr (by simpa using ht.symm))
    | j + 3, ht => simp at ht
  rcases h3 with rfl | rfl | rfl
  · exact (show Tryd.prog.wantsStandIn 3 = false by kernel_rfl)
  · exact (show Tryd.prog.wantsStandIn 5 = false by kernel_rfl)
  · exact (show Tryd.prog.wantsStandIn 50 = false by kernel_rfl)
end Go.Proofs.YtidejhkajabdfaaDoor.spongePieces
namespace Go.Proofs.YtidejhkajabdfaaDoor
theorem spongePiecesUpto_card : Rows.SpongePiecesUptoCardSaid :=
  Claim7.holds_tied_plain_at .later [] _ _ _ _ spongePieces.over (fun _ h => by cases h) (by kernel_rfl) (fun _ h => by cases h) spongePiecesUpto_row_tie rfl ⟨rfl, rfl⟩ (by kernel_rfl) rfl spongePieces.plain (by kernel_rfl)
#print axioms spongePiecesUpto_card
end Go.Proofs.YtidejhkajabdfaaDoor
