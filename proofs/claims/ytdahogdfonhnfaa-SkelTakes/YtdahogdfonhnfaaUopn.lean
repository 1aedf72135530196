/- How the arguments of the statements are opened: operations, lists of them, bytes. -/
import Derived.Test.YtdahogdfonhnfaaUop
import Derived.Test.YtdahogdfonhnfaaUen
import Derived.Deep.Slices
import Derived.OpenShut
import Derived.ChangeOld
import Derived.SizedLaws
namespace Go.Proofs.Ytdahogdfonhnfaa.Ou
open Go.ChangeShapes Go.WideShapes Go.ChangeAt Go.RowKit
open Go.Proofs.Ytdahogdfonhnfaa.By
/-- Nothing in a datum is greater than memory reaches. -/
def Sz {H : Type} (d : DataW H) (t : TypeId) : Prop := ∀ n ∈ d.weights Try.prog t, n ≤ reachBytes
theorem sz_each {H : Type} {ts : List TypeId} {ds : List (DataW H)} (h : (DataW.weightsEach Try.prog ts ds).all (· ≤ reachBytes) = true) {j : Nat} {t : TypeId} {d : DataW H} (ht : ts[j]? = some t) (hd : ds[j]? = some d) : Sz d t := fun n hn => by
  have := List.all_eq_true.1 h _ (DataW.weights_mem_each ht hd n hn)
  simpa using this
theorem mem_all {H : Type} {e : TypeId} {l : List (DataW H)} {d : DataW H} (h : d ∈ l) {n : Nat} (hn : n ∈ d.weights Try.prog e) : n ∈ DataW.weightsAll Try.prog e l := by
  induction l with
  | nil => cases h
  | cons y r ih =>
    simp only [DataW.weightsAll, List.mem_append]
    rcases List.mem_cons.1 h with rfl | h
    · exact .inl hn
    · exact .inr (ih h)
theorem sz_slice {H : Type} {t e : TypeId} {es sp : List (DataW H)} (hu : Try.prog.underlying t = some (.slice e)) (h : Sz (.slice es sp) t) : (es.length + sp.length) * Try.prog.bytesOf e ≤ reachBytes ∧ ∀ d ∈ es, Sz d e := by
  refine ⟨h _ (by simp [DataW.weights, hu]), fun d hd n hn => h n ?_⟩
  simp only [DataW.weights, hu, List.mem_cons, List.mem_append]
  exact .inr (.inl (mem_all hd hn))
set_option maxRecDepth 100000 in
/-- The same, its bound as it is told. -/
theorem open_p {H : Type} {enc : TypeId × Value → H} {w : World} {base : Nat} {held : Bool} {fuel : Nat} {c : Value} {x : DataW H × List MemPlace} (h : DataW.trod enc Try.prog w base (fun _ => true) held fuel 26 [c] = some x) (hs : Sz x.1 26) : ∃ pa pn pc g, c = .slice pa pn pc ∧ By.RB w (.slice pa pn pc) pn g ∧ pn ≤ 140737488351232 := by
  rcases open_ints Try.underlying26 Try.underlying5 (by kernel_rfl) h with ⟨hcs, _⟩ | ⟨a, l, cp, zs, hcs, _, hl, hm, hz, hx, hcell, hwz⟩
  · simp only [List.cons.injEq, and_true] at hcs
    subst hcs
    exact ⟨none, 0, 0, _, rfl, By.rb_of_row (zs := []) (.inl ⟨rfl, rfl, rfl, rfl⟩), by omega⟩
  · simp only [List.cons.injEq, and_true] at hcs
    subst hcs
    have hz' : zs.length = cp := by simpa using hz
    refine ⟨some a, l, cp, _, rfl, By.rb_of_row (zs := zs) (.inr ⟨_, rfl, hl, hm, hz', hcell, hwz⟩), ?_⟩
    rw [hx] at hs
    have h2 := (sz_slice Try.underlying26 hs).1
    rw [By.bytes5] at h2
    simp only [lits, List.length_map, List.length_take, List.length_drop, reachBytes] at h2
    omega
theorem wf_u8 {z : Int} (h : (Lit.int .u8 z).wf = true) : 0 ≤ z ∧ z < 256 := by
  simp [Lit.wf, IntKind.min, IntKind.max, IntKind.bits, IntKind.signed] at h; omega
theorem wf_i64 {z : Int} (h : (Lit.int .i64 z).wf = true) : -9223372036854775808 ≤ z ∧ z < 9223372036854775808 := by
  simp [Lit.wf, IntKind.min, IntKind.max, IntKind.bits, IntKind.signed] at h; omega
/-- An operation that is handed in. -/
structure OE where
  q : Nu
  da : Option Addr
  dn : Nat
  dc : Nat
  f : Nat → Int
  ma : Option Addr
  mn : Nat
  mc : Nat
  g : Nat → Int
def OE.d (x : OE) : Value := .slice x.da x.dn x.dc
def OE.m (x : OE) : Value := .slice x.ma x.mn x.mc
structure OE.Ok (W : World) (x : OE) : Prop where
  q : x.q.Ok
  rd : By.RB W (.slice x.da x.dn x.dc) x.dn x.f
  rm : By.RB W (.slice x.ma x.mn x.mc) x.mn x.g
  ld : x.dn ≤ 140737488351232
  lm : x.mn ≤ 140737488351232
theorem OE.Ok.below {W V : World} {x : OE} (h : x.Ok W) (hb : Below W.heap.size W V) : x.Ok V := ⟨h.q, h.rd.below hb, h.rm.below hb, h.ld, h.lm⟩
set_option maxRecDepth 100000 in
theorem open_op {H : Type} {enc : TypeId × Value → H} {w : World} {base : Nat} {held : Bool} {fuel : Nat} {cs : List Value} {x : DataW H × List MemPlace} (h : DataW.trod enc Try.prog w base (fun _ => true) held fuel 28 cs = some x) (hsz : Sz x.1 28) : ∃ y : OE, y.Ok w ∧ cs = [.int .u8 y.q.k, .int .i64 y.q.h, .int .u8 y.q.a, .int .i64 y.q.c, .int .i64 y.q.o, .slice y.da y.dn y.dc, .slice y.ma y.mn y.mc] := by
  obtain ⟨xs, n1, _, hx, hl, hxl, hf⟩ := DataW.trod_struct Try.underlying28 h
  have hl7 : cs.length = 7 := by rw [hl]; kernel_rfl
  match cs, hl7 with
  | [c0, c1, c2, c3, c4, c5, c6], _ =>
    have g0 := hf 0 { name := "Kind", type := 24, offset := 0, embedded := false, tag := "", pkgPath := "", byteOffset := 0 } rfl
    have g1 := hf 1 { name := "Handle", type := 3, offset := 1, embedded := false, tag := "", pkgPath := "", byteOffset := 8 } rfl
    have g2 := hf 2 { name := "Alg", type := 25, offset := 2, embedded := false, tag := "", pkgPath := "", byteOffset := 16 } rfl
    have g3 := hf 3 { name := "Count", type := 3, offset := 3, embedded := false, tag := "", pkgPath := "", byteOffset := 24 } rfl
    have g4 := hf 4 { name := "Out", type := 3, offset := 4, embedded := false, tag := "", pkgPath := "", byteOffset := 32 } rfl
    have g5 := hf 5 { name := "Data", type := 26, offset := 5, embedded := false, tag := "", pkgPath := "", byteOffset := 40 } rfl
    have g6 := hf 6 { name := "More", type := 26, offset := 6, embedded := false, tag := "", pkgPath := "", byteOffset := 64 } rfl
    have e0 : Try.prog.cellsOf 3 = 1 := by kernel_rfl
    have e1 : Try.prog.cellsOf 24 = 1 := by kernel_rfl
    have e2 : Try.prog.cellsOf 25 = 1 := by kernel_rfl
    have e3 : Try.prog.cellsOf 26 = 1 := by kernel_rfl
    dsimp only at g0 g1 g2 g3 g4 g5 g6
    rw [e0] at g1 g3 g4
    rw [e1] at g0
    rw [e2] at g2
    rw [e3] at g5 g6
    simp only [List.drop_zero, List.take_succ_cons, List.take_zero, List.drop_succ_cons] at g0 g1 g2 g3 g4 g5 g6
    have hx7 : xs.length = 7 := by rw [hxl]; rfl
    match xs, hx7 with
    | [y0, y1, y2, y3, y4, y5, y6], _ =>
      have hs5 : Sz y5.1 26 := fun n hn => by
        refine hsz n ?_
        rw [hx]
        have hu := Try.underlying28
        simp only [DataW.weights, hu, List.map_cons, List.map_nil]
        exact DataW.weights_mem_each (j := 5) (t := 26) (d := y5.1) rfl rfl n hn
      have hs6 : Sz y6.1 26 := fun n hn => by
        refine hsz n ?_
        rw [hx]
        have hu := Try.underlying28
        simp only [DataW.weights, hu, List.map_cons, List.map_nil]
        exact DataW.weights_mem_each (j := 6) (t := 26) (d := y6.1) rfl rfl n hn
      obtain ⟨a0, h0, _, w0⟩ := DataW.trod_int Try.underlying24 (show _ = some y0 from g0)
      obtain ⟨a1, h1, _, w1⟩ := DataW.trod_int Try.underlying3 (show _ = some y1 from g1)
      obtain ⟨a2, h2, _, w2⟩ := DataW.trod_int Try.underlying25 (show _ = some y2 from g2)
      obtain ⟨a3, h3, _, w3⟩ := DataW.trod_int Try.underlying3 (show _ = some y3 from g3)
      obtain ⟨a4, h4, _, w4⟩ := DataW.trod_int Try.underlying3 (show _ = some y4 from g4)
      obtain ⟨p5, n5, k5, f5, h5, r5, l5⟩ := open_p (show _ = some y5 from g5) hs5
      obtain ⟨p6, n6, k6, f6, h6, r6, l6⟩ := open_p (show _ = some y6 from g6) hs6
      simp only [List.cons.injEq, and_true] at h0 h1 h2 h3 h4
      subst h0 h1 h2 h3 h4 h5 h6
      have u0 := wf_u8 w0
      have u2 := wf_u8 w2
      have u1 := wf_i64 w1
      have u3 := wf_i64 w3
      have u4 := wf_i64 w4
      exact ⟨⟨⟨a0, a1, a2, a3, a4⟩, p5, n5, k5, f5, p6, n6, k6, f6⟩, ⟨⟨u0.1, u0.2, u2.1, u2.2, u1.1, u1.2, u3.1, u3.2, u4.1, u4.2⟩, r5, r6, l5, l6⟩, rfl⟩
/-- A list of operations. -/
def AO (W : World) (A : Option Addr) (m : Nat) (v : Nat → OE) : Prop := ∀ i, i < m → ∃ b off, A = some ⟨b, off, none⟩ ∧ (v i).Ok W ∧ W.cell? ⟨b, off + i * 7, none⟩ = some (.int .u8 (v i).q.k) ∧ W.cell? ⟨b, off + i * 7 + 1, none⟩ = some (.int .i64 (v i).q.h) ∧ W.cell? ⟨b, off + i * 7 + 2, none⟩ = some (.int .u8 (v i).q.a) ∧ W.cell? ⟨b, off + i * 7 + 3, none⟩ = some (.int .i64 (v i).q.c) ∧ W.cell? ⟨b, off + i * 7 + 4, none⟩ = some (.int .i64 (v i).q.o) ∧ W.cell? ⟨b, off + i * 7 + 5, none⟩ = some (.slice (v i).da (v i).dn (v i).dc) ∧ W.cell? ⟨b, off + i * 7 + 6, none⟩ = some (.slice (v i).ma (v i).mn (v i).mc)
theorem bytes88 : Try.prog.bytesOf 28 = 88 := by kernel_rfl
set_option maxRecDepth 100000 in
theorem openOps {H : Type} {enc : TypeId × Value → H} {w : World} {base : Nat} {held : Bool} {fuel : Nat} {A : Option Addr} {m cap : Nat} {x : DataW H × List MemPlace} (h : DataW.trod enc Try.prog w base (fun _ => true) held fuel 22 (Value.slice A m cap).cells.toList = some x) (hsz : Sz x.1 22) :
    ∃ v, AO w A m v ∧ m ≤ 1600000000000 := by
  rcases Deep.open_slice Try.underlying22 h with ⟨hcs, _⟩ | ⟨a, len, cp, k, n, D, Pl, hcs, _, hl, hm, hmm, hx, hel⟩
  · simp [Value.cells] at hcs
    obtain ⟨rfl, rfl, rfl⟩ := hcs
    exact ⟨fun _ => ⟨⟨0, 0, 0, 0, 0⟩, none, 0, 0, fun _ => 0, none, 0, 0, fun _ => 0⟩, fun i hi => absurd hi (by omega), by omega⟩
  · simp [Value.cells] at hcs
    obtain ⟨rfl, rfl, rfl⟩ := hcs
    have e7 : Try.prog.cellsOf 28 = 7 := by kernel_rfl
    have hlm : m ≤ k := by rw [hmm]; split <;> omega
    rw [hx] at hsz
    have hS := sz_slice Try.underlying22 hsz
    have hD := hS.2
    have hM := hS.1
    rw [bytes88] at hM
    simp only [List.length_map, List.length_range, reachBytes] at hM
    have each : ∀ i, i < m → ∃ y : OE, y.Ok w ∧ w.cell? (a.add (i * 7)) = some (.int .u8 y.q.k) ∧ w.cell? (a.add (i * 7 + 1)) = some (.int .i64 y.q.h) ∧ w.cell? (a.add (i * 7 + 2)) = some (.int .u8 y.q.a) ∧ w.cell? (a.add (i * 7 + 3)) = some (.int .i64 y.q.c) ∧ w.cell? (a.add (i * 7 + 4)) = some (.int .i64 y.q.o) ∧ w.cell? (a.add (i * 7 + 5)) = some (.slice y.da y.dn y.dc) ∧ w.cell? (a.add (i * 7 + 6)) = some (.slice y.ma y.mn y.mc) := by
      intro i hi
      obtain ⟨cs, h1, h2⟩ := hel i (by omega)
      rw [e7] at h1
      obtain ⟨_, _, hcell⟩ := World.cells?_some h1
      obtain ⟨q, hq, rfl⟩ := open_op h2 (hD (D i) (List.mem_map.2 ⟨i, List.mem_range.2 hi, rfl⟩))
      have q0 := hcell 0 (by omega)
      have q1 := hcell 1 (by omega)
      have q2 := hcell 2 (by omega)
      have q3 := hcell 3 (by omega)
      have q4 := hcell 4 (by omega)
      have q5 := hcell 5 (by omega)
      have q6 := hcell 6 (by omega)
      rw [Deep.add_add] at q0 q1 q2 q3 q4 q5 q6
      exact ⟨q, hq, q0, q1, q2, q3, q4, q5, q6⟩
    obtain ⟨R, hR⟩ := @Deep.choose_lt OE ⟨⟨⟨0, 0, 0, 0, 0⟩, none, 0, 0, fun _ => 0, none, 0, 0, fun _ => 0⟩⟩ _ _ each
    refine ⟨R, fun i hi => ?_, by omega⟩
    obtain ⟨b, off, spot⟩ := a
    have hc0 := (hR 0 (by omega)).2.1
    have hspot : spot = none := by simpa [Addr.add] using World.cell?_spot hc0
    subst hspot
    obtain ⟨o, q⟩ := hR i hi
    simp only [By.add_plain, ← Nat.add_assoc] at q
    exact ⟨b, off, rfl, o, q⟩
theorem ao_below {w W : World} {A : Option Addr} {m : Nat} {v : Nat → OE} (h : AO w A m v) (hb : Below w.heap.size w W) : AO W A m v := fun i hi => by
  obtain ⟨b, off, e, o, c0, c1, c2, c3, c4, c5, c6⟩ := h i hi
  have k : ∀ j u, w.cell? ⟨b, j, none⟩ = some u → W.cell? ⟨b, j, none⟩ = some u := fun j u hc => by
    rw [hb.cell (p := ⟨b, j, none⟩) (block_lt_of_cell hc)]; exact hc
  exact ⟨b, off, e, o.below hb, k _ _ c0, k _ _ c1, k _ _ c2, k _ _ c3, k _ _ c4, k _ _ c5, k _ _ c6⟩
end Go.Proofs.Ytdahogdfonhnfaa.Ou
