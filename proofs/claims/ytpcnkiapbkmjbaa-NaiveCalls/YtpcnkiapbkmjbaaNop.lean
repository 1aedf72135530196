/- How the argument of the statements is opened: what is asked. -/
import Derived.Test.YtpcnkiapbkmjbaaNeq
import Derived.Test.YtpcnkiapbkmjbaaNpl
import Derived.Deep.Slices
import Derived.OpenShut
import Derived.ChangeOld
import Derived.SizedLaws
namespace Go.Proofs.Ytpcnkiapbkmjbaa.Nv
open Go.ChangeShapes Go.WideShapes Go.ChangeAt Go.RowKit
open Go.Proofs.Ytpcnkiapbkmjbaa Go.Proofs.Ytpcnkiapbkmjbaa.By
/-- Nothing in a datum is greater than memory reaches. -/
def Sz {H : Type} (d : DataW H) (t : TypeId) : Prop := ∀ n ∈ d.weights Try.prog t, n ≤ reachBytes
theorem sz_each {H : Type} {ts : List TypeId} {ds : List (DataW H)} (h : (DataW.weightsEach Try.prog ts ds).all (· ≤ reachBytes) = true) {j : Nat} {t : TypeId} {d : DataW H} (ht : ts[j]? = some t) (hd : ds[j]? = some d) : Sz d t := fun n hn => by
  have := List.all_eq_true.1 h _ (DataW.weights_mem_each ht hd n hn)
  simpa using this
theorem mem_all {H : Type} {e : TypeId} {l : List (DataW H)} {d : DataW H} (h : d ∈ l) {n : Nat} (hn : n ∈ d.weights Try.prog e) : n ∈ DataW.weightsAll Try.prog e l := by
  induction l with
  | nil => cases h
  | cons y r ih =>
    simp only [DataW.weightsAll, List.mem_append]
    rcases List.mem_cons.1 h with rfl | h
    · exact .inl hn
    · exact .inr (ih h)
theorem sz_slice {H : Type} {t e : TypeId} {es sp : List (DataW H)} (hu : Try.prog.underlying t = some (.slice e)) (h : Sz (.slice es sp) t) : (es.length + sp.length) * Try.prog.bytesOf e ≤ reachBytes ∧ ∀ d ∈ es, Sz d e := by
  refine ⟨h _ (by simp [DataW.weights, hu]), fun d hd n hn => h n ?_⟩
  simp only [DataW.weights, hu, List.mem_cons, List.mem_append]
  exact .inr (.inl (mem_all hd hn))
set_option maxRecDepth 100000 in
/-- The same, its bound as it is told. -/
theorem open_p {H : Type} {enc : TypeId × Value → H} {w : World} {base : Nat} {held : Bool} {fuel : Nat} {c : Value} {x : DataW H × List MemPlace} (h : DataW.trod enc Try.prog w base (fun _ => true) held fuel 22 [c] = some x) (hs : Sz x.1 22) : ∃ pa pn pc g, c = .slice pa pn pc ∧ By.RB w (.slice pa pn pc) pn g ∧ pn ≤ 140737488351232 := by
  rcases open_ints Try.underlying22 Try.underlying5 (by kernel_rfl) h with ⟨hcs, _⟩ | ⟨a, l, cp, zs, hcs, _, hl, hm, hz, hx, hcell, hwz⟩
  · simp only [List.cons.injEq, and_true] at hcs
    subst hcs
    exact ⟨none, 0, 0, _, rfl, By.rb_of_row (zs := []) (.inl ⟨rfl, rfl, rfl, rfl⟩), by omega⟩
  · simp only [List.cons.injEq, and_true] at hcs
    subst hcs
    have hz' : zs.length = cp := by simpa using hz
    refine ⟨some a, l, cp, _, rfl, By.rb_of_row (zs := zs) (.inr ⟨_, rfl, hl, hm, hz', hcell, hwz⟩), ?_⟩
    rw [hx] at hs
    have h2 := (sz_slice Try.underlying22 hs).1
    rw [By.bytes5] at h2
    simp only [lits, List.length_map, List.length_take, List.length_drop, reachBytes] at h2
    omega
theorem wf_b8 {z : Int} (h : (Lit.int .u8 z).wf = true) : 0 ≤ z ∧ z < 256 := by
  simp [Lit.wf, IntKind.min, IntKind.max, IntKind.bits, IntKind.signed] at h; omega
/-- What is asked. -/
structure Ask where
  aa : Option Addr
  an : Nat
  ac : Nat
  f : Nat → Int
  ba : Option Addr
  bn : Nat
  bc : Nat
  g : Nat → Int
  x : Nat
  b : Nat
  e : Nat
  m : Nat
structure Ask.Ok (W : World) (q : Ask) : Prop where
  ra : By.RB W (.slice q.aa q.an q.ac) q.an q.f
  rb : By.RB W (.slice q.ba q.bn q.bc) q.bn q.g
  la : q.an ≤ 140737488351232
  lb : q.bn ≤ 140737488351232
  x : q.x < 256
  b : q.b < 18446744073709551616
  e : q.e < 18446744073709551616
  m : q.m < 18446744073709551616
def aL (q : Ask) : List Value := [.slice q.aa q.an q.ac, .slice q.ba q.bn q.bc, .int .u8 (q.x : Int), .int .u64 (q.b : Int), .int .u64 (q.e : Int), .int .u64 (q.m : Int)]
set_option maxRecDepth 100000 in
theorem open_ask {H : Type} {enc : TypeId × Value → H} {w : World} {base : Nat} {held : Bool} {fuel : Nat} {cs : List Value} {x : DataW H × List MemPlace} (h : DataW.trod enc Try.prog w base (fun _ => true) held fuel 25 cs = some x) (hsz : Sz x.1 25) : ∃ y : Ask, y.Ok w ∧ cs = aL y := by
  obtain ⟨xs, n1, _, hx, hl, hxl, hf⟩ := DataW.trod_struct Try.underlying25 h
  have hl7 : cs.length = 6 := by rw [hl]; kernel_rfl
  match cs, hl7 with
  | [c0, c1, c2, c3, c4, c5], _ =>
    have g0 := hf 0 { name := "A", type := 22, offset := 0, embedded := false, tag := "", pkgPath := "", byteOffset := 0 } rfl
    have g1 := hf 1 { name := "B", type := 22, offset := 1, embedded := false, tag := "", pkgPath := "", byteOffset := 24 } rfl
    have g2 := hf 2 { name := "X", type := 5, offset := 2, embedded := false, tag := "", pkgPath := "", byteOffset := 48 } rfl
    have g3 := hf 3 { name := "Base", type := 23, offset := 3, embedded := false, tag := "", pkgPath := "", byteOffset := 56 } rfl
    have g4 := hf 4 { name := "Exp", type := 23, offset := 4, embedded := false, tag := "", pkgPath := "", byteOffset := 64 } rfl
    have g5 := hf 5 { name := "Mod", type := 23, offset := 5, embedded := false, tag := "", pkgPath := "", byteOffset := 72 } rfl
    have e1 : Try.prog.cellsOf 5 = 1 := by kernel_rfl
    have e2 : Try.prog.cellsOf 23 = 1 := by kernel_rfl
    have e3 : Try.prog.cellsOf 22 = 1 := by kernel_rfl
    dsimp only at g0 g1 g2 g3 g4 g5
    rw [e3] at g0 g1
    rw [e1] at g2
    rw [e2] at g3 g4 g5
    simp only [List.drop_zero, List.take_succ_cons, List.take_zero, List.drop_succ_cons] at g0 g1 g2 g3 g4 g5
    have hx7 : xs.length = 6 := by rw [hxl]; rfl
    match xs, hx7 with
    | [y0, y1, y2, y3, y4, y5], _ =>
      have hs0 : Sz y0.1 22 := fun n hn => by
        refine hsz n ?_
        rw [hx]
        have hu := Try.underlying25
        simp only [DataW.weights, hu, List.map_cons, List.map_nil]
        exact DataW.weights_mem_each (j := 0) (t := 22) (d := y0.1) rfl rfl n hn
      have hs1 : Sz y1.1 22 := fun n hn => by
        refine hsz n ?_
        rw [hx]
        have hu := Try.underlying25
        simp only [DataW.weights, hu, List.map_cons, List.map_nil]
        exact DataW.weights_mem_each (j := 1) (t := 22) (d := y1.1) rfl rfl n hn
      obtain ⟨p0, n0, k0, f0, h0, r0, l0⟩ := open_p (show _ = some y0 from g0) hs0
      obtain ⟨p1, n1, k1, f1, h1, r1, l1⟩ := open_p (show _ = some y1 from g1) hs1
      obtain ⟨a2, h2, _, w2⟩ := DataW.trod_int Try.underlying5 (show _ = some y2 from g2)
      obtain ⟨a3, h3, _, w3⟩ := DataW.trod_int Try.underlying23 (show _ = some y3 from g3)
      obtain ⟨a4, h4, _, w4⟩ := DataW.trod_int Try.underlying23 (show _ = some y4 from g4)
      obtain ⟨a5, h5, _, w5⟩ := DataW.trod_int Try.underlying23 (show _ = some y5 from g5)
      simp only [List.cons.injEq, and_true] at h2 h3 h4 h5
      subst h0 h1 h2 h3 h4 h5
      have u2 := wf_b8 w2
      have u3 := wf_u64 w3
      have u4 := wf_u64 w4
      have u5 := wf_u64 w5
      obtain ⟨b2, rfl⟩ := Int.eq_ofNat_of_zero_le u2.1
      obtain ⟨b3, rfl⟩ := Int.eq_ofNat_of_zero_le u3.1
      obtain ⟨b4, rfl⟩ := Int.eq_ofNat_of_zero_le u4.1
      obtain ⟨b5, rfl⟩ := Int.eq_ofNat_of_zero_le u5.1
      exact ⟨⟨p0, n0, k0, f0, p1, n1, k1, f1, b2, b3, b4, b5⟩, ⟨r0, r1, l0, l1, by show b2 < 256; omega, by show b3 < 18446744073709551616; omega, by show b4 < 18446744073709551616; omega, by show b5 < 18446744073709551616; omega⟩, rfl⟩
end Go.Proofs.Ytpcnkiapbkmjbaa.Nv
