/- How skeletons, and lists of them, are opened as arguments. -/
import Derived.Test.YtdmacflcjbkkpaaGreatCmx
import Derived.Test.YtdmacflcjbkkpaaGreatCls
import Derived.Deep.Slices
import Derived.OpenShut
import Derived.ChangeOld
import Derived.SizedLaws
namespace Go.Proofs.YtdmacflcjbkkpaaGreat.Co
open Go.ChangeShapes Go.WideShapes Go.ChangeAt Go.RowKit
open Go.Proofs.YtdmacflcjbkkpaaGreat.Ou (Sk sv sL zS)
/-- Nothing in a datum is greater than memory reaches. -/
def Sz {H : Type} (d : DataW H) (t : TypeId) : Prop := ∀ n ∈ d.weights Tryz.prog t, n ≤ reachBytes
theorem sz_each {H : Type} {ts : List TypeId} {ds : List (DataW H)} (h : (DataW.weightsEach Tryz.prog ts ds).all (· ≤ reachBytes) = true) {j : Nat} {t : TypeId} {d : DataW H} (ht : ts[j]? = some t) (hd : ds[j]? = some d) : Sz d t := fun n hn => by
  have := List.all_eq_true.1 h _ (DataW.weights_mem_each ht hd n hn)
  simpa using this
theorem mem_all {H : Type} {e : TypeId} {l : List (DataW H)} {d : DataW H} (h : d ∈ l) {n : Nat} (hn : n ∈ d.weights Tryz.prog e) : n ∈ DataW.weightsAll Tryz.prog e l := by
  induction l with
  | nil => cases h
  | cons y r ih =>
    simp only [DataW.weightsAll, List.mem_append]
    rcases List.mem_cons.1 h with rfl | h
    · exact .inl hn
    · exact .inr (ih h)
theorem sz_slice {H : Type} {t e : TypeId} {es sp : List (DataW H)} (hu : Tryz.prog.underlying t = some (.slice e)) (h : Sz (.slice es sp) t) : (es.length + sp.length) * Tryz.prog.bytesOf e ≤ reachBytes ∧ ∀ d ∈ es, Sz d e := by
  refine ⟨h _ (by simp [DataW.weights, hu]), fun d hd n hn => h n ?_⟩
  simp only [DataW.weights, hu, List.mem_cons, List.mem_append]
  exact .inr (.inl (mem_all hd hn))
theorem wf_u8 {z : Int} (h : (Lit.int .u8 z).wf = true) : 0 ≤ z ∧ z ≤ 255 := by
  simp [Lit.wf, IntKind.min, IntKind.max, IntKind.bits, IntKind.signed] at h; omega
theorem wf_i64 {z : Int} (h : (Lit.int .i64 z).wf = true) : -9223372036854775808 ≤ z ∧ z ≤ 9223372036854775807 := by
  simp [Lit.wf, IntKind.min, IntKind.max, IntKind.bits, IntKind.signed] at h; omega
set_option maxRecDepth 100000 in
theorem open_sk {H : Type} {enc : TypeId × Value → H} {w : World} {base : Nat} {held : Bool} {fuel : Nat} {cs : List Value} {x : DataW H × List MemPlace} (h : DataW.trod enc Tryz.prog w base (fun _ => true) held fuel 40 cs = some x)  : ∃ y : Sk, SkIn y ∧ cs = sL y := by
  obtain ⟨xs, n1, _, hx, hl, hxl, hf⟩ := DataW.trod_struct Tryz.underlying40 h
  have hl7 : cs.length = 7 := by rw [hl]; kernel_rfl
  match cs, hl7 with
  | [c0, c1, c2, c3, c4, c5, c6], _ =>
    have g0 := hf 0 { name := "Kind", type := 37, offset := 0, embedded := false, tag := "", pkgPath := "", byteOffset := 0 } rfl
    have g1 := hf 1 { name := "Handle", type := 3, offset := 1, embedded := false, tag := "", pkgPath := "", byteOffset := 8 } rfl
    have g2 := hf 2 { name := "Alg", type := 38, offset := 2, embedded := false, tag := "", pkgPath := "", byteOffset := 16 } rfl
    have g3 := hf 3 { name := "Count", type := 3, offset := 3, embedded := false, tag := "", pkgPath := "", byteOffset := 24 } rfl
    have g4 := hf 4 { name := "Out", type := 3, offset := 4, embedded := false, tag := "", pkgPath := "", byteOffset := 32 } rfl
    have g5 := hf 5 { name := "Data", type := 3, offset := 5, embedded := false, tag := "", pkgPath := "", byteOffset := 40 } rfl
    have g6 := hf 6 { name := "More", type := 3, offset := 6, embedded := false, tag := "", pkgPath := "", byteOffset := 48 } rfl
    have e0 : Tryz.prog.cellsOf 3 = 1 := by kernel_rfl
    have e1 : Tryz.prog.cellsOf 37 = 1 := by kernel_rfl
    have e2 : Tryz.prog.cellsOf 38 = 1 := by kernel_rfl
    dsimp only at g0 g1 g2 g3 g4 g5 g6
    rw [e0] at g1 g3 g4 g5 g6
    rw [e1] at g0
    rw [e2] at g2
    simp only [List.drop_zero, List.take_succ_cons, List.take_zero, List.drop_succ_cons] at g0 g1 g2 g3 g4 g5 g6
    have hx7 : xs.length = 7 := by rw [hxl]; rfl
    match xs, hx7 with
    | [y0, y1, y2, y3, y4, y5, y6], _ =>
      obtain ⟨a0, h0, _, w0⟩ := DataW.trod_int Tryz.underlying37 (show _ = some y0 from g0)
      obtain ⟨a1, h1, _, w1⟩ := DataW.trod_int Tryz.underlying3 (show _ = some y1 from g1)
      obtain ⟨a2, h2, _, w2⟩ := DataW.trod_int Tryz.underlying38 (show _ = some y2 from g2)
      obtain ⟨a3, h3, _, w3⟩ := DataW.trod_int Tryz.underlying3 (show _ = some y3 from g3)
      obtain ⟨a4, h4, _, w4⟩ := DataW.trod_int Tryz.underlying3 (show _ = some y4 from g4)
      obtain ⟨a5, h5, _, w5⟩ := DataW.trod_int Tryz.underlying3 (show _ = some y5 from g5)
      obtain ⟨a6, h6, _, w6⟩ := DataW.trod_int Tryz.underlying3 (show _ = some y6 from g6)
      simp only [List.cons.injEq, and_true] at h0 h1 h2 h3 h4 h5 h6
      subst h0 h1 h2 h3 h4 h5 h6
      exact ⟨⟨a0, a1, a2, a3, a4, a5, a6⟩, ⟨wf_u8 w0, wf_i64 w1, wf_u8 w2, wf_i64 w3, wf_i64 w4, wf_i64 w5, wf_i64 w6⟩, rfl⟩
theorem bytes56 : Tryz.prog.bytesOf 40 = 56 := by kernel_rfl
set_option maxRecDepth 100000 in
theorem openSks {H : Type} {enc : TypeId × Value → H} {w : World} {base : Nat} {held : Bool} {fuel : Nat} {A : Option Addr} {m cap : Nat} {x : DataW H × List MemPlace} (h : DataW.trod enc Tryz.prog w base (fun _ => true) held fuel 22 (Value.slice A m cap).cells.toList = some x) (hsz : Sz x.1 22) :
    ∃ f, Sx.RB w (.slice A m cap) m f ∧ (∀ i, i < m → SkIn (f i)) ∧ (m + 6) * 56 ≤ 140737488355328 := by
  rcases Deep.open_slice Tryz.underlying22 h with ⟨hcs, _⟩ | ⟨a, len, cp, k, n, D, Pl, hcs, _, hl, hm, hmm, hx, hel⟩
  · simp [Value.cells] at hcs
    obtain ⟨rfl, rfl, rfl⟩ := hcs
    exact ⟨fun _ => zS, ⟨none, 0, rfl, Nat.le_refl _, by simp [maxLen], .inl ⟨rfl, fun _ => rfl⟩⟩, fun i hi => absurd hi (Nat.not_lt_zero i), by omega⟩
  · simp [Value.cells] at hcs
    obtain ⟨rfl, rfl, rfl⟩ := hcs
    have e7 : Tryz.prog.cellsOf 40 = 7 := by kernel_rfl
    have hlm : m ≤ k := by rw [hmm]; split <;> omega
    rw [hx] at hsz
    have hS := sz_slice Tryz.underlying22 hsz
    have hM := hS.1
    rw [bytes56] at hM
    simp only [List.length_map, List.length_range, reachBytes] at hM
    have each : ∀ i, i < m → ∃ y : Sk, SkIn y ∧ ∀ j u, (sL y)[j]? = some u → w.cell? (a.add (i * 7 + j)) = some u := by
      intro i hi
      obtain ⟨cs, h1, h2⟩ := hel i (by omega)
      rw [e7] at h1
      obtain ⟨_, _, hcell⟩ := World.cells?_some h1
      obtain ⟨q, hq, rfl⟩ := open_sk h2
      refine ⟨q, hq, fun j u hu => ?_⟩
      have hj : j < 7 := (List.getElem?_eq_some_iff.1 hu).1
      have := hcell j (by omega)
      rw [Deep.add_add] at this
      rw [this]; exact hu
    obtain ⟨R, hR⟩ := @Deep.choose_lt Sk ⟨zS⟩ _ _ each
    refine ⟨R, ⟨_, cap, rfl, hl, hm, ?_⟩, fun i hi => (hR i hi).1, by omega⟩
    by_cases h0 : m = 0
    · exact .inl ⟨h0, fun e => by cases e⟩
    obtain ⟨b, off, spot⟩ := a
    have hc0 := (hR 0 (by omega)).2 0 _ rfl
    have hspot : spot = none := by simpa [Addr.add] using World.cell?_spot hc0
    subst hspot
    refine .inr ⟨b, off, rfl, fun p u hu => ?_⟩
    obtain ⟨h1, h2⟩ := Sx.sl_get_inv _ _ _ _ hu
    have := (hR (p / 7) h1).2 (p % 7) u h2
    rw [Go.Proofs.YtdmacflcjbkkpaaGreat.add_plain] at this
    rw [show p = p / 7 * 7 + p % 7 by omega]; exact this
end Go.Proofs.YtdmacflcjbkkpaaGreat.Co
