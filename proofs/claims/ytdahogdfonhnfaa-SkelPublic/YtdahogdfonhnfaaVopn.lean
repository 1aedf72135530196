/- How skeletons, and lists of them, are opened as arguments. -/
import Derived.Test.YtdahogdfonhnfaaVls
import Derived.Test.YtdahogdfonhnfaaUopn
namespace Go.Proofs.Ytdahogdfonhnfaa.Ou
open Go.ChangeShapes Go.WideShapes Go.ChangeAt Go.RowKit
open Go.Proofs.Ytdahogdfonhnfaa.By
/-- Its small numbers fit. -/
structure Sk.Ok (s : Sk) : Prop where
  k : 0 ≤ s.k ∧ s.k < 256
  a : 0 ≤ s.a ∧ s.a < 256
set_option maxRecDepth 100000 in
theorem open_sk {H : Type} {enc : TypeId × Value → H} {w : World} {base : Nat} {held : Bool} {fuel : Nat} {cs : List Value} {x : DataW H × List MemPlace} (h : DataW.trod enc Try.prog w base (fun _ => true) held fuel 33 cs = some x)  : ∃ y : Sk, y.Ok ∧ cs = sL y := by
  obtain ⟨xs, n1, _, hx, hl, hxl, hf⟩ := DataW.trod_struct Try.underlying33 h
  have hl7 : cs.length = 7 := by rw [hl]; kernel_rfl
  match cs, hl7 with
  | [c0, c1, c2, c3, c4, c5, c6], _ =>
    have g0 := hf 0 { name := "Kind", type := 24, offset := 0, embedded := false, tag := "", pkgPath := "", byteOffset := 0 } rfl
    have g1 := hf 1 { name := "Handle", type := 3, offset := 1, embedded := false, tag := "", pkgPath := "", byteOffset := 8 } rfl
    have g2 := hf 2 { name := "Alg", type := 25, offset := 2, embedded := false, tag := "", pkgPath := "", byteOffset := 16 } rfl
    have g3 := hf 3 { name := "Count", type := 3, offset := 3, embedded := false, tag := "", pkgPath := "", byteOffset := 24 } rfl
    have g4 := hf 4 { name := "Out", type := 3, offset := 4, embedded := false, tag := "", pkgPath := "", byteOffset := 32 } rfl
    have g5 := hf 5 { name := "Data", type := 3, offset := 5, embedded := false, tag := "", pkgPath := "", byteOffset := 40 } rfl
    have g6 := hf 6 { name := "More", type := 3, offset := 6, embedded := false, tag := "", pkgPath := "", byteOffset := 48 } rfl
    have e0 : Try.prog.cellsOf 3 = 1 := by kernel_rfl
    have e1 : Try.prog.cellsOf 24 = 1 := by kernel_rfl
    have e2 : Try.prog.cellsOf 25 = 1 := by kernel_rfl
    dsimp only at g0 g1 g2 g3 g4 g5 g6
    rw [e0] at g1 g3 g4 g5 g6
    rw [e1] at g0
    rw [e2] at g2
    simp only [List.drop_zero, List.take_succ_cons, List.take_zero, List.drop_succ_cons] at g0 g1 g2 g3 g4 g5 g6
    have hx7 : xs.length = 7 := by rw [hxl]; rfl
    match xs, hx7 with
    | [y0, y1, y2, y3, y4, y5, y6], _ =>
      obtain ⟨a0, h0, _, w0⟩ := DataW.trod_int Try.underlying24 (show _ = some y0 from g0)
      obtain ⟨a1, h1, _, w1⟩ := DataW.trod_int Try.underlying3 (show _ = some y1 from g1)
      obtain ⟨a2, h2, _, w2⟩ := DataW.trod_int Try.underlying25 (show _ = some y2 from g2)
      obtain ⟨a3, h3, _, w3⟩ := DataW.trod_int Try.underlying3 (show _ = some y3 from g3)
      obtain ⟨a4, h4, _, w4⟩ := DataW.trod_int Try.underlying3 (show _ = some y4 from g4)
      obtain ⟨a5, h5, _, w5⟩ := DataW.trod_int Try.underlying3 (show _ = some y5 from g5)
      obtain ⟨a6, h6, _, w6⟩ := DataW.trod_int Try.underlying3 (show _ = some y6 from g6)
      simp only [List.cons.injEq, and_true] at h0 h1 h2 h3 h4 h5 h6
      subst h0 h1 h2 h3 h4 h5 h6
      exact ⟨⟨a0, a1, a2, a3, a4, a5, a6⟩, ⟨wf_u8 w0, wf_u8 w2⟩, rfl⟩
theorem bytes56 : Try.prog.bytesOf 33 = 56 := by kernel_rfl
set_option maxRecDepth 100000 in
theorem openSks {H : Type} {enc : TypeId × Value → H} {w : World} {base : Nat} {held : Bool} {fuel : Nat} {A : Option Addr} {m cap : Nat} {x : DataW H × List MemPlace} (h : DataW.trod enc Try.prog w base (fun _ => true) held fuel 35 (Value.slice A m cap).cells.toList = some x) (hsz : Sz x.1 35) :
    ∃ f, Sx.RB w (.slice A m cap) m f ∧ (m + 6) * 56 ≤ 140737488355328 := by
  rcases Deep.open_slice Try.underlying35 h with ⟨hcs, _⟩ | ⟨a, len, cp, k, n, D, Pl, hcs, _, hl, hm, hmm, hx, hel⟩
  · simp [Value.cells] at hcs
    obtain ⟨rfl, rfl, rfl⟩ := hcs
    exact ⟨fun _ => zS, ⟨none, 0, rfl, Nat.le_refl _, by simp [maxLen], .inl ⟨rfl, fun _ => rfl⟩⟩, by omega⟩
  · simp [Value.cells] at hcs
    obtain ⟨rfl, rfl, rfl⟩ := hcs
    have e7 : Try.prog.cellsOf 33 = 7 := by kernel_rfl
    have hlm : m ≤ k := by rw [hmm]; split <;> omega
    rw [hx] at hsz
    have hS := sz_slice Try.underlying35 hsz
    have hM := hS.1
    rw [bytes56] at hM
    simp only [List.length_map, List.length_range, reachBytes] at hM
    have each : ∀ i, i < m → ∃ y : Sk, ∀ j u, (sL y)[j]? = some u → w.cell? (a.add (i * 7 + j)) = some u := by
      intro i hi
      obtain ⟨cs, h1, h2⟩ := hel i (by omega)
      rw [e7] at h1
      obtain ⟨_, _, hcell⟩ := World.cells?_some h1
      obtain ⟨q, hq, rfl⟩ := open_sk h2
      refine ⟨q, fun j u hu => ?_⟩
      have hj : j < 7 := (List.getElem?_eq_some_iff.1 hu).1
      have := hcell j (by omega)
      rw [Deep.add_add] at this
      rw [this]; exact hu
    obtain ⟨R, hR⟩ := @Deep.choose_lt Sk ⟨zS⟩ _ _ each
    refine ⟨R, ⟨_, cap, rfl, hl, hm, ?_⟩, by omega⟩
    by_cases h0 : m = 0
    · exact .inl ⟨h0, fun e => by cases e⟩
    obtain ⟨b, off, spot⟩ := a
    have hc0 := hR 0 (by omega) 0 _ rfl
    have hspot : spot = none := by simpa [Addr.add] using World.cell?_spot hc0
    subst hspot
    refine .inr ⟨b, off, rfl, fun p u hu => ?_⟩
    obtain ⟨h1, h2⟩ := Sx.sl_get_inv _ _ _ _ hu
    have := hR (p / 7) h1 (p % 7) u h2
    rw [By.add_plain] at this
    rw [show p = p / 7 * 7 + p % 7 by omega]; exact this
end Go.Proofs.Ytdahogdfonhnfaa.Ou
