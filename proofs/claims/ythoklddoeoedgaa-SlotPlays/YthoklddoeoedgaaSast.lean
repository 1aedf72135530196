/- How the steps of the statement are opened. -/
import Derived.Test.YthoklddoeoedgaaSarg
import Derived.Test.YthoklddoeoedgaaSplw
namespace Go.Proofs.Ythoklddoeoedgaa.Sl
open Go.ChangeShapes Go.WideShapes Go.ChangeAt Go.RowKit
open Go.Proofs.Ythoklddoeoedgaa.By
structure SE where
  d : Int
  wh : Nat
  ot : Nat
  pa : Option Addr
  pn : Nat
  pc : Nat
  g : Nat → Int
set_option maxRecDepth 100000 in
theorem open_step {H : Type} {enc : TypeId × Value → H} {w : World} {base : Nat} {held : Bool} {fuel : Nat} {cs : List Value} {x : DataW H × List MemPlace} (h : DataW.trod enc Try.prog w base (fun _ => true) held fuel 42 cs = some x) (hsz : Sz x.1 42) : ∃ q : SE, (By.RB w (.slice q.pa q.pn q.pc) q.pn q.g ∧ q.pn ≤ 140737488351232 ∧ q.wh < 256 ∧ q.ot < 256) ∧ cs = [.int .i64 q.d, .int .u8 (q.wh : Int), .int .u8 (q.ot : Int), .slice q.pa q.pn q.pc] := by
  obtain ⟨xs, n1, _, hx, hl, hxl, hf⟩ := DataW.trod_struct Try.underlying42 h
  have hl7 : cs.length = 4 := by rw [hl]; kernel_rfl
  match cs, hl7 with
  | [c0, c1, c2, c3], _ =>
    have g0 := hf 0 { name := "Do", type := 3, offset := 0, embedded := false, tag := "", pkgPath := "", byteOffset := 0 } rfl
    have g1 := hf 1 { name := "Which", type := 5, offset := 1, embedded := false, tag := "", pkgPath := "", byteOffset := 8 } rfl
    have g2 := hf 2 { name := "Other", type := 5, offset := 2, embedded := false, tag := "", pkgPath := "", byteOffset := 9 } rfl
    have g3 := hf 3 { name := "P", type := 36, offset := 3, embedded := false, tag := "", pkgPath := "", byteOffset := 16 } rfl
    have e0 : Try.prog.cellsOf 3 = 1 := by kernel_rfl
    have e1 : Try.prog.cellsOf 5 = 1 := by kernel_rfl
    have e2 : Try.prog.cellsOf 36 = 1 := by kernel_rfl
    dsimp only at g0 g1 g2 g3
    rw [e0] at g0
    rw [e1] at g1 g2
    rw [e2] at g3
    simp only [List.drop_zero, List.take_succ_cons, List.take_zero, List.drop_succ_cons] at g0 g1 g2 g3
    have hx7 : xs.length = 4 := by rw [hxl]; rfl
    match xs, hx7 with
    | [y0, y1, y2, y3], _ =>
      have hs3 : Sz y3.1 36 := fun n hn => by
        refine hsz n ?_
        rw [hx]
        have hu := Try.underlying42
        simp only [DataW.weights, hu, List.map_cons, List.map_nil]
        exact DataW.weights_mem_each (j := 3) (t := 36) (d := y3.1) rfl rfl n hn
      obtain ⟨a0, h0, _, w0⟩ := DataW.trod_int Try.underlying3 (show _ = some y0 from g0)
      obtain ⟨a1, h1, _, w1⟩ := DataW.trod_int Try.underlying5 (show _ = some y1 from g1)
      obtain ⟨a2, h2, _, w2⟩ := DataW.trod_int Try.underlying5 (show _ = some y2 from g2)
      obtain ⟨p3, n3', c3', f3, h3, r3, l3⟩ := open_p2 (show _ = some y3 from g3) hs3
      simp only [List.cons.injEq, and_true] at h0 h1 h2
      subst h0 h1 h2 h3
      have u1 := wf_u8 w1
      have u2 := wf_u8 w2
      refine ⟨⟨a0, a1.toNat, a2.toNat, p3, n3', c3', f3⟩, ⟨r3, l3, by show a1.toNat < 256; omega, by show a2.toNat < 256; omega⟩, ?_⟩
      show _ = [_, Value.int .u8 ((a1.toNat : Nat) : Int), Value.int .u8 ((a2.toNat : Nat) : Int), _]
      rw [show ((a1.toNat : Nat) : Int) = a1 by omega, show ((a2.toNat : Nat) : Int) = a2 by omega]
theorem bytes40 : Try.prog.bytesOf 42 = 40 := by kernel_rfl
set_option maxRecDepth 100000 in
/-- The steps, as an argument's reading opens them. -/
theorem openSteps {H : Type} {enc : TypeId × Value → H} {w : World} {base : Nat} {held : Bool} {fuel : Nat} {A : Option Addr} {m cap : Nat} {x : DataW H × List MemPlace} (h : DataW.trod enc Try.prog w base (fun _ => true) held fuel 22 (Value.slice A m cap).cells.toList = some x) (hsz : Sz x.1 22) :
    ∃ d wh ot pv pn pf, ST w A m d wh ot pv pn pf ∧ m ≤ 3600000000000 := by
  rcases Deep.open_slice Try.underlying22 h with ⟨hcs, _⟩ | ⟨a, len, cp, k, n, D, Pl, hcs, _, hl, hm, hmm, hx, hel⟩
  · simp [Value.cells] at hcs
    obtain ⟨rfl, rfl, rfl⟩ := hcs
    exact ⟨fun _ => 0, fun _ => 0, fun _ => 0, fun _ => .slice none 0 0, fun _ => 0, fun _ _ => 0, ⟨fun i hi => absurd hi (by omega), fun i hi => absurd hi (by omega), fun i hi => absurd hi (by omega), fun i hi => absurd hi (by omega)⟩, by omega⟩
  · simp [Value.cells] at hcs
    obtain ⟨rfl, rfl, rfl⟩ := hcs
    have e7 : Try.prog.cellsOf 42 = 4 := by kernel_rfl
    have hlm : m ≤ k := by rw [hmm]; split <;> omega
    rw [hx] at hsz
    have hS := sz_slice Try.underlying22 hsz
    have hD := hS.2
    have hM := hS.1
    rw [bytes40] at hM
    simp only [List.length_map, List.length_range, reachBytes] at hM
    have each : ∀ i, i < m → ∃ q : SE, (By.RB w (.slice q.pa q.pn q.pc) q.pn q.g ∧ q.pn ≤ 140737488351232 ∧ q.wh < 256 ∧ q.ot < 256) ∧ w.cell? (a.add (i * 4)) = some (.int .i64 q.d) ∧ w.cell? (a.add (i * 4 + 1)) = some (.int .u8 (q.wh : Int)) ∧ w.cell? (a.add (i * 4 + 2)) = some (.int .u8 (q.ot : Int)) ∧ w.cell? (a.add (i * 4 + 3)) = some (.slice q.pa q.pn q.pc) := by
      intro i hi
      obtain ⟨cs, h1, h2⟩ := hel i (by omega)
      rw [e7] at h1
      obtain ⟨_, _, hcell⟩ := World.cells?_some h1
      obtain ⟨q, hq, rfl⟩ := open_step h2 (hD (D i) (List.mem_map.2 ⟨i, List.mem_range.2 hi, rfl⟩))
      have q0 := hcell 0 (by omega)
      have q1 := hcell 1 (by omega)
      have q2 := hcell 2 (by omega)
      have q3 := hcell 3 (by omega)
      rw [Deep.add_add] at q0 q1 q2 q3
      exact ⟨q, hq, q0, q1, q2, q3⟩
    obtain ⟨R, hR⟩ := @Deep.choose_lt SE ⟨⟨0, 0, 0, none, 0, 0, fun _ => 0⟩⟩ _ _ each
    refine ⟨fun i => (R i).d, fun i => (R i).wh, fun i => (R i).ot, fun i => .slice (R i).pa (R i).pn (R i).pc, fun i => (R i).pn, fun i => (R i).g, ⟨fun i hi => ?_, fun i hi => (hR i hi).1.1, fun i hi => (hR i hi).1.2.1, fun i hi => (hR i hi).1.2.2⟩, by omega⟩
    obtain ⟨b, off, spot⟩ := a
    have hc0 := (hR 0 (by omega)).2.1
    have hspot : spot = none := by simpa [Addr.add] using World.cell?_spot hc0
    subst hspot
    obtain ⟨_, q⟩ := hR i hi
    simp only [By.add_plain, ← Nat.add_assoc] at q
    exact ⟨b, off, rfl, q⟩
theorem st_below {w W : World} {A : Option Addr} {m : Nat} {d : Nat → Int} {wh ot : Nat → Nat} {pv : Nat → Value} {pn : Nat → Nat} {pf : Nat → Nat → Int} (h : ST w A m d wh ot pv pn pf) (hb : Below w.heap.size w W) : ST W A m d wh ot pv pn pf :=
  ⟨fun i hi => by
    obtain ⟨b, off, e, c0, c1, c2, c3⟩ := h.cells i hi
    have k : ∀ j v, w.cell? ⟨b, j, none⟩ = some v → W.cell? ⟨b, j, none⟩ = some v := fun j v hc => by
      rw [hb.cell (p := ⟨b, j, none⟩) (block_lt_of_cell hc)]; exact hc
    exact ⟨b, off, e, k _ _ c0, k _ _ c1, k _ _ c2, k _ _ c3⟩, fun i hi => (h.rb i hi).below hb, h.le, h.by_⟩
end Go.Proofs.Ythoklddoeoedgaa.Sl
