/- The law HmacPlays: how its argument is opened. -/
import Derived.Test.YtpgkalgnlkfmaaaGreatDoorMph
import Derived.Deep.Slices
import Derived.OpenShut
import Derived.ChangeOld
namespace Go.Proofs.YtpgkalgnlkfmaaaGreatDoor.Dg
open Go.ChangeShapes Go.WideShapes Go.ChangeAt Go.RowKit
open Go.Proofs.YtpgkalgnlkfmaaaGreatDoor.By
theorem some_at {α : Type} {l : List α} {i : Nat} (h : i < l.length) : ∃ y, l[i]? = some y := ⟨l[i], List.getElem?_eq_getElem h⟩
theorem one_le {H : Type} (d : DataW H) : 1 ≤ Rows.uptoBulk d := by
  cases d with
  | lit l => cases l <;> simp [Rows.uptoBulk]
  | nil => simp [Rows.uptoBulk]
  | ptr d => simp [Rows.uptoBulk]
  | slice a b => simp [Rows.uptoBulk]
  | agg a => simp [Rows.uptoBulk]
  | iface a b => simp [Rows.uptoBulk]
  | map a => simp [Rows.uptoBulk]
  | held a => simp [Rows.uptoBulk]
theorem len_bulk {H : Type} (l : List (DataW H)) : l.length ≤ Rows.uptoBulkAll l := by
  induction l with
  | nil => simp [Rows.uptoBulkAll]
  | cons x r ih => have := one_le x; simp only [Rows.uptoBulkAll, List.length_cons]; omega
theorem slice_bulk {H : Type} (a b : List (DataW H)) : a.length + 1 ≤ Rows.uptoBulk (.slice a b) := by
  have := len_bulk a
  simp only [Rows.uptoBulk]; omega
set_option maxRecDepth 100000 in
/-- A slice of bytes within an argument. -/
theorem open_p {H : Type} {enc : TypeId × Value → H} {w : World} {base : Nat} {held : Bool} {fuel : Nat} {c : Value} {x : DataW H × List MemPlace} (h : DataW.trod enc Tryz.prog w base (fun _ => true) held fuel 41 [c] = some x) : ∃ pa pn pc g, c = .slice pa pn pc ∧ By.RB w (.slice pa pn pc) pn g ∧ pn + 1 ≤ Rows.uptoBulk x.1 := by
  rcases open_ints Tryz.underlying41 Tryz.underlying5 (by kernel_rfl) h with ⟨hcs, _⟩ | ⟨a, l, cp, zs, hcs, _, hl, hm, hz, hx, hcell, hwz⟩
  · simp only [List.cons.injEq, and_true] at hcs
    subst hcs
    exact ⟨none, 0, 0, _, rfl, By.rb_of_row (zs := []) (.inl ⟨rfl, rfl, rfl, rfl⟩), one_le _⟩
  · simp only [List.cons.injEq, and_true] at hcs
    subst hcs
    have hz' : zs.length = cp := by simpa using hz
    refine ⟨some a, l, cp, _, rfl, By.rb_of_row (zs := zs) (.inr ⟨_, rfl, hl, hm, hz', hcell, hwz⟩), ?_⟩
    rw [hx]
    refine Nat.le_trans ?_ (slice_bulk _ _)
    simp only [lits, List.length_map, List.length_take]
    omega
set_option maxRecDepth 100000 in
/-- Cells of a step, as an argument's reading opens them. -/
theorem open_step {H : Type} {enc : TypeId × Value → H} {w : World} {base : Nat} {held : Bool} {fuel : Nat} {cs : List Value} {x : DataW H × List MemPlace} (h : DataW.trod enc Tryz.prog w base (fun _ => true) held fuel 46 cs = some x) : ∃ s : Stp, (s.q < 256 ∧ By.RB w (.slice s.pa s.pn s.pc) s.pn s.g ∧ By.RB w (.slice s.qa s.qn s.qc) s.qn s.g2) ∧ cs = [.int .i64 s.d, .int .u8 (s.q : Int), .int .u8 s.al, .slice s.pa s.pn s.pc, .slice s.qa s.qn s.qc] ∧ s.pn + s.qn + 6 ≤ Rows.uptoBulk x.1 := by
  obtain ⟨xs, n1, _, hx, hl, hxl, hf⟩ := DataW.trod_struct Tryz.underlying46 h
  have hl3 : cs.length = 5 := by rw [hl]; kernel_rfl
  match cs, hl3 with
  | [a, b, a2, c, c2], _ =>
    have g0 := hf 0 { name := "Do", type := 3, offset := 0, embedded := false, tag := "", pkgPath := "", byteOffset := 0 } rfl
    have g1 := hf 1 { name := "Which", type := 5, offset := 1, embedded := false, tag := "", pkgPath := "", byteOffset := 8 } rfl
    have g2 := hf 2 { name := "Alg", type := 40, offset := 2, embedded := false, tag := "", pkgPath := "", byteOffset := 9 } rfl
    have g3 := hf 3 { name := "P", type := 41, offset := 3, embedded := false, tag := "", pkgPath := "", byteOffset := 16 } rfl
    have g4 := hf 4 { name := "Q", type := 41, offset := 4, embedded := false, tag := "", pkgPath := "", byteOffset := 40 } rfl
    have e3 : Tryz.prog.cellsOf 3 = 1 := by kernel_rfl
    have e5 : Tryz.prog.cellsOf 5 = 1 := by kernel_rfl
    have e6 : Tryz.prog.cellsOf 40 = 1 := by kernel_rfl
    have e22 : Tryz.prog.cellsOf 41 = 1 := by kernel_rfl
    dsimp only at g0 g1 g2 g3 g4
    rw [e3] at g0
    rw [e5] at g1
    rw [e6] at g2
    rw [e22] at g3 g4
    simp only [List.drop_zero, List.take_succ_cons, List.take_zero, List.drop_succ_cons] at g0 g1 g2 g3 g4
    have hx3 : xs.length = 5 := by rw [hxl]; rfl
    match xs, hx3 with
    | [y0, y1, y2, y3, y4], _ =>
      obtain ⟨a', ha, _, wa⟩ := DataW.trod_int Tryz.underlying3 (show _ = some y0 from g0)
      obtain ⟨b', hb, _, wb⟩ := DataW.trod_int Tryz.underlying5 (show _ = some y1 from g1)
      obtain ⟨l', hl', _, wl⟩ := DataW.trod_int Tryz.underlying40 (show _ = some y2 from g2)
      obtain ⟨pa, pn, pc, g, hc, hr, hbk⟩ := open_p (show _ = some y3 from g3)
      obtain ⟨qa, qn, qc, g', hc', hr', hbk'⟩ := open_p (show _ = some y4 from g4)
      simp only [List.cons.injEq, and_true] at ha hb hl'
      subst ha hb hl' hc hc'
      have hb' : 0 ≤ b' ∧ b' ≤ 255 := by simpa [Lit.wf, IntKind.min, IntKind.max, IntKind.signed, IntKind.bits] using wb
      refine ⟨⟨a', b'.toNat, l', pa, pn, pc, g, qa, qn, qc, g'⟩, ⟨by show b'.toNat < 256; omega, hr, hr'⟩, by rw [show ((b'.toNat : Nat) : Int) = b' from by omega], ?_⟩
      rw [hx]
      have o0 := one_le y0.1
      have o1 := one_le y1.1
      have o2 := one_le y2.1
      simp only [List.map_cons, List.map_nil, Rows.uptoBulk, Rows.uptoBulkAll]
      omega
theorem bulk_sum {H : Type} (R : Nat → Stp) (D : Nat → DataW H) : ∀ l : List Nat, (∀ i ∈ l, (R i).pn + (R i).qn + 6 ≤ Rows.uptoBulk (D i)) → ((l.map R).map (fun s => s.pn + s.qn)).sum + 6 * l.length ≤ Rows.uptoBulkAll (l.map D)
  | [], _ => by simp
  | i :: l, h => by
    have h1 := h i (by simp)
    have h2 := bulk_sum R D l (fun j hj => h j (by simp [hj]))
    simp only [List.map_cons, List.sum_cons, List.length_cons, Rows.uptoBulkAll]
    omega
set_option maxRecDepth 100000 in
/-- A list of steps, as an argument's reading opens it. -/
theorem openSteps {H : Type} {enc : TypeId × Value → H} {w : World} {base : Nat} {held : Bool} {fuel : Nat} {v : Value} {x : DataW H × List MemPlace} (hv : ∃ a l c, v = .slice a l c) (h : DataW.trod enc Tryz.prog w base (fun _ => true) held fuel 22 v.cells.toList = some x) :
    ∃ X, SB w v X ∧ tk X X.length + 6 * X.length ≤ Rows.uptoBulk x.1 := by
  obtain ⟨a0, l0, c0, rfl⟩ := hv
  rcases Deep.open_slice Tryz.underlying22 h with ⟨hcs, _⟩ | ⟨a, len, cap, m, n, D, Pl, hcs, _, hl, hm, hmm, hx, hel⟩
  · simp [Value.cells] at hcs
    obtain ⟨rfl, rfl, rfl⟩ := hcs
    exact ⟨[], ⟨none, 0, rfl, by simp⟩, by simp [tk]⟩
  · simp [Value.cells] at hcs
    obtain ⟨rfl, rfl, rfl⟩ := hcs
    have e41 : Tryz.prog.cellsOf 46 = 5 := by kernel_rfl
    have hlm : l0 ≤ m := by rw [hmm]; split <;> omega
    have each : ∀ i, i < l0 → ∃ s : Stp, (s.q < 256 ∧ By.RB w (.slice s.pa s.pn s.pc) s.pn s.g ∧ By.RB w (.slice s.qa s.qn s.qc) s.qn s.g2) ∧ s.pn + s.qn + 6 ≤ Rows.uptoBulk (D i) ∧ w.cell? (a.add (i * 5)) = some (.int .i64 s.d) ∧ w.cell? (a.add (i * 5 + 1)) = some (.int .u8 (s.q : Int)) ∧ w.cell? (a.add (i * 5 + 2)) = some (.int .u8 s.al) ∧ w.cell? (a.add (i * 5 + 3)) = some (.slice s.pa s.pn s.pc) ∧ w.cell? (a.add (i * 5 + 4)) = some (.slice s.qa s.qn s.qc) := by
      intro i hi
      obtain ⟨cs, h1, h2⟩ := hel i (by omega)
      rw [e41] at h1
      obtain ⟨_, _, hcell⟩ := World.cells?_some h1
      obtain ⟨s, hs, rfl, hb⟩ := open_step h2
      have q0 := hcell 0 (by omega)
      have q1 := hcell 1 (by omega)
      have q2 := hcell 2 (by omega)
      have q3 := hcell 3 (by omega)
      have q4 := hcell 4 (by omega)
      rw [Deep.add_add] at q0 q1 q2 q3 q4
      exact ⟨s, hs, hb, q0, q1, q2, q3, q4⟩
    obtain ⟨R, hR⟩ := @Deep.choose_lt Stp ⟨⟨0, 0, 0, none, 0, 0, fun _ => 0, none, 0, 0, fun _ => 0⟩⟩ _ _ each
    have hlen : ((List.range l0).map R).length = l0 := by simp
    refine ⟨(List.range l0).map R, ⟨some a, c0, by rw [hlen], fun i s hi => ?_⟩, ?_⟩
    · have hi2 : i < l0 := by have := (List.getElem?_eq_some_iff.1 hi).1; rw [hlen] at this; exact this
      simp [hi2] at hi
      subst hi
      obtain ⟨b, off, spot⟩ := a
      have hc := (hR 0 (by omega)).2.2.1
      have hspot : spot = none := by simpa [Addr.add] using World.cell?_spot hc
      subst hspot
      obtain ⟨q1, _, q⟩ := hR i hi2
      rw [By.add_plain, By.add_plain, By.add_plain, By.add_plain, By.add_plain, ← Nat.add_assoc, ← Nat.add_assoc, ← Nat.add_assoc, ← Nat.add_assoc] at q
      exact ⟨b, off, rfl, q, q1⟩
    · have hb := bulk_sum R D (List.range l0) (fun i hi => (hR i (List.mem_range.1 hi)).2.1)
      rw [hx, hlen]
      unfold tk
      rw [List.take_of_length_le (by rw [hlen]; exact Nat.le_refl _)]
      simp only [Rows.uptoBulk]
      rw [List.length_range] at hb
      omega
end Go.Proofs.YtpgkalgnlkfmaaaGreatDoor.Dg
