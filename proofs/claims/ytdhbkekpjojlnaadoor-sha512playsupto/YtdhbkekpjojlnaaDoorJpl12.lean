/- The law Sha512Plays: how its argument is opened. -/
import Derived.Test.YtdhbkekpjojlnaaDoorJpl11
import Derived.Deep.Slices
import Derived.OpenShut
import Derived.ChangeOld
namespace Go.Proofs.YtdhbkekpjojlnaaDoor.Sg
open Go.ChangeShapes Go.WideShapes Go.ChangeAt Go.RowKit
open Go.Proofs.YtdhbkekpjojlnaaDoor.By Go.Proofs.YtdhbkekpjojlnaaDoor.Wd
theorem some_at {α : Type} {l : List α} {i : Nat} (h : i < l.length) : ∃ y, l[i]? = some y := ⟨l[i], List.getElem?_eq_getElem h⟩
theorem one_le {H : Type} (d : DataW H) : 1 ≤ Rows.uptoBulk d := by
  cases d with
  | lit l => cases l <;> simp [Rows.uptoBulk]
  | nil => simp [Rows.uptoBulk]
  | ptr d => simp [Rows.uptoBulk]
  | slice a b => simp [Rows.uptoBulk]
  | agg a => simp [Rows.uptoBulk]
  | iface a b => simp [Rows.uptoBulk]
  | map a => simp [Rows.uptoBulk]
  | held a => simp [Rows.uptoBulk]
theorem len_bulk {H : Type} (l : List (DataW H)) : l.length ≤ Rows.uptoBulkAll l := by
  induction l with
  | nil => simp [Rows.uptoBulkAll]
  | cons x r ih => have := one_le x; simp only [Rows.uptoBulkAll, List.length_cons]; omega
theorem slice_bulk {H : Type} (a b : List (DataW H)) : a.length + 1 ≤ Rows.uptoBulk (.slice a b) := by
  have := len_bulk a
  simp only [Rows.uptoBulk]; omega
set_option maxRecDepth 100000 in
/-- A slice of bytes within an argument. -/
theorem open_p {H : Type} {enc : TypeId × Value → H} {w : World} {base : Nat} {held : Bool} {fuel : Nat} {c : Value} {x : DataW H × List MemPlace} (h : DataW.trod enc Tryd.prog w base (fun _ => true) held fuel 41 [c] = some x) : ∃ pa pn pc g, c = .slice pa pn pc ∧ By.RB w (.slice pa pn pc) pn g ∧ pn + 1 ≤ Rows.uptoBulk x.1 := by
  rcases open_ints Tryd.underlying41 Tryd.underlying5 (by kernel_rfl) h with ⟨hcs, _⟩ | ⟨a, l, cp, zs, hcs, _, hl, hm, hz, hx, hcell, hwz⟩
  · simp only [List.cons.injEq, and_true] at hcs
    subst hcs
    exact ⟨none, 0, 0, _, rfl, By.rb_of_row (zs := []) (.inl ⟨rfl, rfl, rfl, rfl⟩), one_le _⟩
  · simp only [List.cons.injEq, and_true] at hcs
    subst hcs
    have hz' : zs.length = cp := by simpa using hz
    refine ⟨some a, l, cp, _, rfl, By.rb_of_row (zs := zs) (.inr ⟨_, rfl, hl, hm, hz', hcell, hwz⟩), ?_⟩
    rw [hx]
    refine Nat.le_trans ?_ (slice_bulk _ _)
    simp only [lits, List.length_map, List.length_take]
    omega
set_option maxRecDepth 100000 in
/-- Cells of a step, as an argument's reading opens them. -/
theorem open_step {H : Type} {enc : TypeId × Value → H} {w : World} {base : Nat} {held : Bool} {fuel : Nat} {cs : List Value} {x : DataW H × List MemPlace} (h : DataW.trod enc Tryd.prog w base (fun _ => true) held fuel 47 cs = some x) : ∃ s : Stp, (s.q < 256 ∧ By.RB w (.slice s.pa s.pn s.pc) s.pn s.g) ∧ cs = [.int .i64 s.d, .int .u8 (s.q : Int), .slice s.pa s.pn s.pc] ∧ s.pn + 4 ≤ Rows.uptoBulk x.1 := by
  obtain ⟨xs, n1, _, hx, hl, hxl, hf⟩ := DataW.trod_struct Tryd.underlying47 h
  have hl3 : cs.length = 3 := by rw [hl]; kernel_rfl
  match cs, hl3 with
  | [a, b, c], _ =>
    have g0 := hf 0 { name := "Do", type := 3, offset := 0, embedded := false, tag := "", pkgPath := "", byteOffset := 0 } rfl
    have g1 := hf 1 { name := "Which", type := 5, offset := 1, embedded := false, tag := "", pkgPath := "", byteOffset := 8 } rfl
    have g2 := hf 2 { name := "P", type := 41, offset := 2, embedded := false, tag := "", pkgPath := "", byteOffset := 16 } rfl
    have e3 : Tryd.prog.cellsOf 3 = 1 := by kernel_rfl
    have e5 : Tryd.prog.cellsOf 5 = 1 := by kernel_rfl
    have e22 : Tryd.prog.cellsOf 41 = 1 := by kernel_rfl
    dsimp only at g0 g1 g2
    rw [e3] at g0
    rw [e5] at g1
    rw [e22] at g2
    simp only [List.drop_zero, List.take_succ_cons, List.take_zero, List.drop_succ_cons] at g0 g1 g2
    have hx3 : xs.length = 3 := by rw [hxl]; rfl
    match xs, hx3 with
    | [y0, y1, y2], _ =>
      obtain ⟨a', ha, _, wa⟩ := DataW.trod_int Tryd.underlying3 (show _ = some y0 from g0)
      obtain ⟨b', hb, _, wb⟩ := DataW.trod_int Tryd.underlying5 (show _ = some y1 from g1)
      obtain ⟨pa, pn, pc, g, hc, hr, hbk⟩ := open_p (show _ = some y2 from g2)
      simp only [List.cons.injEq, and_true] at ha hb
      subst ha hb hc
      have hb' : 0 ≤ b' ∧ b' ≤ 255 := by simpa [Lit.wf, IntKind.min, IntKind.max, IntKind.signed, IntKind.bits] using wb
      refine ⟨⟨a', b'.toNat, pa, pn, pc, g⟩, ⟨by show b'.toNat < 256; omega, hr⟩, by rw [show ((b'.toNat : Nat) : Int) = b' from by omega], ?_⟩
      rw [hx]
      have o0 := one_le y0.1
      have o1 := one_le y1.1
      simp only [List.map_cons, List.map_nil, Rows.uptoBulk, Rows.uptoBulkAll]
      omega
theorem bulk_sum {H : Type} (R : Nat → Stp) (D : Nat → DataW H) : ∀ l : List Nat, (∀ i ∈ l, (R i).pn + 4 ≤ Rows.uptoBulk (D i)) → ((l.map R).map Stp.pn).sum + 4 * l.length ≤ Rows.uptoBulkAll (l.map D)
  | [], _ => by simp
  | i :: l, h => by
    have h1 := h i (by simp)
    have h2 := bulk_sum R D l (fun j hj => h j (by simp [hj]))
    simp only [List.map_cons, List.sum_cons, List.length_cons, Rows.uptoBulkAll]
    omega
set_option maxRecDepth 100000 in
/-- A list of steps, as an argument's reading opens it. -/
theorem openSteps {H : Type} {enc : TypeId × Value → H} {w : World} {base : Nat} {held : Bool} {fuel : Nat} {v : Value} {x : DataW H × List MemPlace} (hv : ∃ a l c, v = .slice a l c) (h : DataW.trod enc Tryd.prog w base (fun _ => true) held fuel 22 v.cells.toList = some x) :
    ∃ X, SB w v X ∧ tk X X.length + 4 * X.length ≤ Rows.uptoBulk x.1 := by
  obtain ⟨a0, l0, c0, rfl⟩ := hv
  rcases Deep.open_slice Tryd.underlying22 h with ⟨hcs, _⟩ | ⟨a, len, cap, m, n, D, Pl, hcs, _, hl, hm, hmm, hx, hel⟩
  · simp [Value.cells] at hcs
    obtain ⟨rfl, rfl, rfl⟩ := hcs
    exact ⟨[], ⟨none, 0, rfl, by simp⟩, by simp [tk]⟩
  · simp [Value.cells] at hcs
    obtain ⟨rfl, rfl, rfl⟩ := hcs
    have e41 : Tryd.prog.cellsOf 47 = 3 := by kernel_rfl
    have hlm : l0 ≤ m := by rw [hmm]; split <;> omega
    have each : ∀ i, i < l0 → ∃ s : Stp, (s.q < 256 ∧ By.RB w (.slice s.pa s.pn s.pc) s.pn s.g) ∧ s.pn + 4 ≤ Rows.uptoBulk (D i) ∧ w.cell? (a.add (i * 3)) = some (.int .i64 s.d) ∧ w.cell? (a.add (i * 3 + 1)) = some (.int .u8 (s.q : Int)) ∧ w.cell? (a.add (i * 3 + 2)) = some (.slice s.pa s.pn s.pc) := by
      intro i hi
      obtain ⟨cs, h1, h2⟩ := hel i (by omega)
      rw [e41] at h1
      obtain ⟨_, _, hcell⟩ := World.cells?_some h1
      obtain ⟨s, hs, rfl, hb⟩ := open_step h2
      have q0 := hcell 0 (by omega)
      have q1 := hcell 1 (by omega)
      have q2 := hcell 2 (by omega)
      rw [Deep.add_add] at q0 q1 q2
      exact ⟨s, hs, hb, q0, q1, q2⟩
    obtain ⟨R, hR⟩ := @Deep.choose_lt Stp ⟨⟨0, 0, none, 0, 0, fun _ => 0⟩⟩ _ _ each
    have hlen : ((List.range l0).map R).length = l0 := by simp
    refine ⟨(List.range l0).map R, ⟨some a, c0, by rw [hlen], fun i s hi => ?_⟩, ?_⟩
    · have hi2 : i < l0 := by have := (List.getElem?_eq_some_iff.1 hi).1; rw [hlen] at this; exact this
      simp [hi2] at hi
      subst hi
      obtain ⟨b, off, spot⟩ := a
      have hc := (hR 0 (by omega)).2.2.1
      have hspot : spot = none := by simpa [Addr.add] using World.cell?_spot hc
      subst hspot
      obtain ⟨q1, _, q⟩ := hR i hi2
      rw [By.add_plain, By.add_plain, By.add_plain, ← Nat.add_assoc, ← Nat.add_assoc] at q
      exact ⟨b, off, rfl, q.1, q.2.1, q.2.2, q1.1, q1.2⟩
    · have hb := bulk_sum R D (List.range l0) (fun i hi => (hR i (List.mem_range.1 hi)).2.1)
      rw [hx, hlen]
      unfold tk
      rw [List.take_of_length_le (by rw [hlen]; exact Nat.le_refl _)]
      simp only [Rows.uptoBulk]
      rw [List.length_range] at hb
      omega
end Go.Proofs.YtdhbkekpjojlnaaDoor.Sg
