/- How the arguments of the statements are opened: lists of lists, lists of bools. -/
import Derived.Test.YthoklddoeoedgaaSlst
import Derived.Deep.Slices
import Derived.OpenShut
import Derived.ChangeOld
import Derived.SizedLaws
namespace Go.Proofs.Ythoklddoeoedgaa.Sl
open Go.ChangeShapes Go.WideShapes Go.ChangeAt Go.RowKit
open Go.Proofs.Ythoklddoeoedgaa.By
/-- Nothing in a datum is greater than memory reaches. -/
def Sz {H : Type} (d : DataW H) (t : TypeId) : Prop := ∀ n ∈ d.weights Try.prog t, n ≤ reachBytes
theorem sz_each {H : Type} {ts : List TypeId} {ds : List (DataW H)} (h : (DataW.weightsEach Try.prog ts ds).all (· ≤ reachBytes) = true) {j : Nat} {t : TypeId} {d : DataW H} (ht : ts[j]? = some t) (hd : ds[j]? = some d) : Sz d t := fun n hn => by
  have := List.all_eq_true.1 h _ (DataW.weights_mem_each ht hd n hn)
  simpa using this
theorem mem_all {H : Type} {e : TypeId} {l : List (DataW H)} {d : DataW H} (h : d ∈ l) {n : Nat} (hn : n ∈ d.weights Try.prog e) : n ∈ DataW.weightsAll Try.prog e l := by
  induction l with
  | nil => cases h
  | cons y r ih =>
    simp only [DataW.weightsAll, List.mem_append]
    rcases List.mem_cons.1 h with rfl | h
    · exact .inl hn
    · exact .inr (ih h)
theorem sz_slice {H : Type} {t e : TypeId} {es sp : List (DataW H)} (hu : Try.prog.underlying t = some (.slice e)) (h : Sz (.slice es sp) t) : (es.length + sp.length) * Try.prog.bytesOf e ≤ reachBytes ∧ ∀ d ∈ es, Sz d e := by
  refine ⟨h _ (by simp [DataW.weights, hu]), fun d hd n hn => h n ?_⟩
  simp only [DataW.weights, hu, List.mem_cons, List.mem_append]
  exact .inr (.inl (mem_all hd hn))
set_option maxRecDepth 100000 in
/-- A slice of bytes within an argument. -/
theorem open_p {H : Type} {enc : TypeId × Value → H} {w : World} {base : Nat} {held : Bool} {fuel : Nat} {c : Value} {x : DataW H × List MemPlace} (h : DataW.trod enc Try.prog w base (fun _ => true) held fuel 36 [c] = some x) (hs : Sz x.1 36) : ∃ pa pn pc g, c = .slice pa pn pc ∧ By.RB w (.slice pa pn pc) pn g ∧ pn ≤ 140737488355328 := by
  rcases open_ints Try.underlying36 Try.underlying5 (by kernel_rfl) h with ⟨hcs, _⟩ | ⟨a, l, cp, zs, hcs, _, hl, hm, hz, hx, hcell, hwz⟩
  · simp only [List.cons.injEq, and_true] at hcs
    subst hcs
    exact ⟨none, 0, 0, _, rfl, By.rb_of_row (zs := []) (.inl ⟨rfl, rfl, rfl, rfl⟩), by omega⟩
  · simp only [List.cons.injEq, and_true] at hcs
    subst hcs
    have hz' : zs.length = cp := by simpa using hz
    refine ⟨some a, l, cp, _, rfl, By.rb_of_row (zs := zs) (.inr ⟨_, rfl, hl, hm, hz', hcell, hwz⟩), ?_⟩
    rw [hx] at hs
    have h2 := (sz_slice Try.underlying36 hs).1
    rw [By.bytes5] at h2
    simp only [lits, List.length_map, List.length_take, List.length_drop, reachBytes] at h2
    omega
set_option maxRecDepth 100000 in
/-- The same, its bound as it is told. -/
theorem open_p2 {H : Type} {enc : TypeId × Value → H} {w : World} {base : Nat} {held : Bool} {fuel : Nat} {c : Value} {x : DataW H × List MemPlace} (h : DataW.trod enc Try.prog w base (fun _ => true) held fuel 36 [c] = some x) (hs : Sz x.1 36) : ∃ pa pn pc g, c = .slice pa pn pc ∧ By.RB w (.slice pa pn pc) pn g ∧ pn ≤ 140737488351232 := by
  rcases open_ints Try.underlying36 Try.underlying5 (by kernel_rfl) h with ⟨hcs, _⟩ | ⟨a, l, cp, zs, hcs, _, hl, hm, hz, hx, hcell, hwz⟩
  · simp only [List.cons.injEq, and_true] at hcs
    subst hcs
    exact ⟨none, 0, 0, _, rfl, By.rb_of_row (zs := []) (.inl ⟨rfl, rfl, rfl, rfl⟩), by omega⟩
  · simp only [List.cons.injEq, and_true] at hcs
    subst hcs
    have hz' : zs.length = cp := by simpa using hz
    refine ⟨some a, l, cp, _, rfl, By.rb_of_row (zs := zs) (.inr ⟨_, rfl, hl, hm, hz', hcell, hwz⟩), ?_⟩
    rw [hx] at hs
    have h2 := (sz_slice Try.underlying36 hs).1
    rw [By.bytes5] at h2
    simp only [lits, List.length_map, List.length_take, List.length_drop, reachBytes] at h2
    omega
theorem wf_u8 {z : Int} (h : (Lit.int .u8 z).wf = true) : 0 ≤ z ∧ z < 256 := by
  simp [Lit.wf, IntKind.min, IntKind.max, IntKind.bits, IntKind.signed] at h; omega
theorem wf_i64 {z : Int} (h : (Lit.int .i64 z).wf = true) : -9223372036854775808 ≤ z ∧ z < 9223372036854775808 := by
  simp [Lit.wf, IntKind.min, IntKind.max, IntKind.bits, IntKind.signed] at h; omega
theorem bytes24 : Try.prog.bytesOf 36 = 24 := by kernel_rfl
theorem bytesb : Try.prog.bytesOf 4 = 1 := by kernel_rfl
set_option maxRecDepth 100000 in
/-- A list of lists of bytes, as an argument's reading opens it. -/
theorem openLists {H : Type} {enc : TypeId × Value → H} {w : World} {base : Nat} {held : Bool} {fuel : Nat} {A : Option Addr} {m cap : Nat} {x : DataW H × List MemPlace} (h : DataW.trod enc Try.prog w base (fun _ => true) held fuel 40 (Value.slice A m cap).cells.toList = some x) (hsz : Sz x.1 40) :
    ∃ pv pn pf, AL w A m pv pn pf ∧ m ≤ 140737488355328 := by
  rcases Deep.open_slice Try.underlying40 h with ⟨hcs, _⟩ | ⟨a, len, cp, k, n, D, Pl, hcs, _, hl, hm, hmm, hx, hel⟩
  · simp [Value.cells] at hcs
    obtain ⟨rfl, rfl, rfl⟩ := hcs
    exact ⟨fun _ => .slice none 0 0, fun _ => 0, fun _ _ => 0, ⟨fun i hi => absurd hi (by omega), fun i hi => absurd hi (by omega)⟩, by omega⟩
  · simp [Value.cells] at hcs
    obtain ⟨rfl, rfl, rfl⟩ := hcs
    have e7 : Try.prog.cellsOf 36 = 1 := by kernel_rfl
    have hlm : m ≤ k := by rw [hmm]; split <;> omega
    rw [hx] at hsz
    have hS := sz_slice Try.underlying40 hsz
    have hD := hS.2
    have hM := hS.1
    rw [bytes24] at hM
    simp only [List.length_map, List.length_range, reachBytes] at hM
    have each : ∀ i, i < m → ∃ q : Value × Nat × (Nat → Int), By.RB w q.1 q.2.1 q.2.2 ∧ w.cell? (a.add i) = some q.1 := by
      intro i hi
      obtain ⟨cs, h1, h2⟩ := hel i (by omega)
      rw [e7] at h1
      obtain ⟨hl1, _, hcell⟩ := World.cells?_some h1
      have q0 := hcell 0 (by omega)
      rw [Deep.add_add, Nat.mul_one, Nat.add_zero] at q0
      match cs, hl1 with
      | [c], _ =>
        obtain ⟨pa, pn, pc, g, rfl, hr, _⟩ := open_p h2 (hD (D i) (List.mem_map.2 ⟨i, List.mem_range.2 hi, rfl⟩))
        exact ⟨⟨_, pn, g⟩, hr, q0⟩
    obtain ⟨R, hR⟩ := @Deep.choose_lt (Value × Nat × (Nat → Int)) ⟨⟨.slice none 0 0, 0, fun _ => 0⟩⟩ _ _ each
    refine ⟨fun i => (R i).1, fun i => (R i).2.1, fun i => (R i).2.2, ⟨fun i hi => ?_, fun i hi => (hR i hi).1⟩, by omega⟩
    obtain ⟨b, off, spot⟩ := a
    have hc := (hR i hi).2
    have hc0 := (hR 0 (by omega)).2
    have hspot : spot = none := by simpa [Addr.add] using World.cell?_spot hc0
    subst hspot
    rw [By.add_plain] at hc
    exact ⟨b, off, rfl, hc⟩
set_option maxRecDepth 100000 in
/-- A list of bools, as an argument's reading opens it. -/
theorem openBools {H : Type} {enc : TypeId × Value → H} {w : World} {base : Nat} {held : Bool} {fuel : Nat} {A : Option Addr} {m cap : Nat} {x : DataW H × List MemPlace} (h : DataW.trod enc Try.prog w base (fun _ => true) held fuel 67 (Value.slice A m cap).cells.toList = some x) :
    ∃ bv, AT w A m bv := by
  rcases Deep.open_slice Try.underlying67 h with ⟨hcs, _⟩ | ⟨a, len, cp, k, n, D, Pl, hcs, _, hl, hm, hmm, hx, hel⟩
  · simp [Value.cells] at hcs
    obtain ⟨rfl, rfl, rfl⟩ := hcs
    exact ⟨fun _ => false, fun i hi => absurd hi (by omega)⟩
  · simp [Value.cells] at hcs
    obtain ⟨rfl, rfl, rfl⟩ := hcs
    have e7 : Try.prog.cellsOf 4 = 1 := by kernel_rfl
    have hlm : m ≤ k := by rw [hmm]; split <;> omega
    have each : ∀ i, i < m → ∃ q : Bool, w.cell? (a.add i) = some (.bool q) := by
      intro i hi
      obtain ⟨cs, h1, h2⟩ := hel i (by omega)
      rw [e7] at h1
      obtain ⟨hl1, _, hcell⟩ := World.cells?_some h1
      have q0 := hcell 0 (by omega)
      rw [Deep.add_add, Nat.mul_one, Nat.add_zero] at q0
      match cs, hl1 with
      | [c], _ =>
        obtain ⟨a5, h5, _⟩ := DataW.trod_bool Try.underlying4 h2
        simp only [List.cons.injEq, and_true] at h5
        subst h5
        exact ⟨_, q0⟩
    obtain ⟨R, hR⟩ := @Deep.choose_lt Bool ⟨false⟩ _ _ each
    refine ⟨R, fun i hi => ?_⟩
    obtain ⟨b, off, spot⟩ := a
    have hc := hR i hi
    have hc0 := hR 0 (by omega)
    have hspot : spot = none := by simpa [Addr.add] using World.cell?_spot hc0
    subst hspot
    rw [By.add_plain] at hc
    exact ⟨b, off, rfl, hc⟩
theorem al_below {w W : World} {A : Option Addr} {m : Nat} {pv : Nat → Value} {pn : Nat → Nat} {pf : Nat → Nat → Int} (h : AL w A m pv pn pf) (hb : Below w.heap.size w W) : AL W A m pv pn pf := ⟨fun i hi => by
  obtain ⟨b, off, e, c⟩ := h.cells i hi
  exact ⟨b, off, e, by rw [hb.cell (p := ⟨b, off + i, none⟩) (block_lt_of_cell c)]; exact c⟩, fun i hi => (h.rb i hi).below hb⟩
theorem at_below {w W : World} {A : Option Addr} {m : Nat} {bv : Nat → Bool} (h : AT w A m bv) (hb : Below w.heap.size w W) : AT W A m bv := fun i hi => by
  obtain ⟨b, off, e, c⟩ := h i hi
  exact ⟨b, off, e, by rw [hb.cell (p := ⟨b, off + i, none⟩) (block_lt_of_cell c)]; exact c⟩
end Go.Proofs.Ythoklddoeoedgaa.Sl
