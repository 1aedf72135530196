/- Blocks of cells, whole arrays loaded and stored at once; no function of the program in it. -/
import Derived.Test.YthoklddoeoedgaaRows
import Derived.Test.YthoklddoeoedgaaQkp
import Derived.Test.YthoklddoeoedgaaBkit
import Derived.Deep.MidRow
import Derived.Deep.WholeRow
import Derived.Laws.IdiomCopy
import Derived.ChangeKeysEq
namespace Go.Proofs.Ythoklddoeoedgaa.Sl
open Go.ChangeShapes Go.WideShapes Go.ChangeAt Go.RowKit
open Go.Proofs.Ythoklddoeoedgaa.By
/-- Block g holds just the cells cs. -/
def Blk (w : World) (g : Nat) (cs : List Value) (t : TypeId) : Prop := w.heap[g]? = some (.cells cs.toArray t (0, 0))
theorem Blk.lt {w : World} {g : Nat} {cs : List Value} {t : TypeId} (h : Blk w g cs t) : g < w.heap.size := (Array.getElem?_eq_some_iff.1 h).1
theorem Blk.cell {w : World} {g : Nat} {cs : List Value} {t : TypeId} (h : Blk w g cs t) (i : Nat) (v : Value) (hi : cs[i]? = some v) : w.cell? ⟨g, i, none⟩ = some v := by
  rw [cell_of_row w g i _ t (0, 0) h]; simpa using hi
theorem Blk.range {w : World} {g : Nat} {cs : List Value} {t : TypeId} (h : Blk w g cs t) (o : Nat) (vs : List Value) (hv : ∀ j v, vs[j]? = some v → cs[o + j]? = some v) : w.rangeAt g o vs := fun j v hj => h.cell _ _ (hv j v hj)
theorem Blk.frozen {w : World} {g : Nat} {cs : List Value} {t : TypeId} (h : Blk w g cs t) (i : Nat) : w.frozen? ⟨g, i, none⟩ = false := frozen_of_row w g i _ t h
theorem Blk.there {w : World} {g : Nat} {cs : List Value} {t : TypeId} (h : Blk w g cs t) (o n : Nat) (hn : o + n ≤ cs.length) : w.there g o n := fun j hj => by
  refine ⟨?_, h.frozen _⟩
  rw [h.cell (o + j) _ (List.getElem?_eq_getElem (by omega))]; rfl
theorem Blk.kept {w w' : World} {g : Nat} {cs : List Value} {t : TypeId} {S : Nat → Prop} (h : Blk w g cs t) (hk : Kp S w w') (hn : ¬ S g) : Blk w' g cs t := (hk.block g h.lt hn).trans h
theorem Blk.below {w w' : World} {g : Nat} {cs : List Value} {t : TypeId} (h : Blk w g cs t) (hb : Below w.heap.size w w') : Blk w' g cs t := h.kept (Kp.of_below (fun _ => False) hb) id
theorem Blk.alloc {w : World} {g : Nat} {cs : List Value} {t : TypeId} (h : Blk w g cs t) (o : Obj) : Blk (w.alloc o) g cs t := h.below (below_alloc w o)
theorem Blk.new (w : World) (cs : List Value) (t : TypeId) : Blk (w.alloc (.cells cs.toArray t)) w.heap.size cs t := heap_alloc_last w _
theorem Blk.set {w : World} {g : Nat} {cs : List Value} {t : TypeId} (h : Blk w g cs t) (i : Nat) (u : Value) : Blk (w.setCell ⟨g, i, none⟩ u) g (cs.set i u) t := by
  have hb : w.heap[g]? = some (.cells cs.toArray t (0, 0)) := h
  simp only [Blk, World.setCell]
  rw [Array.getElem?_modify]
  simp [hb]
theorem Blk.other {w : World} {g g' : Nat} {cs : List Value} {t : TypeId} (h : Blk w g cs t) (hn : g ≠ g') (i : Nat) (u : Value) : Blk (w.setCell ⟨g', i, none⟩ u) g cs t := h.kept (Kp.setCell g' i u) hn
theorem Blk.drewN {w : World} {g : Nat} {cs : List Value} {t : TypeId} (h : Blk w g cs t) (d : Nat) : Blk (w.drewN d) g cs t := h
theorem Blk.ne {w : World} {g g' : Nat} {cs cs' : List Value} {t t' : TypeId} (h : Blk w g cs t) (h' : Blk w g' cs' t') (ht : t ≠ t') : g ≠ g' := by
  intro e; subst e
  have := Option.some.inj (h.symm.trans h')
  simp only [Obj.cells.injEq] at this
  exact ht this.2.1
theorem rb_blk {w : World} {g n : Nat} {f : Nat → Int} {t : TypeId} (h : Blk w g (bl n f) t) (hf : ∀ i, 0 ≤ f i ∧ f i < 256) (hn : n ≤ maxLen) : By.RB w (.slice (some ⟨g, 0, none⟩) n n) n f :=
  ⟨hf, _, _, rfl, Nat.le_refl _, hn, .inr ⟨g, 0, rfl, fun i hi => by rw [Nat.zero_add]; exact h.cell i _ (bl_get n f i hi)⟩⟩
theorem Kp.setRow {w : World} (g : Nat) (vs : Array Value) : Kp (fun k => k = g) w (w.setRow g vs) :=
  ⟨rfl, rfl, rfl, by simp [World.setRow], fun k _ hn => by simp only [World.setRow]; rw [Array.getElem?_modify, if_neg (fun e => hn e.symm)]⟩
theorem Blk.newAt (w : World) (a : Array Value) (cs : List Value) (t : TypeId) (g : Nat) (hg : g = w.heap.size) (ha : a = cs.toArray) : Blk (w.alloc (.cells a t)) g cs t := by
  subst hg; subst ha; exact Blk.new w cs t
theorem size_alloc (w : World) (o : Obj) : (w.alloc o).heap.size = w.heap.size + 1 := by simp
theorem below_set {B : Nat} {w w' : World} (h : Below B w w') (g i : Nat) (u : Value) (hg : B ≤ g) (hB : B ≤ w'.heap.size) : Below B w (w'.setCell ⟨g, i, none⟩ u) :=
  h.trans ((Kp.setCell g i u).below hB (fun k hk e => by omega))
theorem below_row {B : Nat} {w w' : World} (h : Below B w w') (g : Nat) (vs : Array Value) (hg : B ≤ g) (hB : B ≤ w'.heap.size) : Below B w (w'.setRow g vs) :=
  h.trans ((Kp.setRow g vs).below hB (fun k hk e => by omega))
theorem Blk.load {P : Program} {w : World} {g : Nat} {cs : List Value} {t ty : TypeId} (h : Blk w g cs t) (d : TypeDesc) (hu : P.underlying ty = some d) (hd : d.isRow = true) (hi : (P.info? ty).map (·.size) = some cs.length) :
    (Instr.loadAt ty (.pointer (some ⟨g, 0, none⟩))).run P w = .ok (.agg cs.toArray) w :=
  run_loadAt_mid w g 0 ty cs d (fun j v hv => by rw [Nat.zero_add]; exact h.cell j v hv) hu hd hi
theorem Blk.row {w : World} {g : Nat} {cs vs : List Value} {t : TypeId} (h : Blk w g cs t) : Blk (w.setRow g vs.toArray) g vs t := by
  have hb : w.heap[g]? = some (.cells cs.toArray t (0, 0)) := h
  simp only [Blk, World.setRow]
  rw [Array.getElem?_modify]
  simp [hb]
theorem Blk.store {P : Program} {w : World} {g : Nat} {cs vs : List Value} {t ty : TypeId} (h : Blk w g cs t) (hi : (P.info? ty).map (·.size) = some vs.length) (hl : cs.length = vs.length) (h1 : ∀ u ∈ vs, u.oneCell' = true) :
    (Instr.storeAt ty (.pointer (some ⟨g, 0, none⟩)) (.agg vs.toArray)).run P w = .ok () (w.setRow g vs.toArray) := by
  simp only [Instr.storeAt, Instr.sureAddr, Sem.run_bind, Sem.run_pure, Result.andThen_ok]
  exact run_storeVar_row w g t ty cs.toArray vs.toArray h (by simpa using hi) (by simpa using hl) (all_oneCell_toArray h1)
theorem results_cell1 {P : Program} {fn : Func} {p : Tmp} {ty : TypeId} {tmps : Array Value} {w : World} {a : Addr} {v : Value} (h : fn.results = #[.cell p ty]) (ha : tmps.getD p undef = .pointer (some a)) (hl : (loadVar ty a).run P w = .ok v w) :
    (results fn tmps).run P w = .ok v w := by
  have e1 : tmps[p]?.getD undef = .pointer (some a) := by rw [← ha]; simp [Array.getD_eq_getD_getElem?]
  simp only [results, h]
  simp [e1, asAddr, hl]
/-- Cells o, o + 1, .. of a list put in place of what was there. -/
def put (cs : List Value) (o : Nat) : List Value → List Value
  | [] => cs
  | v :: r => put (cs.set o v) (o + 1) r
theorem put_length (cs vs : List Value) (o : Nat) : (put cs o vs).length = cs.length := by
  induction vs generalizing cs o with
  | nil => rfl
  | cons v r ih => simp [put, ih]
theorem Blk.put {w : World} {g : Nat} {cs : List Value} {t : TypeId} (h : Blk w g cs t) (o : Nat) (vs : List Value) : Blk (w.setCells g o vs) g (put cs o vs) t := by
  induction vs generalizing w cs o with
  | nil => exact h
  | cons v r ih => exact ih (h.set o v) (o + 1)
theorem put_get (cs vs : List Value) (o i : Nat) (h : o + vs.length ≤ cs.length) : (put cs o vs)[i]? = if o ≤ i ∧ i < o + vs.length then vs[i - o]? else cs[i]? := by
  induction vs generalizing cs o with
  | nil => simp [Sl.put]; omega
  | cons v r ih =>
    simp only [List.length_cons] at h ⊢
    rw [Sl.put, ih _ _ (by simp; omega), List.getElem?_set]
    by_cases h1 : o = i
    · subst h1
      rw [if_neg (by omega), if_pos rfl, if_pos (by omega), if_pos (by omega)]; simp
    · by_cases h2 : o + 1 ≤ i ∧ i < o + 1 + r.length
      · rw [if_pos h2, if_pos (by omega)]
        rw [show i - o = (i - (o + 1)) + 1 from by omega]; rfl
      · rw [if_neg h2, if_neg h1, if_neg (by omega)]
theorem put_all (cs vs : List Value) (h : cs.length = vs.length) : put cs 0 vs = vs := by
  apply List.ext_getElem?
  intro i
  rw [put_get cs vs 0 i (by omega)]
  split
  · rfl
  · rw [List.getElem?_eq_none (by omega), List.getElem?_eq_none (by omega)]
theorem Kp.setCells {w : World} (g o : Nat) (vs : List Value) : Kp (fun k => k = g) w (w.setCells g o vs) := by
  induction vs generalizing w o with
  | nil => exact Kp.refl _ _
  | cons v r ih => exact (Kp.setCell g o v).trans (ih (o + 1)) (fun _ _ e => e)
theorem below_cells {B : Nat} {w w' : World} (h : Below B w w') (g o : Nat) (vs : List Value) (hg : B ≤ g) (hB : B ≤ w'.heap.size) : Below B w (w'.setCells g o vs) :=
  h.trans ((Kp.setCells g o vs).below hB (fun k hk e => by omega))
end Go.Proofs.Ythoklddoeoedgaa.Sl
