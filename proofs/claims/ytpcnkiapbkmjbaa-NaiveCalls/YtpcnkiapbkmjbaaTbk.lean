/- Blocks of cells, whole arrays loaded and stored at once; things in memory, each by its own blocks; no function of the program in it. -/
import Derived.Test.YtpcnkiapbkmjbaaRows
import Derived.Test.YtpcnkiapbkmjbaaQkp
import Derived.ArgAppend
import Derived.WalkSpells
import Derived.Deep.RegionHeld3
import Derived.Deep.DeepMust
import Derived.Laws.AppendOwnNone
import Derived.Deep.MidRow
import Derived.Deep.WholeRow
import Derived.Laws.IdiomCopy
import Derived.ChangeKeysEq
namespace Go.Proofs.Ytpcnkiapbkmjbaa.Tb
open Go.ChangeShapes Go.WideShapes Go.ChangeAt Go.RowKit
/-- Block g holds just the cells cs. -/
def Blk (w : World) (g : Nat) (cs : List Value) (t : TypeId) : Prop := w.heap[g]? = some (.cells cs.toArray t (0, 0))
theorem Blk.lt {w : World} {g : Nat} {cs : List Value} {t : TypeId} (h : Blk w g cs t) : g < w.heap.size := (Array.getElem?_eq_some_iff.1 h).1
theorem Blk.cell {w : World} {g : Nat} {cs : List Value} {t : TypeId} (h : Blk w g cs t) (i : Nat) (v : Value) (hi : cs[i]? = some v) : w.cell? ⟨g, i, none⟩ = some v := by
  rw [cell_of_row w g i _ t (0, 0) h]; simpa using hi
theorem Blk.range {w : World} {g : Nat} {cs : List Value} {t : TypeId} (h : Blk w g cs t) (o : Nat) (vs : List Value) (hv : ∀ j v, vs[j]? = some v → cs[o + j]? = some v) : w.rangeAt g o vs := fun j v hj => h.cell _ _ (hv j v hj)
theorem Blk.frozen {w : World} {g : Nat} {cs : List Value} {t : TypeId} (h : Blk w g cs t) (i : Nat) : w.frozen? ⟨g, i, none⟩ = false := frozen_of_row w g i _ t h
theorem Blk.there {w : World} {g : Nat} {cs : List Value} {t : TypeId} (h : Blk w g cs t) (o n : Nat) (hn : o + n ≤ cs.length) : w.there g o n := fun j hj => by
  refine ⟨?_, h.frozen _⟩
  rw [h.cell (o + j) _ (List.getElem?_eq_getElem (by omega))]; rfl
theorem Blk.kept {w w' : World} {g : Nat} {cs : List Value} {t : TypeId} {S : Nat → Prop} (h : Blk w g cs t) (hk : Kp S w w') (hn : ¬ S g) : Blk w' g cs t := (hk.block g h.lt hn).trans h
theorem Blk.below {w w' : World} {g : Nat} {cs : List Value} {t : TypeId} (h : Blk w g cs t) (hb : Below w.heap.size w w') : Blk w' g cs t := h.kept (Kp.of_below (fun _ => False) hb) id
theorem Blk.alloc {w : World} {g : Nat} {cs : List Value} {t : TypeId} (h : Blk w g cs t) (o : Obj) : Blk (w.alloc o) g cs t := h.below (below_alloc w o)
theorem Blk.new (w : World) (cs : List Value) (t : TypeId) : Blk (w.alloc (.cells cs.toArray t)) w.heap.size cs t := heap_alloc_last w _
theorem Blk.set {w : World} {g : Nat} {cs : List Value} {t : TypeId} (h : Blk w g cs t) (i : Nat) (u : Value) : Blk (w.setCell ⟨g, i, none⟩ u) g (cs.set i u) t := by
  have hb : w.heap[g]? = some (.cells cs.toArray t (0, 0)) := h
  simp only [Blk, World.setCell]
  rw [Array.getElem?_modify]
  simp [hb]
theorem Blk.other {w : World} {g g' : Nat} {cs : List Value} {t : TypeId} (h : Blk w g cs t) (hn : g ≠ g') (i : Nat) (u : Value) : Blk (w.setCell ⟨g', i, none⟩ u) g cs t := h.kept (Kp.setCell g' i u) hn
theorem Blk.drewN {w : World} {g : Nat} {cs : List Value} {t : TypeId} (h : Blk w g cs t) (d : Nat) : Blk (w.drewN d) g cs t := h
theorem Blk.ne {w : World} {g g' : Nat} {cs cs' : List Value} {t t' : TypeId} (h : Blk w g cs t) (h' : Blk w g' cs' t') (ht : t ≠ t') : g ≠ g' := by
  intro e; subst e
  have := Option.some.inj (h.symm.trans h')
  simp only [Obj.cells.injEq] at this
  exact ht this.2.1
theorem Kp.setRow {w : World} (g : Nat) (vs : Array Value) : Kp (fun k => k = g) w (w.setRow g vs) :=
  ⟨rfl, rfl, rfl, by simp [World.setRow], fun k _ hn => by simp only [World.setRow]; rw [Array.getElem?_modify, if_neg (fun e => hn e.symm)]⟩
theorem Blk.newAt (w : World) (a : Array Value) (cs : List Value) (t : TypeId) (g : Nat) (hg : g = w.heap.size) (ha : a = cs.toArray) : Blk (w.alloc (.cells a t)) g cs t := by
  subst hg; subst ha; exact Blk.new w cs t
theorem size_alloc (w : World) (o : Obj) : (w.alloc o).heap.size = w.heap.size + 1 := by simp
theorem below_set {B : Nat} {w w' : World} (h : Below B w w') (g i : Nat) (u : Value) (hg : B ≤ g) (hB : B ≤ w'.heap.size) : Below B w (w'.setCell ⟨g, i, none⟩ u) :=
  h.trans ((Kp.setCell g i u).below hB (fun k hk e => by omega))
theorem below_row {B : Nat} {w w' : World} (h : Below B w w') (g : Nat) (vs : Array Value) (hg : B ≤ g) (hB : B ≤ w'.heap.size) : Below B w (w'.setRow g vs) :=
  h.trans ((Kp.setRow g vs).below hB (fun k hk e => by omega))
theorem Blk.load {P : Program} {w : World} {g : Nat} {cs : List Value} {t ty : TypeId} (h : Blk w g cs t) (d : TypeDesc) (hu : P.underlying ty = some d) (hd : d.isRow = true) (hi : (P.info? ty).map (·.size) = some cs.length) :
    (Instr.loadAt ty (.pointer (some ⟨g, 0, none⟩))).run P w = .ok (.agg cs.toArray) w :=
  run_loadAt_mid w g 0 ty cs d (fun j v hv => by rw [Nat.zero_add]; exact h.cell j v hv) hu hd hi
theorem Blk.row {w : World} {g : Nat} {cs vs : List Value} {t : TypeId} (h : Blk w g cs t) : Blk (w.setRow g vs.toArray) g vs t := by
  have hb : w.heap[g]? = some (.cells cs.toArray t (0, 0)) := h
  simp only [Blk, World.setRow]
  rw [Array.getElem?_modify]
  simp [hb]
theorem Blk.store {P : Program} {w : World} {g : Nat} {cs vs : List Value} {t ty : TypeId} (h : Blk w g cs t) (hi : (P.info? ty).map (·.size) = some vs.length) (hl : cs.length = vs.length) (h1 : ∀ u ∈ vs, u.oneCell' = true) :
    (Instr.storeAt ty (.pointer (some ⟨g, 0, none⟩)) (.agg vs.toArray)).run P w = .ok () (w.setRow g vs.toArray) := by
  simp only [Instr.storeAt, Instr.sureAddr, Sem.run_bind, Sem.run_pure, Result.andThen_ok]
  exact run_storeVar_row w g t ty cs.toArray vs.toArray h (by simpa using hi) (by simpa using hl) (all_oneCell_toArray h1)
theorem results_cell1 {P : Program} {fn : Func} {p : Tmp} {ty : TypeId} {tmps : Array Value} {w : World} {a : Addr} {v : Value} (h : fn.results = #[.cell p ty]) (ha : tmps.getD p undef = .pointer (some a)) (hl : (loadVar ty a).run P w = .ok v w) :
    (results fn tmps).run P w = .ok v w := by
  have e1 : tmps[p]?.getD undef = .pointer (some a) := by rw [← ha]; simp [Array.getD_eq_getD_getElem?]
  simp only [results, h]
  simp [e1, asAddr, hl]
theorem results_cell2 {P : Program} {fn : Func} {p q : Tmp} {ty : TypeId} {tmps : Array Value} {w : World} {a : Addr} {v u : Value} (h : fn.results = #[.cell p ty, .tmp q]) (ha : tmps.getD p undef = .pointer (some a)) (hq : tmps.getD q undef = u) (hl : (loadVar ty a).run P w = .ok v w) :
    (results fn tmps).run P w = .ok (.tuple #[v, u]) w := by
  have e1 : tmps[p]?.getD undef = .pointer (some a) := by rw [← ha]; simp [Array.getD_eq_getD_getElem?]
  have e2 : tmps[q]?.getD undef = u := by rw [← hq]; simp [Array.getD_eq_getD_getElem?]
  simp only [results, h]
  simp [e1, e2, asAddr, hl]
/-- Cells o, o + 1, .. of a list put in place of what was there. -/
def put (cs : List Value) (o : Nat) : List Value → List Value
  | [] => cs
  | v :: r => put (cs.set o v) (o + 1) r
theorem put_length (cs vs : List Value) (o : Nat) : (put cs o vs).length = cs.length := by
  induction vs generalizing cs o with
  | nil => rfl
  | cons v r ih => simp [put, ih]
theorem Blk.put {w : World} {g : Nat} {cs : List Value} {t : TypeId} (h : Blk w g cs t) (o : Nat) (vs : List Value) : Blk (w.setCells g o vs) g (put cs o vs) t := by
  induction vs generalizing w cs o with
  | nil => exact h
  | cons v r ih => exact ih (h.set o v) (o + 1)
theorem put_get (cs vs : List Value) (o i : Nat) (h : o + vs.length ≤ cs.length) : (put cs o vs)[i]? = if o ≤ i ∧ i < o + vs.length then vs[i - o]? else cs[i]? := by
  induction vs generalizing cs o with
  | nil => simp [Tb.put]; omega
  | cons v r ih =>
    simp only [List.length_cons] at h ⊢
    rw [Tb.put, ih _ _ (by simp; omega), List.getElem?_set]
    by_cases h1 : o = i
    · subst h1
      rw [if_neg (by omega), if_pos rfl, if_pos (by omega), if_pos (by omega)]; simp
    · by_cases h2 : o + 1 ≤ i ∧ i < o + 1 + r.length
      · rw [if_pos h2, if_pos (by omega)]
        rw [show i - o = (i - (o + 1)) + 1 from by omega]; rfl
      · rw [if_neg h2, if_neg h1, if_neg (by omega)]
theorem put_all (cs vs : List Value) (h : cs.length = vs.length) : put cs 0 vs = vs := by
  apply List.ext_getElem?
  intro i
  rw [put_get cs vs 0 i (by omega)]
  split
  · rfl
  · rw [List.getElem?_eq_none (by omega), List.getElem?_eq_none (by omega)]
theorem Kp.setCells {w : World} (g o : Nat) (vs : List Value) : Kp (fun k => k = g) w (w.setCells g o vs) := by
  induction vs generalizing w o with
  | nil => exact Kp.refl _ _
  | cons v r ih => exact (Kp.setCell g o v).trans (ih (o + 1)) (fun _ _ e => e)
theorem below_cells {B : Nat} {w w' : World} (h : Below B w w') (g o : Nat) (vs : List Value) (hg : B ≤ g) (hB : B ≤ w'.heap.size) : Below B w (w'.setCells g o vs) :=
  h.trans ((Kp.setCells g o vs).below hB (fun k hk e => by omega))
/-- A thing: its blocks, and what holds of it. -/
structure Th where
  F : Nat → Prop
  P : World → Prop
  keep : ∀ {S W W'}, P W → Kp S W W' → (∀ j, F j → ¬ S j) → P W'
  lt : ∀ {W}, P W → ∀ j, F j → j < W.heap.size
def Th.no : Th := ⟨fun _ => False, fun _ => True, fun _ _ _ => trivial, fun _ _ e => e.elim⟩
def up (t : Nat → Th) (i : Nat) (x : Th) : Nat → Th := fun k => if k = i then x else t k
theorem up_at (t : Nat → Th) (i : Nat) (x : Th) : up t i x i = x := if_pos rfl
theorem up_ne (t : Nat → Th) {i k : Nat} (x : Th) (h : k ≠ i) : up t i x k = t k := if_neg h
/-- Things that lie apart, in blocks from B on. -/
structure GX (w0 : World) (B : Nat) (t : Nat → Th) (W : World) : Prop where
  all : ∀ i, (t i).P W
  lo : ∀ i j, (t i).F j → B ≤ j
  ap : ∀ i k, i ≠ k → ∀ j, (t i).F j → ¬ (t k).F j
  bel : Below B w0 W
  hB : B ≤ W.heap.size
section
variable {w0 W W' : World} {B : Nat} {t : Nat → Th} {S : Nat → Prop}
theorem GX.start (w : World) : GX w w.heap.size (fun _ => Th.no) w := ⟨fun _ => trivial, fun _ _ e => e.elim, fun _ _ _ _ e => e.elim, Below.refl _ _, Nat.le_refl _⟩
/-- Some things are turned into others, new ones among them. -/
theorem GX.turn (h : GX w0 B t W) (t' : Nat → Th) (I : Nat → Prop) (hk : Kp S W W') (hS : ∀ j, S j → j < W.heap.size → ∃ i, I i ∧ (t i).F j)
    (he : ∀ i, ¬ I i → t' i = t i) (hp : ∀ i, I i → (t' i).P W') (hf : ∀ i, I i → ∀ j, (t' i).F j → (∃ k, I k ∧ (t k).F j) ∨ W.heap.size ≤ j) (hd : ∀ i k, I i → I k → i ≠ k → ∀ j, (t' i).F j → ¬ (t' k).F j) : GX w0 B t' W' := by
  have hSB : ∀ j, j < W.heap.size → S j → B ≤ j := fun j hj hs => by
    obtain ⟨i, _, hi⟩ := hS j hs hj
    exact h.lo i j hi
  have old : ∀ i, ¬ I i → ∀ j, (t i).F j → ¬ S j := fun i hi j hj hs => by
    obtain ⟨k, hk, hkj⟩ := hS j hs ((t i).lt (h.all i) j hj)
    exact h.ap i k (fun e => hi (e ▸ hk)) j hj hkj
  have mix : ∀ i k, ¬ I i → I k → ∀ j, (t i).F j → ¬ (t' k).F j := fun i k hi hk j hj hkj => by
    rcases hf k hk j hkj with ⟨m, hm, hmj⟩ | hz
    · exact h.ap i m (fun e => hi (e ▸ hm)) j hj hmj
    · have := (t i).lt (h.all i) j hj; omega
  have hB := h.hB
  refine ⟨fun i => ?_, fun i j hj => ?_, fun i k hik j hi hj => ?_, h.bel.trans (hk.below hB (fun j hj hs => by have := hSB j (by omega) hs; omega)), Nat.le_trans hB hk.size⟩
  · by_cases hi : I i
    · exact hp i hi
    · rw [he i hi]; exact (t i).keep (h.all i) hk (old i hi)
  · by_cases hi : I i
    · rcases hf i hi j hj with ⟨m, _, hmj⟩ | hz
      · exact h.lo m j hmj
      · omega
    · rw [he i hi] at hj; exact h.lo i j hj
  · by_cases hI : I i
    · by_cases hK : I k
      · exact hd i k hI hK hik j hi hj
      · rw [he k hK] at hj; exact mix k i hK hI j hj hi
    · rw [he i hI] at hi
      by_cases hK : I k
      · exact mix i k hI hK j hi hj
      · rw [he k hK] at hj; exact h.ap i k hik j hi hj
/-- Nothing that was is turned. -/
theorem GX.below (h : GX w0 B t W) (hb : Below W.heap.size W W') : GX w0 B t W' :=
  h.turn t (fun _ => False) (Kp.of_below (fun _ => False) hb) (fun _ e => e.elim) (fun _ _ => rfl) (fun _ e => e.elim) (fun _ e => e.elim) (fun _ _ e => e.elim)
/-- One thing is turned, or is new. -/
theorem GX.one (h : GX w0 B t W) (i : Nat) (x : Th) (hk : Kp S W W') (hS : ∀ j, S j → j < W.heap.size → (t i).F j) (hp : x.P W') (hf : ∀ j, x.F j → (t i).F j ∨ W.heap.size ≤ j) : GX w0 B (up t i x) W' :=
  h.turn _ (fun k => k = i) hk (fun j hs hj => ⟨i, rfl, hS j hs hj⟩) (fun k hk => up_ne t x hk) (fun k hk => by rw [show k = i from hk, up_at]; exact hp)
    (fun k hk j hj => by rw [show k = i from hk, up_at] at hj; exact (hf j hj).imp (fun e => ⟨i, rfl, e⟩) id) (fun a b ha hb hab => absurd (ha.trans hb.symm) hab)
/-- Two things are turned, or are new. -/
theorem GX.two (h : GX w0 B t W) (i k : Nat) (x y : Th) (hik : i ≠ k) (hk : Kp S W W') (hS : ∀ j, S j → j < W.heap.size → (t i).F j ∨ (t k).F j) (hp : x.P W') (hq : y.P W') (hf : ∀ j, x.F j → (t i).F j ∨ (t k).F j ∨ W.heap.size ≤ j) (hg : ∀ j, y.F j → (t i).F j ∨ (t k).F j ∨ W.heap.size ≤ j) (hd : ∀ j, x.F j → ¬ y.F j) : GX w0 B (up (up t i x) k y) W' := by
  have ei : up (up t i x) k y i = x := by rw [up_ne _ _ hik, up_at]
  have ek : up (up t i x) k y k = y := up_at _ _ _
  refine h.turn _ (fun m => m = i ∨ m = k) hk (fun j hs hj => (hS j hs hj).elim (fun e => ⟨i, .inl rfl, e⟩) (fun e => ⟨k, .inr rfl, e⟩)) (fun m hm => ?_) (fun m hm => ?_) (fun m hm j hj => ?_) (fun a b ha hb hab j hj hj' => ?_)
  · rw [up_ne _ _ (fun e => hm (.inr e)), up_ne _ _ (fun e => hm (.inl e))]
  · rcases hm with rfl | rfl
    · rw [ei]; exact hp
    · rw [ek]; exact hq
  · have : (t i).F j ∨ (t k).F j ∨ W.heap.size ≤ j := by
      rcases hm with rfl | rfl
      · rw [ei] at hj; exact hf j hj
      · rw [ek] at hj; exact hg j hj
    rcases this with e | e | e
    · exact .inl ⟨i, .inl rfl, e⟩
    · exact .inl ⟨k, .inr rfl, e⟩
    · exact .inr e
  · rcases ha with rfl | rfl <;> rcases hb with rfl | rfl
    · exact hab rfl
    · rw [ei] at hj; rw [ek] at hj'; exact hd j hj hj'
    · rw [ek] at hj; rw [ei] at hj'; exact hd j hj' hj
    · exact hab rfl
theorem GX.drop (h : GX w0 B t W) (i : Nat) : GX w0 B (up t i Th.no) W :=
  h.one i Th.no (Kp.refl (fun _ => False) W) (fun _ e => e.elim) trivial (fun _ e => e.elim)
end
/-- Nothing, drawn only. -/
theorem GX.drewN {w0 W : World} {B : Nat} {t : Nat → Th} (h : GX w0 B t W) (d : Nat) : GX w0 B t (W.drewN d) := h.below (below_drewN W d)
/-- All but two numbers stay. -/
def But (t t' : Nat → Th) (i k : Nat) : Prop := ∀ m, m ≠ i → m ≠ k → t' m = t m
theorem but_up (t : Nat → Th) (i k : Nat) (x y : Th) : But t (up (up t i x) k y) i k := fun m h1 h2 => by rw [up_ne _ _ h2, up_ne _ _ h1]
/-- A block of cells as a thing. -/
def tC (b : Nat) (cs : List Value) (ty : TypeId) : Th where
  F j := j = b
  P W := Blk W b cs ty
  keep h hk hn := h.kept hk (hn _ rfl)
  lt h j hj := by rw [show j = b from hj]; exact h.lt
theorem GX.blk {w0 W : World} {B : Nat} {t : Nat → Th} (hG : GX w0 B t W) {m b : Nat} {cs : List Value} {ty : TypeId} (hm : t m = tC b cs ty) : Blk W b cs ty := by
  have := hG.all m; rw [hm] at this; exact this
theorem gx_alloc {w0 W : World} {B : Nat} {t : Nat → Th} (hG : GX w0 B t W) (m : Nat) (cs : List Value) (ty : TypeId) : ∃ t', GX w0 B t' (W.alloc (.cells cs.toArray ty)) ∧ t' m = tC W.heap.size cs ty ∧ But t t' m m :=
  ⟨_, hG.one m (tC W.heap.size cs ty) (Kp.of_below (fun _ => False) (below_alloc _ _)) (fun _ e => e.elim) (Blk.new _ _ _) (fun j hj => .inr (by rw [show j = _ from hj]; exact Nat.le_refl _)), up_at _ _ _, fun m h1 _ => up_ne _ _ h1⟩
end Go.Proofs.Ytpcnkiapbkmjbaa.Tb
