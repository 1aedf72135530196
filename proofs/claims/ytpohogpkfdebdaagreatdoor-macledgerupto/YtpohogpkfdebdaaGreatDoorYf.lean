/- Blocks of cells: bytes; no function of the program in it. Whole arrays loaded and stored at once; no function of the program in it. The program's 'turned', there and back: round by round. -/
import Derived.Test.YtpohogpkfdebdaaGreatDoorRows
import Derived.Test.YtpohogpkfdebdaaGreatDoorZa
import Derived.Test.YtpohogpkfdebdaaGreatDoorYe
import Derived.Deep.MidRow
import Derived.Deep.WholeRow
import Derived.WalkKit
import Derived.ProofKit
namespace Go.Proofs.YtpohogpkfdebdaaGreatDoor.Ae
open Go.ChangeShapes Go.WideShapes Go.ChangeAt Go.RowKit
open Go.Proofs.YtpohogpkfdebdaaGreatDoor.By Go.Proofs.YtpohogpkfdebdaaGreatDoor.Gf
/-- Block g holds just the cells cs. -/
def Blk (w : World) (g : Nat) (cs : List Value) (t : TypeId) : Prop := w.heap[g]? = some (.cells cs.toArray t (0, 0))
theorem Blk.lt {w : World} {g : Nat} {cs : List Value} {t : TypeId} (h : Blk w g cs t) : g < w.heap.size := (Array.getElem?_eq_some_iff.1 h).1
theorem Blk.cell {w : World} {g : Nat} {cs : List Value} {t : TypeId} (h : Blk w g cs t) (i : Nat) (v : Value) (hi : cs[i]? = some v) : w.cell? ⟨g, i, none⟩ = some v := by
  rw [cell_of_row w g i _ t (0, 0) h]; simpa using hi
theorem Blk.range {w : World} {g : Nat} {cs : List Value} {t : TypeId} (h : Blk w g cs t) (o : Nat) (vs : List Value) (hv : ∀ j v, vs[j]? = some v → cs[o + j]? = some v) : w.rangeAt g o vs := fun j v hj => h.cell _ _ (hv j v hj)
theorem Blk.frozen {w : World} {g : Nat} {cs : List Value} {t : TypeId} (h : Blk w g cs t) (i : Nat) : w.frozen? ⟨g, i, none⟩ = false := frozen_of_row w g i _ t h
theorem Blk.there {w : World} {g : Nat} {cs : List Value} {t : TypeId} (h : Blk w g cs t) (o n : Nat) (hn : o + n ≤ cs.length) : w.there g o n := fun j hj => by
  refine ⟨?_, h.frozen _⟩
  rw [h.cell (o + j) _ (List.getElem?_eq_getElem (by omega))]; rfl
theorem Blk.kept {w w' : World} {g : Nat} {cs : List Value} {t : TypeId} {S : Nat → Prop} (h : Blk w g cs t) (hk : Kp S w w') (hn : ¬ S g) : Blk w' g cs t := (hk.block g h.lt hn).trans h
theorem Blk.below {w w' : World} {g : Nat} {cs : List Value} {t : TypeId} (h : Blk w g cs t) (hb : Below w.heap.size w w') : Blk w' g cs t := h.kept (Kp.of_below (fun _ => False) hb) id
theorem Blk.alloc {w : World} {g : Nat} {cs : List Value} {t : TypeId} (h : Blk w g cs t) (o : Obj) : Blk (w.alloc o) g cs t := h.below (below_alloc w o)
theorem Blk.new (w : World) (cs : List Value) (t : TypeId) : Blk (w.alloc (.cells cs.toArray t)) w.heap.size cs t := heap_alloc_last w _
theorem Blk.set {w : World} {g : Nat} {cs : List Value} {t : TypeId} (h : Blk w g cs t) (i : Nat) (u : Value) : Blk (w.setCell ⟨g, i, none⟩ u) g (cs.set i u) t := by
  have hb : w.heap[g]? = some (.cells cs.toArray t (0, 0)) := h
  simp only [Blk, World.setCell]
  rw [Array.getElem?_modify]
  simp [hb]
theorem Blk.other {w : World} {g g' : Nat} {cs : List Value} {t : TypeId} (h : Blk w g cs t) (hn : g ≠ g') (i : Nat) (u : Value) : Blk (w.setCell ⟨g', i, none⟩ u) g cs t := h.kept (Kp.setCell g' i u) hn
theorem Blk.drewN {w : World} {g : Nat} {cs : List Value} {t : TypeId} (h : Blk w g cs t) (d : Nat) : Blk (w.drewN d) g cs t := h
theorem Blk.ne {w : World} {g g' : Nat} {cs cs' : List Value} {t t' : TypeId} (h : Blk w g cs t) (h' : Blk w g' cs' t') (ht : t ≠ t') : g ≠ g' := by
  intro e; subst e
  have := Option.some.inj (h.symm.trans h')
  simp only [Obj.cells.injEq] at this
  exact ht this.2.1
theorem rb_blk {w : World} {g n : Nat} {f : Nat → Int} {t : TypeId} (h : Blk w g (bl n f) t) (hf : ∀ i, 0 ≤ f i ∧ f i < 256) (hn : n ≤ maxLen) : By.RB w (.slice (some ⟨g, 0, none⟩) n n) n f :=
  ⟨hf, _, _, rfl, Nat.le_refl _, hn, .inr ⟨g, 0, rfl, fun i hi => by rw [Nat.zero_add]; exact h.cell i _ (bl_get n f i hi)⟩⟩
theorem Kp.setRow {w : World} (g : Nat) (vs : Array Value) : Kp (fun k => k = g) w (w.setRow g vs) :=
  ⟨rfl, rfl, rfl, by simp [World.setRow], fun k _ hn => by simp only [World.setRow]; rw [Array.getElem?_modify, if_neg (fun e => hn e.symm)]⟩
theorem Blk.newAt (w : World) (a : Array Value) (cs : List Value) (t : TypeId) (g : Nat) (hg : g = w.heap.size) (ha : a = cs.toArray) : Blk (w.alloc (.cells a t)) g cs t := by
  subst hg; subst ha; exact Blk.new w cs t
theorem size_alloc (w : World) (o : Obj) : (w.alloc o).heap.size = w.heap.size + 1 := by simp
theorem below_set {B : Nat} {w w' : World} (h : Below B w w') (g i : Nat) (u : Value) (hg : B ≤ g) (hB : B ≤ w'.heap.size) : Below B w (w'.setCell ⟨g, i, none⟩ u) :=
  h.trans ((Kp.setCell g i u).below hB (fun k hk e => by omega))
theorem Blk.row {w : World} {g : Nat} {cs vs : List Value} {t : TypeId} (h : Blk w g cs t) : Blk (w.setRow g vs.toArray) g vs t := by
  have hb : w.heap[g]? = some (.cells cs.toArray t (0, 0)) := h
  simp only [Blk, World.setRow]
  rw [Array.getElem?_modify]
  simp [hb]
theorem results_cell1 {P : Program} {fn : Func} {p : Tmp} {ty : TypeId} {tmps : Array Value} {w : World} {a : Addr} {v : Value} (h : fn.results = #[.cell p ty]) (ha : tmps.getD p undef = .pointer (some a)) (hl : (loadVar ty a).run P w = .ok v w) :
    (results fn tmps).run P w = .ok v w := by
  have e1 : tmps[p]?.getD undef = .pointer (some a) := by rw [← ha]; simp [Array.getD_eq_getD_getElem?]
  simp only [results, h]
  simp [e1, asAddr, hl]
/-- Cells o, o + 1, .. of a list put in place of what was there. -/
def put (cs : List Value) (o : Nat) : List Value → List Value
  | [] => cs
  | v :: r => put (cs.set o v) (o + 1) r
theorem Blk.put {w : World} {g : Nat} {cs : List Value} {t : TypeId} (h : Blk w g cs t) (o : Nat) (vs : List Value) : Blk (w.setCells g o vs) g (put cs o vs) t := by
  induction vs generalizing w cs o with
  | nil => exact h
  | cons v r ih => exact ih (h.set o v) (o + 1)
theorem put_get (cs vs : List Value) (o i : Nat) (h : o + vs.length ≤ cs.length) : (put cs o vs)[i]? = if o ≤ i ∧ i < o + vs.length then vs[i - o]? else cs[i]? := by
  induction vs generalizing cs o with
  | nil => simp [Ae.put]; omega
  | cons v r ih =>
    simp only [List.length_cons] at h ⊢
    rw [Ae.put, ih _ _ (by simp; omega), List.getElem?_set]
    by_cases h1 : o = i
    · subst h1
      rw [if_neg (by omega), if_pos rfl, if_pos (by omega), if_pos (by omega)]; simp
    · by_cases h2 : o + 1 ≤ i ∧ i < o + 1 + r.length
      · rw [if_pos h2, if_pos (by omega)]
        rw [show i - o = (i - (o + 1)) + 1 from by omega]; rfl
      · rw [if_neg h2, if_neg h1, if_neg (by omega)]
theorem put_all (cs vs : List Value) (h : cs.length = vs.length) : put cs 0 vs = vs := by
  apply List.ext_getElem?
  intro i
  rw [put_get cs vs 0 i (by omega)]
  split
  · rfl
  · rw [List.getElem?_eq_none (by omega), List.getElem?_eq_none (by omega)]
theorem Kp.setCells {w : World} (g o : Nat) (vs : List Value) : Kp (fun k => k = g) w (w.setCells g o vs) := by
  induction vs generalizing w o with
  | nil => exact Kp.refl _ _
  | cons v r ih => exact (Kp.setCell g o v).trans (ih (o + 1)) (fun _ _ e => e)
theorem below_cells {B : Nat} {w w' : World} (h : Below B w w') (g o : Nat) (vs : List Value) (hg : B ≤ g) (hB : B ≤ w'.heap.size) : Below B w (w'.setCells g o vs) :=
  h.trans ((Kp.setCells g o vs).below hB (fun k hk e => by omega))
/-- A number's bytes as cells. -/
abbrev cb (b : Nat → Nat) (i : Nat) : Int := (b i : Int)
/-- A block as a value. -/
def bv (b : Nat → Nat) : Value := .agg (bl 16 (cb b)).toArray
end Go.Proofs.YtpohogpkfdebdaaGreatDoor.Ae
namespace Go.Proofs.YtpohogpkfdebdaaGreatDoor.Ae
open Go.ChangeShapes Go.WideShapes Go.ChangeAt Go.RowKit
open Go.Proofs.YtpohogpkfdebdaaGreatDoor.By Go.Proofs.YtpohogpkfdebdaaGreatDoor.Gf
def LDb (a : Addr) : Sem Value := loadVar 175 a
def SVb (a : Addr) (v : Value) : Sem Unit := storeVar 175 a v
@[go_sem ↓ high] theorem ldb (a : Addr) : loadVar 175 a = LDb a := rfl
@[go_sem ↓ high] theorem svb (a : Addr) (v : Value) : storeVar 175 a v = SVb a v := rfl
theorem infob : (Tryz.prog.info? 175).map (·.size) = some 16 := by kernel_rfl
theorem LDb_run {w : World} {g o : Nat} {cs : List Value} (h : w.rangeAt g o cs) (hl : cs.length = 16) : (LDb ⟨g, o, none⟩).run Tryz.prog w = .ok (.agg cs.toArray) w :=
  run_loadVar_mid w g o _ cs _ h Tryz.underlying175 rfl (by rw [hl]; exact infob)
theorem SVb_run {w : World} {g o : Nat} {cs : List Value} (h : w.there g o 16) (hl : cs.length = 16) (h1 : ∀ u ∈ cs, u.oneCell' = true) : (SVb ⟨g, o, none⟩ (.agg cs.toArray)).run Tryz.prog w = .ok () (w.setCells g o cs) :=
  run_storeVar_mid w g o _ cs.toArray (by simpa [hl] using h) (by simpa [hl] using infob) (all_oneCell_toArray h1)
def LDq (a : Addr) : Sem Value := loadVar 222 a
def SVq (a : Addr) (v : Value) : Sem Unit := storeVar 222 a v
@[go_sem ↓ high] theorem ldq (a : Addr) : loadVar 222 a = LDq a := rfl
@[go_sem ↓ high] theorem svq (a : Addr) (v : Value) : storeVar 222 a v = SVq a v := rfl
theorem infoq : (Tryz.prog.info? 222).map (·.size) = some 4 := by kernel_rfl
theorem LDq_run {w : World} {g o : Nat} {cs : List Value} (h : w.rangeAt g o cs) (hl : cs.length = 4) : (LDq ⟨g, o, none⟩).run Tryz.prog w = .ok (.agg cs.toArray) w :=
  run_loadVar_mid w g o _ cs _ h Tryz.underlying222 rfl (by rw [hl]; exact infoq)
theorem SVq_run {w : World} {g o : Nat} {cs : List Value} (h : w.there g o 4) (hl : cs.length = 4) (h1 : ∀ u ∈ cs, u.oneCell' = true) : (SVq ⟨g, o, none⟩ (.agg cs.toArray)).run Tryz.prog w = .ok () (w.setCells g o cs) :=
  run_storeVar_mid w g o _ cs.toArray (by simpa [hl] using h) (by simpa [hl] using infoq) (all_oneCell_toArray h1)
def LDw (a : Addr) : Sem Value := loadVar 228 a
def SVw (a : Addr) (v : Value) : Sem Unit := storeVar 228 a v
@[go_sem ↓ high] theorem ldw (a : Addr) : loadVar 228 a = LDw a := rfl
@[go_sem ↓ high] theorem svw (a : Addr) (v : Value) : storeVar 228 a v = SVw a v := rfl
theorem infow : (Tryz.prog.info? 228).map (·.size) = some 240 := by kernel_rfl
theorem LDw_run {w : World} {g o : Nat} {cs : List Value} (h : w.rangeAt g o cs) (hl : cs.length = 240) : (LDw ⟨g, o, none⟩).run Tryz.prog w = .ok (.agg cs.toArray) w :=
  run_loadVar_mid w g o _ cs _ h Tryz.underlying228 rfl (by rw [hl]; exact infow)
theorem SVw_run {w : World} {g o : Nat} {cs : List Value} (h : w.there g o 240) (hl : cs.length = 240) (h1 : ∀ u ∈ cs, u.oneCell' = true) : (SVw ⟨g, o, none⟩ (.agg cs.toArray)).run Tryz.prog w = .ok () (w.setCells g o cs) :=
  run_storeVar_mid w g o _ cs.toArray (by simpa [hl] using h) (by simpa [hl] using infow) (all_oneCell_toArray h1)
def LDc (a : Addr) : Sem Value := loadVar 231 a
def SVc (a : Addr) (v : Value) : Sem Unit := storeVar 231 a v
@[go_sem ↓ high] theorem ldc (a : Addr) : loadVar 231 a = LDc a := rfl
@[go_sem ↓ high] theorem svc (a : Addr) (v : Value) : storeVar 231 a v = SVc a v := rfl
theorem infoc : (Tryz.prog.info? 231).map (·.size) = some 241 := by kernel_rfl
theorem LDc_run {w : World} {g o : Nat} {cs : List Value} (h : w.rangeAt g o cs) (hl : cs.length = 241) : (LDc ⟨g, o, none⟩).run Tryz.prog w = .ok (.agg cs.toArray) w :=
  run_loadVar_mid w g o _ cs _ h Tryz.underlying231 rfl (by rw [hl]; exact infoc)
theorem SVc_run {w : World} {g o : Nat} {cs : List Value} (h : w.there g o 241) (hl : cs.length = 241) (h1 : ∀ u ∈ cs, u.oneCell' = true) : (SVc ⟨g, o, none⟩ (.agg cs.toArray)).run Tryz.prog w = .ok () (w.setCells g o cs) :=
  run_storeVar_mid w g o _ cs.toArray (by simpa [hl] using h) (by simpa [hl] using infoc) (all_oneCell_toArray h1)
def LDx (a : Addr) : Sem Value := loadVar 217 a
def SVx (a : Addr) (v : Value) : Sem Unit := storeVar 217 a v
@[go_sem ↓ high] theorem ldx (a : Addr) : loadVar 217 a = LDx a := rfl
@[go_sem ↓ high] theorem svx (a : Addr) (v : Value) : storeVar 217 a v = SVx a v := rfl
theorem infox : (Tryz.prog.info? 217).map (·.size) = some 256 := by kernel_rfl
end Go.Proofs.YtpohogpkfdebdaaGreatDoor.Ae
namespace Go.Proofs.YtpohogpkfdebdaaGreatDoor.Ae
open Go.ChangeShapes Go.WideShapes Go.ChangeAt Go.RowKit
open Go.Proofs.YtpohogpkfdebdaaGreatDoor.By Go.Proofs.YtpohogpkfdebdaaGreatDoor.Gf
theorem bl16 (b : Nat → Nat) : bl 16 (cb b) = [.int .u8 (b 0), .int .u8 (b 1), .int .u8 (b 2), .int .u8 (b 3), .int .u8 (b 4), .int .u8 (b 5), .int .u8 (b 6), .int .u8 (b 7), .int .u8 (b 8), .int .u8 (b 9), .int .u8 (b 10), .int .u8 (b 11), .int .u8 (b 12), .int .u8 (b 13), .int .u8 (b 14), .int .u8 (b 15)] := rfl
theorem below3 (w : World) (a b c : Obj) : Below w.heap.size w (((w.alloc a).alloc b).alloc c) :=
  (((Below.refl _ w).alloc (Nat.le_refl _) a).alloc (by simp) b).alloc (by simp; omega) c
/-- A list that is made byte by byte: the first k are there. -/
def upto (k : Nat) (f : Nat → Nat) (j : Nat) : Nat := if j < k then f j else 0
theorem upto_set (f : Nat → Nat) (k : Nat) : (bl 16 (cb (upto k f))).set k (.int .u8 (f k)) = bl 16 (cb (upto (k + 1) f)) := by
  rw [bl_set]
  refine bl_congr _ _ _ (fun i _ => ?_)
  show (if i = k then (f k : Int) else ((upto k f i : Nat) : Int)) = ((upto (k + 1) f i : Nat) : Int)
  unfold upto
  by_cases e : i = k
  · subst e; rw [if_pos rfl, if_pos (by omega)]
  · rw [if_neg e]
    by_cases h : i < k
    · rw [if_pos h, if_pos (by omega)]
    · rw [if_neg h, if_neg (by omega)]
theorem upto_all (f : Nat → Nat) : bl 16 (cb (upto 16 f)) = bl 16 (cb f) := bl_congr _ _ _ (fun i hi => by show ((upto 16 f i : Nat) : Int) = _; unfold upto; rw [if_pos hi])
theorem zero16 (f : Nat → Nat) : #[Value.int IntKind.u8 0, Value.int IntKind.u8 0, Value.int IntKind.u8 0, Value.int IntKind.u8 0, Value.int IntKind.u8 0, Value.int IntKind.u8 0, Value.int IntKind.u8 0, Value.int IntKind.u8 0, Value.int IntKind.u8 0, Value.int IntKind.u8 0, Value.int IntKind.u8 0, Value.int IntKind.u8 0, Value.int IntKind.u8 0, Value.int IntKind.u8 0, Value.int IntKind.u8 0, Value.int IntKind.u8 0] = (bl 16 (cb (upto 0 f))).toArray := rfl
theorem range0 {w : World} {g : Nat} {cs : List Value} {t : TypeId} (h : Blk w g cs t) : w.rangeAt g 0 cs := h.range 0 _ (fun j v h => by rw [Nat.zero_add]; exact h)
set_option maxHeartbeats 2000000 in
theorem turned1 (b : Nat → Nat) (w : World) : Calls Tryz.prog 200 #[bv b, .int .i64 1] w fun e w' => e = .returned (bv (trn 1 b)) ∧ Below w.heap.size w w' := by
  unfold bv
  go_enter Tryz.func200, Tryz.ntmps200
  go_wp2_with fail
  go_loopw [10] (fun i wr => ∃ k : Nat, k ≤ 16 ∧ i = .int .i64 k ∧ Blk wr w.heap.size (bl 16 (cb b)) 175 ∧ Blk wr (w.heap.size + 1) (bl 16 (cb (upto 0 b))) 175 ∧ Blk wr (w.heap.size + 1 + 1) (bl 16 (cb (upto k (trn 1 b)))) 175 ∧ Below w.heap.size w wr) (fun i _ => 16 - (intOf i).toNat)
  case atStart =>
    exact ⟨0, Nat.zero_le _, rfl, ((Blk.newAt _ _ _ _ _ rfl rfl).alloc _).alloc _, (Blk.newAt _ _ _ _ _ (by simp) (zero16 b)).alloc _, Blk.newAt _ _ _ _ _ (by simp) (zero16 _), below3 _ _ _ _⟩
  case round =>
    obtain ⟨k, hk, rfl, b0, b1, b2, hbel⟩ := hrel
    have B0 := hid b0
    have B1 := hid b1
    have B2 := hid b2
    have HB := hid hbel
    have HZ := hid b2.lt
    clear b0 b1 b2 hbel
    by_cases hlt : k < 16
    · have c1 := B0.out.cell (4 * ((k / 4 + k % 4 * 1) % 4) + k % 4) _ (bl_get 16 _ _ (trn_lt 1 k hlt))
      have HS := hid (upto_set (trn 1 b) k)
      have f2 := B2.out.frozen k
      have c2 := B2.out.cell k _ (bl_get 16 _ k hlt)
      rw [show cb b (4 * ((k / 4 + k % 4 * 1) % 4) + k % 4) = ((trn 1 b k : Nat) : Int) from rfl] at c1
      generalize trn 1 b k = x at c1 HS
      generalize cb (upto k (trn 1 b)) k = y at c2
      have hcase : k = 0 ∨ k = 1 ∨ k = 2 ∨ k = 3 ∨ k = 4 ∨ k = 5 ∨ k = 6 ∨ k = 7 ∨ k = 8 ∨ k = 9 ∨ k = 10 ∨ k = 11 ∨ k = 12 ∨ k = 13 ∨ k = 14 ∨ k = 15 := by omega
      clear hlt hk
      rcases hcase with rfl | rfl | rfl | rfl | rfl | rfl | rfl | rfl | rfl | rfl | rfl | rfl | rfl | rfl | rfl | rfl
      all_goals
        simp only [Nat.reduceDiv, Nat.reduceMod, Nat.reduceAdd, Nat.reduceMul] at c1
        go_wp2_with fail
        have hz := HZ.out
        refine ⟨⟨_, ?_, rfl, B0.out.other (by omega) _ _, B1.out.other (by omega) _ _, ?_, below_set HB.out _ _ _ (by omega) (by omega)⟩, ?_⟩
        rotate_left
        · rw [← HS.out]; exact B2.out.set _ _
        · simp [intOf]
        · exact Nat.le_of_ble_eq_true rfl
    · have ek : k = 16 := by omega
      subst ek
      rw [upto_all] at B2
      have l1 := LDb_run (range0 B2.out) (bl_length _ _)
      have s1 := SVb_run (cs := bl 16 (cb (trn 1 b))) (B1.out.there 0 16 (by rw [bl_length]; omega)) (bl_length _ _) (bl_one _ _)
      have b3 := B1.out.put 0 (bl 16 (cb (trn 1 b)))
      rw [put_all _ _ (by rw [bl_length, bl_length])] at b3
      have l2 := hid (LDb_run (range0 b3) (bl_length _ _))
      clear b3
      go_wp2
      have hz := HZ.out
      refine bodyPost_ret ?_ rfl ⟨rfl, below_cells HB.out _ _ _ (by omega) HB.out.size⟩
      exact results_cell1 Tryz.results200 rfl l2.out
end Go.Proofs.YtpohogpkfdebdaaGreatDoor.Ae
