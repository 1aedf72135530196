/- SHA-256 as functions of numbers: what a block makes of eight words; no program in it. -/
import Derived.Test.YtojldjckpjokcaaGreatDoorRows
import Derived.Test.YtojldjckpjokcaaGreatDoorKword
import Derived.Test.YtojldjckpjokcaaGreatDoorRbase
import Derived.Deep.MidRow
import Derived.Deep.WholeRow
namespace Go.Proofs.YtojldjckpjokcaaGreatDoor.Sh
open Go.ChangeShapes Go.WideShapes Go.ChangeAt Go.RowKit
open Go.Proofs.YtojldjckpjokcaaGreatDoor.By Go.Proofs.YtojldjckpjokcaaGreatDoor.Wd

/-- Words of 32 bits: turned right, exclusive or, and, the complement, the sum that wraps round. -/
def rr (x n : Int) : Int := Rot 32 x (32 - n)
def xr (a b : Int) : Int := bits .xor .u32 a b
def an (a b : Int) : Int := bits .and .u32 a b
def nt (a : Int) : Int := bits .xor .u32 (if IntKind.u32.signed = true then -1 else IntKind.u32.max) a
def ad (a b : Int) : Int := (a + b) % 4294967296
def W32 (x : Int) : Prop := 0 ≤ x ∧ x < 4294967296
theorem ad_w (a b : Int) : W32 (ad a b) := by unfold ad W32; omega
theorem bits_w (op : BinOp) (a b : Int) : W32 (bits op .u32 a b) := by
  have h : ∀ n : Nat, W32 (IntKind.u32.wrap (n : Int)) := fun n => by rw [IntKind.wrap_u32]; unfold W32; omega
  unfold bits
  exact h _
theorem xr_w (a b : Int) : W32 (xr a b) := bits_w _ _ _
theorem an_w (a b : Int) : W32 (an a b) := bits_w _ _ _
theorem nt_w (a : Int) : W32 (nt a) := bits_w _ _ _
theorem rr_w (x n : Int) (h : W32 x) : W32 (rr x n) := by
  have h0 : (n : Int) = n := rfl
  have hl : ((32 - n) % (32 : Nat)).toNat < 32 := by omega
  have := rotN_lt 32 ((32 - n) % (32 : Nat)).toNat x.toNat (by omega) (by have := h.2; have := h.1; show x.toNat < 4294967296; omega)
  unfold rr Rot W32
  have e : (2 : Nat) ^ 32 = 4294967296 := by decide
  omega

/-- The table k. -/
def kl : List Int := [1116352408, 1899447441, 3049323471, 3921009573, 961987163, 1508970993, 2453635748, 2870763221, 3624381080, 310598401, 607225278, 1426881987, 1925078388, 2162078206, 2614888103, 3248222580, 3835390401, 4022224774, 264347078, 604807628, 770255983, 1249150122, 1555081692, 1996064986, 2554220882, 2821834349, 2952996808, 3210313671, 3336571891, 3584528711, 113926993, 338241895, 666307205, 773529912, 1294757372, 1396182291, 1695183700, 1986661051, 2177026350, 2456956037, 2730485921, 2820302411, 3259730800, 3345764771, 3516065817, 3600352804, 4094571909, 275423344, 430227734, 506948616, 659060556, 883997877, 958139571, 1322822218, 1537002063, 1747873779, 1955562222, 2024104815, 2227730452, 2361852424, 2428436474, 2756734187, 3204031479, 3329325298]
def K (t : Nat) : Int := kl.getD t 0
/-- h0 to h7 at the beginning. -/
def bgl : List Int := [1779033703, 3144134277, 1013904242, 2773480762, 1359893119, 2600822924, 528734635, 1541459225]
def bg (i : Nat) : Int := bgl.getD i 0
theorem bg_w (i : Nat) : W32 (bg i) := by
  unfold bg
  by_cases h : i < 8
  · exact (show ∀ j, j < 8 → W32 (bgl.getD j 0) from by unfold W32; decide) i h
  · rw [List.getD_eq_getElem?_getD, List.getElem?_eq_none (by show 8 ≤ i; omega)]; unfold W32; decide

def uu (y : Int) : Int := xr (xr (rr y 17) (rr y 19)) (y / 1024)
def vv (x : Int) : Int := xr (xr (rr x 7) (rr x 18)) (x / 8)
/-- w[t] out of the words ahead of it. -/
def nxt (b : Nat → Int) (t : Nat) (T : Nat → Int) : Int :=
  if t < 16 then BE (fun i => b (4 * t + i)) 4 else ad (uu (T (t - 2)) + T (t - 7) + vv (T (t - 15))) (T (t - 16))
/-- w[0] to w[t-1], noughts behind them. -/
def tab (b : Nat → Int) : Nat → Nat → Int
  | 0 => fun _ => 0
  | t + 1 => fun i => if i = t then nxt b t (tab b t) else tab b t i
theorem nxt_w (b : Nat → Int) (hb : ∀ i, 0 ≤ b i ∧ b i < 256) (t : Nat) (T : Nat → Int) : W32 (nxt b t T) := by
  unfold nxt
  split
  · have := BE_bound (fun i => b (4 * t + i)) (fun i => hb _) 4
    exact ⟨this.1, this.2⟩
  · exact ad_w _ _
theorem tab_w (b : Nat → Int) (hb : ∀ i, 0 ≤ b i ∧ b i < 256) (t i : Nat) : W32 (tab b t i) := by
  induction t with
  | zero => unfold tab W32; decide
  | succ t ih => unfold tab; split
                 · exact nxt_w b hb t _
                 · exact ih
/-- One of the 64 steps. -/
def pp (x : Nat → Int) (k w : Int) : Int := ad (x 7 + xr (xr (rr (x 4) 6) (rr (x 4) 11)) (rr (x 4) 25) + xr (an (x 4) (x 5)) (an (nt (x 4)) (x 6)) + k) w
def qq (x : Nat → Int) : Int := ad (xr (xr (rr (x 0) 2) (rr (x 0) 13)) (rr (x 0) 22)) (xr (xr (an (x 0) (x 1)) (an (x 0) (x 2))) (an (x 1) (x 2)))
def stp (x : Nat → Int) (k w : Int) (i : Nat) : Int :=
  if i = 0 then ad (pp x k w) (qq x) else if i = 4 then ad (x 3) (pp x k w) else x (i - 1)
def rnds (h T : Nat → Int) : Nat → Nat → Int
  | 0 => h
  | t + 1 => stp (rnds h T t) (K t) (T t)
/-- The words behind a block. -/
def comp (h b : Nat → Int) (i : Nat) : Int := ad (h i) (rnds h (tab b 64) 64 i)
theorem stp_w (x : Nat → Int) (k w : Int) (hx : ∀ i, W32 (x i)) (i : Nat) : W32 (stp x k w i) := by
  unfold stp
  split
  · exact ad_w _ _
  · split
    · exact ad_w _ _
    · exact hx _
theorem rnds_w (h T : Nat → Int) (hh : ∀ i, W32 (h i)) (t i : Nat) : W32 (rnds h T t i) := by
  induction t generalizing i with
  | zero => exact hh i
  | succ t ih => exact stp_w _ _ _ ih i
theorem comp_w (h b : Nat → Int) (i : Nat) : W32 (comp h b i) := ad_w _ _

/-- n words as cells. -/
def wl (n : Nat) (g : Nat → Int) : List Value := (List.range n).map fun i => Value.int .u32 (g i)
theorem wl_length (n : Nat) (g : Nat → Int) : (wl n g).length = n := by simp [wl]
theorem wl_get (n : Nat) (g : Nat → Int) (i : Nat) (h : i < n) : (wl n g)[i]? = some (.int .u32 (g i)) := by simp [wl, h]
theorem wl_one (n : Nat) (g : Nat → Int) : ∀ u ∈ wl n g, u.oneCell' = true := by
  intro u hu
  simp [wl] at hu
  obtain ⟨i, _, rfl⟩ := hu
  rfl
theorem wl_congr (n : Nat) (f g : Nat → Int) (h : ∀ i, i < n → f i = g i) : wl n f = wl n g := by
  apply List.map_congr_left
  intro i hi
  rw [h i (List.mem_range.1 hi)]
theorem wl_set (n : Nat) (g : Nat → Int) (k : Nat) (x : Int) : (wl n g).set k (.int .u32 x) = wl n (fun i => if i = k then x else g i) := by
  apply List.ext_getElem?
  intro i
  rw [List.getElem?_set]
  by_cases h : i < n
  · by_cases e : k = i
    · subst e; rw [wl_get _ _ _ h]; simp [wl_length, h]; simp [wl]
    · have e' : ¬ i = k := fun h => e h.symm
      rw [wl_get _ _ _ h, wl_get _ _ _ h]; simp [e, e']
  · rw [List.getElem?_eq_none (by rw [wl_length]; omega), List.getElem?_eq_none (by rw [wl_length]; omega)]
    simp only [wl_length]; split
    · rw [if_neg (by omega)]
    · rfl
theorem wl_tab (b : Nat → Int) (n t : Nat) (x : Int) (h : x = nxt b t (tab b t)) : (wl n (tab b t)).set t (.int .u32 x) = wl n (tab b (t + 1)) := by
  rw [wl_set, h]; rfl

/-- Block g holds just the cells cs. -/
def Blk (w : World) (g : Nat) (cs : List Value) (t : TypeId) : Prop := w.heap[g]? = some (.cells cs.toArray t (0, 0))
theorem Blk.lt {w : World} {g : Nat} {cs : List Value} {t : TypeId} (h : Blk w g cs t) : g < w.heap.size := (Array.getElem?_eq_some_iff.1 h).1
theorem Blk.cell {w : World} {g : Nat} {cs : List Value} {t : TypeId} (h : Blk w g cs t) (i : Nat) (v : Value) (hi : cs[i]? = some v) : w.cell? ⟨g, i, none⟩ = some v := by
  rw [cell_of_row w g i _ t (0, 0) h]; simpa using hi
theorem Blk.range {w : World} {g : Nat} {cs : List Value} {t : TypeId} (h : Blk w g cs t) (o : Nat) (vs : List Value) (hv : ∀ j v, vs[j]? = some v → cs[o + j]? = some v) : w.rangeAt g o vs := fun j v hj => h.cell _ _ (hv j v hj)
theorem Blk.frozen {w : World} {g : Nat} {cs : List Value} {t : TypeId} (h : Blk w g cs t) (i : Nat) : w.frozen? ⟨g, i, none⟩ = false := frozen_of_row w g i _ t h
theorem Blk.there {w : World} {g : Nat} {cs : List Value} {t : TypeId} (h : Blk w g cs t) (o n : Nat) (hn : o + n ≤ cs.length) : w.there g o n := fun j hj => by
  refine ⟨?_, h.frozen _⟩
  rw [h.cell (o + j) _ (List.getElem?_eq_getElem (by omega))]; rfl
theorem Blk.kept {w w' : World} {g : Nat} {cs : List Value} {t : TypeId} {S : Nat → Prop} (h : Blk w g cs t) (hk : Kp S w w') (hn : ¬ S g) : Blk w' g cs t := (hk.block g h.lt hn).trans h
theorem Blk.below {w w' : World} {g : Nat} {cs : List Value} {t : TypeId} (h : Blk w g cs t) (hb : Below w.heap.size w w') : Blk w' g cs t := h.kept (Kp.of_below (fun _ => False) hb) id
theorem Blk.alloc {w : World} {g : Nat} {cs : List Value} {t : TypeId} (h : Blk w g cs t) (o : Obj) : Blk (w.alloc o) g cs t := h.below (below_alloc w o)
theorem Blk.new (w : World) (cs : List Value) (t : TypeId) : Blk (w.alloc (.cells cs.toArray t)) w.heap.size cs t := heap_alloc_last w _
theorem Blk.set {w : World} {g : Nat} {cs : List Value} {t : TypeId} (h : Blk w g cs t) (i : Nat) (u : Value) : Blk (w.setCell ⟨g, i, none⟩ u) g (cs.set i u) t := by
  have hb : w.heap[g]? = some (.cells cs.toArray t (0, 0)) := h
  simp only [Blk, World.setCell]
  rw [Array.getElem?_modify]
  simp [hb]
theorem Blk.other {w : World} {g g' : Nat} {cs : List Value} {t : TypeId} (h : Blk w g cs t) (hn : g ≠ g') (i : Nat) (u : Value) : Blk (w.setCell ⟨g', i, none⟩ u) g cs t := h.kept (Kp.setCell g' i u) hn
theorem Blk.drewN {w : World} {g : Nat} {cs : List Value} {t : TypeId} (h : Blk w g cs t) (d : Nat) : Blk (w.drewN d) g cs t := h
theorem Blk.ne {w : World} {g g' : Nat} {cs cs' : List Value} {t t' : TypeId} (h : Blk w g cs t) (h' : Blk w g' cs' t') (ht : t ≠ t') : g ≠ g' := by
  intro e; subst e
  have := Option.some.inj (h.symm.trans h')
  simp only [Obj.cells.injEq] at this
  exact ht this.2.1
theorem rb_blk {w : World} {g n : Nat} {f : Nat → Int} {t : TypeId} (h : Blk w g (bl n f) t) (hf : ∀ i, 0 ≤ f i ∧ f i < 256) (hn : n ≤ maxLen) : By.RB w (.slice (some ⟨g, 0, none⟩) n n) n f :=
  ⟨hf, _, _, rfl, Nat.le_refl _, hn, .inr ⟨g, 0, rfl, fun i hi => by rw [Nat.zero_add]; exact h.cell i _ (bl_get n f i hi)⟩⟩
theorem BE_blk (f : Nat → Int) (t : Nat) (ht : t < 16) (T : Nat → Int) : BE (fun i => Byt f 64 (4 * (t : Int) + i)) 4 = nxt f t T := by
  unfold nxt
  rw [if_pos ht]
  refine BE_congr _ _ 4 (fun i hi => ?_)
  rw [Byt_in f 64 _ (by omega) (by omega)]
  congr 1
theorem Kp.setRow {w : World} (g : Nat) (vs : Array Value) : Kp (fun k => k = g) w (w.setRow g vs) :=
  ⟨rfl, rfl, rfl, by simp [World.setRow], fun k _ hn => by simp only [World.setRow]; rw [Array.getElem?_modify, if_neg (fun e => hn e.symm)]⟩
theorem Blk.newAt (w : World) (a : Array Value) (cs : List Value) (t : TypeId) (g : Nat) (hg : g = w.heap.size) (ha : a = cs.toArray) : Blk (w.alloc (.cells a t)) g cs t := by
  subst hg; subst ha; exact Blk.new w cs t
theorem size_alloc (w : World) (o : Obj) : (w.alloc o).heap.size = w.heap.size + 1 := by simp
theorem below_set {B : Nat} {w w' : World} (h : Below B w w') (g i : Nat) (u : Value) (hg : B ≤ g) (hB : B ≤ w'.heap.size) : Below B w (w'.setCell ⟨g, i, none⟩ u) :=
  h.trans ((Kp.setCell g i u).below hB (fun k hk e => by omega))
theorem below_row {B : Nat} {w w' : World} (h : Below B w w') (g : Nat) (vs : Array Value) (hg : B ≤ g) (hB : B ≤ w'.heap.size) : Below B w (w'.setRow g vs) :=
  h.trans ((Kp.setRow g vs).below hB (fun k hk e => by omega))
theorem Blk.load {P : Program} {w : World} {g : Nat} {cs : List Value} {t ty : TypeId} (h : Blk w g cs t) (d : TypeDesc) (hu : P.underlying ty = some d) (hd : d.isRow = true) (hi : (P.info? ty).map (·.size) = some cs.length) :
    (Instr.loadAt ty (.pointer (some ⟨g, 0, none⟩))).run P w = .ok (.agg cs.toArray) w :=
  run_loadAt_mid w g 0 ty cs d (fun j v hv => by rw [Nat.zero_add]; exact h.cell j v hv) hu hd hi
theorem Blk.row {w : World} {g : Nat} {cs vs : List Value} {t : TypeId} (h : Blk w g cs t) : Blk (w.setRow g vs.toArray) g vs t := by
  have hb : w.heap[g]? = some (.cells cs.toArray t (0, 0)) := h
  simp only [Blk, World.setRow]
  rw [Array.getElem?_modify]
  simp [hb]
theorem Blk.store {P : Program} {w : World} {g : Nat} {cs vs : List Value} {t ty : TypeId} (h : Blk w g cs t) (hi : (P.info? ty).map (·.size) = some vs.length) (hl : cs.length = vs.length) (h1 : ∀ u ∈ vs, u.oneCell' = true) :
    (Instr.storeAt ty (.pointer (some ⟨g, 0, none⟩)) (.agg vs.toArray)).run P w = .ok () (w.setRow g vs.toArray) := by
  simp only [Instr.storeAt, Instr.sureAddr, Sem.run_bind, Sem.run_pure, Result.andThen_ok]
  exact run_storeVar_row w g t ty cs.toArray vs.toArray h (by simpa using hi) (by simpa using hl) (all_oneCell_toArray h1)
/-- Whole arrays and states, loaded and stored at once. -/
def LDw (a : Addr) : Sem Value := loadVar 132 a
def SVw (a : Addr) (v : Value) : Sem Unit := storeVar 132 a v
def LDh (a : Addr) : Sem Value := loadVar 116 a
def SVh (a : Addr) (v : Value) : Sem Unit := storeVar 116 a v
def LDb (a : Addr) : Sem Value := loadVar 118 a
def SVb (a : Addr) (v : Value) : Sem Unit := storeVar 118 a v
def LDs (a : Addr) : Sem Value := loadVar 120 a
def SVs (a : Addr) (v : Value) : Sem Unit := storeVar 120 a v
@[go_sem ↓ high] theorem ldw (a : Addr) : loadVar 132 a = LDw a := rfl
@[go_sem ↓ high] theorem svw (a : Addr) (v : Value) : storeVar 132 a v = SVw a v := rfl
@[go_sem ↓ high] theorem ldh (a : Addr) : loadVar 116 a = LDh a := rfl
@[go_sem ↓ high] theorem svh (a : Addr) (v : Value) : storeVar 116 a v = SVh a v := rfl
@[go_sem ↓ high] theorem ldb (a : Addr) : loadVar 118 a = LDb a := rfl
@[go_sem ↓ high] theorem svb (a : Addr) (v : Value) : storeVar 118 a v = SVb a v := rfl
@[go_sem ↓ high] theorem lds (a : Addr) : loadVar 120 a = LDs a := rfl
@[go_sem ↓ high] theorem svs (a : Addr) (v : Value) : storeVar 120 a v = SVs a v := rfl
theorem infoW : (Tryz.prog.info? 132).map (·.size) = some 64 := by kernel_rfl
theorem infoH : (Tryz.prog.info? 116).map (·.size) = some 8 := by kernel_rfl
theorem infoB : (Tryz.prog.info? 118).map (·.size) = some 64 := by kernel_rfl
theorem infoS : (Tryz.prog.info? 120).map (·.size) = some 74 := by kernel_rfl
theorem LDw_run {w : World} {g o : Nat} {cs : List Value} (h : w.rangeAt g o cs) (hl : cs.length = 64) : (LDw ⟨g, o, none⟩).run Tryz.prog w = .ok (.agg cs.toArray) w :=
  run_loadVar_mid w g o _ cs _ h Tryz.underlying132 rfl (by rw [hl]; exact infoW)
theorem LDh_run {w : World} {g o : Nat} {cs : List Value} (h : w.rangeAt g o cs) (hl : cs.length = 8) : (LDh ⟨g, o, none⟩).run Tryz.prog w = .ok (.agg cs.toArray) w :=
  run_loadVar_mid w g o _ cs _ h Tryz.underlying116 rfl (by rw [hl]; exact infoH)
theorem LDb_run {w : World} {g o : Nat} {cs : List Value} (h : w.rangeAt g o cs) (hl : cs.length = 64) : (LDb ⟨g, o, none⟩).run Tryz.prog w = .ok (.agg cs.toArray) w :=
  run_loadVar_mid w g o _ cs _ h Tryz.underlying118 rfl (by rw [hl]; exact infoB)
theorem LDs_run {w : World} {g o : Nat} {cs : List Value} (h : w.rangeAt g o cs) (hl : cs.length = 74) : (LDs ⟨g, o, none⟩).run Tryz.prog w = .ok (.agg cs.toArray) w :=
  run_loadVar_mid w g o _ cs _ h Tryz.underlying120 rfl (by rw [hl]; exact infoS)
theorem SVw_run {w : World} {g o : Nat} {cs : List Value} (h : w.there g o 64) (hl : cs.length = 64) (h1 : ∀ u ∈ cs, u.oneCell' = true) : (SVw ⟨g, o, none⟩ (.agg cs.toArray)).run Tryz.prog w = .ok () (w.setCells g o cs) :=
  run_storeVar_mid w g o _ cs.toArray (by simpa [hl] using h) (by simpa [hl] using infoW) (all_oneCell_toArray h1)
theorem SVh_run {w : World} {g o : Nat} {cs : List Value} (h : w.there g o 8) (hl : cs.length = 8) (h1 : ∀ u ∈ cs, u.oneCell' = true) : (SVh ⟨g, o, none⟩ (.agg cs.toArray)).run Tryz.prog w = .ok () (w.setCells g o cs) :=
  run_storeVar_mid w g o _ cs.toArray (by simpa [hl] using h) (by simpa [hl] using infoH) (all_oneCell_toArray h1)
theorem SVb_run {w : World} {g o : Nat} {cs : List Value} (h : w.there g o 64) (hl : cs.length = 64) (h1 : ∀ u ∈ cs, u.oneCell' = true) : (SVb ⟨g, o, none⟩ (.agg cs.toArray)).run Tryz.prog w = .ok () (w.setCells g o cs) :=
  run_storeVar_mid w g o _ cs.toArray (by simpa [hl] using h) (by simpa [hl] using infoB) (all_oneCell_toArray h1)
theorem SVs_run {w : World} {g o : Nat} {cs : List Value} (h : w.there g o 74) (hl : cs.length = 74) (h1 : ∀ u ∈ cs, u.oneCell' = true) : (SVs ⟨g, o, none⟩ (.agg cs.toArray)).run Tryz.prog w = .ok () (w.setCells g o cs) :=
  run_storeVar_mid w g o _ cs.toArray (by simpa [hl] using h) (by simpa [hl] using infoS) (all_oneCell_toArray h1)
theorem results_cell1 {P : Program} {fn : Func} {p : Tmp} {ty : TypeId} {tmps : Array Value} {w : World} {a : Addr} {v : Value} (h : fn.results = #[.cell p ty]) (ha : tmps.getD p undef = .pointer (some a)) (hl : (loadVar ty a).run P w = .ok v w) :
    (results fn tmps).run P w = .ok v w := by
  have e1 : tmps[p]?.getD undef = .pointer (some a) := by rw [← ha]; simp [Array.getD_eq_getD_getElem?]
  simp only [results, h]
  simp [e1, asAddr, hl]
/-- Cells o, o + 1, .. of a list put in place of what was there. -/
def put (cs : List Value) (o : Nat) : List Value → List Value
  | [] => cs
  | v :: r => put (cs.set o v) (o + 1) r
theorem put_length (cs vs : List Value) (o : Nat) : (put cs o vs).length = cs.length := by
  induction vs generalizing cs o with
  | nil => rfl
  | cons v r ih => simp [put, ih]
theorem Blk.put {w : World} {g : Nat} {cs : List Value} {t : TypeId} (h : Blk w g cs t) (o : Nat) (vs : List Value) : Blk (w.setCells g o vs) g (put cs o vs) t := by
  induction vs generalizing w cs o with
  | nil => exact h
  | cons v r ih => exact ih (h.set o v) (o + 1)
theorem put_get (cs vs : List Value) (o i : Nat) (h : o + vs.length ≤ cs.length) : (put cs o vs)[i]? = if o ≤ i ∧ i < o + vs.length then vs[i - o]? else cs[i]? := by
  induction vs generalizing cs o with
  | nil => simp [Sh.put]; omega
  | cons v r ih =>
    simp only [List.length_cons] at h ⊢
    rw [Sh.put, ih _ _ (by simp; omega), List.getElem?_set]
    by_cases h1 : o = i
    · subst h1
      rw [if_neg (by omega), if_pos rfl, if_pos (by omega), if_pos (by omega)]; simp
    · by_cases h2 : o + 1 ≤ i ∧ i < o + 1 + r.length
      · rw [if_pos h2, if_pos (by omega)]
        rw [show i - o = (i - (o + 1)) + 1 from by omega]; rfl
      · rw [if_neg h2, if_neg h1, if_neg (by omega)]
theorem put_all (cs vs : List Value) (h : cs.length = vs.length) : put cs 0 vs = vs := by
  apply List.ext_getElem?
  intro i
  rw [put_get cs vs 0 i (by omega)]
  split
  · rfl
  · rw [List.getElem?_eq_none (by omega), List.getElem?_eq_none (by omega)]
theorem Kp.setCells {w : World} (g o : Nat) (vs : List Value) : Kp (fun k => k = g) w (w.setCells g o vs) := by
  induction vs generalizing w o with
  | nil => exact Kp.refl _ _
  | cons v r ih => exact (Kp.setCell g o v).trans (ih (o + 1)) (fun _ _ e => e)
theorem below_cells {B : Nat} {w w' : World} (h : Below B w w') (g o : Nat) (vs : List Value) (hg : B ≤ g) (hB : B ≤ w'.heap.size) : Below B w (w'.setCells g o vs) :=
  h.trans ((Kp.setCells g o vs).below hB (fun k hk e => by omega))
end Go.Proofs.YtojldjckpjokcaaGreatDoor.Sh
