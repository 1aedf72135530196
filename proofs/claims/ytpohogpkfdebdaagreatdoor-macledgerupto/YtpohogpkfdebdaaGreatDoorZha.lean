/- SHA-256 as functions of numbers: what a block makes of eight words; no program in it. What the program's functions on a block answer: right, spread, compress. What the program's function compress answers. A state of the program: what it holds of a message, and what New, isNone, Len, Clone, Reset answer. -/
import Derived.Test.YtpohogpkfdebdaaGreatDoorRows
import Derived.Test.YtpohogpkfdebdaaGreatDoorZa
import Derived.Test.YtpohogpkfdebdaaGreatDoorZr
import Derived.Deep.MidRow
import Derived.Deep.WholeRow
namespace Go.Proofs.YtpohogpkfdebdaaGreatDoor.Sh
open Go.ChangeShapes Go.WideShapes Go.ChangeAt Go.RowKit
open Go.Proofs.YtpohogpkfdebdaaGreatDoor.By Go.Proofs.YtpohogpkfdebdaaGreatDoor.Wd

/-- Words of 32 bits: turned right, exclusive or, and, the complement, the sum that wraps round. -/
def rr (x n : Int) : Int := Rot 32 x (32 - n)
def xr (a b : Int) : Int := bits .xor .u32 a b
def an (a b : Int) : Int := bits .and .u32 a b
def nt (a : Int) : Int := bits .xor .u32 (if IntKind.u32.signed = true then -1 else IntKind.u32.max) a
def ad (a b : Int) : Int := (a + b) % 4294967296
def W32 (x : Int) : Prop := 0 ≤ x ∧ x < 4294967296
theorem ad_w (a b : Int) : W32 (ad a b) := by unfold ad W32; omega
/-- The table k. -/
def kl : List Int := [1116352408, 1899447441, 3049323471, 3921009573, 961987163, 1508970993, 2453635748, 2870763221, 3624381080, 310598401, 607225278, 1426881987, 1925078388, 2162078206, 2614888103, 3248222580, 3835390401, 4022224774, 264347078, 604807628, 770255983, 1249150122, 1555081692, 1996064986, 2554220882, 2821834349, 2952996808, 3210313671, 3336571891, 3584528711, 113926993, 338241895, 666307205, 773529912, 1294757372, 1396182291, 1695183700, 1986661051, 2177026350, 2456956037, 2730485921, 2820302411, 3259730800, 3345764771, 3516065817, 3600352804, 4094571909, 275423344, 430227734, 506948616, 659060556, 883997877, 958139571, 1322822218, 1537002063, 1747873779, 1955562222, 2024104815, 2227730452, 2361852424, 2428436474, 2756734187, 3204031479, 3329325298]
def K (t : Nat) : Int := kl.getD t 0
/-- h0 to h7 at the beginning. -/
def bgl : List Int := [1779033703, 3144134277, 1013904242, 2773480762, 1359893119, 2600822924, 528734635, 1541459225]
def bg (i : Nat) : Int := bgl.getD i 0
theorem bg_w (i : Nat) : W32 (bg i) := by
  unfold bg
  by_cases h : i < 8
  · exact (show ∀ j, j < 8 → W32 (bgl.getD j 0) from by unfold W32; decide) i h
  · rw [List.getD_eq_getElem?_getD, List.getElem?_eq_none (by show 8 ≤ i; omega)]; unfold W32; decide

def uu (y : Int) : Int := xr (xr (rr y 17) (rr y 19)) (y / 1024)
def vv (x : Int) : Int := xr (xr (rr x 7) (rr x 18)) (x / 8)
/-- w[t] out of the words ahead of it. -/
def nxt (b : Nat → Int) (t : Nat) (T : Nat → Int) : Int :=
  if t < 16 then BE (fun i => b (4 * t + i)) 4 else ad (uu (T (t - 2)) + T (t - 7) + vv (T (t - 15))) (T (t - 16))
/-- w[0] to w[t-1], noughts behind them. -/
def tab (b : Nat → Int) : Nat → Nat → Int
  | 0 => fun _ => 0
  | t + 1 => fun i => if i = t then nxt b t (tab b t) else tab b t i
theorem nxt_w (b : Nat → Int) (hb : ∀ i, 0 ≤ b i ∧ b i < 256) (t : Nat) (T : Nat → Int) : W32 (nxt b t T) := by
  unfold nxt
  split
  · have := BE_bound (fun i => b (4 * t + i)) (fun i => hb _) 4
    exact ⟨this.1, this.2⟩
  · exact ad_w _ _
theorem tab_w (b : Nat → Int) (hb : ∀ i, 0 ≤ b i ∧ b i < 256) (t i : Nat) : W32 (tab b t i) := by
  induction t with
  | zero => unfold tab W32; decide
  | succ t ih => unfold tab; split
                 · exact nxt_w b hb t _
                 · exact ih
/-- One of the 64 steps. -/
def pp (x : Nat → Int) (k w : Int) : Int := ad (x 7 + xr (xr (rr (x 4) 6) (rr (x 4) 11)) (rr (x 4) 25) + xr (an (x 4) (x 5)) (an (nt (x 4)) (x 6)) + k) w
def qq (x : Nat → Int) : Int := ad (xr (xr (rr (x 0) 2) (rr (x 0) 13)) (rr (x 0) 22)) (xr (xr (an (x 0) (x 1)) (an (x 0) (x 2))) (an (x 1) (x 2)))
def stp (x : Nat → Int) (k w : Int) (i : Nat) : Int :=
  if i = 0 then ad (pp x k w) (qq x) else if i = 4 then ad (x 3) (pp x k w) else x (i - 1)
def rnds (h T : Nat → Int) : Nat → Nat → Int
  | 0 => h
  | t + 1 => stp (rnds h T t) (K t) (T t)
/-- The words behind a block. -/
def comp (h b : Nat → Int) (i : Nat) : Int := ad (h i) (rnds h (tab b 64) 64 i)
theorem stp_w (x : Nat → Int) (k w : Int) (hx : ∀ i, W32 (x i)) (i : Nat) : W32 (stp x k w i) := by
  unfold stp
  split
  · exact ad_w _ _
  · split
    · exact ad_w _ _
    · exact hx _
theorem rnds_w (h T : Nat → Int) (hh : ∀ i, W32 (h i)) (t i : Nat) : W32 (rnds h T t i) := by
  induction t generalizing i with
  | zero => exact hh i
  | succ t ih => exact stp_w _ _ _ ih i
theorem comp_w (h b : Nat → Int) (i : Nat) : W32 (comp h b i) := ad_w _ _

/-- n words as cells. -/
def wl (n : Nat) (g : Nat → Int) : List Value := (List.range n).map fun i => Value.int .u32 (g i)
theorem wl_length (n : Nat) (g : Nat → Int) : (wl n g).length = n := by simp [wl]
theorem wl_get (n : Nat) (g : Nat → Int) (i : Nat) (h : i < n) : (wl n g)[i]? = some (.int .u32 (g i)) := by simp [wl, h]
theorem wl_one (n : Nat) (g : Nat → Int) : ∀ u ∈ wl n g, u.oneCell' = true := by
  intro u hu
  simp [wl] at hu
  obtain ⟨i, _, rfl⟩ := hu
  rfl
theorem wl_set (n : Nat) (g : Nat → Int) (k : Nat) (x : Int) : (wl n g).set k (.int .u32 x) = wl n (fun i => if i = k then x else g i) := by
  apply List.ext_getElem?
  intro i
  rw [List.getElem?_set]
  by_cases h : i < n
  · by_cases e : k = i
    · subst e; rw [wl_get _ _ _ h]; simp [wl_length, h]; simp [wl]
    · have e' : ¬ i = k := fun h => e h.symm
      rw [wl_get _ _ _ h, wl_get _ _ _ h]; simp [e, e']
  · rw [List.getElem?_eq_none (by rw [wl_length]; omega), List.getElem?_eq_none (by rw [wl_length]; omega)]
    simp only [wl_length]; split
    · rw [if_neg (by omega)]
    · rfl
theorem wl_tab (b : Nat → Int) (n t : Nat) (x : Int) (h : x = nxt b t (tab b t)) : (wl n (tab b t)).set t (.int .u32 x) = wl n (tab b (t + 1)) := by
  rw [wl_set, h]; rfl

/-- Block g holds just the cells cs. -/
def Blk (w : World) (g : Nat) (cs : List Value) (t : TypeId) : Prop := w.heap[g]? = some (.cells cs.toArray t (0, 0))
theorem Blk.lt {w : World} {g : Nat} {cs : List Value} {t : TypeId} (h : Blk w g cs t) : g < w.heap.size := (Array.getElem?_eq_some_iff.1 h).1
theorem Blk.cell {w : World} {g : Nat} {cs : List Value} {t : TypeId} (h : Blk w g cs t) (i : Nat) (v : Value) (hi : cs[i]? = some v) : w.cell? ⟨g, i, none⟩ = some v := by
  rw [cell_of_row w g i _ t (0, 0) h]; simpa using hi
theorem Blk.range {w : World} {g : Nat} {cs : List Value} {t : TypeId} (h : Blk w g cs t) (o : Nat) (vs : List Value) (hv : ∀ j v, vs[j]? = some v → cs[o + j]? = some v) : w.rangeAt g o vs := fun j v hj => h.cell _ _ (hv j v hj)
theorem Blk.frozen {w : World} {g : Nat} {cs : List Value} {t : TypeId} (h : Blk w g cs t) (i : Nat) : w.frozen? ⟨g, i, none⟩ = false := frozen_of_row w g i _ t h
theorem Blk.there {w : World} {g : Nat} {cs : List Value} {t : TypeId} (h : Blk w g cs t) (o n : Nat) (hn : o + n ≤ cs.length) : w.there g o n := fun j hj => by
  refine ⟨?_, h.frozen _⟩
  rw [h.cell (o + j) _ (List.getElem?_eq_getElem (by omega))]; rfl
theorem Blk.kept {w w' : World} {g : Nat} {cs : List Value} {t : TypeId} {S : Nat → Prop} (h : Blk w g cs t) (hk : Kp S w w') (hn : ¬ S g) : Blk w' g cs t := (hk.block g h.lt hn).trans h
theorem Blk.below {w w' : World} {g : Nat} {cs : List Value} {t : TypeId} (h : Blk w g cs t) (hb : Below w.heap.size w w') : Blk w' g cs t := h.kept (Kp.of_below (fun _ => False) hb) id
theorem Blk.alloc {w : World} {g : Nat} {cs : List Value} {t : TypeId} (h : Blk w g cs t) (o : Obj) : Blk (w.alloc o) g cs t := h.below (below_alloc w o)
theorem Blk.new (w : World) (cs : List Value) (t : TypeId) : Blk (w.alloc (.cells cs.toArray t)) w.heap.size cs t := heap_alloc_last w _
theorem Blk.set {w : World} {g : Nat} {cs : List Value} {t : TypeId} (h : Blk w g cs t) (i : Nat) (u : Value) : Blk (w.setCell ⟨g, i, none⟩ u) g (cs.set i u) t := by
  have hb : w.heap[g]? = some (.cells cs.toArray t (0, 0)) := h
  simp only [Blk, World.setCell]
  rw [Array.getElem?_modify]
  simp [hb]
theorem Blk.other {w : World} {g g' : Nat} {cs : List Value} {t : TypeId} (h : Blk w g cs t) (hn : g ≠ g') (i : Nat) (u : Value) : Blk (w.setCell ⟨g', i, none⟩ u) g cs t := h.kept (Kp.setCell g' i u) hn
theorem Blk.drewN {w : World} {g : Nat} {cs : List Value} {t : TypeId} (h : Blk w g cs t) (d : Nat) : Blk (w.drewN d) g cs t := h
theorem Blk.ne {w : World} {g g' : Nat} {cs cs' : List Value} {t t' : TypeId} (h : Blk w g cs t) (h' : Blk w g' cs' t') (ht : t ≠ t') : g ≠ g' := by
  intro e; subst e
  have := Option.some.inj (h.symm.trans h')
  simp only [Obj.cells.injEq] at this
  exact ht this.2.1
theorem rb_blk {w : World} {g n : Nat} {f : Nat → Int} {t : TypeId} (h : Blk w g (bl n f) t) (hf : ∀ i, 0 ≤ f i ∧ f i < 256) (hn : n ≤ maxLen) : By.RB w (.slice (some ⟨g, 0, none⟩) n n) n f :=
  ⟨hf, _, _, rfl, Nat.le_refl _, hn, .inr ⟨g, 0, rfl, fun i hi => by rw [Nat.zero_add]; exact h.cell i _ (bl_get n f i hi)⟩⟩
theorem BE_blk (f : Nat → Int) (t : Nat) (ht : t < 16) (T : Nat → Int) : BE (fun i => Byt f 64 (4 * (t : Int) + i)) 4 = nxt f t T := by
  unfold nxt
  rw [if_pos ht]
  refine BE_congr _ _ 4 (fun i hi => ?_)
  rw [Byt_in f 64 _ (by omega) (by omega)]
  congr 1
theorem Kp.setRow {w : World} (g : Nat) (vs : Array Value) : Kp (fun k => k = g) w (w.setRow g vs) :=
  ⟨rfl, rfl, rfl, by simp [World.setRow], fun k _ hn => by simp only [World.setRow]; rw [Array.getElem?_modify, if_neg (fun e => hn e.symm)]⟩
theorem Blk.newAt (w : World) (a : Array Value) (cs : List Value) (t : TypeId) (g : Nat) (hg : g = w.heap.size) (ha : a = cs.toArray) : Blk (w.alloc (.cells a t)) g cs t := by
  subst hg; subst ha; exact Blk.new w cs t
theorem size_alloc (w : World) (o : Obj) : (w.alloc o).heap.size = w.heap.size + 1 := by simp
theorem below_set {B : Nat} {w w' : World} (h : Below B w w') (g i : Nat) (u : Value) (hg : B ≤ g) (hB : B ≤ w'.heap.size) : Below B w (w'.setCell ⟨g, i, none⟩ u) :=
  h.trans ((Kp.setCell g i u).below hB (fun k hk e => by omega))
theorem Blk.row {w : World} {g : Nat} {cs vs : List Value} {t : TypeId} (h : Blk w g cs t) : Blk (w.setRow g vs.toArray) g vs t := by
  have hb : w.heap[g]? = some (.cells cs.toArray t (0, 0)) := h
  simp only [Blk, World.setRow]
  rw [Array.getElem?_modify]
  simp [hb]
/-- Whole arrays and states, loaded and stored at once. -/
def LDw (a : Addr) : Sem Value := loadVar 299 a
def SVw (a : Addr) (v : Value) : Sem Unit := storeVar 299 a v
def LDh (a : Addr) : Sem Value := loadVar 276 a
def SVh (a : Addr) (v : Value) : Sem Unit := storeVar 276 a v
def LDb (a : Addr) : Sem Value := loadVar 280 a
def SVb (a : Addr) (v : Value) : Sem Unit := storeVar 280 a v
def LDs (a : Addr) : Sem Value := loadVar 282 a
def SVs (a : Addr) (v : Value) : Sem Unit := storeVar 282 a v
@[go_sem ↓ high] theorem ldw (a : Addr) : loadVar 299 a = LDw a := rfl
@[go_sem ↓ high] theorem svw (a : Addr) (v : Value) : storeVar 299 a v = SVw a v := rfl
@[go_sem ↓ high] theorem ldh (a : Addr) : loadVar 276 a = LDh a := rfl
@[go_sem ↓ high] theorem svh (a : Addr) (v : Value) : storeVar 276 a v = SVh a v := rfl
@[go_sem ↓ high] theorem ldb (a : Addr) : loadVar 280 a = LDb a := rfl
@[go_sem ↓ high] theorem svb (a : Addr) (v : Value) : storeVar 280 a v = SVb a v := rfl
@[go_sem ↓ high] theorem lds (a : Addr) : loadVar 282 a = LDs a := rfl
@[go_sem ↓ high] theorem svs (a : Addr) (v : Value) : storeVar 282 a v = SVs a v := rfl
theorem infoW : (Tryz.prog.info? 299).map (·.size) = some 64 := by kernel_rfl
theorem infoH : (Tryz.prog.info? 276).map (·.size) = some 8 := by kernel_rfl
theorem infoB : (Tryz.prog.info? 280).map (·.size) = some 64 := by kernel_rfl
theorem infoS : (Tryz.prog.info? 282).map (·.size) = some 74 := by kernel_rfl
theorem LDw_run {w : World} {g o : Nat} {cs : List Value} (h : w.rangeAt g o cs) (hl : cs.length = 64) : (LDw ⟨g, o, none⟩).run Tryz.prog w = .ok (.agg cs.toArray) w :=
  run_loadVar_mid w g o _ cs _ h Tryz.underlying299 rfl (by rw [hl]; exact infoW)
theorem LDh_run {w : World} {g o : Nat} {cs : List Value} (h : w.rangeAt g o cs) (hl : cs.length = 8) : (LDh ⟨g, o, none⟩).run Tryz.prog w = .ok (.agg cs.toArray) w :=
  run_loadVar_mid w g o _ cs _ h Tryz.underlying276 rfl (by rw [hl]; exact infoH)
theorem LDb_run {w : World} {g o : Nat} {cs : List Value} (h : w.rangeAt g o cs) (hl : cs.length = 64) : (LDb ⟨g, o, none⟩).run Tryz.prog w = .ok (.agg cs.toArray) w :=
  run_loadVar_mid w g o _ cs _ h Tryz.underlying280 rfl (by rw [hl]; exact infoB)
theorem LDs_run {w : World} {g o : Nat} {cs : List Value} (h : w.rangeAt g o cs) (hl : cs.length = 74) : (LDs ⟨g, o, none⟩).run Tryz.prog w = .ok (.agg cs.toArray) w :=
  run_loadVar_mid w g o _ cs _ h Tryz.underlying282 rfl (by rw [hl]; exact infoS)
theorem SVw_run {w : World} {g o : Nat} {cs : List Value} (h : w.there g o 64) (hl : cs.length = 64) (h1 : ∀ u ∈ cs, u.oneCell' = true) : (SVw ⟨g, o, none⟩ (.agg cs.toArray)).run Tryz.prog w = .ok () (w.setCells g o cs) :=
  run_storeVar_mid w g o _ cs.toArray (by simpa [hl] using h) (by simpa [hl] using infoW) (all_oneCell_toArray h1)
theorem SVh_run {w : World} {g o : Nat} {cs : List Value} (h : w.there g o 8) (hl : cs.length = 8) (h1 : ∀ u ∈ cs, u.oneCell' = true) : (SVh ⟨g, o, none⟩ (.agg cs.toArray)).run Tryz.prog w = .ok () (w.setCells g o cs) :=
  run_storeVar_mid w g o _ cs.toArray (by simpa [hl] using h) (by simpa [hl] using infoH) (all_oneCell_toArray h1)
theorem SVb_run {w : World} {g o : Nat} {cs : List Value} (h : w.there g o 64) (hl : cs.length = 64) (h1 : ∀ u ∈ cs, u.oneCell' = true) : (SVb ⟨g, o, none⟩ (.agg cs.toArray)).run Tryz.prog w = .ok () (w.setCells g o cs) :=
  run_storeVar_mid w g o _ cs.toArray (by simpa [hl] using h) (by simpa [hl] using infoB) (all_oneCell_toArray h1)
theorem SVs_run {w : World} {g o : Nat} {cs : List Value} (h : w.there g o 74) (hl : cs.length = 74) (h1 : ∀ u ∈ cs, u.oneCell' = true) : (SVs ⟨g, o, none⟩ (.agg cs.toArray)).run Tryz.prog w = .ok () (w.setCells g o cs) :=
  run_storeVar_mid w g o _ cs.toArray (by simpa [hl] using h) (by simpa [hl] using infoS) (all_oneCell_toArray h1)
theorem results_cell1 {P : Program} {fn : Func} {p : Tmp} {ty : TypeId} {tmps : Array Value} {w : World} {a : Addr} {v : Value} (h : fn.results = #[.cell p ty]) (ha : tmps.getD p undef = .pointer (some a)) (hl : (loadVar ty a).run P w = .ok v w) :
    (results fn tmps).run P w = .ok v w := by
  have e1 : tmps[p]?.getD undef = .pointer (some a) := by rw [← ha]; simp [Array.getD_eq_getD_getElem?]
  simp only [results, h]
  simp [e1, asAddr, hl]
/-- Cells o, o + 1, .. of a list put in place of what was there. -/
def put (cs : List Value) (o : Nat) : List Value → List Value
  | [] => cs
  | v :: r => put (cs.set o v) (o + 1) r
theorem Blk.put {w : World} {g : Nat} {cs : List Value} {t : TypeId} (h : Blk w g cs t) (o : Nat) (vs : List Value) : Blk (w.setCells g o vs) g (put cs o vs) t := by
  induction vs generalizing w cs o with
  | nil => exact h
  | cons v r ih => exact ih (h.set o v) (o + 1)
theorem put_get (cs vs : List Value) (o i : Nat) (h : o + vs.length ≤ cs.length) : (put cs o vs)[i]? = if o ≤ i ∧ i < o + vs.length then vs[i - o]? else cs[i]? := by
  induction vs generalizing cs o with
  | nil => simp [Sh.put]; omega
  | cons v r ih =>
    simp only [List.length_cons] at h ⊢
    rw [Sh.put, ih _ _ (by simp; omega), List.getElem?_set]
    by_cases h1 : o = i
    · subst h1
      rw [if_neg (by omega), if_pos rfl, if_pos (by omega), if_pos (by omega)]; simp
    · by_cases h2 : o + 1 ≤ i ∧ i < o + 1 + r.length
      · rw [if_pos h2, if_pos (by omega)]
        rw [show i - o = (i - (o + 1)) + 1 from by omega]; rfl
      · rw [if_neg h2, if_neg h1, if_neg (by omega)]
theorem put_all (cs vs : List Value) (h : cs.length = vs.length) : put cs 0 vs = vs := by
  apply List.ext_getElem?
  intro i
  rw [put_get cs vs 0 i (by omega)]
  split
  · rfl
  · rw [List.getElem?_eq_none (by omega), List.getElem?_eq_none (by omega)]
theorem Kp.setCells {w : World} (g o : Nat) (vs : List Value) : Kp (fun k => k = g) w (w.setCells g o vs) := by
  induction vs generalizing w o with
  | nil => exact Kp.refl _ _
  | cons v r ih => exact (Kp.setCell g o v).trans (ih (o + 1)) (fun _ _ e => e)
theorem below_cells {B : Nat} {w w' : World} (h : Below B w w') (g o : Nat) (vs : List Value) (hg : B ≤ g) (hB : B ≤ w'.heap.size) : Below B w (w'.setCells g o vs) :=
  h.trans ((Kp.setCells g o vs).below hB (fun k hk e => by omega))
end Go.Proofs.YtpohogpkfdebdaaGreatDoor.Sh
namespace Go.Proofs.YtpohogpkfdebdaaGreatDoor.Sh
open Go.ChangeShapes Go.WideShapes Go.ChangeAt Go.RowKit
open Go.Proofs.YtpohogpkfdebdaaGreatDoor.By Go.Proofs.YtpohogpkfdebdaaGreatDoor.Wd

theorem drewN_three (Z : World) (n x d : Nat) : (Z.drewN (n + x)).drewN d = Z.drewN (n + (x + d)) := by rw [drewN_two, Nat.add_assoc]
theorem right71 (x n : Int) (w : World) (hx : W32 x) (hn : 0 ≤ n ∧ n ≤ 32) :
    Calls Tryz.prog 286 #[.int .u32 x, .int .i64 n] w fun e w' => e = .returned (.int .u32 (rr x n)) ∧ ∃ k, w' = w.drewN k := by
  have H := hid hx
  have E : Hid (Rot 32 x (32 - n) = rr x n) := rfl
  go_enter Tryz.func286, Tryz.ntmps286
  go_wp2_with (go_at_call 243; refine (turn9 _ _ _ H.out.1 H.out.2).mono ?_; rintro e w' ⟨rfl, k, rfl⟩)
  go_ret
  exact ⟨rfl, _, rfl⟩


theorem wz64 : #[Value.int .u32 0, .int .u32 0, .int .u32 0, .int .u32 0, .int .u32 0, .int .u32 0, .int .u32 0, .int .u32 0, .int .u32 0, .int .u32 0, .int .u32 0, .int .u32 0, .int .u32 0, .int .u32 0, .int .u32 0, .int .u32 0, .int .u32 0, .int .u32 0, .int .u32 0, .int .u32 0, .int .u32 0, .int .u32 0, .int .u32 0, .int .u32 0, .int .u32 0, .int .u32 0, .int .u32 0, .int .u32 0, .int .u32 0, .int .u32 0, .int .u32 0, .int .u32 0, .int .u32 0, .int .u32 0, .int .u32 0, .int .u32 0, .int .u32 0, .int .u32 0, .int .u32 0, .int .u32 0, .int .u32 0, .int .u32 0, .int .u32 0, .int .u32 0, .int .u32 0, .int .u32 0, .int .u32 0, .int .u32 0, .int .u32 0, .int .u32 0, .int .u32 0, .int .u32 0, .int .u32 0, .int .u32 0, .int .u32 0, .int .u32 0, .int .u32 0, .int .u32 0, .int .u32 0, .int .u32 0, .int .u32 0, .int .u32 0, .int .u32 0, .int .u32 0] = (wl 64 (fun _ => 0)).toArray := by kernel_rfl
set_option maxRecDepth 4000 in
set_option maxHeartbeats 2000000 in
theorem spread70 (f : Nat → Int) (hf : ∀ i, 0 ≤ f i ∧ f i < 256) (w : World) :
    Calls Tryz.prog 285 #[.agg (bl 64 f).toArray] w fun e w' => e = .returned (.agg (wl 64 (tab f 64)).toArray) ∧ Below w.heap.size w w' := by
  have HF := hid hf
  clear hf
  go_enter Tryz.func285, Tryz.ntmps285
  go_wp2_with fail
  go_loopw [10] (fun i wr => ∃ k : Nat, k ≤ 16 ∧ i = .int .i64 k ∧ Blk wr w.heap.size (bl 64 f) 280 ∧ Blk wr (w.heap.size + 1) (wl 64 (fun _ => 0)) 299 ∧ Blk wr (w.heap.size + 1 + 1) (wl 64 (tab f k)) 299 ∧ Below w.heap.size w wr) (fun i _ => 16 - (intOf i).toNat)
  case atStart =>
    refine ⟨0, Nat.zero_le _, rfl, ((Blk.new w _ _).alloc _).alloc _, (Blk.newAt _ _ _ _ _ (by rw [size_alloc]) wz64).alloc _, Blk.newAt _ _ _ _ _ (by rw [size_alloc, size_alloc]) wz64, ?_⟩
    exact below_next (below_next (below_alloc w _) (below_alloc _ _)) (below_alloc _ _)
  case round =>
    obtain ⟨k, hk, rfl, b0, b1, b2, hbel⟩ := hrel
    have HR := hid (rb_blk b0 HF.out (by decide))
    have B0 := hid b0
    have B1 := hid b1
    have B2 := hid b2
    have HB := hid hbel
    have HZ := hid b2.lt
    clear b0 b1 b2 hbel
    by_cases hlt : k < 16
    · have c1 := B2.out.cell k _ (wl_get 64 _ k (by omega))
      have c2 := B2.out.frozen k
      go_wp2_with (go_at_call 244; refine (take36 _ _ f _ _ HR.out (by omega) (by omega) (by omega)).mono ?_; rintro e w' ⟨rfl, rfl⟩)
      have hz := HZ.out
      refine ⟨⟨k + 1, by omega, by go_num, B0.out.other (by omega) _ _, B1.out.other (by omega) _ _, ?_, below_set HB.out _ _ _ (by omega) (by omega)⟩, by simp [intOf]; omega⟩
      rw [← wl_tab f 64 k _ (BE_blk f k hlt _)]
      exact B2.out.set k _
    · have ek : k = 16 := by omega
      subst ek
      go_wp2_with fail
      go_loopw [5] (fun i wr => ∃ k : Nat, 16 ≤ k ∧ k ≤ 64 ∧ i = .int .i64 k ∧ Blk wr (w.heap.size + 1) (wl 64 (fun _ => 0)) 299 ∧ Blk wr (w.heap.size + 1 + 1) (wl 64 (tab f k)) 299 ∧ Below w.heap.size w wr) (fun i _ => 64 - (intOf i).toNat)
      case atStart => exact ⟨16, by omega, by omega, rfl, B1.out, B2.out, HB.out⟩
      case round =>
        clear B0 B1 B2 HB HZ HR
        obtain ⟨k, hk0, hk, rfl, b1, b2, hbel⟩ := hrel
        have B1 := hid b1
        have B2 := hid b2
        have HB := hid hbel
        have HZ := hid b2.lt
        have HW := hid (tab_w f HF.out k)
        clear b1 b2 hbel
        by_cases hlt : k < 64
        · have c15 := B2.out.cell (k - 15) _ (wl_get 64 _ (k - 15) (by omega))
          have c2 := B2.out.cell (k - 2) _ (wl_get 64 _ (k - 2) (by omega))
          have c7 := B2.out.cell (k - 7) _ (wl_get 64 _ (k - 7) (by omega))
          have c16 := B2.out.cell (k - 16) _ (wl_get 64 _ (k - 16) (by omega))
          have c1 := B2.out.cell k _ (wl_get 64 _ k (by omega))
          have cf := B2.out.frozen k
          have e15 : ((k : Int) - 15).toNat = k - 15 := by omega
          have e2 : ((k : Int) - 2).toNat = k - 2 := by omega
          have e7 : ((k : Int) - 7).toNat = k - 7 := by omega
          have e16 : ((k : Int) - 16).toNat = k - 16 := by omega
          go_wp2_with fail
          go_quiet (fail)
          go_wp2_with (go_at_call 286; refine (right71 _ _ _ (HW.out _) (by omega)).mono ?_; rintro e w' ⟨rfl, d, rfl⟩)
          go_region
          go_wp2
          have hz := HZ.out
          go_roundw
          case rel =>
            refine ⟨_, _, _, _, _, _, _, _, _, _, _, _, _, _, _, _, _, _, _, _, _, _, _, _, _, _, _, _, _, _, _, _, _, _, _, _, _, _, _, _, _, _, _, _, _, _, _, _, ?_, rfl⟩
            refine ⟨k + 1, by omega, by omega, by go_num, (B1.out.drewN _).other (by omega) _ _, ?_, below_set (below_drew' HB.out _) _ _ _ (by omega) (by show w.heap.size ≤ wr.heap.size; omega)⟩
            rw [← wl_tab f 64 k _ (show _ = nxt f k (tab f k) from by unfold nxt; rw [if_neg (by omega)])]
            exact (B2.out.drewN _).set k _
          case measure => simp [intOf]; omega
        · have ek : k = 64 := by omega
          subst ek
          have l1 := LDw_run (B2.out.range 0 _ (fun j v h => by rw [Nat.zero_add]; exact h)) (wl_length _ _)
          have s1 := SVw_run (cs := wl 64 (tab f 64)) (B1.out.there 0 64 (by rw [wl_length]; omega)) (wl_length _ _) (wl_one _ _)
          have b3 := B1.out.put 0 (wl 64 (tab f 64))
          rw [put_all _ _ (by rw [wl_length, wl_length])] at b3
          have l2 := hid (LDw_run (b3.range 0 _ (fun j v h => by rw [Nat.zero_add]; exact h)) (wl_length _ _))
          clear b3
          go_wp2
          have hz := HZ.out
          refine bodyPost_ret (v := .agg (wl 64 (tab f 64)).toArray) ?_ rfl ⟨rfl, below_cells HB.out _ _ _ (by omega) (by omega)⟩
          exact results_cell1 Tryz.results285 rfl l2.out

/-- The program's table lies in its place. -/
def KT (w : World) : Prop := w.rangeAt 1 0 (wl 64 K)
theorem KT.lt {w : World} (h : KT w) : 1 < w.heap.size := by
  have := h 0 _ (wl_get 64 K 0 (by omega))
  exact block_lt_of_cell this
theorem KT.kept {w w' : World} {S : Nat → Prop} (h : KT w) (hk : Kp S w w') (hn : ¬ S 1) : KT w' := fun j v hv => by
  have h1 := h j v hv
  have e := hk.block 1 h.lt hn
  rw [← h1]
  simp [World.cell?, e]
theorem KT.below {w w' : World} (h : KT w) (hb : Below w.heap.size w w') : KT w' := h.kept (Kp.of_below (fun _ => False) hb) id
theorem KT.drewN {w : World} (h : KT w) (d : Nat) : KT (w.drewN d) := h
end Go.Proofs.YtpohogpkfdebdaaGreatDoor.Sh
namespace Go.Proofs.YtpohogpkfdebdaaGreatDoor.Sh
open Go.ChangeShapes Go.WideShapes Go.ChangeAt Go.RowKit
open Go.Proofs.YtpohogpkfdebdaaGreatDoor.By Go.Proofs.YtpohogpkfdebdaaGreatDoor.Wd
theorem h8 : #[Value.int .u32 0, .int .u32 0, .int .u32 0, .int .u32 0, .int .u32 0, .int .u32 0, .int .u32 0, .int .u32 0] = (wl 8 (fun _ => 0)).toArray := by kernel_rfl
theorem wl8 (h : Nat → Int) : wl 8 h = [.int .u32 (h 0), .int .u32 (h 1), .int .u32 (h 2), .int .u32 (h 3), .int .u32 (h 4), .int .u32 (h 5), .int .u32 (h 6), .int .u32 (h 7)] := rfl
set_option maxRecDepth 4000 in
set_option maxHeartbeats 4000000 in
theorem compress64 (h f : Nat → Int) (hh : ∀ i, W32 (h i)) (hf : ∀ i, 0 ≤ f i ∧ f i < 256) (w : World) (hk : KT w) :
    Calls Tryz.prog 263 #[.agg (wl 8 h).toArray, .agg (bl 64 f).toArray] w fun e w' => e = .returned (.agg (wl 8 (comp h f)).toArray) ∧ Below w.heap.size w w' := by
  have HH := hid hh
  have HF := hid hf
  have HK := hid hk
  have l1 := LDb_run ((((Blk.new (w.alloc (.cells (wl 8 h).toArray 276)) (bl 64 f) 280)).alloc (.cells #[Value.int .u32 0, .int .u32 0, .int .u32 0, .int .u32 0, .int .u32 0, .int .u32 0, .int .u32 0, .int .u32 0] 276)).range 0 _ (fun j v h => by rw [Nat.zero_add]; exact h)) (bl_length _ _)
  rw [size_alloc] at l1
  clear hh hf hk
  go_enter Tryz.func263, Tryz.ntmps263
  go_wp2_with fail
  refine (spread70 f HF.out _).mono ?_
  rintro e w1 ⟨rfl, hb1⟩
  have b0 := (((Blk.new w (wl 8 h) 276).alloc (.cells (bl 64 f).toArray 280)).alloc (.cells (wl 8 (fun _ => 0)).toArray 276)).below hb1
  have b2 := ((Blk.newAt ((w.alloc (.cells (wl 8 h).toArray 276)).alloc (.cells (bl 64 f).toArray 280)) _ (wl 8 (fun _ => 0)) 276 (w.heap.size + 1 + 1) (by simp) h8)).below hb1
  have B0 := hid b0
  have B2 := hid b2
  clear b0 b2 l1
  have bel := below_next (below_next (below_next (below_alloc w _) (below_alloc _ _)) (below_alloc _ _)) hb1
  have HB := hid bel
  have hk1 := hid (HK.out.below bel)
  have HS := hid bel.size
  clear bel hb1
  have s1 := SVw_run (cs := wl 64 (tab f 64)) ((Blk.newAt w1 _ (wl 64 (fun _ => 0)) 299 w1.heap.size rfl wz64).there 0 64 (by rw [wl_length]; omega)) (wl_length _ _) (wl_one _ _)
  go_wp2_with fail
  have hz := HS.out
  have b5 := (Blk.newAt w1 _ (wl 64 (fun _ => 0)) 299 w1.heap.size rfl wz64).put 0 (wl 64 (tab f 64))
  rw [put_all _ _ (by rw [wl_length, wl_length])] at b5
  have B5 := hid b5
  have b0 := hid ((B0.out.alloc (.cells (wl 64 (fun _ => 0)).toArray 299)).kept (Kp.setCells w1.heap.size 0 (wl 64 (tab f 64))) (by have := B0.out.lt; omega))
  have b2 := hid ((B2.out.alloc (.cells (wl 64 (fun _ => 0)).toArray 299)).kept (Kp.setCells w1.heap.size 0 (wl 64 (tab f 64))) (by have := B2.out.lt; omega))
  have k2 := hid ((hk1.out.below (below_alloc w1 (.cells (wl 64 (fun _ => 0)).toArray 299))).kept (Kp.setCells w1.heap.size 0 (wl 64 (tab f 64))) (by have := hk1.out.lt; omega))
  have bel := hid (below_cells (below_next HB.out (below_alloc w1 (.cells (wl 64 (fun _ => 0)).toArray 299))) w1.heap.size 0 (wl 64 (tab f 64)) hz (by rw [size_alloc]; omega))
  rw [← wz64] at b0 b2 k2 bel
  clear s1 hz b5 B0 B2 hk1 HB HS HK
  obtain ⟨w2, hw2⟩ : ∃ x, World.setCells (w1.alloc (.cells (wl 64 (fun _ => 0)).toArray 299)) w1.heap.size 0 (wl 64 (tab f 64)) = x := ⟨_, rfl⟩
  rw [← wz64] at hw2
  rw [hw2]
  rw [hw2] at b0 b2 k2 bel B5
  clear hw2
  have HT := hid (tab_w f HF.out 64)
  obtain ⟨g5, hg5⟩ : ∃ x, w1.heap.size = x := ⟨_, rfl⟩
  rw [hg5]
  rw [hg5] at B5
  clear hg5
  obtain ⟨T, eT⟩ : ∃ x, tab f 64 = x := ⟨_, rfl⟩
  rw [eT]
  rw [eT] at B5 HT
  have hT : Hid (tab f 64 = T) := eT
  clear eT
  have c0 := b0.out.cell 0 _ (wl_get 8 h 0 (by omega))
  have c1 := b0.out.cell 1 _ (wl_get 8 h 1 (by omega))
  have c2 := b0.out.cell 2 _ (wl_get 8 h 2 (by omega))
  have c3 := b0.out.cell 3 _ (wl_get 8 h 3 (by omega))
  have c4 := b0.out.cell 4 _ (wl_get 8 h 4 (by omega))
  have c5 := b0.out.cell 5 _ (wl_get 8 h 5 (by omega))
  have c6 := b0.out.cell 6 _ (wl_get 8 h 6 (by omega))
  have c7 := b0.out.cell 7 _ (wl_get 8 h 7 (by omega))
  go_quiet (fail)
  go_wp2_with fail
  go_loopw [6, 7, 8, 9, 10, 11, 12, 13, 35] (fun x0 x1 x2 x3 x4 x5 x6 x7 i wr => ∃ t n : Nat, t ≤ 64 ∧ i = .int .i64 t ∧ x0 = .int .u32 (rnds h T t 0) ∧ x1 = .int .u32 (rnds h T t 1) ∧ x2 = .int .u32 (rnds h T t 2) ∧ x3 = .int .u32 (rnds h T t 3) ∧ x4 = .int .u32 (rnds h T t 4) ∧ x5 = .int .u32 (rnds h T t 5) ∧ x6 = .int .u32 (rnds h T t 6) ∧ x7 = .int .u32 (rnds h T t 7) ∧ wr = w2.drewN n) (fun _ _ _ _ _ _ _ _ i _ => 64 - (intOf i).toNat)
  case atStart => exact ⟨0, _, by omega, rfl, rfl, rfl, rfl, rfl, rfl, rfl, rfl, rfl, rfl⟩
  case round =>
    obtain ⟨t, n, ht, rfl, rfl, rfl, rfl, rfl, rfl, rfl, rfl, rfl, rfl⟩ := hrel
    have HX := hid (rnds_w h T HH.out t)
    by_cases hlt : t < 64
    · have ck := k2.out t _ (wl_get 64 K t hlt)
      rw [Nat.zero_add] at ck
      have ct := B5.out.cell t _ (wl_get 64 T t hlt)
      have EX : Hid (rnds h T (t + 1) = stp (rnds h T t) (K t) (T t)) := rfl
      clear c0 c1 c2 c3 c4 c5 c6 c7
      obtain ⟨x, ex⟩ : ∃ x, rnds h T t = x := ⟨_, rfl⟩
      rw [ex]
      rw [ex] at HX EX
      clear ex
      obtain ⟨kt, ekt⟩ : ∃ x, K t = x := ⟨_, rfl⟩
      rw [ekt] at ck EX
      clear ekt
      obtain ⟨tt, ett⟩ : ∃ x, T t = x := ⟨_, rfl⟩
      rw [ett] at ct EX
      clear ett
      go_wp2_with fail
      go_quiet ((go_at_call 286; (first | with_reducible refine (right71 (x 4) 6 _ (HX.out _) (by omega)).mono ?_ | with_reducible refine (right71 (x 4) 11 _ (HX.out _) (by omega)).mono ?_ | with_reducible refine (right71 (x 4) 25 _ (HX.out _) (by omega)).mono ?_); rintro e w4 ⟨rfl, d, rfl⟩; exact ⟨rfl, _, drewN_three _ _ _ _⟩))
      go_wp2_with (go_at_call 286; refine (right71 _ _ _ (HX.out _) (by omega)).mono ?_; rintro e w' ⟨rfl, d, rfl⟩)
      go_roundw
      case rel =>
        refine ⟨t + 1, _, by omega, by go_num, ?_, ?_, ?_, ?_, ?_, ?_, ?_, ?_, rfl⟩ <;> rw [EX.out] <;> rfl
      case measure => simp [intOf]; omega
    · have ek : t = 64 := by omega
      subst ek
      have HC : Hid (∀ i, comp h f i = ad (h i) (rnds h T 64 i)) := fun i => by unfold comp; rw [hT.out]
      obtain ⟨x, ex⟩ : ∃ x, rnds h T 64 = x := ⟨_, rfl⟩
      rw [ex]
      rw [ex] at HC
      clear ex
      have s1 := fun d => SVh_run (w := w2.drewN d) (cs := [.int .u32 ((h 0 + x 0) % 4294967296), .int .u32 ((h 1 + x 1) % 4294967296), .int .u32 ((h 2 + x 2) % 4294967296), .int .u32 ((h 3 + x 3) % 4294967296), .int .u32 ((h 4 + x 4) % 4294967296), .int .u32 ((h 5 + x 5) % 4294967296), .int .u32 ((h 6 + x 6) % 4294967296), .int .u32 ((h 7 + x 7) % 4294967296)]) ((b2.out.drewN d).there 0 8 (by rw [wl_length]; omega)) rfl (by intro u hu; simp at hu; rcases hu with rfl | rfl | rfl | rfl | rfl | rfl | rfl | rfl <;> rfl)
      go_wp2
      have b4 := (b2.out.drewN n).put 0 [.int .u32 ((h 0 + x 0) % 4294967296), .int .u32 ((h 1 + x 1) % 4294967296), .int .u32 ((h 2 + x 2) % 4294967296), .int .u32 ((h 3 + x 3) % 4294967296), .int .u32 ((h 4 + x 4) % 4294967296), .int .u32 ((h 5 + x 5) % 4294967296), .int .u32 ((h 6 + x 6) % 4294967296), .int .u32 ((h 7 + x 7) % 4294967296)]
      rw [put_all _ _ (by rw [wl_length]; rfl)] at b4
      have l2 := LDh_run (b4.range 0 _ (fun j v h => by rw [Nat.zero_add]; exact h)) rfl
      have e1 : [.int .u32 ((h 0 + x 0) % 4294967296), .int .u32 ((h 1 + x 1) % 4294967296), .int .u32 ((h 2 + x 2) % 4294967296), .int .u32 ((h 3 + x 3) % 4294967296), .int .u32 ((h 4 + x 4) % 4294967296), .int .u32 ((h 5 + x 5) % 4294967296), .int .u32 ((h 6 + x 6) % 4294967296), .int .u32 ((h 7 + x 7) % 4294967296)] = wl 8 (comp h f) := by rw [wl8]; simp only [HC.out]; rfl
      have hz := b2.out.lt
      refine bodyPost_ret (v := .agg (wl 8 (comp h f)).toArray) ?_ rfl ⟨rfl, below_cells (below_drew' bel.out _) _ _ _ (by omega) (by show w.heap.size ≤ w2.heap.size; omega)⟩
      rw [← e1]
      exact results_cell1 Tryz.results263 rfl l2
end Go.Proofs.YtpohogpkfdebdaaGreatDoor.Sh
namespace Go.Proofs.YtpohogpkfdebdaaGreatDoor.Sh
open Go.ChangeShapes Go.WideShapes Go.ChangeAt Go.RowKit
open Go.Proofs.YtpohogpkfdebdaaGreatDoor.By Go.Proofs.YtpohogpkfdebdaaGreatDoor.Wd

/-- h0 to h7 behind j blocks of a message. -/
def hw (f : Nat → Int) : Nat → Nat → Int
  | 0 => bg
  | j + 1 => comp (hw f j) (fun i => f (64 * j + i))
theorem hw_w (f : Nat → Int) (j i : Nat) : W32 (hw f j i) := by
  cases j with
  | zero => exact bg_w i
  | succ j => exact comp_w _ _ _
theorem hw_congr (f g : Nat → Int) (j : Nat) (h : ∀ i, i < 64 * j → f i = g i) : hw f j = hw g j := by
  induction j with
  | zero => rfl
  | succ j ih =>
    have e : comp (hw f j) (fun i => f (64 * j + i)) = comp (hw g j) (fun i => g (64 * j + i)) := by
      rw [ih (fun i hi => h i (by omega))]
      have et : ∀ t, t ≤ 64 → tab (fun i => f (64 * j + i)) t = tab (fun i => g (64 * j + i)) t := by
        intro t
        induction t with
        | zero => intro _; rfl
        | succ t iht =>
          intro ht
          funext i
          unfold tab
          rw [iht (by omega)]
          split
          · unfold nxt
            split
            · exact BE_congr _ _ 4 (fun i hi => h _ (by omega))
            · rfl
          · rfl
      funext i
      unfold comp
      rw [et 64 (by omega)]
    exact e
/-- The bytes that wait. -/
def wt (m : Nat) (f : Nat → Int) (i : Nat) : Int := if i < m % 64 then f (m / 64 * 64 + i) else 0
theorem wt_bound (m : Nat) (f : Nat → Int) (hf : ∀ i, 0 ≤ f i ∧ f i < 256) (i : Nat) : 0 ≤ wt m f i ∧ wt m f i < 256 := by
  unfold wt; split
  · exact hf _
  · decide
/-- A state's cells, out of its parts; of a message. -/
def sc (h : Nat → Int) (m : Int) (q : Nat → Int) : List Value := .bool true :: (wl 8 h ++ .int .u64 m :: bl 64 q)
def stc (m : Nat) (f : Nat → Int) : List Value := sc (hw f (m / 64)) m (wt m f)
theorem sc_length (h : Nat → Int) (m : Int) (q : Nat → Int) : (sc h m q).length = 74 := by simp [sc, wl_length, bl_length]
theorem sc_0 (h : Nat → Int) (m : Int) (q : Nat → Int) : (sc h m q)[0]? = some (.bool true) := rfl
theorem sc_h (h : Nat → Int) (m : Int) (q : Nat → Int) (i : Nat) (v : Value) (hv : (wl 8 h)[i]? = some v) : (sc h m q)[1 + i]? = some v := by
  have hi : i < 8 := by have := (List.getElem?_eq_some_iff.1 hv).1; rwa [wl_length] at this
  show (.bool true :: (wl 8 h ++ .int .u64 m :: bl 64 q))[1 + i]? = some v
  rw [Nat.add_comm, List.getElem?_cons_succ, List.getElem?_append_left (by rw [wl_length]; exact hi)]; exact hv
theorem sc_9 (h : Nat → Int) (m : Int) (q : Nat → Int) : (sc h m q)[9]? = some (.int .u64 m) := rfl
theorem sc_b (h : Nat → Int) (m : Int) (q : Nat → Int) (i : Nat) (v : Value) (hv : (bl 64 q)[i]? = some v) : (sc h m q)[10 + i]? = some v := by
  show (.bool true :: (wl 8 h ++ .int .u64 m :: bl 64 q))[10 + i]? = some v
  rw [show 10 + i = (9 + i) + 1 from by omega, List.getElem?_cons_succ, List.getElem?_append_right (by rw [wl_length]; omega), wl_length,
    show 9 + i - 8 = i + 1 from by omega, List.getElem?_cons_succ]; exact hv
theorem sc_one (h : Nat → Int) (m : Int) (q : Nat → Int) : ∀ u ∈ sc h m q, u.oneCell' = true := by
  intro u hu
  simp only [sc, List.mem_cons, List.mem_append] at hu
  rcases hu with rfl | hu | rfl | hu
  · rfl
  · exact wl_one _ _ u hu
  · rfl
  · exact bl_one _ _ u hu
theorem sc_set9 (h : Nat → Int) (m m' : Int) (q : Nat → Int) : (sc h m q).set 9 (.int .u64 m') = sc h m' q := rfl
theorem sc_puth (h h' : Nat → Int) (m : Int) (q : Nat → Int) : put (sc h m q) 1 (wl 8 h') = sc h' m q := rfl
theorem sc_putb (h : Nat → Int) (m : Int) (q : Nat → Int) (o n : Nat) (g : Nat → Int) (hn : o + n ≤ 64) : put (sc h m q) (10 + o) (bl n g) = sc h m (fun i => if o ≤ i ∧ i < o + n then g (i - o) else q i) := by
  apply List.ext_getElem?
  intro i
  rw [put_get _ _ _ _ (by rw [sc_length, bl_length]; omega), bl_length]
  by_cases h74 : i < 74
  · by_cases hi : 10 ≤ i
    · have e2 : (sc h m (fun i => if o ≤ i ∧ i < o + n then g (i - o) else q i))[i]? = some (.int .u8 (if o ≤ i - 10 ∧ i - 10 < o + n then g (i - 10 - o) else q (i - 10))) := by
        have := sc_b h m (fun i => if o ≤ i ∧ i < o + n then g (i - o) else q i) (i - 10) _ (bl_get 64 _ (i - 10) (by omega))
        rwa [show 10 + (i - 10) = i from by omega] at this
      have e3 : (sc h m q)[i]? = some (.int .u8 (q (i - 10))) := by
        have := sc_b h m q (i - 10) _ (bl_get 64 _ (i - 10) (by omega))
        rwa [show 10 + (i - 10) = i from by omega] at this
      rw [e2, e3]
      by_cases hr : o ≤ i - 10 ∧ i - 10 < o + n
      · rw [if_pos hr, if_pos (by omega), bl_get _ _ _ (by omega)]
        congr 3
        omega
      · rw [if_neg hr, if_neg (by omega)]
    · rw [if_neg (by omega)]
      have key : ∀ q' : Nat → Int, (sc h m q')[i]? = (.bool true :: (wl 8 h ++ [.int .u64 m]))[i]? := by
        intro q'
        have e : sc h m q' = (.bool true :: (wl 8 h ++ [.int .u64 m])) ++ bl 64 q' := by simp [sc]
        rw [e, List.getElem?_append_left (by simp [wl_length]; omega)]
      rw [key, key]
  · rw [if_neg (by omega), List.getElem?_eq_none (by rw [sc_length]; omega), List.getElem?_eq_none (by rw [sc_length]; omega)]

/-- The state in block b has the message of m bytes f. -/
structure St (w : World) (b m : Nat) (f : Nat → Int) : Prop where
  here : Blk w b (stc m f) 282
  byte : ∀ i, 0 ≤ f i ∧ f i < 256
  few : m ≤ 140737488355328
/-- The state in block b is none (wiped, or nobody made it). -/
def NoSt (w : World) (b : Nat) : Prop := ∃ cs, Blk w b (.bool false :: cs) 282 ∧ cs.length = 73
theorem St.below {w w' : World} {b m : Nat} {f : Nat → Int} (h : St w b m f) (hb : Below w.heap.size w w') : St w' b m f := ⟨h.here.below hb, h.byte, h.few⟩
theorem St.kept {w w' : World} {b m : Nat} {f : Nat → Int} {S : Nat → Prop} (h : St w b m f) (hk : Kp S w w') (hn : ¬ S b) : St w' b m f := ⟨h.here.kept hk hn, h.byte, h.few⟩
theorem St.c0 {w : World} {b m : Nat} {f : Nat → Int} (h : St w b m f) : w.cell? ⟨b, 0, none⟩ = some (.bool true) := h.here.cell 0 _ rfl
theorem St.c9 {w : World} {b m : Nat} {f : Nat → Int} (h : St w b m f) : w.cell? ⟨b, 9, none⟩ = some (.int .u64 m) := h.here.cell 9 _ rfl
theorem NoSt.c0 {w : World} {b : Nat} (h : NoSt w b) : w.cell? ⟨b, 0, none⟩ = some (.bool false) := by
  obtain ⟨cs, h, _⟩ := h; exact h.cell 0 _ rfl
theorem stc_congr (m : Nat) (f g : Nat → Int) (h : ∀ i, i < m → f i = g i) : stc m f = stc m g := by
  have e1 : hw f (m / 64) = hw g (m / 64) := hw_congr f g _ (fun i hi => h i (by omega))
  have e2 : bl 64 (wt m f) = bl 64 (wt m g) := bl_congr _ _ _ (fun i _ => by
    unfold wt; split
    · exact h _ (by omega)
    · rfl)
  unfold stc sc
  rw [e1, e2]
theorem St.congr {w : World} {b m : Nat} {f g : Nat → Int} (h : St w b m f) (hg : ∀ i, 0 ≤ g i ∧ g i < 256) (e : ∀ i, i < m → f i = g i) : St w b m g :=
  ⟨by rw [← stc_congr m f g e]; exact h.here, hg, h.few⟩

theorem isNone_st (b : Nat) (w : World) (x : Bool) (h : w.cell? ⟨b, 0, none⟩ = some (.bool x)) : Calls Tryz.prog 264 #[.pointer (some ⟨b, 0, none⟩)] w fun e w' => e = .returned (.bool (!x)) ∧ w' = w := by
  go_enter Tryz.func264, Tryz.ntmps264
  go_wp2
  go_ret
  exact ⟨rfl, rfl⟩
theorem isNone_nil (w : World) : Calls Tryz.prog 264 #[.pointer none] w fun e w' => e = .returned (.bool true) ∧ w' = w := by
  go_enter Tryz.func264, Tryz.ntmps264
  go_wp2
  go_ret
  exact ⟨rfl, rfl⟩
def newA : Array Value := (stc 0 (fun _ => 0)).toArray
set_option maxRecDepth 4000 in
theorem new12 (w : World) : Calls Tryz.prog 236 #[] w fun e w' => e = .returned (.pointer (some ⟨w.heap.size, 0, none⟩)) ∧ St w' w.heap.size 0 (fun _ => 0) ∧ Below w.heap.size w w' := by
  go_enter Tryz.func236, Tryz.ntmps236
  go_wp2
  go_ret
  refine ⟨rfl, ⟨Blk.newAt _ _ _ _ _ rfl (by kernel_rfl), fun _ => by decide, by omega⟩, below_alloc _ _⟩
end Go.Proofs.YtpohogpkfdebdaaGreatDoor.Sh
