/- SHA-512 as functions of numbers: what a block makes of eight words; no program in it. What the program's functions on a block answer: right, spread, compress. What the program's function compress answers. A state of the program: what it holds of a message, and what New, isNone, Len, Clone, Reset answer. -/
import Derived.Test.YtpohogpkfdebdaaGreatDoorRows
import Derived.Test.YtpohogpkfdebdaaGreatDoorZa
import Derived.Test.YtpohogpkfdebdaaGreatDoorZr
import Derived.Deep.MidRow
import Derived.Deep.WholeRow
import Derived.Deep.Cut
namespace Go.Proofs.YtpohogpkfdebdaaGreatDoor.Sg
open Go.ChangeShapes Go.WideShapes Go.ChangeAt Go.RowKit
open Go.Proofs.YtpohogpkfdebdaaGreatDoor.By Go.Proofs.YtpohogpkfdebdaaGreatDoor.Wd

/-- Words of 64 bits: turned right, exclusive or, and, the complement, the sum that wraps round. -/
def rr (x n : Int) : Int := Rot 64 x (-n)
def xr (a b : Int) : Int := bits .xor .u64 a b
def an (a b : Int) : Int := bits .and .u64 a b
def nt (a : Int) : Int := bits .xor .u64 (if IntKind.u64.signed = true then -1 else IntKind.u64.max) a
def ad (a b : Int) : Int := IntKind.u64.wrap (a + b)
def W64 (x : Int) : Prop := 0 ≤ x ∧ x < 18446744073709551616
theorem ad_w (a b : Int) : W64 (ad a b) := by unfold ad W64; rw [IntKind.wrap_u64]; omega
/-- The table k. -/
def kl : List Int := [4794697086780616226, 8158064640168781261, 13096744586834688815, 16840607885511220156, 4131703408338449720, 6480981068601479193, 10538285296894168987, 12329834152419229976, 15566598209576043074, 1334009975649890238, 2608012711638119052, 6128411473006802146, 8268148722764581231, 9286055187155687089, 11230858885718282805, 13951009754708518548, 16472876342353939154, 17275323862435702243, 1135362057144423861, 2597628984639134821, 3308224258029322869, 5365058923640841347, 6679025012923562964, 8573033837759648693, 10970295158949994411, 12119686244451234320, 12683024718118986047, 13788192230050041572, 14330467153632333762, 15395433587784984357, 489312712824947311, 1452737877330783856, 2861767655752347644, 3322285676063803686, 5560940570517711597, 5996557281743188959, 7280758554555802590, 8532644243296465576, 9350256976987008742, 10552545826968843579, 11727347734174303076, 12113106623233404929, 14000437183269869457, 14369950271660146224, 15101387698204529176, 15463397548674623760, 17586052441742319658, 1182934255886127544, 1847814050463011016, 2177327727835720531, 2830643537854262169, 3796741975233480872, 4115178125766777443, 5681478168544905931, 6601373596472566643, 7507060721942968483, 8399075790359081724, 8693463985226723168, 9568029438360202098, 10144078919501101548, 10430055236837252648, 11840083180663258601, 13761210420658862357, 14299343276471374635, 14566680578165727644, 15097957966210449927, 16922976911328602910, 17689382322260857208, 500013540394364858, 748580250866718886, 1242879168328830382, 1977374033974150939, 2944078676154940804, 3659926193048069267, 4368137639120453308, 4836135668995329356, 5532061633213252278, 6448918945643986474, 6902733635092675308, 7801388544844847127]
def K (t : Nat) : Int := kl.getD t 0
/-- h0 to h7 at the beginning. -/
def bgl : List Int := [7640891576956012808, 13503953896175478587, 4354685564936845355, 11912009170470909681, 5840696475078001361, 11170449401992604703, 2270897969802886507, 6620516959819538809]
def bg (i : Nat) : Int := bgl.getD i 0
theorem bg_w (i : Nat) : W64 (bg i) := by
  unfold bg
  by_cases h : i < 8
  · exact (show ∀ j, j < 8 → W64 (bgl.getD j 0) from by unfold W64; decide) i h
  · rw [List.getD_eq_getElem?_getD, List.getElem?_eq_none (by show 8 ≤ i; omega)]; unfold W64; decide

def uu (y : Int) : Int := xr (xr (rr y 19) (rr y 61)) (y / 64)
def vv (x : Int) : Int := xr (xr (rr x 1) (rr x 8)) (x / 128)
/-- w[t] out of the words ahead of it. -/
def nxt (b : Nat → Int) (t : Nat) (T : Nat → Int) : Int :=
  if t < 16 then BE (fun i => b (8 * t + i)) 8 else ad (ad (ad (uu (T (t - 2))) (T (t - 7))) (vv (T (t - 15)))) (T (t - 16))
/-- w[0] to w[t-1], noughts behind them. -/
def tab (b : Nat → Int) : Nat → Nat → Int
  | 0 => fun _ => 0
  | t + 1 => fun i => if i = t then nxt b t (tab b t) else tab b t i
theorem nxt_w (b : Nat → Int) (hb : ∀ i, 0 ≤ b i ∧ b i < 256) (t : Nat) (T : Nat → Int) : W64 (nxt b t T) := by
  unfold nxt
  split
  · have := BE_bound (fun i => b (8 * t + i)) (fun i => hb _) 8
    exact ⟨this.1, this.2⟩
  · exact ad_w _ _
theorem tab_w (b : Nat → Int) (hb : ∀ i, 0 ≤ b i ∧ b i < 256) (t i : Nat) : W64 (tab b t i) := by
  induction t with
  | zero => unfold tab W64; decide
  | succ t ih => unfold tab; split
                 · exact nxt_w b hb t _
                 · exact ih
/-- One of the 80 steps. -/
def pp (x : Nat → Int) (k w : Int) : Int := ad (ad (ad (ad (x 7) (xr (xr (rr (x 4) 14) (rr (x 4) 18)) (rr (x 4) 41))) (xr (an (x 4) (x 5)) (an (nt (x 4)) (x 6)))) k) w
def qq (x : Nat → Int) : Int := ad (xr (xr (rr (x 0) 28) (rr (x 0) 34)) (rr (x 0) 39)) (xr (xr (an (x 0) (x 1)) (an (x 0) (x 2))) (an (x 1) (x 2)))
def stp (x : Nat → Int) (k w : Int) (i : Nat) : Int :=
  if i = 0 then ad (pp x k w) (qq x) else if i = 4 then ad (x 3) (pp x k w) else x (i - 1)
def rnds (h T : Nat → Int) : Nat → Nat → Int
  | 0 => h
  | t + 1 => stp (rnds h T t) (K t) (T t)
/-- The words behind a block. -/
def comp (h b : Nat → Int) (i : Nat) : Int := ad (h i) (rnds h (tab b 80) 80 i)
theorem stp_w (x : Nat → Int) (k w : Int) (hx : ∀ i, W64 (x i)) (i : Nat) : W64 (stp x k w i) := by
  unfold stp
  split
  · exact ad_w _ _
  · split
    · exact ad_w _ _
    · exact hx _
theorem rnds_w (h T : Nat → Int) (hh : ∀ i, W64 (h i)) (t i : Nat) : W64 (rnds h T t i) := by
  induction t generalizing i with
  | zero => exact hh i
  | succ t ih => exact stp_w _ _ _ ih i
theorem comp_w (h b : Nat → Int) (i : Nat) : W64 (comp h b i) := ad_w _ _

/-- n words as cells. -/
def wl (n : Nat) (g : Nat → Int) : List Value := (List.range n).map fun i => Value.int .u64 (g i)
theorem wl_length (n : Nat) (g : Nat → Int) : (wl n g).length = n := by simp [wl]
theorem wl_get (n : Nat) (g : Nat → Int) (i : Nat) (h : i < n) : (wl n g)[i]? = some (.int .u64 (g i)) := by simp [wl, h]
theorem wl_one (n : Nat) (g : Nat → Int) : ∀ u ∈ wl n g, u.oneCell' = true := by
  intro u hu
  simp [wl] at hu
  obtain ⟨i, _, rfl⟩ := hu
  rfl
theorem wl_set (n : Nat) (g : Nat → Int) (k : Nat) (x : Int) : (wl n g).set k (.int .u64 x) = wl n (fun i => if i = k then x else g i) := by
  apply List.ext_getElem?
  intro i
  rw [List.getElem?_set]
  by_cases h : i < n
  · by_cases e : k = i
    · subst e; rw [wl_get _ _ _ h]; simp [wl_length, h]; simp [wl]
    · have e' : ¬ i = k := fun h => e h.symm
      rw [wl_get _ _ _ h, wl_get _ _ _ h]; simp [e, e']
  · rw [List.getElem?_eq_none (by rw [wl_length]; omega), List.getElem?_eq_none (by rw [wl_length]; omega)]
    simp only [wl_length]; split
    · rw [if_neg (by omega)]
    · rfl
theorem wl_tab (b : Nat → Int) (n t : Nat) (x : Int) (h : x = nxt b t (tab b t)) : (wl n (tab b t)).set t (.int .u64 x) = wl n (tab b (t + 1)) := by
  rw [wl_set, h]; rfl

/-- Block g holds just the cells cs. -/
def Blk (w : World) (g : Nat) (cs : List Value) (t : TypeId) : Prop := w.heap[g]? = some (.cells cs.toArray t (0, 0))
theorem Blk.lt {w : World} {g : Nat} {cs : List Value} {t : TypeId} (h : Blk w g cs t) : g < w.heap.size := (Array.getElem?_eq_some_iff.1 h).1
theorem Blk.cell {w : World} {g : Nat} {cs : List Value} {t : TypeId} (h : Blk w g cs t) (i : Nat) (v : Value) (hi : cs[i]? = some v) : w.cell? ⟨g, i, none⟩ = some v := by
  rw [cell_of_row w g i _ t (0, 0) h]; simpa using hi
theorem Blk.range {w : World} {g : Nat} {cs : List Value} {t : TypeId} (h : Blk w g cs t) (o : Nat) (vs : List Value) (hv : ∀ j v, vs[j]? = some v → cs[o + j]? = some v) : w.rangeAt g o vs := fun j v hj => h.cell _ _ (hv j v hj)
theorem Blk.frozen {w : World} {g : Nat} {cs : List Value} {t : TypeId} (h : Blk w g cs t) (i : Nat) : w.frozen? ⟨g, i, none⟩ = false := frozen_of_row w g i _ t h
theorem Blk.there {w : World} {g : Nat} {cs : List Value} {t : TypeId} (h : Blk w g cs t) (o n : Nat) (hn : o + n ≤ cs.length) : w.there g o n := fun j hj => by
  refine ⟨?_, h.frozen _⟩
  rw [h.cell (o + j) _ (List.getElem?_eq_getElem (by omega))]; rfl
theorem Blk.kept {w w' : World} {g : Nat} {cs : List Value} {t : TypeId} {S : Nat → Prop} (h : Blk w g cs t) (hk : Kp S w w') (hn : ¬ S g) : Blk w' g cs t := (hk.block g h.lt hn).trans h
theorem Blk.below {w w' : World} {g : Nat} {cs : List Value} {t : TypeId} (h : Blk w g cs t) (hb : Below w.heap.size w w') : Blk w' g cs t := h.kept (Kp.of_below (fun _ => False) hb) id
theorem Blk.alloc {w : World} {g : Nat} {cs : List Value} {t : TypeId} (h : Blk w g cs t) (o : Obj) : Blk (w.alloc o) g cs t := h.below (below_alloc w o)
theorem Blk.new (w : World) (cs : List Value) (t : TypeId) : Blk (w.alloc (.cells cs.toArray t)) w.heap.size cs t := heap_alloc_last w _
theorem Blk.set {w : World} {g : Nat} {cs : List Value} {t : TypeId} (h : Blk w g cs t) (i : Nat) (u : Value) : Blk (w.setCell ⟨g, i, none⟩ u) g (cs.set i u) t := by
  have hb : w.heap[g]? = some (.cells cs.toArray t (0, 0)) := h
  simp only [Blk, World.setCell]
  rw [Array.getElem?_modify]
  simp [hb]
theorem Blk.other {w : World} {g g' : Nat} {cs : List Value} {t : TypeId} (h : Blk w g cs t) (hn : g ≠ g') (i : Nat) (u : Value) : Blk (w.setCell ⟨g', i, none⟩ u) g cs t := h.kept (Kp.setCell g' i u) hn
theorem Blk.drewN {w : World} {g : Nat} {cs : List Value} {t : TypeId} (h : Blk w g cs t) (d : Nat) : Blk (w.drewN d) g cs t := h
theorem Blk.ne {w : World} {g g' : Nat} {cs cs' : List Value} {t t' : TypeId} (h : Blk w g cs t) (h' : Blk w g' cs' t') (ht : t ≠ t') : g ≠ g' := by
  intro e; subst e
  have := Option.some.inj (h.symm.trans h')
  simp only [Obj.cells.injEq] at this
  exact ht this.2.1
theorem rb_blk {w : World} {g n : Nat} {f : Nat → Int} {t : TypeId} (h : Blk w g (bl n f) t) (hf : ∀ i, 0 ≤ f i ∧ f i < 256) (hn : n ≤ maxLen) : By.RB w (.slice (some ⟨g, 0, none⟩) n n) n f :=
  ⟨hf, _, _, rfl, Nat.le_refl _, hn, .inr ⟨g, 0, rfl, fun i hi => by rw [Nat.zero_add]; exact h.cell i _ (bl_get n f i hi)⟩⟩
theorem BE_blk (f : Nat → Int) (t : Nat) (ht : t < 16) (T : Nat → Int) : BE (fun i => Byt f 128 (8 * (t : Int) + i)) 8 = nxt f t T := by
  unfold nxt
  rw [if_pos ht]
  refine BE_congr _ _ 8 (fun i hi => ?_)
  rw [Byt_in f 128 _ (by omega) (by omega)]
  congr 1
theorem Kp.setRow {w : World} (g : Nat) (vs : Array Value) : Kp (fun k => k = g) w (w.setRow g vs) :=
  ⟨rfl, rfl, rfl, by simp [World.setRow], fun k _ hn => by simp only [World.setRow]; rw [Array.getElem?_modify, if_neg (fun e => hn e.symm)]⟩
theorem Blk.newAt (w : World) (a : Array Value) (cs : List Value) (t : TypeId) (g : Nat) (hg : g = w.heap.size) (ha : a = cs.toArray) : Blk (w.alloc (.cells a t)) g cs t := by
  subst hg; subst ha; exact Blk.new w cs t
theorem size_alloc (w : World) (o : Obj) : (w.alloc o).heap.size = w.heap.size + 1 := by simp
theorem below_set {B : Nat} {w w' : World} (h : Below B w w') (g i : Nat) (u : Value) (hg : B ≤ g) (hB : B ≤ w'.heap.size) : Below B w (w'.setCell ⟨g, i, none⟩ u) :=
  h.trans ((Kp.setCell g i u).below hB (fun k hk e => by omega))
theorem Blk.row {w : World} {g : Nat} {cs vs : List Value} {t : TypeId} (h : Blk w g cs t) : Blk (w.setRow g vs.toArray) g vs t := by
  have hb : w.heap[g]? = some (.cells cs.toArray t (0, 0)) := h
  simp only [Blk, World.setRow]
  rw [Array.getElem?_modify]
  simp [hb]
/-- Whole arrays and states, loaded and stored at once. -/
def LDw (a : Addr) : Sem Value := loadVar 295 a
def SVw (a : Addr) (v : Value) : Sem Unit := storeVar 295 a v
def LDh (a : Addr) : Sem Value := loadVar 255 a
def SVh (a : Addr) (v : Value) : Sem Unit := storeVar 255 a v
def LDb (a : Addr) : Sem Value := loadVar 284 a
def SVb (a : Addr) (v : Value) : Sem Unit := storeVar 284 a v
def LDs (a : Addr) : Sem Value := loadVar 286 a
def SVs (a : Addr) (v : Value) : Sem Unit := storeVar 286 a v
@[go_sem ↓ high] theorem ldw (a : Addr) : loadVar 295 a = LDw a := rfl
@[go_sem ↓ high] theorem svw (a : Addr) (v : Value) : storeVar 295 a v = SVw a v := rfl
@[go_sem ↓ high] theorem ldh (a : Addr) : loadVar 255 a = LDh a := rfl
@[go_sem ↓ high] theorem svh (a : Addr) (v : Value) : storeVar 255 a v = SVh a v := rfl
@[go_sem ↓ high] theorem ldb (a : Addr) : loadVar 284 a = LDb a := rfl
@[go_sem ↓ high] theorem svb (a : Addr) (v : Value) : storeVar 284 a v = SVb a v := rfl
@[go_sem ↓ high] theorem lds (a : Addr) : loadVar 286 a = LDs a := rfl
@[go_sem ↓ high] theorem svs (a : Addr) (v : Value) : storeVar 286 a v = SVs a v := rfl
theorem infoW : (Tryz.prog.info? 295).map (·.size) = some 80 := by kernel_rfl
theorem infoH : (Tryz.prog.info? 255).map (·.size) = some 8 := by kernel_rfl
theorem infoB : (Tryz.prog.info? 284).map (·.size) = some 128 := by kernel_rfl
theorem infoS : (Tryz.prog.info? 286).map (·.size) = some 138 := by kernel_rfl
theorem LDw_run {w : World} {g o : Nat} {cs : List Value} (h : w.rangeAt g o cs) (hl : cs.length = 80) : (LDw ⟨g, o, none⟩).run Tryz.prog w = .ok (.agg cs.toArray) w :=
  run_loadVar_mid w g o _ cs _ h Tryz.underlying295 rfl (by rw [hl]; exact infoW)
theorem LDh_run {w : World} {g o : Nat} {cs : List Value} (h : w.rangeAt g o cs) (hl : cs.length = 8) : (LDh ⟨g, o, none⟩).run Tryz.prog w = .ok (.agg cs.toArray) w :=
  run_loadVar_mid w g o _ cs _ h Tryz.underlying255 rfl (by rw [hl]; exact infoH)
theorem LDb_run {w : World} {g o : Nat} {cs : List Value} (h : w.rangeAt g o cs) (hl : cs.length = 128) : (LDb ⟨g, o, none⟩).run Tryz.prog w = .ok (.agg cs.toArray) w :=
  run_loadVar_mid w g o _ cs _ h Tryz.underlying284 rfl (by rw [hl]; exact infoB)
theorem LDs_run {w : World} {g o : Nat} {cs : List Value} (h : w.rangeAt g o cs) (hl : cs.length = 138) : (LDs ⟨g, o, none⟩).run Tryz.prog w = .ok (.agg cs.toArray) w :=
  run_loadVar_mid w g o _ cs _ h Tryz.underlying286 rfl (by rw [hl]; exact infoS)
theorem SVw_run {w : World} {g o : Nat} {cs : List Value} (h : w.there g o 80) (hl : cs.length = 80) (h1 : ∀ u ∈ cs, u.oneCell' = true) : (SVw ⟨g, o, none⟩ (.agg cs.toArray)).run Tryz.prog w = .ok () (w.setCells g o cs) :=
  run_storeVar_mid w g o _ cs.toArray (by simpa [hl] using h) (by simpa [hl] using infoW) (all_oneCell_toArray h1)
theorem SVh_run {w : World} {g o : Nat} {cs : List Value} (h : w.there g o 8) (hl : cs.length = 8) (h1 : ∀ u ∈ cs, u.oneCell' = true) : (SVh ⟨g, o, none⟩ (.agg cs.toArray)).run Tryz.prog w = .ok () (w.setCells g o cs) :=
  run_storeVar_mid w g o _ cs.toArray (by simpa [hl] using h) (by simpa [hl] using infoH) (all_oneCell_toArray h1)
theorem SVb_run {w : World} {g o : Nat} {cs : List Value} (h : w.there g o 128) (hl : cs.length = 128) (h1 : ∀ u ∈ cs, u.oneCell' = true) : (SVb ⟨g, o, none⟩ (.agg cs.toArray)).run Tryz.prog w = .ok () (w.setCells g o cs) :=
  run_storeVar_mid w g o _ cs.toArray (by simpa [hl] using h) (by simpa [hl] using infoB) (all_oneCell_toArray h1)
theorem SVs_run {w : World} {g o : Nat} {cs : List Value} (h : w.there g o 138) (hl : cs.length = 138) (h1 : ∀ u ∈ cs, u.oneCell' = true) : (SVs ⟨g, o, none⟩ (.agg cs.toArray)).run Tryz.prog w = .ok () (w.setCells g o cs) :=
  run_storeVar_mid w g o _ cs.toArray (by simpa [hl] using h) (by simpa [hl] using infoS) (all_oneCell_toArray h1)
theorem results_cell1 {P : Program} {fn : Func} {p : Tmp} {ty : TypeId} {tmps : Array Value} {w : World} {a : Addr} {v : Value} (h : fn.results = #[.cell p ty]) (ha : tmps.getD p undef = .pointer (some a)) (hl : (loadVar ty a).run P w = .ok v w) :
    (results fn tmps).run P w = .ok v w := by
  have e1 : tmps[p]?.getD undef = .pointer (some a) := by rw [← ha]; simp [Array.getD_eq_getD_getElem?]
  simp only [results, h]
  simp [e1, asAddr, hl]
/-- Cells o, o + 1, .. of a list put in place of what was there. -/
def put (cs : List Value) (o : Nat) : List Value → List Value
  | [] => cs
  | v :: r => put (cs.set o v) (o + 1) r
theorem Blk.put {w : World} {g : Nat} {cs : List Value} {t : TypeId} (h : Blk w g cs t) (o : Nat) (vs : List Value) : Blk (w.setCells g o vs) g (put cs o vs) t := by
  induction vs generalizing w cs o with
  | nil => exact h
  | cons v r ih => exact ih (h.set o v) (o + 1)
theorem put_get (cs vs : List Value) (o i : Nat) (h : o + vs.length ≤ cs.length) : (put cs o vs)[i]? = if o ≤ i ∧ i < o + vs.length then vs[i - o]? else cs[i]? := by
  induction vs generalizing cs o with
  | nil => simp [Sg.put]; omega
  | cons v r ih =>
    simp only [List.length_cons] at h ⊢
    rw [Sg.put, ih _ _ (by simp; omega), List.getElem?_set]
    by_cases h1 : o = i
    · subst h1
      rw [if_neg (by omega), if_pos rfl, if_pos (by omega), if_pos (by omega)]; simp
    · by_cases h2 : o + 1 ≤ i ∧ i < o + 1 + r.length
      · rw [if_pos h2, if_pos (by omega)]
        rw [show i - o = (i - (o + 1)) + 1 from by omega]; rfl
      · rw [if_neg h2, if_neg h1, if_neg (by omega)]
theorem put_all (cs vs : List Value) (h : cs.length = vs.length) : put cs 0 vs = vs := by
  apply List.ext_getElem?
  intro i
  rw [put_get cs vs 0 i (by omega)]
  split
  · rfl
  · rw [List.getElem?_eq_none (by omega), List.getElem?_eq_none (by omega)]
theorem Kp.setCells {w : World} (g o : Nat) (vs : List Value) : Kp (fun k => k = g) w (w.setCells g o vs) := by
  induction vs generalizing w o with
  | nil => exact Kp.refl _ _
  | cons v r ih => exact (Kp.setCell g o v).trans (ih (o + 1)) (fun _ _ e => e)
theorem below_cells {B : Nat} {w w' : World} (h : Below B w w') (g o : Nat) (vs : List Value) (hg : B ≤ g) (hB : B ≤ w'.heap.size) : Below B w (w'.setCells g o vs) :=
  h.trans ((Kp.setCells g o vs).below hB (fun k hk e => by omega))
end Go.Proofs.YtpohogpkfdebdaaGreatDoor.Sg
namespace Go.Proofs.YtpohogpkfdebdaaGreatDoor.Sg
open Go.ChangeShapes Go.WideShapes Go.ChangeAt Go.RowKit
open Go.Proofs.YtpohogpkfdebdaaGreatDoor.By Go.Proofs.YtpohogpkfdebdaaGreatDoor.Wd

theorem drewN_three (Z : World) (n x d : Nat) : (Z.drewN (n + x)).drewN d = Z.drewN (n + (x + d)) := by rw [drewN_two, Nat.add_assoc]
theorem right71 (x n : Int) (w : World) (hx : W64 x) (hn : 0 ≤ n ∧ n ≤ 64) :
    Calls Tryz.prog 299 #[.int .u64 x, .int .i64 n] w fun e w' => e = .returned (.int .u64 (rr x n)) ∧ ∃ k, w' = w.drewN k := by
  have H := hid hx
  have E : Hid (Rot 64 x (-n) = rr x n) := rfl
  go_enter Tryz.func299, Tryz.ntmps299
  go_wp2_with (go_at_call 300; refine (turn64 _ _ _ H.out.1 H.out.2).mono ?_; rintro e w' ⟨rfl, k, rfl⟩)
  go_ret
  exact ⟨rfl, _, rfl⟩


theorem wz64 : Tryz.zeroCells295 = (wl 80 (fun _ => 0)).toArray := by kernel_rfl
set_option maxRecDepth 4000 in
set_option maxHeartbeats 2000000 in
theorem spread70 (f : Nat → Int) (hf : ∀ i, 0 ≤ f i ∧ f i < 256) (w : World) :
    Calls Tryz.prog 298 #[.agg (bl 128 f).toArray] w fun e w' => e = .returned (.agg (wl 80 (tab f 80)).toArray) ∧ Below w.heap.size w w' := by
  have HF := hid hf
  clear hf
  go_enter Tryz.func298, Tryz.ntmps298
  go_wp2_with fail
  go_loopw [10] (fun i wr => ∃ k : Nat, k ≤ 16 ∧ i = .int .i64 k ∧ Blk wr w.heap.size (bl 128 f) 284 ∧ Blk wr (w.heap.size + 1) (wl 80 (fun _ => 0)) 295 ∧ Blk wr (w.heap.size + 1 + 1) (wl 80 (tab f k)) 295 ∧ Below w.heap.size w wr) (fun i _ => 16 - (intOf i).toNat)
  case atStart =>
    refine ⟨0, Nat.zero_le _, rfl, ((Blk.new w _ _).alloc _).alloc _, (Blk.newAt _ _ _ _ _ (by rw [size_alloc]) wz64).alloc _, Blk.newAt _ _ _ _ _ (by rw [size_alloc, size_alloc]) wz64, ?_⟩
    exact below_next (below_next (below_alloc w _) (below_alloc _ _)) (below_alloc _ _)
  case round =>
    obtain ⟨k, hk, rfl, b0, b1, b2, hbel⟩ := hrel
    have HR := hid (rb_blk b0 HF.out (by decide))
    have B0 := hid b0
    have B1 := hid b1
    have B2 := hid b2
    have HB := hid hbel
    have HZ := hid b2.lt
    clear b0 b1 b2 hbel
    by_cases hlt : k < 16
    · have c1 := B2.out.cell k _ (wl_get 80 _ k (by omega))
      have c2 := B2.out.frozen k
      go_wp2_with (go_at_call 302; refine (take64 _ _ f _ _ HR.out (by omega) (by omega) (by omega)).mono ?_; rintro e w' ⟨rfl, rfl⟩)
      have hz := HZ.out
      refine ⟨⟨k + 1, by omega, by go_num, B0.out.other (by omega) _ _, B1.out.other (by omega) _ _, ?_, below_set HB.out _ _ _ (by omega) (by omega)⟩, by simp [intOf]; omega⟩
      rw [← wl_tab f 80 k _ (BE_blk f k hlt _)]
      exact B2.out.set k _
    · have ek : k = 16 := by omega
      subst ek
      go_wp2_with fail
      go_loopw [5] (fun i wr => ∃ k : Nat, 16 ≤ k ∧ k ≤ 80 ∧ i = .int .i64 k ∧ Blk wr (w.heap.size + 1) (wl 80 (fun _ => 0)) 295 ∧ Blk wr (w.heap.size + 1 + 1) (wl 80 (tab f k)) 295 ∧ Below w.heap.size w wr) (fun i _ => 80 - (intOf i).toNat)
      case atStart => exact ⟨16, by omega, by omega, rfl, B1.out, B2.out, HB.out⟩
      case round =>
        clear B0 B1 B2 HB HZ HR
        obtain ⟨k, hk0, hk, rfl, b1, b2, hbel⟩ := hrel
        have B1 := hid b1
        have B2 := hid b2
        have HB := hid hbel
        have HZ := hid b2.lt
        have HW := hid (tab_w f HF.out k)
        clear b1 b2 hbel
        by_cases hlt : k < 80
        · have c15 := B2.out.cell (k - 15) _ (wl_get 80 _ (k - 15) (by omega))
          have c2 := B2.out.cell (k - 2) _ (wl_get 80 _ (k - 2) (by omega))
          have c7 := B2.out.cell (k - 7) _ (wl_get 80 _ (k - 7) (by omega))
          have c16 := B2.out.cell (k - 16) _ (wl_get 80 _ (k - 16) (by omega))
          have c1 := B2.out.cell k _ (wl_get 80 _ k (by omega))
          have cf := B2.out.frozen k
          have e15 : ((k : Int) - 15).toNat = k - 15 := by omega
          have e2 : ((k : Int) - 2).toNat = k - 2 := by omega
          have e7 : ((k : Int) - 7).toNat = k - 7 := by omega
          have e16 : ((k : Int) - 16).toNat = k - 16 := by omega
          go_wp2_with fail
          go_quiet (fail)
          go_wp2_with (go_at_call 299; refine (right71 _ _ _ (HW.out _) (by omega)).mono ?_; rintro e w' ⟨rfl, d, rfl⟩)
          go_region
          go_wp2
          have hz := HZ.out
          go_roundw
          case rel =>
            refine ⟨_, _, _, _, _, _, _, _, _, _, _, _, _, _, _, _, _, _, _, _, _, _, _, _, _, _, _, _, _, _, _, _, _, _, _, _, _, _, _, _, _, _, _, _, _, _, _, _, ?_, rfl⟩
            refine ⟨k + 1, by omega, by omega, by go_num, (B1.out.drewN _).other (by omega) _ _, ?_, below_set (below_drew' HB.out _) _ _ _ (by omega) (by show w.heap.size ≤ wr.heap.size; omega)⟩
            rw [← wl_tab f 80 k _ (show _ = nxt f k (tab f k) from by unfold nxt; rw [if_neg (by omega)])]
            exact (B2.out.drewN _).set k _
          case measure => simp [intOf]; omega
        · have ek : k = 80 := by omega
          subst ek
          have l1 := LDw_run (B2.out.range 0 _ (fun j v h => by rw [Nat.zero_add]; exact h)) (wl_length _ _)
          have s1 := SVw_run (cs := wl 80 (tab f 80)) (B1.out.there 0 80 (by rw [wl_length]; omega)) (wl_length _ _) (wl_one _ _)
          have b3 := B1.out.put 0 (wl 80 (tab f 80))
          rw [put_all _ _ (by rw [wl_length, wl_length])] at b3
          have l2 := hid (LDw_run (b3.range 0 _ (fun j v h => by rw [Nat.zero_add]; exact h)) (wl_length _ _))
          clear b3
          go_wp2
          have hz := HZ.out
          refine bodyPost_ret (v := .agg (wl 80 (tab f 80)).toArray) ?_ rfl ⟨rfl, below_cells HB.out _ _ _ (by omega) (by omega)⟩
          exact results_cell1 Tryz.results298 rfl l2.out

/-- The program's table lies in its place. -/
def KT (w : World) : Prop := w.rangeAt 3 0 (wl 80 K)
theorem KT.lt {w : World} (h : KT w) : 3 < w.heap.size := by
  have := h 0 _ (wl_get 80 K 0 (by omega))
  exact block_lt_of_cell this
theorem KT.kept {w w' : World} {S : Nat → Prop} (h : KT w) (hk : Kp S w w') (hn : ¬ S 3) : KT w' := fun j v hv => by
  have h1 := h j v hv
  have e := hk.block 3 h.lt hn
  rw [← h1]
  simp [World.cell?, e]
theorem KT.below {w w' : World} (h : KT w) (hb : Below w.heap.size w w') : KT w' := h.kept (Kp.of_below (fun _ => False) hb) id
theorem KT.drewN {w : World} (h : KT w) (d : Nat) : KT (w.drewN d) := h
end Go.Proofs.YtpohogpkfdebdaaGreatDoor.Sg
namespace Go.Proofs.YtpohogpkfdebdaaGreatDoor.Sg
open Go.ChangeShapes Go.WideShapes Go.ChangeAt Go.RowKit
open Go.Proofs.YtpohogpkfdebdaaGreatDoor.By Go.Proofs.YtpohogpkfdebdaaGreatDoor.Wd
theorem h8 : #[Value.int .u64 0, .int .u64 0, .int .u64 0, .int .u64 0, .int .u64 0, .int .u64 0, .int .u64 0, .int .u64 0] = (wl 8 (fun _ => 0)).toArray := by kernel_rfl
theorem wl8 (h : Nat → Int) : wl 8 h = [.int .u64 (h 0), .int .u64 (h 1), .int .u64 (h 2), .int .u64 (h 3), .int .u64 (h 4), .int .u64 (h 5), .int .u64 (h 6), .int .u64 (h 7)] := rfl
set_option maxRecDepth 4000 in
set_option maxHeartbeats 4000000 in
theorem compress64 (h f : Nat → Int) (hh : ∀ i, W64 (h i)) (hf : ∀ i, 0 ≤ f i ∧ f i < 256) (w : World) (hk : KT w) :
    Calls Tryz.prog 288 #[.agg (wl 8 h).toArray, .agg (bl 128 f).toArray] w fun e w' => e = .returned (.agg (wl 8 (comp h f)).toArray) ∧ Below w.heap.size w w' := by
  have HH := hid hh
  have HF := hid hf
  have HK := hid hk
  have l1 := LDb_run ((((Blk.new (w.alloc (.cells (wl 8 h).toArray 255)) (bl 128 f) 284)).alloc (.cells #[Value.int .u64 0, .int .u64 0, .int .u64 0, .int .u64 0, .int .u64 0, .int .u64 0, .int .u64 0, .int .u64 0] 255)).range 0 _ (fun j v h => by rw [Nat.zero_add]; exact h)) (bl_length _ _)
  rw [size_alloc] at l1
  clear hh hf hk
  go_enter Tryz.func288, Tryz.ntmps288
  go_wp2_with fail
  refine (spread70 f HF.out _).mono ?_
  rintro e w1 ⟨rfl, hb1⟩
  have b0 := (((Blk.new w (wl 8 h) 255).alloc (.cells (bl 128 f).toArray 284)).alloc (.cells (wl 8 (fun _ => 0)).toArray 255)).below hb1
  have b2 := ((Blk.newAt ((w.alloc (.cells (wl 8 h).toArray 255)).alloc (.cells (bl 128 f).toArray 284)) _ (wl 8 (fun _ => 0)) 255 (w.heap.size + 1 + 1) (by simp) h8)).below hb1
  have B0 := hid b0
  have B2 := hid b2
  clear b0 b2 l1
  have bel := below_next (below_next (below_next (below_alloc w _) (below_alloc _ _)) (below_alloc _ _)) hb1
  have HB := hid bel
  have hk1 := hid (HK.out.below bel)
  have HS := hid bel.size
  clear bel hb1
  have s1 := SVw_run (cs := wl 80 (tab f 80)) ((Blk.newAt w1 _ (wl 80 (fun _ => 0)) 295 w1.heap.size rfl wz64).there 0 80 (by rw [wl_length]; omega)) (wl_length _ _) (wl_one _ _)
  go_wp2_with fail
  have hz := HS.out
  have b5 := (Blk.newAt w1 _ (wl 80 (fun _ => 0)) 295 w1.heap.size rfl wz64).put 0 (wl 80 (tab f 80))
  rw [put_all _ _ (by rw [wl_length, wl_length])] at b5
  have B5 := hid b5
  have b0 := hid ((B0.out.alloc (.cells (wl 80 (fun _ => 0)).toArray 295)).kept (Kp.setCells w1.heap.size 0 (wl 80 (tab f 80))) (by have := B0.out.lt; omega))
  have b2 := hid ((B2.out.alloc (.cells (wl 80 (fun _ => 0)).toArray 295)).kept (Kp.setCells w1.heap.size 0 (wl 80 (tab f 80))) (by have := B2.out.lt; omega))
  have k2 := hid ((hk1.out.below (below_alloc w1 (.cells (wl 80 (fun _ => 0)).toArray 295))).kept (Kp.setCells w1.heap.size 0 (wl 80 (tab f 80))) (by have := hk1.out.lt; omega))
  have bel := hid (below_cells (below_next HB.out (below_alloc w1 (.cells (wl 80 (fun _ => 0)).toArray 295))) w1.heap.size 0 (wl 80 (tab f 80)) hz (by rw [size_alloc]; omega))
  rw [← wz64] at b0 b2 k2 bel
  clear s1 hz b5 B0 B2 hk1 HB HS HK
  obtain ⟨w2, hw2⟩ : ∃ x, World.setCells (w1.alloc (.cells (wl 80 (fun _ => 0)).toArray 295)) w1.heap.size 0 (wl 80 (tab f 80)) = x := ⟨_, rfl⟩
  rw [← wz64] at hw2
  rw [hw2]
  rw [hw2] at b0 b2 k2 bel B5
  clear hw2
  have HT := hid (tab_w f HF.out 80)
  obtain ⟨g5, hg5⟩ : ∃ x, w1.heap.size = x := ⟨_, rfl⟩
  rw [hg5]
  rw [hg5] at B5
  clear hg5
  obtain ⟨T, eT⟩ : ∃ x, tab f 80 = x := ⟨_, rfl⟩
  rw [eT]
  rw [eT] at B5 HT
  have hT : Hid (tab f 80 = T) := eT
  clear eT
  have c0 := b0.out.cell 0 _ (wl_get 8 h 0 (by omega))
  have c1 := b0.out.cell 1 _ (wl_get 8 h 1 (by omega))
  have c2 := b0.out.cell 2 _ (wl_get 8 h 2 (by omega))
  have c3 := b0.out.cell 3 _ (wl_get 8 h 3 (by omega))
  have c4 := b0.out.cell 4 _ (wl_get 8 h 4 (by omega))
  have c5 := b0.out.cell 5 _ (wl_get 8 h 5 (by omega))
  have c6 := b0.out.cell 6 _ (wl_get 8 h 6 (by omega))
  have c7 := b0.out.cell 7 _ (wl_get 8 h 7 (by omega))
  go_quiet (fail)
  go_wp2_with fail
  go_quiet (fail)
  go_wp2_with fail
  go_loopw [6, 7, 8, 9, 10, 11, 12, 13, 35] (fun x0 x1 x2 x3 x4 x5 x6 x7 i wr => ∃ t n : Nat, t ≤ 80 ∧ i = .int .i64 t ∧ x0 = .int .u64 (rnds h T t 0) ∧ x1 = .int .u64 (rnds h T t 1) ∧ x2 = .int .u64 (rnds h T t 2) ∧ x3 = .int .u64 (rnds h T t 3) ∧ x4 = .int .u64 (rnds h T t 4) ∧ x5 = .int .u64 (rnds h T t 5) ∧ x6 = .int .u64 (rnds h T t 6) ∧ x7 = .int .u64 (rnds h T t 7) ∧ wr = w2.drewN n) (fun _ _ _ _ _ _ _ _ i _ => 80 - (intOf i).toNat)
  case atStart => exact ⟨0, _, by omega, rfl, rfl, rfl, rfl, rfl, rfl, rfl, rfl, rfl, drewN_two _ _ _⟩
  case round =>
    obtain ⟨t, n, ht, rfl, rfl, rfl, rfl, rfl, rfl, rfl, rfl, rfl, rfl⟩ := hrel
    have HX := hid (rnds_w h T HH.out t)
    by_cases hlt : t < 80
    · have ck := k2.out t _ (wl_get 80 K t hlt)
      rw [Nat.zero_add] at ck
      have ct := B5.out.cell t _ (wl_get 80 T t hlt)
      have EX : Hid (rnds h T (t + 1) = stp (rnds h T t) (K t) (T t)) := rfl
      clear c0 c1 c2 c3 c4 c5 c6 c7
      obtain ⟨x, ex⟩ : ∃ x, rnds h T t = x := ⟨_, rfl⟩
      rw [ex]
      rw [ex] at HX EX
      clear ex
      obtain ⟨kt, ekt⟩ : ∃ x, K t = x := ⟨_, rfl⟩
      rw [ekt] at ck EX
      clear ekt
      obtain ⟨tt, ett⟩ : ∃ x, T t = x := ⟨_, rfl⟩
      rw [ett] at ct EX
      clear ett
      go_wp2_with fail
      go_quiet ((go_at_call 299; (first | with_reducible refine (right71 (x 4) 14 _ (HX.out _) (by omega)).mono ?_ | with_reducible refine (right71 (x 4) 18 _ (HX.out _) (by omega)).mono ?_ | with_reducible refine (right71 (x 4) 41 _ (HX.out _) (by omega)).mono ?_); rintro e w4 ⟨rfl, d, rfl⟩; exact ⟨rfl, _, drewN_three _ _ _ _⟩))
      go_wp2_with (go_at_call 299; refine (right71 _ _ _ (HX.out _) (by omega)).mono ?_; rintro e w' ⟨rfl, d, rfl⟩)
      go_roundw
      case rel =>
        refine ⟨t + 1, _, by omega, by go_num, ?_, ?_, ?_, ?_, ?_, ?_, ?_, ?_, rfl⟩ <;> rw [EX.out] <;> rfl
      case measure => simp [intOf]; omega
    · have ek : t = 80 := by omega
      subst ek
      have HC : Hid (∀ i, comp h f i = ad (h i) (rnds h T 80 i)) := fun i => by unfold comp; rw [hT.out]
      obtain ⟨x, ex⟩ : ∃ x, rnds h T 80 = x := ⟨_, rfl⟩
      rw [ex]
      rw [ex] at HC
      clear ex
      have e8 : Hid ((((((((((wl 8 h).set 0 (.int .u64 (ad (h 0) (x 0)))).set 1 (.int .u64 (ad (h 1) (x 1)))).set 2 (.int .u64 (ad (h 2) (x 2)))).set 3 (.int .u64 (ad (h 3) (x 3)))).set 4 (.int .u64 (ad (h 4) (x 4)))).set 5 (.int .u64 (ad (h 5) (x 5)))).set 6 (.int .u64 (ad (h 6) (x 6)))).set 7 (.int .u64 (ad (h 7) (x 7)))) = wl 8 (comp h f)) := by
        show _ = wl 8 (comp h f)
        rw [wl8 (comp h f), wl8 h]
        simp only [HC.out]
        rfl
      go_upto_region 11 with fail
      obtain ⟨W, hW⟩ : ∃ W, w2.drewN n = W := ⟨_, rfl⟩
      have d0 : Blk W w.heap.size (wl 8 h) 255 := by rw [← hW]; exact b0.out.drewN n
      have d2 : Blk W (w.heap.size + 1 + 1) (wl 8 (fun _ => 0)) 255 := by rw [← hW]; exact b2.out.drewN n
      have db : Below w.heap.size w W := by rw [← hW]; exact below_drew' bel.out n
      rw [hW]
      have D0 := hid d0
      have D2 := hid d2
      have DB := hid db
      clear hW d0 d2 db c0 c1 c2 c3 c4 c5 c6 c7 b0 b2 bel k2 B5
      have c0 := D0.out.cell 0 _ (wl_get 8 h 0 (by omega))
      have c1 := D0.out.cell 1 _ (wl_get 8 h 1 (by omega))
      have c2 := D0.out.cell 2 _ (wl_get 8 h 2 (by omega))
      have c3 := D0.out.cell 3 _ (wl_get 8 h 3 (by omega))
      have f0 := D0.out.frozen 0
      have f1 := D0.out.frozen 1
      have f2 := D0.out.frozen 2
      have f3 := D0.out.frozen 3
      go_upto_region 12 with fail
      obtain ⟨X, hX⟩ : ∃ X, ((((W.setCell ⟨w.heap.size, 0, none⟩ (.int .u64 (ad (h 0) (x 0)))).setCell ⟨w.heap.size, 1, none⟩ (.int .u64 (ad (h 1) (x 1)))).setCell ⟨w.heap.size, 2, none⟩ (.int .u64 (ad (h 2) (x 2)))).setCell ⟨w.heap.size, 3, none⟩ (.int .u64 (ad (h 3) (x 3)))) = X := ⟨_, rfl⟩
      have e0 : Blk X w.heap.size (((((wl 8 h).set 0 (.int .u64 (ad (h 0) (x 0)))).set 1 (.int .u64 (ad (h 1) (x 1)))).set 2 (.int .u64 (ad (h 2) (x 2)))).set 3 (.int .u64 (ad (h 3) (x 3)))) 255 := by
        rw [← hX]; exact (((D0.out.set 0 _).set 1 _).set 2 _).set 3 _
      have e2 : Blk X (w.heap.size + 1 + 1) (wl 8 (fun _ => 0)) 255 := by
        rw [← hX]; exact (((D2.out.other (by omega) _ _).other (by omega) _ _).other (by omega) _ _).other (by omega) _ _
      have eb : Below w.heap.size w X := by
        rw [← hX]
        have z := DB.out.size
        exact below_set (below_set (below_set (below_set DB.out _ _ _ (Nat.le_refl _) z) _ _ _ (Nat.le_refl _) (by simpa [World.setCell] using z)) _ _ _ (Nat.le_refl _) (by simpa [World.setCell] using z)) _ _ _ (Nat.le_refl _) (by simpa [World.setCell] using z)
      have hX' := hX
      simp only [ad] at hX'
      rw [hX']
      have E0 := hid e0
      have E2 := hid e2
      have EB := hid eb
      clear hX hX' e0 e2 eb c0 c1 c2 c3 f0 f1 f2 f3 D0 D2 DB
      have c4 := E0.out.cell 4 (.int .u64 (h 4)) rfl
      have c5 := E0.out.cell 5 (.int .u64 (h 5)) rfl
      have c6 := E0.out.cell 6 (.int .u64 (h 6)) rfl
      have c7 := E0.out.cell 7 (.int .u64 (h 7)) rfl
      have f4 := E0.out.frozen 4
      have f5 := E0.out.frozen 5
      have f6 := E0.out.frozen 6
      have f7 := E0.out.frozen 7
      go_upto_region 13 with fail
      obtain ⟨Y, hY⟩ : ∃ Y, ((((X.setCell ⟨w.heap.size, 4, none⟩ (.int .u64 (ad (h 4) (x 4)))).setCell ⟨w.heap.size, 5, none⟩ (.int .u64 (ad (h 5) (x 5)))).setCell ⟨w.heap.size, 6, none⟩ (.int .u64 (ad (h 6) (x 6)))).setCell ⟨w.heap.size, 7, none⟩ (.int .u64 (ad (h 7) (x 7)))) = Y := ⟨_, rfl⟩
      have g0 : Blk Y w.heap.size (wl 8 (comp h f)) 255 := by
        rw [← hY, ← e8.out]; exact (((E0.out.set 4 _).set 5 _).set 6 _).set 7 _
      have g2 : Blk Y (w.heap.size + 1 + 1) (wl 8 (fun _ => 0)) 255 := by
        rw [← hY]; exact (((E2.out.other (by omega) _ _).other (by omega) _ _).other (by omega) _ _).other (by omega) _ _
      have gb : Below w.heap.size w Y := by
        rw [← hY]
        have z := EB.out.size
        exact below_set (below_set (below_set (below_set EB.out _ _ _ (Nat.le_refl _) z) _ _ _ (Nat.le_refl _) (by simpa [World.setCell] using z)) _ _ _ (Nat.le_refl _) (by simpa [World.setCell] using z)) _ _ _ (Nat.le_refl _) (by simpa [World.setCell] using z)
      have hY' := hY
      simp only [ad] at hY'
      rw [hY']
      have GB := hid gb
      have l1 := LDh_run (g0.range 0 _ (fun j v h => by rw [Nat.zero_add]; exact h)) (wl_length _ _)
      have s1 := SVh_run (cs := wl 8 (comp h f)) (g2.there 0 8 (by rw [wl_length]; omega)) (wl_length _ _) (wl_one _ _)
      have b3 := g2.put 0 (wl 8 (comp h f))
      rw [put_all _ _ (by rw [wl_length, wl_length])] at b3
      have l2 := hid (LDh_run (b3.range 0 _ (fun j v h => by rw [Nat.zero_add]; exact h)) (wl_length _ _))
      clear hY hY' g0 g2 gb b3 c4 c5 c6 c7 f4 f5 f6 f7 E0 E2 EB
      go_wp2
      refine bodyPost_ret (v := .agg (wl 8 (comp h f)).toArray) ?_ rfl ⟨rfl, below_cells GB.out _ _ _ (by omega) GB.out.size⟩
      exact results_cell1 Tryz.results288 rfl l2.out
end Go.Proofs.YtpohogpkfdebdaaGreatDoor.Sg
namespace Go.Proofs.YtpohogpkfdebdaaGreatDoor.Sg
open Go.ChangeShapes Go.WideShapes Go.ChangeAt Go.RowKit
open Go.Proofs.YtpohogpkfdebdaaGreatDoor.By Go.Proofs.YtpohogpkfdebdaaGreatDoor.Wd

/-- h0 to h7 behind j blocks of a message. -/
def hw (f : Nat → Int) : Nat → Nat → Int
  | 0 => bg
  | j + 1 => comp (hw f j) (fun i => f (128 * j + i))
theorem hw_w (f : Nat → Int) (j i : Nat) : W64 (hw f j i) := by
  cases j with
  | zero => exact bg_w i
  | succ j => exact comp_w _ _ _
theorem hw_congr (f g : Nat → Int) (j : Nat) (h : ∀ i, i < 128 * j → f i = g i) : hw f j = hw g j := by
  induction j with
  | zero => rfl
  | succ j ih =>
    have e : comp (hw f j) (fun i => f (128 * j + i)) = comp (hw g j) (fun i => g (128 * j + i)) := by
      rw [ih (fun i hi => h i (by omega))]
      have et : ∀ t, t ≤ 80 → tab (fun i => f (128 * j + i)) t = tab (fun i => g (128 * j + i)) t := by
        intro t
        induction t with
        | zero => intro _; rfl
        | succ t iht =>
          intro ht
          funext i
          unfold tab
          rw [iht (by omega)]
          split
          · unfold nxt
            split
            · exact BE_congr _ _ 8 (fun i hi => h _ (by omega))
            · rfl
          · rfl
      funext i
      unfold comp
      rw [et 80 (by omega)]
    exact e
/-- The bytes that wait. -/
def wt (m : Nat) (f : Nat → Int) (i : Nat) : Int := if i < m % 128 then f (m / 128 * 128 + i) else 0
theorem wt_bound (m : Nat) (f : Nat → Int) (hf : ∀ i, 0 ≤ f i ∧ f i < 256) (i : Nat) : 0 ≤ wt m f i ∧ wt m f i < 256 := by
  unfold wt; split
  · exact hf _
  · decide
/-- A state's cells, out of its parts; of a message. -/
def sc (h : Nat → Int) (m : Int) (q : Nat → Int) : List Value := .bool true :: (wl 8 h ++ .int .u64 m :: bl 128 q)
def stc (m : Nat) (f : Nat → Int) : List Value := sc (hw f (m / 128)) m (wt m f)
theorem sc_length (h : Nat → Int) (m : Int) (q : Nat → Int) : (sc h m q).length = 138 := by simp [sc, wl_length, bl_length]
theorem sc_0 (h : Nat → Int) (m : Int) (q : Nat → Int) : (sc h m q)[0]? = some (.bool true) := rfl
theorem sc_h (h : Nat → Int) (m : Int) (q : Nat → Int) (i : Nat) (v : Value) (hv : (wl 8 h)[i]? = some v) : (sc h m q)[1 + i]? = some v := by
  have hi : i < 8 := by have := (List.getElem?_eq_some_iff.1 hv).1; rwa [wl_length] at this
  show (.bool true :: (wl 8 h ++ .int .u64 m :: bl 128 q))[1 + i]? = some v
  rw [Nat.add_comm, List.getElem?_cons_succ, List.getElem?_append_left (by rw [wl_length]; exact hi)]; exact hv
theorem sc_9 (h : Nat → Int) (m : Int) (q : Nat → Int) : (sc h m q)[9]? = some (.int .u64 m) := rfl
theorem sc_b (h : Nat → Int) (m : Int) (q : Nat → Int) (i : Nat) (v : Value) (hv : (bl 128 q)[i]? = some v) : (sc h m q)[10 + i]? = some v := by
  show (.bool true :: (wl 8 h ++ .int .u64 m :: bl 128 q))[10 + i]? = some v
  rw [show 10 + i = (9 + i) + 1 from by omega, List.getElem?_cons_succ, List.getElem?_append_right (by rw [wl_length]; omega), wl_length,
    show 9 + i - 8 = i + 1 from by omega, List.getElem?_cons_succ]; exact hv
theorem sc_one (h : Nat → Int) (m : Int) (q : Nat → Int) : ∀ u ∈ sc h m q, u.oneCell' = true := by
  intro u hu
  simp only [sc, List.mem_cons, List.mem_append] at hu
  rcases hu with rfl | hu | rfl | hu
  · rfl
  · exact wl_one _ _ u hu
  · rfl
  · exact bl_one _ _ u hu
theorem sc_set9 (h : Nat → Int) (m m' : Int) (q : Nat → Int) : (sc h m q).set 9 (.int .u64 m') = sc h m' q := rfl
theorem sc_puth (h h' : Nat → Int) (m : Int) (q : Nat → Int) : put (sc h m q) 1 (wl 8 h') = sc h' m q := rfl
theorem sc_putb (h : Nat → Int) (m : Int) (q : Nat → Int) (o n : Nat) (g : Nat → Int) (hn : o + n ≤ 128) : put (sc h m q) (10 + o) (bl n g) = sc h m (fun i => if o ≤ i ∧ i < o + n then g (i - o) else q i) := by
  apply List.ext_getElem?
  intro i
  rw [put_get _ _ _ _ (by rw [sc_length, bl_length]; omega), bl_length]
  by_cases h74 : i < 138
  · by_cases hi : 10 ≤ i
    · have e2 : (sc h m (fun i => if o ≤ i ∧ i < o + n then g (i - o) else q i))[i]? = some (.int .u8 (if o ≤ i - 10 ∧ i - 10 < o + n then g (i - 10 - o) else q (i - 10))) := by
        have := sc_b h m (fun i => if o ≤ i ∧ i < o + n then g (i - o) else q i) (i - 10) _ (bl_get 128 _ (i - 10) (by omega))
        rwa [show 10 + (i - 10) = i from by omega] at this
      have e3 : (sc h m q)[i]? = some (.int .u8 (q (i - 10))) := by
        have := sc_b h m q (i - 10) _ (bl_get 128 _ (i - 10) (by omega))
        rwa [show 10 + (i - 10) = i from by omega] at this
      rw [e2, e3]
      by_cases hr : o ≤ i - 10 ∧ i - 10 < o + n
      · rw [if_pos hr, if_pos (by omega), bl_get _ _ _ (by omega)]
        congr 3
        omega
      · rw [if_neg hr, if_neg (by omega)]
    · rw [if_neg (by omega)]
      have key : ∀ q' : Nat → Int, (sc h m q')[i]? = (.bool true :: (wl 8 h ++ [.int .u64 m]))[i]? := by
        intro q'
        have e : sc h m q' = (.bool true :: (wl 8 h ++ [.int .u64 m])) ++ bl 128 q' := by simp [sc]
        rw [e, List.getElem?_append_left (by simp [wl_length]; omega)]
      rw [key, key]
  · rw [if_neg (by omega), List.getElem?_eq_none (by rw [sc_length]; omega), List.getElem?_eq_none (by rw [sc_length]; omega)]

/-- The state in block b has the message of m bytes f. -/
structure St (w : World) (b m : Nat) (f : Nat → Int) : Prop where
  here : Blk w b (stc m f) 286
  byte : ∀ i, 0 ≤ f i ∧ f i < 256
  few : m ≤ 281474976710656
/-- The state in block b is none (wiped, or nobody made it). -/
def NoSt (w : World) (b : Nat) : Prop := ∃ cs, Blk w b (.bool false :: cs) 286 ∧ cs.length = 137
theorem St.below {w w' : World} {b m : Nat} {f : Nat → Int} (h : St w b m f) (hb : Below w.heap.size w w') : St w' b m f := ⟨h.here.below hb, h.byte, h.few⟩
theorem St.kept {w w' : World} {b m : Nat} {f : Nat → Int} {S : Nat → Prop} (h : St w b m f) (hk : Kp S w w') (hn : ¬ S b) : St w' b m f := ⟨h.here.kept hk hn, h.byte, h.few⟩
theorem St.c0 {w : World} {b m : Nat} {f : Nat → Int} (h : St w b m f) : w.cell? ⟨b, 0, none⟩ = some (.bool true) := h.here.cell 0 _ rfl
theorem St.c9 {w : World} {b m : Nat} {f : Nat → Int} (h : St w b m f) : w.cell? ⟨b, 9, none⟩ = some (.int .u64 m) := h.here.cell 9 _ rfl
theorem NoSt.c0 {w : World} {b : Nat} (h : NoSt w b) : w.cell? ⟨b, 0, none⟩ = some (.bool false) := by
  obtain ⟨cs, h, _⟩ := h; exact h.cell 0 _ rfl
theorem stc_congr (m : Nat) (f g : Nat → Int) (h : ∀ i, i < m → f i = g i) : stc m f = stc m g := by
  have e1 : hw f (m / 128) = hw g (m / 128) := hw_congr f g _ (fun i hi => h i (by omega))
  have e2 : bl 128 (wt m f) = bl 128 (wt m g) := bl_congr _ _ _ (fun i _ => by
    unfold wt; split
    · exact h _ (by omega)
    · rfl)
  unfold stc sc
  rw [e1, e2]
theorem St.congr {w : World} {b m : Nat} {f g : Nat → Int} (h : St w b m f) (hg : ∀ i, 0 ≤ g i ∧ g i < 256) (e : ∀ i, i < m → f i = g i) : St w b m g :=
  ⟨by rw [← stc_congr m f g e]; exact h.here, hg, h.few⟩

theorem isNone_st (b : Nat) (w : World) (x : Bool) (h : w.cell? ⟨b, 0, none⟩ = some (.bool x)) : Calls Tryz.prog 268 #[.pointer (some ⟨b, 0, none⟩)] w fun e w' => e = .returned (.bool (!x)) ∧ w' = w := by
  go_enter Tryz.func268, Tryz.ntmps268
  go_wp2
  go_ret
  exact ⟨rfl, rfl⟩
theorem isNone_nil (w : World) : Calls Tryz.prog 268 #[.pointer none] w fun e w' => e = .returned (.bool true) ∧ w' = w := by
  go_enter Tryz.func268, Tryz.ntmps268
  go_wp2
  go_ret
  exact ⟨rfl, rfl⟩
def newA : Array Value := (stc 0 (fun _ => 0)).toArray
set_option maxRecDepth 4000 in
theorem new12 (w : World) : Calls Tryz.prog 239 #[] w fun e w' => e = .returned (.pointer (some ⟨w.heap.size, 0, none⟩)) ∧ St w' w.heap.size 0 (fun _ => 0) ∧ Below w.heap.size w w' := by
  go_enter Tryz.func239, Tryz.ntmps239
  go_wp2
  go_ret
  refine ⟨rfl, ⟨Blk.newAt _ _ _ _ _ rfl (by kernel_rfl), fun _ => by decide, by omega⟩, below_alloc _ _⟩
end Go.Proofs.YtpohogpkfdebdaaGreatDoor.Sg
