/- The program's goOn: a message gone on with, block by block. -/
import Derived.Test.YtojldjckpjokcaaGreatDoorJcat
import Derived.Test.YtojldjckpjokcaaGreatDoorJlg
import Derived.Deep.RegionHeld3
namespace Go.Proofs.YtojldjckpjokcaaGreatDoor.Sg
open Go.ChangeShapes Go.WideShapes Go.ChangeAt Go.RowKit
open Go.Proofs.YtojldjckpjokcaaGreatDoor.By Go.Proofs.YtojldjckpjokcaaGreatDoor.Wd

theorem tab_congr (b b' : Nat → Int) (h : ∀ i, i < 128 → b i = b' i) (t : Nat) (ht : t ≤ 80) : tab b t = tab b' t := by
  induction t with
  | zero => rfl
  | succ t ih =>
    funext i
    unfold tab
    rw [ih (by omega)]
    split
    · unfold nxt
      split
      · exact BE_congr _ _ 8 (fun i hi => h _ (by omega))
      · rfl
    · rfl
theorem comp_congr (h b b' : Nat → Int) (e : ∀ i, i < 128 → b i = b' i) : comp h b = comp h b' := by
  funext i
  unfold comp
  rw [tab_congr b b' e 80 (by omega)]
/-- A part of a slice of bytes. -/
def sub (a : Option Addr) (cap : Nat) (l h : Int) : Value := .slice (if cap = l.toNat then a else a.map (·.add (l.toNat * 1))) (h.toNat - l.toNat) (cap - l.toNat)
theorem size5 (w : World) : (sizeOf (Tryz.prog.elem 41)).run Tryz.prog w = .ok 1 w := by kernel_rfl
theorem elem22 : Tryz.prog.underlying 41 = some (.slice (Tryz.prog.elem 41)) := by kernel_rfl
@[go_sem high] theorem sub_l (w : World) (a : Option Addr) (n cap : Nat) (l : Int) (h0 : 0 ≤ l) (h1 : l ≤ n) : (Instr.sliceAt 41 (.slice a n cap) (some (.int .i64 l)) none none).run Tryz.prog w = .ok (sub a cap l n) w := by
  rw [run_sliceAt_slice w 41 _ _ _ _ elem22, run_slice_l w 41 a n cap elem22 .i64 l h0 h1, size5]
  rfl
/-- What waits, with k bytes more; what it is of the message. -/
def mix (m o k : Nat) (F g : Nat → Int) (i : Nat) : Int := if o ≤ i ∧ i < o + k then g (i - o) else wt m F i
theorem mix_wt (m k o : Nat) (f g : Nat → Int) (ho : o = m % 128) (hk : o + k < 128) (i : Nat) : mix m o k (cat m f g) g i = wt (m + k) (cat m f g) i := by
  have e1 : (m + k) / 128 = m / 128 := by omega
  have e2 : (m + k) % 128 = o + k := by omega
  unfold mix wt
  rw [e1, e2]
  by_cases h1 : o ≤ i ∧ i < o + k
  · rw [if_pos h1, if_pos h1.2]
    unfold cat
    rw [if_neg (by omega)]
    congr 1
    omega
  · rw [if_neg h1]
    by_cases h2 : i < m % 128
    · rw [if_pos h2, if_pos (by omega)]
    · rw [if_neg h2, if_neg (by omega)]
theorem mix_full (m k o : Nat) (f g : Nat → Int) (ho : o = m % 128) (hk : o + k = 128) (i : Nat) (hi : i < 128) : mix m o k (cat m f g) g i = cat m f g (128 * (m / 128) + i) := by
  unfold mix wt
  by_cases h1 : o ≤ i ∧ i < o + k
  · rw [if_pos h1]
    unfold cat
    rw [if_neg (by omega)]
    congr 1
    omega
  · rw [if_neg h1, if_pos (by omega)]
    congr 1
    omega
theorem stc_part (m k o : Nat) (f g : Nat → Int) (ho : o = m % 128) (hk : o + k < 128) (x : Int) (hx : x = ((m + k : Nat) : Int)) : sc (hw (cat m f g) (m / 128)) x (mix m o k (cat m f g) g) = stc (m + k) (cat m f g) := by
  subst hx
  unfold stc
  rw [show (m + k) / 128 = m / 128 from by omega, funext (mix_wt m k o f g ho hk)]
theorem hw_full (m k o : Nat) (f g : Nat → Int) (ho : o = m % 128) (hk : o + k = 128) : comp (hw (cat m f g) (m / 128)) (mix m o k (cat m f g) g) = hw (cat m f g) ((m + k) / 128) := by
  rw [show (m + k) / 128 = m / 128 + 1 from by omega, comp_congr _ _ _ (mix_full m k o f g ho hk)]
  rfl
theorem hw_next (m j : Nat) (f g : Nat → Int) (ho : (m + j) % 128 = 0) : comp (hw (cat m f g) ((m + j) / 128)) (fun i => g (j + i)) = hw (cat m f g) ((m + (j + 128)) / 128) := by
  rw [show (m + (j + 128)) / 128 = (m + j) / 128 + 1 from by omega, comp_congr _ _ (fun i => cat m f g (128 * ((m + j) / 128) + i)) (fun i hi => ?_)]
  · rfl
  · unfold cat
    rw [if_neg (by omega)]
    congr 1
    omega
theorem stc_end (m n j k : Nat) (f g : Nat → Int) (ho : (m + j) % 128 = 0) (hj : j + k = n) (hk : k < 128) (x : Int) (hx : x = ((m + n : Nat) : Int)) : sc (hw (cat m f g) ((m + j) / 128)) x (fun i => if 0 ≤ i ∧ i < 0 + k then g (j + (i - 0)) else 0) = stc (m + n) (cat m f g) := by
  subst hx
  unfold stc
  have e : wt (m + n) (cat m f g) = fun i => if 0 ≤ i ∧ i < 0 + k then g (j + (i - 0)) else 0 := by
    funext i
    unfold wt
    by_cases h1 : i < k
    · rw [if_pos (by omega), if_pos (by omega)]
      unfold cat
      rw [if_neg (by omega)]
      congr 1
      omega
    · rw [if_neg (by omega), if_neg (by omega)]
  rw [e, show (m + n) / 128 = (m + j) / 128 from by omega]
theorem copy_run (W : World) (b o k A C pb po : Nat) (ty : TypeId) (cells : List Value) (g : Nat → Int) (hb : Blk W b cells 127) (hl : cells.length = 138) (ho : o + k ≤ 128) (hk : k = Nat.min A (128 - o)) (hs : ∀ i, i < k → W.cell? ⟨pb, po + i, none⟩ = some (.int .u8 (g i))) :
    (Builtin.copy_ #[41, 41] ty #[.slice (some ⟨b, 10 + o, none⟩) (128 - o) (128 - o), .slice (some ⟨pb, po, none⟩) A C]).run Tryz.prog W = .ok (.int .i64 k) (W.setCells b (10 + o) (bl k g)) := by
  have h := run_copy_cells (P := Tryz.prog) W 41 41 ty 5 b (10 + o) (128 - o) (128 - o) ⟨pb, po, none⟩ A C (bl k g) Tryz.underlying41 (by kernel_rfl) (by rw [bl_length]; exact hk)
    (fun j v hj => by obtain ⟨hj1, rfl⟩ := bl_get_inv _ _ _ _ hj; rw [By.add_plain]; exact hs j hj1)
    (fun j hj => (hb.there (10 + o) k (by omega) j (by rwa [bl_length] at hj)).1) (fun j hj => hb.frozen _) (bl_one k g)
  rw [bl_length] at h
  exact h
theorem copy_no (W : World) (d a : Option Addr) (dn dc C : Nat) (ty : TypeId) : (Builtin.copy_ #[41, 41] ty #[.slice d dn dc, .slice a 0 C]).run Tryz.prog W = .ok (.int .i64 0) W :=
  run_copy_none W _ _ ty 5 d a dn dc 0 C Tryz.underlying41 (by kernel_rfl) (Nat.zero_min _)
theorem sliceA (b o : Nat) (ho : o < 128) (w : World) : (Instr.sliceAt 125 (.pointer (some ⟨b, 10, none⟩)) (some (.int .i64 o)) none none).run Tryz.prog w = .ok (.slice (some ⟨b, 10 + o, none⟩) (128 - o) (128 - o)) w := by
  have h1 : (o : Int) ≤ 128 := by omega
  have h2 : ¬ 128 = o := by omega
  simp [Instr.sliceAt, go_sem, h1, h2]
/-- A slice's length. -/
def slLen : Value → Nat
  | .slice _ n _ => n
  | _ => 0
theorem blk_mix {W : World} {b m o k : Nat} {f g : Nat → Int} {x : Int} (h : Blk W b (sc (hw (cat m f g) (m / 128)) x (wt m (cat m f g))) 127) (ho : o + k ≤ 128) : Blk (W.setCells b (10 + o) (bl k g)) b (sc (hw (cat m f g) (m / 128)) x (mix m o k (cat m f g) g)) 127 := by
  have := h.put (10 + o) (bl k g)
  rw [sc_putb _ _ _ o k _ ho] at this
  exact this
theorem mix_bound (m o k : Nat) (F g : Nat → Int) (hF : ∀ i, 0 ≤ F i ∧ F i < 256) (hg : ∀ i, 0 ≤ g i ∧ g i < 256) (i : Nat) : 0 ≤ mix m o k F g i ∧ mix m o k F g i < 256 := by
  unfold mix; split
  · exact hg _
  · exact wt_bound _ _ hF _
theorem LG.state {S : Nat → Prop} {w0 w w' : World} {lo : Option Nat} {L : List Rn} {b : Nat} {cells : List Value} (h : LG S w0 w lo L) (hb : Blk w b cells 127) (hk : Kp (fun k => k = b) w w') : LG S w0 w' lo L :=
  h.kept hk (fun g e => ⟨cells, 127, by have : g = b := e; rw [this]; exact hb, by decide, by decide⟩)
theorem sub_next (pb p n cap k : Nat) (hn : n ≤ cap) : ∃ A, sub (some ⟨pb, p, none⟩) cap k n = .slice A (n - k) (cap - k) ∧ (k < n → A = some ⟨pb, p + k, none⟩) := by
  refine ⟨if cap = ((k : Int)).toNat then some ⟨pb, p, none⟩ else (some (⟨pb, p, none⟩ : Addr)).map (·.add (((k : Int)).toNat * 1)), by unfold sub; rw [Int.toNat_natCast, Int.toNat_natCast], fun h => ?_⟩
  rw [Int.toNat_natCast, if_neg (by omega), Nat.mul_one, Option.map_some, By.add_plain]
theorem sc_zero (h : Nat → Int) (m : Int) (q : Nat → Int) : put (sc h m q) 10 (bl 128 (fun _ => 0)) = sc h m (fun _ => 0) := by
  have := sc_putb h m q 0 128 (fun _ => 0) (by omega)
  rw [Nat.add_zero] at this
  rw [this]
  unfold sc
  rw [bl_congr 128 _ (fun _ => 0) (fun i hi => by rw [if_pos (by omega)])]
theorem Kt.blk {w w' : World} (h : Kt w w') {b : Nat} {cs : List Value} (hb : Blk w b cs 127) : Blk w' b cs 127 := h b cs _ hb (by decide) (by decide)
theorem wz8 : Tryz.zeroCells125 = (bl 128 (fun _ => 0)).toArray := by kernel_rfl
end Go.Proofs.YtojldjckpjokcaaGreatDoor.Sg
