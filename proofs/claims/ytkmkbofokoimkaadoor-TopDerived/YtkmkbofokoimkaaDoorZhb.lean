/- A list of bytes that the call owns, gone on with: and the program's laid, ending. A ledger that is handed in, or none: what Note makes of it, told by the blocks that it may turn. The program's goOn: a message gone on with, block by block. -/
import Derived.Test.YtkmkbofokoimkaaDoorZha
import Derived.Laws.AppendOwnNone
import Derived.Deep.OwnRows
import Derived.Test.YtkmkbofokoimkaaDoorZr
import Derived.Deep.RegionHeld3
namespace Go.Proofs.YtkmkbofokoimkaaDoor.Sh
open Go.ChangeShapes Go.WideShapes Go.ChangeAt Go.RowKit
open Go.Proofs.YtkmkbofokoimkaaDoor.By Go.Proofs.YtkmkbofokoimkaaDoor.Wd

/-- n bytes f, then g. -/
def cat (n : Nat) (f g : Nat → Int) (i : Nat) : Int := if i < n then f i else g (i - n)
theorem cat_bound {n : Nat} {f g : Nat → Int} (hf : ∀ i, 0 ≤ f i ∧ f i < 256) (hg : ∀ i, 0 ≤ g i ∧ g i < 256) (i : Nat) : 0 ≤ cat n f g i ∧ cat n f g i < 256 := by
  unfold cat; split
  · exact hf _
  · exact hg _
theorem wpList_cat {w : World} {ops : Array Oper} {rest : List Oper} {o : Oper} {a : Act} {Q : Exit → Act → World → Prop} (hgd : o.guard = none) (s x : Operand)
    (ho : o.op = .call { callee := .builtin .append, args := #[s, x], argTypes := #[22, 22] })
    (base n m : Nat) (v u : Value) (f g : Nat → Int) (hs : a.eval s = v) (hv : By.Own w base v n f) (hx : a.eval x = u) (hr : By.RB w u m g) (hn : n + m ≤ 140737488355328) (hb : base ≤ w.heap.size)
    (h : ∀ v' w', By.Own w' base v' (n + m) (cat n f g) → w.grownBy w' v.ownBlock → wpList Tryd.prog ops Q rest (a.put o.dst v') w') : wpList Tryd.prog ops Q (o :: rest) a w := by
  obtain ⟨hg, ad, cap, rfl, h1, h2, hc⟩ := hr
  obtain ⟨i0, hi, hz0, hz1, hz2⟩ := info_parts info5
  have hcat : bl n f ++ bl m g = bl (n + m) (cat n f g) := bl_append n m f g
  cases ad with
  | none =>
    have hm0 : m = 0 := by rcases hc with ⟨h, _⟩ | ⟨_, _, h, _⟩; exact h; cases h
    have hc0 : cap = 0 := by rcases hc with ⟨_, h⟩ | ⟨_, _, h, _⟩; exact h rfl; cases h
    subst hm0 hc0
    refine wpList_append_own_none hgd s x 22 ho base 5 i0 1 Tryd.underlying22 hi _ _ _ hs hv.2 hx ?_
    refine h v w ⟨cat_bound hv.1 hg, ?_⟩ (World.grownBy.refl _ _)
    rw [← hcat]; simpa [bl] using hv.2
  | some ad =>
    have HC : ∀ j u, (bl m g)[j]? = some u → w.cell? (ad.add j) = some u := by
      intro j u hj
      obtain ⟨hj1, rfl⟩ := bl_get_inv _ _ _ _ hj
      rcases hc with ⟨h, _⟩ | ⟨b, off, h, hc⟩
      · omega
      · cases h; rw [By.add_plain]; exact hc j hj1
    refine wpList_append_own _ hgd s x 22 ho base 5 i0 (.int .u8 0) 1 1 Tryd.underlying22 hi hz0 hz1 hz2 rfl (by decide) v n (bl n f) hs hv.2 ad m cap (bl m g) hx (by rw [bl_length]; omega) HC (bl_one m g) (by simp [maxLen]; omega) (by omega) hb ?_
    intro v' w' hown hgrow _
    exact h v' w' ⟨cat_bound hv.1 hg, by rw [← hcat]; exact hown⟩ hgrow
theorem below_grow {w w' w1 : World} {B n : Nat} {v : Value} {f : Nat → Int} (hb : Below B w w') (hB : B ≤ w'.heap.size) (ho : By.Own w' B v n f) (hg : w'.grownBy w1 v.ownBlock) : Below B w w1 := hb.grown hg hB (own_row ho)

/-- Eight words as bytes. -/
def lf (h : Nat → Int) (i : Nat) : Int := beByte 4 (h (i / 4)) (i % 4)
theorem lf_bound (h : Nat → Int) (i : Nat) : 0 ≤ lf h i ∧ lf h i < 256 := beByte_bound _ _ _
theorem lf_next (h : Nat → Int) (k i : Nat) : cat (4 * k) (lf h) (beByte 4 (h k)) i = if i < 4 * k + 4 then lf h i else beByte 4 (h k) (i - 4 * k) := by
  unfold cat lf
  by_cases h1 : i < 4 * k
  · rw [if_pos h1, if_pos (by omega)]
  · rw [if_neg h1]
    by_cases h2 : i < 4 * k + 4
    · rw [if_pos h2, show i / 4 = k from by omega, show i % 4 = i - 4 * k from by omega]
    · rw [if_neg h2]
theorem make32 (w : World) : (Instr.makeSlice 22 (.int .i64 0) (.int .i64 32)).run Tryd.prog w = .ok (.slice (some ⟨w.heap.size, 0, none⟩) 0 32) (w.alloc (.cells (bl 32 (fun _ => 0)).toArray 5)) := by kernel_rfl
theorem index71 (h : Nat → Int) (k : Nat) (hk : k < 8) (w : World) : (Instr.index 85 (.agg (wl 8 h).toArray) (.int .i64 k)).run Tryd.prog w = .ok (.int .u32 (h k)) w := by
  have hidx : (wl 8 h)[k]? = some (.int .u32 (h k)) := wl_get 8 h k hk
  simp [Instr.index, go_sem, hk, hidx]
theorem make_lc (l c : Nat) (h : l ≤ c) (hc : c ≤ 140737488355328) (w : World) : (Instr.makeSlice 22 (.int .u64 l) (.int .u64 c)).run Tryd.prog w = .ok (.slice (some ⟨w.heap.size, 0, none⟩) l c) (w.alloc (.cells (bl c (fun _ => 0)).toArray 5)) := by
  obtain ⟨i0, hi, hz0, hz1, hz2⟩ := info_parts info5
  have hr := run_make (P := Tryd.prog) w 22 5 i0 (.int .u8 0) Tryd.underlying22 hi hz0 .u64 .u64 l c (by omega) (by omega) (by rw [hz2]; omega) (by omega)
  have e : madeCells #[Value.int .u8 0] c = (bl c (fun _ => 0)).toArray := by rw [← bl_zero]
  simp only [Int.toNat_natCast, hz1, Nat.mul_one, Value.cells, e] at hr
  exact hr
theorem bl_take (n c : Nat) (f : Nat → Int) (h : n ≤ c) : (bl c f).take n = bl n f := by
  apply List.ext_getElem?
  intro i
  rw [List.getElem?_take]
  by_cases hi : i < n
  · rw [if_pos hi, bl_get _ _ _ (by omega), bl_get _ _ _ hi]
  · rw [if_neg hi, List.getElem?_eq_none (by rw [bl_length]; omega)]
theorem own_made (w : World) (n c B : Nat) (f : Nat → Int) (hf : ∀ i, 0 ≤ f i ∧ f i < 256) (hn : n ≤ c) (hc : c ≤ maxLen) (hB : B ≤ w.heap.size) : By.Own (w.alloc (.cells (bl c f).toArray 5)) B (.slice (some ⟨w.heap.size, 0, none⟩) n c) n f :=
  ⟨hf, by rw [bl_length]; omega, .inr ⟨_, c, _, rfl, hB, heap_alloc_last w _, hn, hc, by simp [bl_length], by simp [bl_take n c f hn]⟩⟩
set_option maxRecDepth 4000 in
set_option maxHeartbeats 1200000 in
theorem laid57 (h : Nat → Int) (hh : ∀ i, W32 (h i)) (w : World) :
    Calls Tryd.prog 49 #[.agg (wl 8 h).toArray] w fun e w' => ∃ v, e = .returned v ∧ By.Own w' w.heap.size v 32 (lf h) ∧ Below w.heap.size w w' := by
  have HH := hid hh
  clear hh
  have l2 := LDh_run (((Blk.new w (wl 8 h) 85).alloc (.cells (bl 32 (fun _ => 0)).toArray 5)).range 0 _ (fun j v h => by rw [Nat.zero_add]; exact h)) (wl_length _ _)
  have hmk := make32
  go_enter Tryd.func49, Tryd.ntmps49
  go_wp2_with fail
  go_loopw [3, 8] (fun v i wr => ∃ k : Nat, k ≤ 8 ∧ i = .int .i64 k ∧ By.Own wr w.heap.size v (4 * k) (lf h) ∧ Below w.heap.size w wr) (fun _ i _ => 8 - (intOf i).toNat)
  case atStart =>
    refine ⟨0, by omega, rfl, ?_, below_next (below_alloc w _) (below_alloc _ _)⟩
    have := own_made (w.alloc (.cells (wl 8 h).toArray 85)) 0 32 w.heap.size (fun _ => 0) (fun _ => by decide) (by omega) (by decide) (by rw [size_alloc]; omega)
    rw [size_alloc] at this
    exact own_congr this (lf_bound h) (fun i hi => by omega)
  case round =>
    clear l2 hmk
    obtain ⟨k, hk, rfl, hown, hbel⟩ := hrel
    have HO := hid hown
    have HB := hid hbel
    have HZ := hid hbel.size
    clear hown hbel
    by_cases hlt : k < 8
    · have hidx := index71 h k hlt
      go_wp2_with fail
      refine (lay19 (h k) _ (HH.out k).1 (HH.out k).2).mono ?_
      rintro e w1 ⟨u, rfl, hu, hb1⟩
      have HU := hid hu.reads
      have HO1 := hid (own_below HO.out hb1)
      have HB1 := hid (below_next HB.out hb1)
      have HZ1 := hid (Nat.le_trans HZ.out hb1.size)
      clear hu hb1 hidx
      go_wp2_with (at_builtin; go_must (refine wpList_cat rfl _ _ rfl w.heap.size (4 * k) 4 _ _ (lf h) (beByte 4 (h k)) rfl HO1.out rfl HU.out (by omega) HZ1.out ?_))
      intro v' w2 hv' hg
      have R1 := hid (own_congr hv' (lf_bound h) (fun i hi => by rw [lf_next, if_pos hi]))
      have R2 := hid (below_grow HB1.out HZ1.out HO1.out hg)
      clear hv' hg
      go_wp2
      go_roundw
      case rel => exact ⟨k + 1, by omega, by go_num, R1.out, R2.out⟩
      case measure => simp [intOf]; omega
    · have ek : k = 8 := by omega
      subst ek
      go_wp2
      go_ret
      exact ⟨_, rfl, HO.out, HB.out⟩

/-- What the digest puts behind a message of m bytes. -/
def zs (m : Nat) : Nat := (119 - m % 64) % 64
def endf (m : Nat) : Nat → Int := cat (1 + zs m) (fun i => if i = 0 then 128 else 0) (beByte 8 (8 * (m : Int)))
theorem endf_bound (m i : Nat) : 0 ≤ endf m i ∧ endf m i < 256 := cat_bound (fun i => by split <;> decide) (beByte_bound 8 _) i
set_option maxRecDepth 4000 in
set_option maxHeartbeats 1200000 in
theorem ending59 (m : Nat) (hm : m ≤ 140737488355328) (w : World) :
    Calls Tryd.prog 48 #[.int .u64 m] w fun e w' => ∃ v, e = .returned v ∧ By.Own w' w.heap.size v (1 + zs m + 8) (endf m) ∧ Below w.heap.size w w' := by
  have e1 : ((119 - (m : Int) % 64) % 18446744073709551616 % 64) = (zs m : Int) := by unfold zs; omega
  have e1' : ((119 - (m : Int) % 64) % 64) = (zs m : Int) := by unfold zs; omega
  have hz : zs m < 64 := by unfold zs; omega
  have hmk := fun w => make_lc (1 + zs m) (1 + zs m + 8) (by omega) (by omega) w
  rw [show ((1 + zs m : Nat) : Int) = 1 + (zs m : Int) from by omega, show ((1 + zs m + 8 : Nat) : Int) = 1 + (zs m : Int) + 8 from by omega] at hmk
  have hE : Hid (endf m = cat (1 + zs m) (fun i => if i = 0 then 128 else 0) (beByte 8 (8 * (m : Int)))) := rfl
  obtain ⟨z, hzz⟩ : ∃ z, zs m = z := ⟨_, rfl⟩
  rw [hzz] at e1 e1' hz hmk hE
  rw [hzz]
  clear hzz
  have hb0 : (bl (1 + z + 8) (fun _ => 0))[0]? = some (.int .u8 0) := bl_get _ _ 0 (by omega)
  have ow := hid (own_made w (1 + z) (1 + z + 8) w.heap.size (fun i => if i = 0 then 128 else 0) (fun i => by split <;> decide) (by omega) (by simp [maxLen]; omega) (Nat.le_refl _))
  go_enter Tryd.func48, Tryd.ntmps48
  go_wp2_with fail
  rw [bl_set]
  refine (lay23 (8 * m) _ (by omega) (by omega)).mono ?_
  rintro e w1 ⟨u, rfl, hu, hb1⟩
  have HU := hid hu.reads
  have HO1 := hid (own_below ow.out hb1)
  have HB1 := hid (below_next (below_alloc w _) hb1)
  have HZ1 := hid HB1.out.size
  clear hu hb1 hb0 hmk
  go_wp2_with (at_builtin; go_must (refine wpList_cat rfl _ _ rfl w.heap.size (1 + z) 8 _ _ (fun i => if i = 0 then 128 else 0) (beByte 8 (8 * m)) rfl HO1.out rfl HU.out (by omega) HZ1.out ?_))
  intro v' w2 hv' hg
  have R1 := hid hv'
  have R2 := hid (below_grow HB1.out HZ1.out HO1.out hg)
  clear hv' hg
  go_wp2
  go_ret
  exact ⟨_, rfl, by rw [hE.out]; exact R1.out, R2.out⟩

/-- The form of a message of m bytes. -/
def formf (m : Nat) (f : Nat → Int) : Nat → Int := cat 40 (cat 32 (lf (hw f (m / 64))) (beByte 8 m)) (wt m f)
theorem make104 (w : World) : (Instr.makeSlice 22 (.int .i64 0) (.int .i64 104)).run Tryd.prog w = .ok (.slice (some ⟨w.heap.size, 0, none⟩) 0 104) (w.alloc (.cells (bl 104 (fun _ => 0)).toArray 5)) := by kernel_rfl
theorem St.wait {w : World} {b m : Nat} {f : Nat → Int} (h : St w b m f) : By.RB w (.slice (some ⟨b, 10, none⟩) 64 64) 64 (wt m f) :=
  ⟨wt_bound m f h.byte, _, _, rfl, Nat.le_refl _, by decide, .inr ⟨b, 10, rfl, fun i hi => h.here.cell _ _ (sc_b _ _ _ _ _ (bl_get 64 _ i hi))⟩⟩
theorem St.words {w : World} {b m : Nat} {f : Nat → Int} (h : St w b m f) : (LDh ⟨b, 1, none⟩).run Tryd.prog w = .ok (.agg (wl 8 (hw f (m / 64))).toArray) w :=
  LDh_run (h.here.range 1 _ (fun j v hj => sc_h _ _ _ j v hj)) (wl_length _ _)
end Go.Proofs.YtkmkbofokoimkaaDoor.Sh
namespace Go.Proofs.YtkmkbofokoimkaaDoor.Sh
open Go.ChangeShapes Go.WideShapes Go.ChangeAt Go.RowKit
open Go.Proofs.YtkmkbofokoimkaaDoor.By Go.Proofs.YtkmkbofokoimkaaDoor.Wd

/-- A ledger's pointer. -/
def lpv : Option Nat → Value
  | none => .pointer none
  | some b => .pointer (some ⟨b, 0, none⟩)
/-- The ledger (if there is one) has L; of the blocks that were there in w0 it has only such as S names. -/
def LG (S : Nat → Prop) (w0 w : World) (lo : Option Nat) (L : List Rn) : Prop :=
  match lo with
  | none => True
  | some lb => S lb ∧ ∃ rv, Led w lb rv L ∧ ∀ g, rv.ownBlock = some g → g < w0.heap.size → S g
theorem own_type {w : World} {base : Nat} {v : Value} {L : List Rn} (h : Own w base v L) {g : Nat} (hg : v.ownBlock = some g) : ∃ cs, w.heap[g]? = some (.cells cs 111 (0, 0)) := by
  obtain ⟨_, _, h | ⟨g', cap, cur, rfl, _, hc, _⟩⟩ := h
  · obtain ⟨rfl, _⟩ := h; simp [Value.ownBlock] at hg
  · simp [Value.ownBlock] at hg; subst hg; exact ⟨cur, hc⟩
theorem led_apart {w : World} {lb : Nat} {rv : Value} {L : List Rn} (h : Led w lb rv L) {g : Nat} {cs : List Value} {t : TypeId} (hg : Blk w g cs t) (h1 : t ≠ 109) (h2 : t ≠ 111) : ¬ (g = lb ∨ rv.ownBlock = some g) := by
  rintro (e | e)
  · subst e
    have := Option.some.inj (hg.symm.trans h.here)
    simp only [Obj.cells.injEq] at this
    exact h1 this.2.1
  · obtain ⟨c, hc⟩ := own_type h.own e
    have := Option.some.inj (hg.symm.trans hc)
    simp only [Obj.cells.injEq] at this
    exact h2 this.2.1
/-- Blocks that are no ledger's stay. -/
def Kt (w w' : World) : Prop := ∀ g cs t, Blk w g cs t → t ≠ 109 → t ≠ 111 → Blk w' g cs t
theorem LG.kept {S : Nat → Prop} {w0 w w' : World} {lo : Option Nat} {L : List Rn} {T : Nat → Prop} (h : LG S w0 w lo L) (hk : Kp T w w') (hT : ∀ g, T g → ∃ cs t, Blk w g cs t ∧ t ≠ 109 ∧ t ≠ 111) : LG S w0 w' lo L := by
  cases lo with
  | none => exact trivial
  | some lb =>
    obtain ⟨hs, rv, hl, ho⟩ := h
    refine ⟨hs, rv, hl.kept hk (fun e => ?_) (fun g hg e => ?_), ho⟩
    · obtain ⟨cs, t, hb, h1, h2⟩ := hT _ e
      exact led_apart hl hb h1 h2 (.inl rfl)
    · obtain ⟨cs, t, hb, h1, h2⟩ := hT _ e
      exact led_apart hl hb h1 h2 (.inr hg)
theorem LG.below {S : Nat → Prop} {w0 w w' : World} {lo : Option Nat} {L : List Rn} (h : LG S w0 w lo L) (hb : Below w.heap.size w w') : LG S w0 w' lo L := h.kept (Kp.of_below (fun _ => False) hb) (fun _ e => e.elim)
/-- Room for one event more. -/
def Room (L : List Rn) : Prop := tq L ≤ 5800000000000
theorem room_len {w : World} {lb : Nat} {rv : Value} {L : List Rn} (_ : Led w lb rv L) (hr : Room L) : (L.length + 1) * 24 ≤ 140737488355328 := by
  have := tq_len L
  unfold Room at hr
  have h2 : L.length ≤ 5800000000000 := by omega
  have := Nat.mul_le_mul_right 24 (Nat.succ_le_succ h2)
  omega
theorem note_lg (S : Nat → Prop) (w0 w : World) (lo : Option Nat) (L : List Rn) (k s : Int) (hk : 0 ≤ k ∧ k < 256) (hs : 0 ≤ s ∧ s ≤ 1000) (h : LG S w0 w lo L) (h0 : Kp S w0 w) (hr : Room L) :
    Calls Tryd.prog 46 #[lpv lo, .agg #[.int .u8 k, .int .i64 s]] w fun e w' => e = .returned (.tuple #[]) ∧ LG S w0 w' lo (putL L ⟨k, s, 1⟩) ∧ Kp S w0 w' ∧ Kt w w' := by
  cases lo with
  | none =>
    refine (note16n k s w).mono ?_
    rintro e w' ⟨rfl, hb⟩
    exact ⟨rfl, trivial, h0.trans (Kp.of_below S hb) (fun _ _ e => e), fun g cs t hg _ _ => hg.below hb⟩
  | some lb =>
    obtain ⟨hs1, rv, hl, ho⟩ := h
    have hrl := room_len hl hr
    unfold Room at hr
    have hqq := tq_tot L
    refine (note16 lb rv L k s w hl ⟨hk, ⟨by show -9223372036854775808 ≤ s; omega, by show s ≤ 9223372036854775807; omega⟩, by show -9223372036854775808 ≤ (1 : Int) ∧ (1 : Int) ≤ 9223372036854775807; omega⟩ (by omega) hrl).mono ?_
    rintro e w' ⟨rfl, rv', hl', hkp, hsn⟩
    refine ⟨rfl, ⟨hs1, rv', hl', fun g hg hlt => ?_⟩, h0.trans hkp ?_, fun g cs t hg h1 h2 => hg.kept hkp (led_apart hl hg h1 h2)⟩
    · rcases hsn with e | e
      · exact ho g (by rw [← e]; exact hg) hlt
      · have := e g hg; have := h0.size; omega
    · rintro i hi (rfl | e)
      · exact hs1
      · exact ho i e hi
theorem putL_tot {L : List Rn} {r : Rn} (h : Pos L) (hr : r.c = 1) (hb : tq L ≤ 5800000000000) : tq (putL L r) ≤ tq L + 1 := tq_put h hr hb
/-- n events {1, 64} more. -/
def evs256 (L : List Rn) : Nat → List Rn
  | 0 => L
  | n + 1 => putL (evs256 L n) ⟨1, 64, 1⟩
theorem evs256_pos {L : List Rn} (h : Pos L) (n : Nat) : Pos (evs256 L n) := by
  induction n with
  | zero => exact h
  | succ n ih => exact putL_pos ih
theorem evs256_tot {L : List Rn} (h : Pos L) (n : Nat) (hb : tq L + n ≤ 5800000000000) : tq (evs256 L n) ≤ tq L + n := by
  induction n with
  | zero => simp [evs256]
  | succ n ih =>
    have h1 := ih (by omega)
    have h2 := putL_tot (r := ⟨1, 64, 1⟩) (evs256_pos h n) rfl (by omega)
    rw [evs256]; omega
theorem evs256_all {L : List Rn} (h : Pos L) (n : Nat) (hb : tot L + n ≤ 9000000000000000000) : tot (evs256 L n) = tot L + n := by
  induction n with
  | zero => simp [evs256]
  | succ n ih =>
    have := ih (by omega)
    rw [evs256, tot_put (evs256_pos h n) (by show (1 : Int) ≤ 1; omega) (by show tot (evs256 L n) + 1 ≤ _; omega), this]
    show tot L + (n : Int) + 1 = tot L + ((n + 1 : Nat) : Int); omega
/-- The last run is of that event. -/
def Ends (L : List Rn) : Prop := ∃ M c, L = M ++ [⟨1, 64, c⟩] ∧ 1 ≤ c
theorem putL_ends {L : List Rn} (h : Ends L) : Ends (putL L ⟨1, 64, 1⟩) ∧ (putL L ⟨1, 64, 1⟩).length = L.length := by
  obtain ⟨M, c, rfl, hc⟩ := h
  have e : putL (M ++ [⟨1, 64, c⟩]) ⟨1, 64, 1⟩ = M ++ [⟨1, 64, sm c 1⟩] := by
    unfold putL
    rw [if_neg (by show ¬ (1 : Int) < 1; omega), List.getLast?_append, List.getLast?_singleton]
    simp
  rw [e]
  exact ⟨⟨M, _, rfl, (sm_bound hc (by omega)).1⟩, by simp⟩
theorem putL_ends0 (L : List Rn) (hp : Pos L) : Ends (putL L ⟨1, 64, 1⟩) := by
  unfold putL
  rw [if_neg (by show ¬ (1 : Int) < 1; omega)]
  split
  · rename_i q hq
    obtain ⟨M, hM⟩ := List.getLast?_eq_some_iff.1 hq
    split
    · rename_i hk
      subst hM
      obtain ⟨qk, qs, qc⟩ := q
      obtain ⟨rfl, rfl⟩ : qk = 1 ∧ qs = 64 := hk
      have h1 : (1 : Int) ≤ qc := hp ⟨1, 64, qc⟩ (by simp)
      exact ⟨M, sm qc 1, by simp, (sm_bound h1 (by omega)).1⟩
    · exact ⟨L, 1, rfl, by omega⟩
  · exact ⟨[], 1, rfl, by omega⟩
theorem evs256_len {L : List Rn} (hp : Pos L) (n : Nat) : (evs256 L n).length ≤ L.length + 1 := by
  cases n with
  | zero => simp [evs256]
  | succ n =>
    have : Ends (evs256 L (n + 1)) ∧ (evs256 L (n + 1)).length ≤ L.length + 1 := by
      induction n with
      | zero => exact ⟨putL_ends0 L hp, (putL_len (L := L) (r := ⟨1, 64, 1⟩)).1⟩
      | succ n ih =>
        have h := putL_ends ih.1
        rw [evs256]
        exact ⟨h.1, by rw [h.2]; exact ih.2⟩
    exact this.2
theorem evs256_fine {L : List Rn} (h : Pos L) (n : Nat) (hb : tot L + n ≤ 9000000000000000000) : tq (evs256 L n) ≤ tq L + (n / 1048576 : Nat) + 1 := tq_fine (evs256_all h n hb) (evs256_len h n)
theorem evs256_add (L : List Rn) (a b : Nat) : evs256 (evs256 L a) b = evs256 L (a + b) := by
  induction b with
  | zero => rfl
  | succ b ih => rw [← Nat.add_assoc, evs256, evs256, ih]
end Go.Proofs.YtkmkbofokoimkaaDoor.Sh
namespace Go.Proofs.YtkmkbofokoimkaaDoor.Sh
open Go.ChangeShapes Go.WideShapes Go.ChangeAt Go.RowKit
open Go.Proofs.YtkmkbofokoimkaaDoor.By Go.Proofs.YtkmkbofokoimkaaDoor.Wd

theorem tab_congr (b b' : Nat → Int) (h : ∀ i, i < 64 → b i = b' i) (t : Nat) (ht : t ≤ 64) : tab b t = tab b' t := by
  induction t with
  | zero => rfl
  | succ t ih =>
    funext i
    unfold tab
    rw [ih (by omega)]
    split
    · unfold nxt
      split
      · exact BE_congr _ _ 4 (fun i hi => h _ (by omega))
      · rfl
    · rfl
theorem comp_congr (h b b' : Nat → Int) (e : ∀ i, i < 64 → b i = b' i) : comp h b = comp h b' := by
  funext i
  unfold comp
  rw [tab_congr b b' e 64 (by omega)]
/-- A part of a slice of bytes. -/
def sub (a : Option Addr) (cap : Nat) (l h : Int) : Value := .slice (if cap = l.toNat then a else a.map (·.add (l.toNat * 1))) (h.toNat - l.toNat) (cap - l.toNat)
theorem size5 (w : World) : (sizeOf (Tryd.prog.elem 22)).run Tryd.prog w = .ok 1 w := by kernel_rfl
theorem elem22 : Tryd.prog.underlying 22 = some (.slice (Tryd.prog.elem 22)) := by kernel_rfl
@[go_sem high] theorem sub_l (w : World) (a : Option Addr) (n cap : Nat) (l : Int) (h0 : 0 ≤ l) (h1 : l ≤ n) : (Instr.sliceAt 22 (.slice a n cap) (some (.int .i64 l)) none none).run Tryd.prog w = .ok (sub a cap l n) w := by
  rw [run_sliceAt_slice w 22 _ _ _ _ elem22, run_slice_l w 22 a n cap elem22 .i64 l h0 h1, size5]
  rfl
/-- What waits, with k bytes more; what it is of the message. -/
def mix (M o k j : Nat) (F g : Nat → Int) (i : Nat) : Int := if o ≤ i ∧ i < o + k then g (j + (i - o)) else wt M F i
theorem mix_wt (m j k o : Nat) (f g : Nat → Int) (ho : o = (m + j) % 64) (hk : o + k < 64) (i : Nat) : mix (m + j) o k j (cat m f g) g i = wt (m + j + k) (cat m f g) i := by
  have e1 : (m + j + k) / 64 = (m + j) / 64 := by omega
  have e2 : (m + j + k) % 64 = o + k := by omega
  unfold mix wt
  rw [e1, e2]
  by_cases h1 : o ≤ i ∧ i < o + k
  · rw [if_pos h1, if_pos h1.2]
    unfold cat
    rw [if_neg (by omega)]
    congr 1
    omega
  · rw [if_neg h1]
    by_cases h2 : i < (m + j) % 64
    · rw [if_pos h2, if_pos (by omega)]
    · rw [if_neg h2, if_neg (by omega)]
theorem mix_full (m j k o : Nat) (f g : Nat → Int) (ho : o = (m + j) % 64) (hk : o + k = 64) (i : Nat) (hi : i < 64) : mix (m + j) o k j (cat m f g) g i = cat m f g (64 * ((m + j) / 64) + i) := by
  unfold mix wt
  by_cases h1 : o ≤ i ∧ i < o + k
  · rw [if_pos h1]
    unfold cat
    rw [if_neg (by omega)]
    congr 1
    omega
  · rw [if_neg h1, if_pos (by omega)]
    congr 1
    omega
theorem stc_part (m j k o : Nat) (f g : Nat → Int) (ho : o = (m + j) % 64) (hk : o + k < 64) (x : Int) (hx : x = ((m + j + k : Nat) : Int)) : sc (hw (cat m f g) ((m + j) / 64)) x (mix (m + j) o k j (cat m f g) g) = stc (m + (j + k)) (cat m f g) := by
  subst hx
  rw [← Nat.add_assoc]
  unfold stc
  rw [show (m + j + k) / 64 = (m + j) / 64 from by omega, funext (mix_wt m j k o f g ho hk)]
theorem stc_full (m j k o : Nat) (f g : Nat → Int) (ho : o = (m + j) % 64) (hk : o + k = 64) (x : Int) (hx : x = ((m + j + k : Nat) : Int)) : sc (comp (hw (cat m f g) ((m + j) / 64)) (mix (m + j) o k j (cat m f g) g)) x (fun _ => 0) = stc (m + (j + k)) (cat m f g) := by
  subst hx
  rw [← Nat.add_assoc]
  unfold stc
  rw [show (m + j + k) / 64 = (m + j) / 64 + 1 from by omega, comp_congr _ _ _ (mix_full m j k o f g ho hk)]
  have e : wt (m + j + k) (cat m f g) = fun _ => 0 := by
    funext i; unfold wt; rw [if_neg (by omega)]
  rw [e]; rfl
theorem copy_run (W : World) (b o k A C pb po : Nat) (ty : TypeId) (cells : List Value) (g : Nat → Int) (hb : Blk W b cells 89) (hl : cells.length = 74) (ho : o + k ≤ 64) (hk : k = Nat.min A (64 - o)) (hs : ∀ i, i < k → W.cell? ⟨pb, po + i, none⟩ = some (.int .u8 (g i))) :
    (Builtin.copy_ #[22, 22] ty #[.slice (some ⟨b, 10 + o, none⟩) (64 - o) (64 - o), .slice (some ⟨pb, po, none⟩) A C]).run Tryd.prog W = .ok (.int .i64 k) (W.setCells b (10 + o) (bl k g)) := by
  have h := run_copy_cells (P := Tryd.prog) W 22 22 ty 5 b (10 + o) (64 - o) (64 - o) ⟨pb, po, none⟩ A C (bl k g) Tryd.underlying22 (by kernel_rfl) (by rw [bl_length]; exact hk)
    (fun j v hj => by obtain ⟨hj1, rfl⟩ := bl_get_inv _ _ _ _ hj; rw [By.add_plain]; exact hs j hj1)
    (fun j hj => (hb.there (10 + o) k (by omega) j (by rwa [bl_length] at hj)).1) (fun j hj => hb.frozen _) (bl_one k g)
  rw [bl_length] at h
  exact h
theorem sliceA (b o : Nat) (ho : o < 64) (w : World) : (Instr.sliceAt 87 (.pointer (some ⟨b, 10, none⟩)) (some (.int .u64 o)) none none).run Tryd.prog w = .ok (.slice (some ⟨b, 10 + o, none⟩) (64 - o) (64 - o)) w := by
  have h1 : (o : Int) ≤ 64 := by omega
  have h2 : ¬ 64 = o := by omega
  simp [Instr.sliceAt, go_sem, h1, h2]
/-- A slice's length. -/
def slLen : Value → Nat
  | .slice _ n _ => n
  | _ => 0
theorem blk_mix {W : World} {b m j o k : Nat} {f g : Nat → Int} (h : St W b (m + j) (cat m f g)) (ho : o + k ≤ 64) : Blk (W.setCells b (10 + o) (bl k (fun i => g (j + i)))) b (sc (hw (cat m f g) ((m + j) / 64)) ((m + j : Nat) : Int) (mix (m + j) o k j (cat m f g) g)) 89 := by
  have := h.here.put (10 + o) (bl k (fun i => g (j + i)))
  unfold stc at this
  rw [sc_putb _ _ _ o k _ ho] at this
  exact this
theorem mix_bound (M o k j : Nat) (F g : Nat → Int) (hF : ∀ i, 0 ≤ F i ∧ F i < 256) (hg : ∀ i, 0 ≤ g i ∧ g i < 256) (i : Nat) : 0 ≤ mix M o k j F g i ∧ mix M o k j F g i < 256 := by
  unfold mix; split
  · exact hg _
  · exact wt_bound _ _ hF _
theorem LG.state {S : Nat → Prop} {w0 w w' : World} {lo : Option Nat} {L : List Rn} {b : Nat} {cells : List Value} (h : LG S w0 w lo L) (hb : Blk w b cells 89) (hk : Kp (fun k => k = b) w w') : LG S w0 w' lo L :=
  h.kept hk (fun g e => ⟨cells, 89, by have : g = b := e; rw [this]; exact hb, by decide, by decide⟩)
theorem sub_next (pb p n cap k : Nat) (hn : n ≤ cap) : ∃ A, sub (some ⟨pb, p, none⟩) cap k n = .slice A (n - k) (cap - k) ∧ (k < n → A = some ⟨pb, p + k, none⟩) := by
  refine ⟨if cap = ((k : Int)).toNat then some ⟨pb, p, none⟩ else (some (⟨pb, p, none⟩ : Addr)).map (·.add (((k : Int)).toNat * 1)), by unfold sub; rw [Int.toNat_natCast, Int.toNat_natCast], fun h => ?_⟩
  rw [Int.toNat_natCast, if_neg (by omega), Nat.mul_one, Option.map_some, By.add_plain]
theorem sc_zero (h : Nat → Int) (m : Int) (q : Nat → Int) : put (sc h m q) 10 (bl 64 (fun _ => 0)) = sc h m (fun _ => 0) := by
  have := sc_putb h m q 0 64 (fun _ => 0) (by omega)
  rw [Nat.add_zero] at this
  rw [this]
  unfold sc
  rw [bl_congr 64 _ (fun _ => 0) (fun i hi => by rw [if_pos (by omega)])]
theorem Kt.blk {w w' : World} (h : Kt w w') {b : Nat} {cs : List Value} (hb : Blk w b cs 89) : Blk w' b cs 89 := h b cs _ hb (by decide) (by decide)
theorem wz8 : #[Value.int .u8 0, .int .u8 0, .int .u8 0, .int .u8 0, .int .u8 0, .int .u8 0, .int .u8 0, .int .u8 0, .int .u8 0, .int .u8 0, .int .u8 0, .int .u8 0, .int .u8 0, .int .u8 0, .int .u8 0, .int .u8 0, .int .u8 0, .int .u8 0, .int .u8 0, .int .u8 0, .int .u8 0, .int .u8 0, .int .u8 0, .int .u8 0, .int .u8 0, .int .u8 0, .int .u8 0, .int .u8 0, .int .u8 0, .int .u8 0, .int .u8 0, .int .u8 0, .int .u8 0, .int .u8 0, .int .u8 0, .int .u8 0, .int .u8 0, .int .u8 0, .int .u8 0, .int .u8 0, .int .u8 0, .int .u8 0, .int .u8 0, .int .u8 0, .int .u8 0, .int .u8 0, .int .u8 0, .int .u8 0, .int .u8 0, .int .u8 0, .int .u8 0, .int .u8 0, .int .u8 0, .int .u8 0, .int .u8 0, .int .u8 0, .int .u8 0, .int .u8 0, .int .u8 0, .int .u8 0, .int .u8 0, .int .u8 0, .int .u8 0, .int .u8 0] = (bl 64 (fun _ => 0)).toArray := by kernel_rfl
end Go.Proofs.YtkmkbofokoimkaaDoor.Sh
