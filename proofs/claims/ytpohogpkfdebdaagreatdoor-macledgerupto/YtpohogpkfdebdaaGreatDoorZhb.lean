/- A list of bytes that the call owns, gone on with: and the program's laid, ending. A ledger that is handed in, or none: what Note makes of it, told by the blocks that it may turn. The program's goOn: a message gone on with, block by block. The program's goOn, walked. -/
import Derived.Test.YtpohogpkfdebdaaGreatDoorZha
import Derived.Laws.AppendOwnNone
import Derived.Deep.OwnRows
import Derived.Test.YtpohogpkfdebdaaGreatDoorZr
import Derived.Deep.RegionHeld3
namespace Go.Proofs.YtpohogpkfdebdaaGreatDoor.Sh
open Go.ChangeShapes Go.WideShapes Go.ChangeAt Go.RowKit
open Go.Proofs.YtpohogpkfdebdaaGreatDoor.By Go.Proofs.YtpohogpkfdebdaaGreatDoor.Wd

/-- n bytes f, then g. -/
def cat (n : Nat) (f g : Nat → Int) (i : Nat) : Int := if i < n then f i else g (i - n)
theorem cat_bound {n : Nat} {f g : Nat → Int} (hf : ∀ i, 0 ≤ f i ∧ f i < 256) (hg : ∀ i, 0 ≤ g i ∧ g i < 256) (i : Nat) : 0 ≤ cat n f g i ∧ cat n f g i < 256 := by
  unfold cat; split
  · exact hf _
  · exact hg _
theorem wpList_cat {w : World} {ops : Array Oper} {rest : List Oper} {o : Oper} {a : Act} {Q : Exit → Act → World → Prop} (hgd : o.guard = none) (s x : Operand)
    (ho : o.op = .call { callee := .builtin .append, args := #[s, x], argTypes := #[23, 23] })
    (base n m : Nat) (v u : Value) (f g : Nat → Int) (hs : a.eval s = v) (hv : By.Own w base v n f) (hx : a.eval x = u) (hr : By.RB w u m g) (hn : n + m ≤ 140737488355328) (hb : base ≤ w.heap.size)
    (h : ∀ v' w', By.Own w' base v' (n + m) (cat n f g) → w.grownBy w' v.ownBlock → wpList Tryz.prog ops Q rest (a.put o.dst v') w') : wpList Tryz.prog ops Q (o :: rest) a w := by
  obtain ⟨hg, ad, cap, rfl, h1, h2, hc⟩ := hr
  obtain ⟨i0, hi, hz0, hz1, hz2⟩ := info_parts info5
  have hcat : bl n f ++ bl m g = bl (n + m) (cat n f g) := bl_append n m f g
  cases ad with
  | none =>
    have hm0 : m = 0 := by rcases hc with ⟨h, _⟩ | ⟨_, _, h, _⟩; exact h; cases h
    have hc0 : cap = 0 := by rcases hc with ⟨_, h⟩ | ⟨_, _, h, _⟩; exact h rfl; cases h
    subst hm0 hc0
    refine wpList_append_own_none hgd s x 23 ho base 5 i0 1 Tryz.underlying23 hi _ _ _ hs hv.2 hx ?_
    refine h v w ⟨cat_bound hv.1 hg, ?_⟩ (World.grownBy.refl _ _)
    rw [← hcat]; simpa [bl] using hv.2
  | some ad =>
    have HC : ∀ j u, (bl m g)[j]? = some u → w.cell? (ad.add j) = some u := by
      intro j u hj
      obtain ⟨hj1, rfl⟩ := bl_get_inv _ _ _ _ hj
      rcases hc with ⟨h, _⟩ | ⟨b, off, h, hc⟩
      · omega
      · cases h; rw [By.add_plain]; exact hc j hj1
    refine wpList_append_own _ hgd s x 23 ho base 5 i0 (.int .u8 0) 1 1 Tryz.underlying23 hi hz0 hz1 hz2 rfl (by decide) v n (bl n f) hs hv.2 ad m cap (bl m g) hx (by rw [bl_length]; omega) HC (bl_one m g) (by simp [maxLen]; omega) (by omega) hb ?_
    intro v' w' hown hgrow _
    exact h v' w' ⟨cat_bound hv.1 hg, by rw [← hcat]; exact hown⟩ hgrow
theorem below_grow {w w' w1 : World} {B n : Nat} {v : Value} {f : Nat → Int} (hb : Below B w w') (hB : B ≤ w'.heap.size) (ho : By.Own w' B v n f) (hg : w'.grownBy w1 v.ownBlock) : Below B w w1 := hb.grown hg hB (own_row ho)

/-- Eight words as bytes. -/
def lf (h : Nat → Int) (i : Nat) : Int := beByte 4 (h (i / 4)) (i % 4)
theorem lf_bound (h : Nat → Int) (i : Nat) : 0 ≤ lf h i ∧ lf h i < 256 := beByte_bound _ _ _
theorem lf_next (h : Nat → Int) (k i : Nat) : cat (4 * k) (lf h) (beByte 4 (h k)) i = if i < 4 * k + 4 then lf h i else beByte 4 (h k) (i - 4 * k) := by
  unfold cat lf
  by_cases h1 : i < 4 * k
  · rw [if_pos h1, if_pos (by omega)]
  · rw [if_neg h1]
    by_cases h2 : i < 4 * k + 4
    · rw [if_pos h2, show i / 4 = k from by omega, show i % 4 = i - 4 * k from by omega]
    · rw [if_neg h2]
theorem make32 (w : World) : (Instr.makeSlice 23 (.int .i64 0) (.int .i64 32)).run Tryz.prog w = .ok (.slice (some ⟨w.heap.size, 0, none⟩) 0 32) (w.alloc (.cells (bl 32 (fun _ => 0)).toArray 5)) := by kernel_rfl
theorem index71 (h : Nat → Int) (k : Nat) (hk : k < 8) (w : World) : (Instr.index 276 (.agg (wl 8 h).toArray) (.int .i64 k)).run Tryz.prog w = .ok (.int .u32 (h k)) w := by
  have hidx : (wl 8 h)[k]? = some (.int .u32 (h k)) := wl_get 8 h k hk
  simp [Instr.index, go_sem, hk, hidx]
theorem make_lc (l c : Nat) (h : l ≤ c) (hc : c ≤ 140737488355328) (w : World) : (Instr.makeSlice 23 (.int .u64 l) (.int .u64 c)).run Tryz.prog w = .ok (.slice (some ⟨w.heap.size, 0, none⟩) l c) (w.alloc (.cells (bl c (fun _ => 0)).toArray 5)) := by
  obtain ⟨i0, hi, hz0, hz1, hz2⟩ := info_parts info5
  have hr := run_make (P := Tryz.prog) w 23 5 i0 (.int .u8 0) Tryz.underlying23 hi hz0 .u64 .u64 l c (by omega) (by omega) (by rw [hz2]; omega) (by omega)
  have e : madeCells #[Value.int .u8 0] c = (bl c (fun _ => 0)).toArray := by rw [← bl_zero]
  simp only [Int.toNat_natCast, hz1, Nat.mul_one, Value.cells, e] at hr
  exact hr
theorem bl_take (n c : Nat) (f : Nat → Int) (h : n ≤ c) : (bl c f).take n = bl n f := by
  apply List.ext_getElem?
  intro i
  rw [List.getElem?_take]
  by_cases hi : i < n
  · rw [if_pos hi, bl_get _ _ _ (by omega), bl_get _ _ _ hi]
  · rw [if_neg hi, List.getElem?_eq_none (by rw [bl_length]; omega)]
theorem own_made (w : World) (n c B : Nat) (f : Nat → Int) (hf : ∀ i, 0 ≤ f i ∧ f i < 256) (hn : n ≤ c) (hc : c ≤ maxLen) (hB : B ≤ w.heap.size) : By.Own (w.alloc (.cells (bl c f).toArray 5)) B (.slice (some ⟨w.heap.size, 0, none⟩) n c) n f :=
  ⟨hf, by rw [bl_length]; omega, .inr ⟨_, c, _, rfl, hB, heap_alloc_last w _, hn, hc, by simp [bl_length], by simp [bl_take n c f hn]⟩⟩
set_option maxRecDepth 4000 in
set_option maxHeartbeats 1200000 in
theorem laid57 (h : Nat → Int) (hh : ∀ i, W32 (h i)) (w : World) :
    Calls Tryz.prog 266 #[.agg (wl 8 h).toArray] w fun e w' => ∃ v, e = .returned v ∧ By.Own w' w.heap.size v 32 (lf h) ∧ Below w.heap.size w w' := by
  have HH := hid hh
  clear hh
  have l2 := LDh_run (((Blk.new w (wl 8 h) 276).alloc (.cells (bl 32 (fun _ => 0)).toArray 5)).range 0 _ (fun j v h => by rw [Nat.zero_add]; exact h)) (wl_length _ _)
  have hmk := make32
  go_enter Tryz.func266, Tryz.ntmps266
  go_wp2_with fail
  go_loopw [3, 8] (fun v i wr => ∃ k : Nat, k ≤ 8 ∧ i = .int .i64 k ∧ By.Own wr w.heap.size v (4 * k) (lf h) ∧ Below w.heap.size w wr) (fun _ i _ => 8 - (intOf i).toNat)
  case atStart =>
    refine ⟨0, by omega, rfl, ?_, below_next (below_alloc w _) (below_alloc _ _)⟩
    have := own_made (w.alloc (.cells (wl 8 h).toArray 276)) 0 32 w.heap.size (fun _ => 0) (fun _ => by decide) (by omega) (by decide) (by rw [size_alloc]; omega)
    rw [size_alloc] at this
    exact own_congr this (lf_bound h) (fun i hi => by omega)
  case round =>
    clear l2 hmk
    obtain ⟨k, hk, rfl, hown, hbel⟩ := hrel
    have HO := hid hown
    have HB := hid hbel
    have HZ := hid hbel.size
    clear hown hbel
    by_cases hlt : k < 8
    · have hidx := index71 h k hlt
      go_wp2_with fail
      refine (lay19 (h k) _ (HH.out k).1 (HH.out k).2).mono ?_
      rintro e w1 ⟨u, rfl, hu, hb1⟩
      have HU := hid hu.reads
      have HO1 := hid (own_below HO.out hb1)
      have HB1 := hid (below_next HB.out hb1)
      have HZ1 := hid (Nat.le_trans HZ.out hb1.size)
      clear hu hb1 hidx
      go_wp2_with (at_builtin; go_must (refine wpList_cat rfl _ _ rfl w.heap.size (4 * k) 4 _ _ (lf h) (beByte 4 (h k)) rfl HO1.out rfl HU.out (by omega) HZ1.out ?_))
      intro v' w2 hv' hg
      have R1 := hid (own_congr hv' (lf_bound h) (fun i hi => by rw [lf_next, if_pos hi]))
      have R2 := hid (below_grow HB1.out HZ1.out HO1.out hg)
      clear hv' hg
      go_wp2
      go_roundw
      case rel => exact ⟨k + 1, by omega, by go_num, R1.out, R2.out⟩
      case measure => simp [intOf]; omega
    · have ek : k = 8 := by omega
      subst ek
      go_wp2
      go_ret
      exact ⟨_, rfl, HO.out, HB.out⟩

/-- What the digest puts behind a message of m bytes. -/
def zs (m : Nat) : Nat := (119 - m % 64) % 64
def endf (m : Nat) : Nat → Int := cat (1 + zs m) (fun i => if i = 0 then 128 else 0) (beByte 8 (8 * (m : Int)))
set_option maxRecDepth 4000 in
set_option maxHeartbeats 1200000 in
theorem ending59 (m : Nat) (hm : m ≤ 140737488355328) (w : World) :
    Calls Tryz.prog 265 #[.int .u64 m] w fun e w' => ∃ v, e = .returned v ∧ By.Own w' w.heap.size v (1 + zs m + 8) (endf m) ∧ Below w.heap.size w w' := by
  have e1 : ((119 - (m : Int) % 64) % 18446744073709551616 % 64) = (zs m : Int) := by unfold zs; omega
  have e1' : ((119 - (m : Int) % 64) % 64) = (zs m : Int) := by unfold zs; omega
  have hz : zs m < 64 := by unfold zs; omega
  have hmk := fun w => make_lc (1 + zs m) (1 + zs m + 8) (by omega) (by omega) w
  rw [show ((1 + zs m : Nat) : Int) = 1 + (zs m : Int) from by omega, show ((1 + zs m + 8 : Nat) : Int) = 1 + (zs m : Int) + 8 from by omega] at hmk
  have hE : Hid (endf m = cat (1 + zs m) (fun i => if i = 0 then 128 else 0) (beByte 8 (8 * (m : Int)))) := rfl
  obtain ⟨z, hzz⟩ : ∃ z, zs m = z := ⟨_, rfl⟩
  rw [hzz] at e1 e1' hz hmk hE
  rw [hzz]
  clear hzz
  have hb0 : (bl (1 + z + 8) (fun _ => 0))[0]? = some (.int .u8 0) := bl_get _ _ 0 (by omega)
  have ow := hid (own_made w (1 + z) (1 + z + 8) w.heap.size (fun i => if i = 0 then 128 else 0) (fun i => by split <;> decide) (by omega) (by simp [maxLen]; omega) (Nat.le_refl _))
  go_enter Tryz.func265, Tryz.ntmps265
  go_wp2_with fail
  rw [bl_set]
  refine (lay23 (8 * m) _ (by omega) (by omega)).mono ?_
  rintro e w1 ⟨u, rfl, hu, hb1⟩
  have HU := hid hu.reads
  have HO1 := hid (own_below ow.out hb1)
  have HB1 := hid (below_next (below_alloc w _) hb1)
  have HZ1 := hid HB1.out.size
  clear hu hb1 hb0 hmk
  go_wp2_with (at_builtin; go_must (refine wpList_cat rfl _ _ rfl w.heap.size (1 + z) 8 _ _ (fun i => if i = 0 then 128 else 0) (beByte 8 (8 * m)) rfl HO1.out rfl HU.out (by omega) HZ1.out ?_))
  intro v' w2 hv' hg
  have R1 := hid hv'
  have R2 := hid (below_grow HB1.out HZ1.out HO1.out hg)
  clear hv' hg
  go_wp2
  go_ret
  exact ⟨_, rfl, by rw [hE.out]; exact R1.out, R2.out⟩

/-- The form of a message of m bytes. -/
def formf (m : Nat) (f : Nat → Int) : Nat → Int := cat 40 (cat 32 (lf (hw f (m / 64))) (beByte 8 m)) (wt m f)
theorem make104 (w : World) : (Instr.makeSlice 23 (.int .i64 0) (.int .i64 104)).run Tryz.prog w = .ok (.slice (some ⟨w.heap.size, 0, none⟩) 0 104) (w.alloc (.cells (bl 104 (fun _ => 0)).toArray 5)) := by kernel_rfl
theorem St.wait {w : World} {b m : Nat} {f : Nat → Int} (h : St w b m f) : By.RB w (.slice (some ⟨b, 10, none⟩) 64 64) 64 (wt m f) :=
  ⟨wt_bound m f h.byte, _, _, rfl, Nat.le_refl _, by decide, .inr ⟨b, 10, rfl, fun i hi => h.here.cell _ _ (sc_b _ _ _ _ _ (bl_get 64 _ i hi))⟩⟩
theorem St.words {w : World} {b m : Nat} {f : Nat → Int} (h : St w b m f) : (LDh ⟨b, 1, none⟩).run Tryz.prog w = .ok (.agg (wl 8 (hw f (m / 64))).toArray) w :=
  LDh_run (h.here.range 1 _ (fun j v hj => sc_h _ _ _ j v hj)) (wl_length _ _)
set_option maxRecDepth 4000 in
set_option maxHeartbeats 1200000 in
theorem form30 (b m : Nat) (f : Nat → Int) (w : World) (h : St w b m f) :
    Calls Tryz.prog 331 #[.pointer (some ⟨b, 0, none⟩)] w fun e w' => ∃ v, e = .returned v ∧ By.Own w' w.heap.size v 104 (formf m f) ∧ Below w.heap.size w w' := by
  have H := hid h
  have h0 := h.c0
  have hmk := make104
  have HS := hid (h.below (below_alloc w (.cells (bl 104 (fun _ => 0)).toArray 5)))
  have l1 := HS.out.words
  have ow := hid (own_made w 0 104 w.heap.size (fun _ => 0) (fun _ => by decide) (by omega) (by decide) (Nat.le_refl _))
  clear h
  go_enter Tryz.func331, Tryz.ntmps331
  go_wp2_with (first | (go_at_call 264; refine (isNone_st _ _ true h0).mono ?_; rintro e w ⟨rfl, rfl⟩))
  refine (laid57 _ (hw_w f (m / 64)) _).mono ?_
  rintro e w1 ⟨u, rfl, hu, hb1⟩
  have HU := hid hu.reads
  have HO1 := hid (own_below ow.out hb1)
  have HS1 := hid (HS.out.below hb1)
  have HB1 := hid (below_next (below_alloc w _) hb1)
  have HZ1 := hid HB1.out.size
  clear hu hb1 hmk l1 h0
  go_wp2_with (at_builtin; go_must (refine wpList_cat rfl _ _ rfl w.heap.size 0 32 _ _ (fun _ => 0) (lf (hw f (m / 64))) rfl HO1.out rfl HU.out (by omega) HZ1.out ?_))
  intro v2 w2 hv2 hg2
  have HO2 := hid (own_congr hv2 (lf_bound (hw f (m / 64))) (fun i hi => by unfold cat; simp))
  have HB2 := hid (below_grow HB1.out HZ1.out HO1.out hg2)
  have HS2 := hid (H.out.below HB2.out)
  have HZ2 := hid HB2.out.size
  have c9 := HS2.out.c9
  have hm := H.out.few
  clear hv2 hg2
  go_wp2_with fail
  refine (lay23 m _ (by omega) (by omega)).mono ?_
  rintro e w3 ⟨u3, rfl, hu3, hb3⟩
  have HU3 := hid hu3.reads
  have HO3 := hid (own_below HO2.out hb3)
  have HB3 := hid (below_next HB2.out hb3)
  have HZ3 := hid HB3.out.size
  clear hu3 hb3 c9
  go_wp2_with (at_builtin; go_must (refine wpList_cat rfl _ _ rfl w.heap.size (0 + 32) 8 _ _ (lf (hw f (m / 64))) (beByte 8 m) rfl HO3.out rfl HU3.out (by omega) HZ3.out ?_))
  intro v4 w4 hv4 hg4
  have HO4 := hid hv4
  have HB4 := hid (below_grow HB3.out HZ3.out HO3.out hg4)
  have HS4 := hid (H.out.below HB4.out)
  have HZ4 := hid HB4.out.size
  clear hv4 hg4
  go_wp2_with (at_builtin; go_must (refine wpList_cat rfl _ _ rfl w.heap.size (0 + 32 + 8) 64 _ _ (cat 32 (lf (hw f (m / 64))) (beByte 8 m)) (wt m f) rfl HO4.out rfl HS4.out.wait (by omega) HZ4.out ?_))
  intro v5 w5 hv5 hg5
  have HO5 := hid hv5
  have HB5 := hid (below_grow HB4.out HZ4.out HO4.out hg5)
  clear hv5 hg5
  go_wp2
  go_ret
  exact ⟨_, rfl, HO5.out, HB5.out⟩
end Go.Proofs.YtpohogpkfdebdaaGreatDoor.Sh
namespace Go.Proofs.YtpohogpkfdebdaaGreatDoor.Sh
open Go.ChangeShapes Go.WideShapes Go.ChangeAt Go.RowKit
open Go.Proofs.YtpohogpkfdebdaaGreatDoor.By Go.Proofs.YtpohogpkfdebdaaGreatDoor.Wd

/-- A ledger's pointer. -/
def lpv : Option Nat → Value
  | none => .pointer none
  | some b => .pointer (some ⟨b, 0, none⟩)
/-- The ledger (if there is one) has L; of the blocks that were there in w0 it has only such as S names. -/
def LG (S : Nat → Prop) (w0 w : World) (lo : Option Nat) (L : List Rn) : Prop :=
  match lo with
  | none => True
  | some lb => S lb ∧ ∃ rv, Led w lb rv L ∧ ∀ g, rv.ownBlock = some g → g < w0.heap.size → S g
theorem own_type {w : World} {base : Nat} {v : Value} {L : List Rn} (h : Own w base v L) {g : Nat} (hg : v.ownBlock = some g) : ∃ cs, w.heap[g]? = some (.cells cs 78 (0, 0)) := by
  obtain ⟨_, _, h | ⟨g', cap, cur, rfl, _, hc, _⟩⟩ := h
  · obtain ⟨rfl, _⟩ := h; simp [Value.ownBlock] at hg
  · simp [Value.ownBlock] at hg; subst hg; exact ⟨cur, hc⟩
theorem led_apart {w : World} {lb : Nat} {rv : Value} {L : List Rn} (h : Led w lb rv L) {g : Nat} {cs : List Value} {t : TypeId} (hg : Blk w g cs t) (h1 : t ≠ 89) (h2 : t ≠ 78) : ¬ (g = lb ∨ rv.ownBlock = some g) := by
  rintro (e | e)
  · subst e
    have := Option.some.inj (hg.symm.trans h.here)
    simp only [Obj.cells.injEq] at this
    exact h1 this.2.1
  · obtain ⟨c, hc⟩ := own_type h.own e
    have := Option.some.inj (hg.symm.trans hc)
    simp only [Obj.cells.injEq] at this
    exact h2 this.2.1
/-- Blocks that are no ledger's stay. -/
def Kt (w w' : World) : Prop := ∀ g cs t, Blk w g cs t → t ≠ 89 → t ≠ 78 → Blk w' g cs t
theorem LG.kept {S : Nat → Prop} {w0 w w' : World} {lo : Option Nat} {L : List Rn} {T : Nat → Prop} (h : LG S w0 w lo L) (hk : Kp T w w') (hT : ∀ g, T g → ∃ cs t, Blk w g cs t ∧ t ≠ 89 ∧ t ≠ 78) : LG S w0 w' lo L := by
  cases lo with
  | none => exact trivial
  | some lb =>
    obtain ⟨hs, rv, hl, ho⟩ := h
    refine ⟨hs, rv, hl.kept hk (fun e => ?_) (fun g hg e => ?_), ho⟩
    · obtain ⟨cs, t, hb, h1, h2⟩ := hT _ e
      exact led_apart hl hb h1 h2 (.inl rfl)
    · obtain ⟨cs, t, hb, h1, h2⟩ := hT _ e
      exact led_apart hl hb h1 h2 (.inr hg)
theorem LG.below {S : Nat → Prop} {w0 w w' : World} {lo : Option Nat} {L : List Rn} (h : LG S w0 w lo L) (hb : Below w.heap.size w w') : LG S w0 w' lo L := h.kept (Kp.of_below (fun _ => False) hb) (fun _ e => e.elim)
/-- Room for one event more. -/
def Room (L : List Rn) : Prop := tq L ≤ 5800000000000
theorem room_len {w : World} {lb : Nat} {rv : Value} {L : List Rn} (_ : Led w lb rv L) (hr : Room L) : (L.length + 1) * 24 ≤ 140737488355328 := by
  have := tq_len L
  unfold Room at hr
  have h2 : L.length ≤ 5800000000000 := by omega
  have := Nat.mul_le_mul_right 24 (Nat.succ_le_succ h2)
  omega
theorem note_lg (S : Nat → Prop) (w0 w : World) (lo : Option Nat) (L : List Rn) (k s : Int) (hk : 0 ≤ k ∧ k < 256) (hs : 0 ≤ s ∧ s ≤ 1000) (h : LG S w0 w lo L) (h0 : Kp S w0 w) (hr : Room L) :
    Calls Tryz.prog 121 #[lpv lo, .agg #[.int .u8 k, .int .i64 s]] w fun e w' => e = .returned (.tuple #[]) ∧ LG S w0 w' lo (putL L ⟨k, s, 1⟩) ∧ Kp S w0 w' ∧ Kt w w' := by
  cases lo with
  | none =>
    refine (note16n k s w).mono ?_
    rintro e w' ⟨rfl, hb⟩
    exact ⟨rfl, trivial, h0.trans (Kp.of_below S hb) (fun _ _ e => e), fun g cs t hg _ _ => hg.below hb⟩
  | some lb =>
    obtain ⟨hs1, rv, hl, ho⟩ := h
    have hrl := room_len hl hr
    unfold Room at hr
    have hqq := tq_tot L
    refine (note16 lb rv L k s w hl ⟨hk, ⟨by show -9223372036854775808 ≤ s; omega, by show s ≤ 9223372036854775807; omega⟩, by show -9223372036854775808 ≤ (1 : Int) ∧ (1 : Int) ≤ 9223372036854775807; omega⟩ (by omega) hrl).mono ?_
    rintro e w' ⟨rfl, rv', hl', hkp, hsn⟩
    refine ⟨rfl, ⟨hs1, rv', hl', fun g hg hlt => ?_⟩, h0.trans hkp ?_, fun g cs t hg h1 h2 => hg.kept hkp (led_apart hl hg h1 h2)⟩
    · rcases hsn with e | e
      · exact ho g (by rw [← e]; exact hg) hlt
      · have := e g hg; have := h0.size; omega
    · rintro i hi (rfl | e)
      · exact hs1
      · exact ho i e hi
theorem putL_tot {L : List Rn} {r : Rn} (h : Pos L) (hr : r.c = 1) (hb : tq L ≤ 5800000000000) : tq (putL L r) ≤ tq L + 1 := tq_put h hr hb
/-- n events {1, 64} more. -/
def evs256 (L : List Rn) : Nat → List Rn
  | 0 => L
  | n + 1 => putL (evs256 L n) ⟨1, 64, 1⟩
theorem evs256_pos {L : List Rn} (h : Pos L) (n : Nat) : Pos (evs256 L n) := by
  induction n with
  | zero => exact h
  | succ n ih => exact putL_pos ih
theorem evs256_tot {L : List Rn} (h : Pos L) (n : Nat) (hb : tq L + n ≤ 5800000000000) : tq (evs256 L n) ≤ tq L + n := by
  induction n with
  | zero => simp [evs256]
  | succ n ih =>
    have h1 := ih (by omega)
    have h2 := putL_tot (r := ⟨1, 64, 1⟩) (evs256_pos h n) rfl (by omega)
    rw [evs256]; omega
theorem evs256_all {L : List Rn} (h : Pos L) (n : Nat) (hb : tot L + n ≤ 9000000000000000000) : tot (evs256 L n) = tot L + n := by
  induction n with
  | zero => simp [evs256]
  | succ n ih =>
    have := ih (by omega)
    rw [evs256, tot_put (evs256_pos h n) (by show (1 : Int) ≤ 1; omega) (by show tot (evs256 L n) + 1 ≤ _; omega), this]
    show tot L + (n : Int) + 1 = tot L + ((n + 1 : Nat) : Int); omega
/-- The last run is of that event. -/
def Ends (L : List Rn) : Prop := ∃ M c, L = M ++ [⟨1, 64, c⟩] ∧ 1 ≤ c
theorem putL_ends {L : List Rn} (h : Ends L) : Ends (putL L ⟨1, 64, 1⟩) ∧ (putL L ⟨1, 64, 1⟩).length = L.length := by
  obtain ⟨M, c, rfl, hc⟩ := h
  have e : putL (M ++ [⟨1, 64, c⟩]) ⟨1, 64, 1⟩ = M ++ [⟨1, 64, sm c 1⟩] := by
    unfold putL
    rw [if_neg (by show ¬ (1 : Int) < 1; omega), List.getLast?_append, List.getLast?_singleton]
    simp
  rw [e]
  exact ⟨⟨M, _, rfl, (sm_bound hc (by omega)).1⟩, by simp⟩
theorem putL_ends0 (L : List Rn) (hp : Pos L) : Ends (putL L ⟨1, 64, 1⟩) := by
  unfold putL
  rw [if_neg (by show ¬ (1 : Int) < 1; omega)]
  split
  · rename_i q hq
    obtain ⟨M, hM⟩ := List.getLast?_eq_some_iff.1 hq
    split
    · rename_i hk
      subst hM
      obtain ⟨qk, qs, qc⟩ := q
      obtain ⟨rfl, rfl⟩ : qk = 1 ∧ qs = 64 := hk
      have h1 : (1 : Int) ≤ qc := hp ⟨1, 64, qc⟩ (by simp)
      exact ⟨M, sm qc 1, by simp, (sm_bound h1 (by omega)).1⟩
    · exact ⟨L, 1, rfl, by omega⟩
  · exact ⟨[], 1, rfl, by omega⟩
theorem evs256_len {L : List Rn} (hp : Pos L) (n : Nat) : (evs256 L n).length ≤ L.length + 1 := by
  cases n with
  | zero => simp [evs256]
  | succ n =>
    have : Ends (evs256 L (n + 1)) ∧ (evs256 L (n + 1)).length ≤ L.length + 1 := by
      induction n with
      | zero => exact ⟨putL_ends0 L hp, (putL_len (L := L) (r := ⟨1, 64, 1⟩)).1⟩
      | succ n ih =>
        have h := putL_ends ih.1
        rw [evs256]
        exact ⟨h.1, by rw [h.2]; exact ih.2⟩
    exact this.2
theorem evs256_add (L : List Rn) (a b : Nat) : evs256 (evs256 L a) b = evs256 L (a + b) := by
  induction b with
  | zero => rfl
  | succ b ih => rw [← Nat.add_assoc, evs256, evs256, ih]
end Go.Proofs.YtpohogpkfdebdaaGreatDoor.Sh
namespace Go.Proofs.YtpohogpkfdebdaaGreatDoor.Sh
open Go.ChangeShapes Go.WideShapes Go.ChangeAt Go.RowKit
open Go.Proofs.YtpohogpkfdebdaaGreatDoor.By Go.Proofs.YtpohogpkfdebdaaGreatDoor.Wd

theorem tab_congr (b b' : Nat → Int) (h : ∀ i, i < 64 → b i = b' i) (t : Nat) (ht : t ≤ 64) : tab b t = tab b' t := by
  induction t with
  | zero => rfl
  | succ t ih =>
    funext i
    unfold tab
    rw [ih (by omega)]
    split
    · unfold nxt
      split
      · exact BE_congr _ _ 4 (fun i hi => h _ (by omega))
      · rfl
    · rfl
theorem comp_congr (h b b' : Nat → Int) (e : ∀ i, i < 64 → b i = b' i) : comp h b = comp h b' := by
  funext i
  unfold comp
  rw [tab_congr b b' e 64 (by omega)]
/-- A part of a slice of bytes. -/
def sub (a : Option Addr) (cap : Nat) (l h : Int) : Value := .slice (if cap = l.toNat then a else a.map (·.add (l.toNat * 1))) (h.toNat - l.toNat) (cap - l.toNat)
theorem size5 (w : World) : (sizeOf (Tryz.prog.elem 23)).run Tryz.prog w = .ok 1 w := by kernel_rfl
theorem elem22 : Tryz.prog.underlying 23 = some (.slice (Tryz.prog.elem 23)) := by kernel_rfl
@[go_sem high] theorem sub_l (w : World) (a : Option Addr) (n cap : Nat) (l : Int) (h0 : 0 ≤ l) (h1 : l ≤ n) : (Instr.sliceAt 23 (.slice a n cap) (some (.int .i64 l)) none none).run Tryz.prog w = .ok (sub a cap l n) w := by
  rw [run_sliceAt_slice w 23 _ _ _ _ elem22, run_slice_l w 23 a n cap elem22 .i64 l h0 h1, size5]
  rfl
/-- What waits, with k bytes more; what it is of the message. -/
def mix (M o k j : Nat) (F g : Nat → Int) (i : Nat) : Int := if o ≤ i ∧ i < o + k then g (j + (i - o)) else wt M F i
theorem mix_wt (m j k o : Nat) (f g : Nat → Int) (ho : o = (m + j) % 64) (hk : o + k < 64) (i : Nat) : mix (m + j) o k j (cat m f g) g i = wt (m + j + k) (cat m f g) i := by
  have e1 : (m + j + k) / 64 = (m + j) / 64 := by omega
  have e2 : (m + j + k) % 64 = o + k := by omega
  unfold mix wt
  rw [e1, e2]
  by_cases h1 : o ≤ i ∧ i < o + k
  · rw [if_pos h1, if_pos h1.2]
    unfold cat
    rw [if_neg (by omega)]
    congr 1
    omega
  · rw [if_neg h1]
    by_cases h2 : i < (m + j) % 64
    · rw [if_pos h2, if_pos (by omega)]
    · rw [if_neg h2, if_neg (by omega)]
theorem mix_full (m j k o : Nat) (f g : Nat → Int) (ho : o = (m + j) % 64) (hk : o + k = 64) (i : Nat) (hi : i < 64) : mix (m + j) o k j (cat m f g) g i = cat m f g (64 * ((m + j) / 64) + i) := by
  unfold mix wt
  by_cases h1 : o ≤ i ∧ i < o + k
  · rw [if_pos h1]
    unfold cat
    rw [if_neg (by omega)]
    congr 1
    omega
  · rw [if_neg h1, if_pos (by omega)]
    congr 1
    omega
theorem stc_part (m j k o : Nat) (f g : Nat → Int) (ho : o = (m + j) % 64) (hk : o + k < 64) (x : Int) (hx : x = ((m + j + k : Nat) : Int)) : sc (hw (cat m f g) ((m + j) / 64)) x (mix (m + j) o k j (cat m f g) g) = stc (m + (j + k)) (cat m f g) := by
  subst hx
  rw [← Nat.add_assoc]
  unfold stc
  rw [show (m + j + k) / 64 = (m + j) / 64 from by omega, funext (mix_wt m j k o f g ho hk)]
theorem stc_full (m j k o : Nat) (f g : Nat → Int) (ho : o = (m + j) % 64) (hk : o + k = 64) (x : Int) (hx : x = ((m + j + k : Nat) : Int)) : sc (comp (hw (cat m f g) ((m + j) / 64)) (mix (m + j) o k j (cat m f g) g)) x (fun _ => 0) = stc (m + (j + k)) (cat m f g) := by
  subst hx
  rw [← Nat.add_assoc]
  unfold stc
  rw [show (m + j + k) / 64 = (m + j) / 64 + 1 from by omega, comp_congr _ _ _ (mix_full m j k o f g ho hk)]
  have e : wt (m + j + k) (cat m f g) = fun _ => 0 := by
    funext i; unfold wt; rw [if_neg (by omega)]
  rw [e]; rfl
theorem copy_run (W : World) (b o k A C pb po : Nat) (ty : TypeId) (cells : List Value) (g : Nat → Int) (hb : Blk W b cells 282) (hl : cells.length = 74) (ho : o + k ≤ 64) (hk : k = Nat.min A (64 - o)) (hs : ∀ i, i < k → W.cell? ⟨pb, po + i, none⟩ = some (.int .u8 (g i))) :
    (Builtin.copy_ #[23, 23] ty #[.slice (some ⟨b, 10 + o, none⟩) (64 - o) (64 - o), .slice (some ⟨pb, po, none⟩) A C]).run Tryz.prog W = .ok (.int .i64 k) (W.setCells b (10 + o) (bl k g)) := by
  have h := run_copy_cells (P := Tryz.prog) W 23 23 ty 5 b (10 + o) (64 - o) (64 - o) ⟨pb, po, none⟩ A C (bl k g) Tryz.underlying23 (by kernel_rfl) (by rw [bl_length]; exact hk)
    (fun j v hj => by obtain ⟨hj1, rfl⟩ := bl_get_inv _ _ _ _ hj; rw [By.add_plain]; exact hs j hj1)
    (fun j hj => (hb.there (10 + o) k (by omega) j (by rwa [bl_length] at hj)).1) (fun j hj => hb.frozen _) (bl_one k g)
  rw [bl_length] at h
  exact h
/-- A slice's length. -/
def slLen : Value → Nat
  | .slice _ n _ => n
  | _ => 0
theorem blk_mix {W : World} {b m j o k : Nat} {f g : Nat → Int} (h : St W b (m + j) (cat m f g)) (ho : o + k ≤ 64) : Blk (W.setCells b (10 + o) (bl k (fun i => g (j + i)))) b (sc (hw (cat m f g) ((m + j) / 64)) ((m + j : Nat) : Int) (mix (m + j) o k j (cat m f g) g)) 282 := by
  have := h.here.put (10 + o) (bl k (fun i => g (j + i)))
  unfold stc at this
  rw [sc_putb _ _ _ o k _ ho] at this
  exact this
theorem mix_bound (M o k j : Nat) (F g : Nat → Int) (hF : ∀ i, 0 ≤ F i ∧ F i < 256) (hg : ∀ i, 0 ≤ g i ∧ g i < 256) (i : Nat) : 0 ≤ mix M o k j F g i ∧ mix M o k j F g i < 256 := by
  unfold mix; split
  · exact hg _
  · exact wt_bound _ _ hF _
theorem LG.state {S : Nat → Prop} {w0 w w' : World} {lo : Option Nat} {L : List Rn} {b : Nat} {cells : List Value} (h : LG S w0 w lo L) (hb : Blk w b cells 282) (hk : Kp (fun k => k = b) w w') : LG S w0 w' lo L :=
  h.kept hk (fun g e => ⟨cells, 282, by have : g = b := e; rw [this]; exact hb, by decide, by decide⟩)
theorem sub_next (pb p n cap k : Nat) (hn : n ≤ cap) : ∃ A, sub (some ⟨pb, p, none⟩) cap k n = .slice A (n - k) (cap - k) ∧ (k < n → A = some ⟨pb, p + k, none⟩) := by
  refine ⟨if cap = ((k : Int)).toNat then some ⟨pb, p, none⟩ else (some (⟨pb, p, none⟩ : Addr)).map (·.add (((k : Int)).toNat * 1)), by unfold sub; rw [Int.toNat_natCast, Int.toNat_natCast], fun h => ?_⟩
  rw [Int.toNat_natCast, if_neg (by omega), Nat.mul_one, Option.map_some, By.add_plain]
theorem sc_zero (h : Nat → Int) (m : Int) (q : Nat → Int) : put (sc h m q) 10 (bl 64 (fun _ => 0)) = sc h m (fun _ => 0) := by
  have := sc_putb h m q 0 64 (fun _ => 0) (by omega)
  rw [Nat.add_zero] at this
  rw [this]
  unfold sc
  rw [bl_congr 64 _ (fun _ => 0) (fun i hi => by rw [if_pos (by omega)])]
theorem Kt.blk {w w' : World} (h : Kt w w') {b : Nat} {cs : List Value} (hb : Blk w b cs 282) : Blk w' b cs 282 := h b cs _ hb (by decide) (by decide)
theorem wz8 : #[Value.int .u8 0, .int .u8 0, .int .u8 0, .int .u8 0, .int .u8 0, .int .u8 0, .int .u8 0, .int .u8 0, .int .u8 0, .int .u8 0, .int .u8 0, .int .u8 0, .int .u8 0, .int .u8 0, .int .u8 0, .int .u8 0, .int .u8 0, .int .u8 0, .int .u8 0, .int .u8 0, .int .u8 0, .int .u8 0, .int .u8 0, .int .u8 0, .int .u8 0, .int .u8 0, .int .u8 0, .int .u8 0, .int .u8 0, .int .u8 0, .int .u8 0, .int .u8 0, .int .u8 0, .int .u8 0, .int .u8 0, .int .u8 0, .int .u8 0, .int .u8 0, .int .u8 0, .int .u8 0, .int .u8 0, .int .u8 0, .int .u8 0, .int .u8 0, .int .u8 0, .int .u8 0, .int .u8 0, .int .u8 0, .int .u8 0, .int .u8 0, .int .u8 0, .int .u8 0, .int .u8 0, .int .u8 0, .int .u8 0, .int .u8 0, .int .u8 0, .int .u8 0, .int .u8 0, .int .u8 0, .int .u8 0, .int .u8 0, .int .u8 0, .int .u8 0] = (bl 64 (fun _ => 0)).toArray := by kernel_rfl
end Go.Proofs.YtpohogpkfdebdaaGreatDoor.Sh
namespace Go.Proofs.YtpohogpkfdebdaaGreatDoor.Sh
open Go.ChangeShapes Go.WideShapes Go.ChangeAt Go.RowKit
open Go.Proofs.YtpohogpkfdebdaaGreatDoor.By Go.Proofs.YtpohogpkfdebdaaGreatDoor.Wd

set_option maxRecDepth 4000 in
set_option maxHeartbeats 4000000 in
theorem goOn_some (b m n pb po cap : Nat) (f g : Nat → Int) (lo : Option Nat) (L : List Rn) (S : Nat → Prop) (w : World) (hst : St w b m f) (hk : KT w) (hS0 : ¬ S 1) (hSb : S b) (hl : LG S w w lo L) (hg : ∀ i, 0 ≤ g i ∧ g i < 256) (hp : Pos L)
    (hr : ∀ w', Kp S w w' → ∀ i, i < n → w'.cell? ⟨pb, po + i, none⟩ = some (.int .u8 (g i))) (hn : 0 < n) (hc : n ≤ cap) (hcap : cap ≤ maxLen) (hmn : m + n ≤ 140737488354328) (hroom : tq L + (n / 64 : Nat) ≤ 5000000000000) :
    Calls Tryz.prog 237 #[.pointer (some ⟨b, 0, none⟩), lpv lo, .slice (some ⟨pb, po, none⟩) n cap] w fun e w' => e = .returned (.tuple #[]) ∧ St w' b (m + n) (cat m f g) ∧ LG S w w' lo (evs256 L ((m + n) / 64 - m / 64)) ∧ Kp S w w' := by
  have H0 := hid (hst.congr (cat_bound (n := m) hst.byte hg) (fun i hi => by unfold cat; rw [if_pos hi]))
  have HK := hid hk
  have HS0 := hid hS0
  have HSb := hid hSb
  have HL := hid hl
  have HG := hid hg
  have HP := hid hp
  have HR := hid hr
  have HC := hid hcap
  have HM := hid hroom
  clear hst hk hS0 hSb hl hg hp hr hcap hroom
  go_enter Tryz.func237, Tryz.ntmps237
  go_wp2_with fail
  go_loopw [2] (fun p wr => ∃ j A, j ≤ n ∧ p = .slice A (n - j) (cap - j) ∧ (j < n → A = some ⟨pb, po + j, none⟩) ∧ St wr b (m + j) (cat m f g) ∧ LG S w wr lo (evs256 L ((m + j) / 64 - m / 64)) ∧ Kp S w wr) (fun p _ => slLen p)
  case atStart =>
    refine ⟨0, _, by omega, rfl, fun _ => rfl, H0.out, ?_, Kp.refl _ _⟩
    rw [show (m + 0) / 64 - m / 64 = 0 from by omega]; exact HL.out
  case round =>
    obtain ⟨j, A, hj, rfl, hA, hst, hlg, hkp⟩ := hrel
    have HS := hid hst
    have HLG := hid hlg
    have HKP := hid hkp
    clear hst hlg hkp
    by_cases hlt : j < n
    · obtain rfl := hA hlt
      clear hA
      obtain ⟨M, hM⟩ : ∃ M, m + j = M := ⟨_, rfl⟩
      obtain ⟨o, ho⟩ : ∃ o, M % 64 = o := ⟨_, rfl⟩
      obtain ⟨k, hkk⟩ : ∃ k, Nat.min (n - j) (64 - o) = k := ⟨_, rfl⟩
      have ho64 : o < 64 := by omega
      have hk0 : 0 < k := by rw [← hkk]; exact Nat.lt_min.2 ⟨by omega, by omega⟩
      have hk1 : k ≤ n - j := by rw [← hkk]; exact Nat.min_le_left _ _
      have hk2 : k ≤ 64 - o := by rw [← hkk]; exact Nat.min_le_right _ _
      have c9 := HS.out.c9
      rw [hM] at c9
      have hcp := fun ty => copy_run wr.drew b o k (n - j) (cap - j) pb (po + j) ty _ (fun i => g (j + i)) (HS.out.here.drewN 1) (sc_length _ _ _) (by omega) hkk.symm (fun i hi => by rw [Nat.add_assoc]; exact HR.out wr.drew (HKP.out.trans (Kp.of_below S (below_drewN wr 1)) (fun _ _ e => e)) (j + i) (by omega))
      have hlen : 0 < n - j := by omega
      have hmod : ((M : Int) % 64) = (o : Int) := by omega
      have HM1 := hid hM
      have HO1 := hid ho
      have HKK := hid hkk
      clear hM ho hkk
      have s1 : (o : Int) ≤ 64 := by omega
      have s2 : ¬ 64 = o := by omega
      go_wp2_with fail
      go_region
      have HW := hid HS.out.byte
      obtain ⟨W1, hW1⟩ : ∃ x, wr.drew.setCells b (10 + o) (bl k fun i => g (j + i)) = x := ⟨_, rfl⟩
      have hB1 := blk_mix (W := wr.drew) (b := b) (m := m) (j := j) (o := o) (k := k) (f := f) (g := g) ⟨HS.out.here.drewN 1, HS.out.byte, HS.out.few⟩ (by omega)
      have hK1 : Kp S w W1 := by
        rw [← hW1]
        exact (HKP.out.trans (Kp.of_below S (below_drewN wr 1)) (fun _ _ e => e)).trans (Kp.setCells b _ _) (fun i _ e => by rw [e]; exact HSb.out)
      have hL1 : LG S w W1 lo (evs256 L ((m + j) / 64 - m / 64)) := by
        rw [← hW1]
        exact (HLG.out.below (below_drewN wr 1)).state (HS.out.here.drewN 1) (Kp.setCells b _ _)
      rw [hW1] at hB1
      rw [hW1]
      have B1 := hid hB1
      have K1 := hid hK1
      have L1 := hid hL1
      clear hW1 hB1 hK1 hL1 hcp c9
      have k9 := B1.out.cell 9 _ (sc_9 _ _ _)
      rw [HM1.out] at k9
      have f9 := B1.out.frozen 9
      have hk1' : (k : Int) ≤ ((n - j : Nat) : Int) := by omega
      have hMk : M + k ≤ 140737488354328 := by have := HM1.out; omega
      by_cases hfull : o + k = 64
      · have he : ((M : Int) + k) % 64 = 0 := by have := HO1.out; omega
        go_wp2_with fail
        obtain ⟨W2, hW2⟩ : ∃ x, W1.setCell ⟨b, 9, none⟩ (.int .u64 ((M : Int) + k)) = x := ⟨_, rfl⟩
        have hB2 : Blk W2 b (sc (hw (cat m f g) ((m + j) / 64)) ((M : Int) + k) (mix (m + j) o k j (cat m f g) g)) 282 := by
          rw [← hW2, ← sc_set9 _ ((m + j : Nat) : Int)]; exact B1.out.set 9 _
        have hK2 : Kp S w W2 := by rw [← hW2]; exact K1.out.trans (Kp.setCell b 9 _) (fun i _ e => by have : i = b := e; rw [this]; exact HSb.out)
        have hL2 : LG S w W2 lo (evs256 L ((m + j) / 64 - m / 64)) := by rw [← hW2]; exact L1.out.state B1.out (Kp.setCell b 9 _)
        rw [hW2]
        have B2 := hid hB2
        have K2 := hid hK2
        have L2 := hid hL2
        clear hW2 hB2 hK2 hL2 k9 f9
        have x1 := LDh_run (w := W2.drew) ((B2.out.drewN 1).range 1 _ (fun j v hj => sc_h _ _ _ j v hj)) (wl_length _ _)
        have x2 := LDb_run (w := W2.drew) ((B2.out.drewN 1).range 10 _ (fun j v hj => sc_b _ _ _ j v hj)) (bl_length _ _)
        have KT2 := hid (HK.out.kept K2.out HS0.out)
        go_region_with (first | (go_at_call 263; go_must (refine (compress64 _ _ (hw_w _ _) (mix_bound _ _ _ _ _ _ HW.out HG.out) _ (KT2.out.drewN 1)).mono ?_; rintro e w3 ⟨rfl, hb3⟩; have B3 := hid ((B2.out.drewN 1).below hb3); have H3 := hid hb3; have y3 := SVh_run (cs := wl 8 (comp (hw (cat m f g) ((m + j) / 64)) (mix (m + j) o k j (cat m f g) g))) (B3.out.there 1 8 (by rw [sc_length]; omega)) (wl_length _ _) (wl_one _ _); clear hb3)))
        all_goals obtain ⟨W3, hW3⟩ : ∃ x, w3.setCells b 1 (wl 8 (comp (hw (cat m f g) ((m + j) / 64)) (mix (m + j) o k j (cat m f g) g))) = x := ⟨_, rfl⟩
        all_goals have hB4 : Blk W3 b (sc (comp (hw (cat m f g) ((m + j) / 64)) (mix (m + j) o k j (cat m f g) g)) ((M : Int) + k) (mix (m + j) o k j (cat m f g) g)) 282 := by rw [← hW3, ← sc_puth (hw (cat m f g) ((m + j) / 64))]; exact B3.out.put 1 _
        all_goals have hK4 : Kp S w W3 := by rw [← hW3]; exact (K2.out.trans (Kp.of_below S (below_next (below_drewN W2 1) H3.out)) (fun _ _ e => e)).trans (Kp.setCells b _ _) (fun i _ e => by have : i = b := e; rw [this]; exact HSb.out)
        all_goals have hL4 : LG S w W3 lo (evs256 L ((m + j) / 64 - m / 64)) := by rw [← hW3]; exact (L2.out.below (below_next (below_drewN W2 1) H3.out)).state B3.out (Kp.setCells b _ _)
        all_goals rw [hW3]
        all_goals have B4 := hid hB4
        all_goals have K4 := hid hK4
        all_goals have L4 := hid hL4
        all_goals clear hW3 hB4 hK4 hL4 x1 x2 y3
        all_goals have z3 := SVb_run (cs := bl 64 (fun _ => 0)) (B4.out.there 10 64 (by rw [sc_length]; omega)) (bl_length _ _) (bl_one _ _)
        all_goals rw [← wz8] at z3
        all_goals go_wp2_with fail
        all_goals obtain ⟨W5, hW5⟩ : ∃ x, W3.setCells b 10 (bl 64 (fun _ => 0)) = x := ⟨_, rfl⟩
        all_goals have hB5 : Blk W5 b (stc (m + (j + k)) (cat m f g)) 282 := by rw [← hW5, ← stc_full m j k o f g (by rw [HM1.out]; exact HO1.out.symm) hfull ((M : Int) + k) (by rw [← HM1.out]; omega), ← sc_zero _ _ (mix (m + j) o k j (cat m f g) g)]; exact B4.out.put 10 _
        all_goals have hK5 : Kp S w W5 := by rw [← hW5]; exact K4.out.trans (Kp.setCells b _ _) (fun i _ e => by have : i = b := e; rw [this]; exact HSb.out)
        all_goals have hL5 : LG S w W5 lo (evs256 L ((m + j) / 64 - m / 64)) := by rw [← hW5]; exact L4.out.state B4.out (Kp.setCells b _ _)
        all_goals rw [hW5]
        all_goals have B5 := hid hB5
        all_goals have K5 := hid hK5
        all_goals have L5 := hid hL5
        all_goals clear hW5 hB5 hK5 hL5 z3
        all_goals refine (note_lg S w W5 lo _ 1 64 (by decide) (by decide) L5.out K5.out (by unfold Room; have q0 := evs256_tot HP.out ((m + j) / 64 - m / 64) (by have := HM.out; omega); have := HM.out; omega)).mono ?_
        all_goals rintro e W6 ⟨rfl, hl6, hk6, ht6⟩
        all_goals have B6 := hid (ht6.blk B5.out)
        all_goals have K6 := hid hk6
        all_goals have L6 := hid hl6
        all_goals clear hl6 hk6 ht6
        all_goals go_wp2
        all_goals obtain ⟨A, eA, hA⟩ := sub_next pb (po + j) (n - j) (cap - j) k (by omega)
        all_goals refine ⟨⟨j + k, A, by omega, by rw [eA, Nat.sub_sub, Nat.sub_sub], fun h => by rw [hA (by omega), Nat.add_assoc], ⟨B6.out, HW.out, by omega⟩, ?_, K6.out⟩, by rw [eA]; simp [slLen]; omega⟩
        all_goals rw [show (m + (j + k)) / 64 - m / 64 = (m + j) / 64 - m / 64 + 1 from by have := HO1.out; have := HM1.out; omega]
        all_goals exact L6.out
      · have he : ¬ ((M : Int) + k) % 64 = 0 := by have := HO1.out; omega
        go_wp2_with fail
        obtain ⟨A, eA, hA⟩ := sub_next pb (po + j) (n - j) (cap - j) k (by omega)
        refine ⟨⟨j + k, A, by omega, by rw [eA, Nat.sub_sub, Nat.sub_sub], fun h => by rw [hA (by omega), Nat.add_assoc], ?_⟩, ?_⟩
        · have e := HM1.out
          have hB2 : Blk (W1.setCell ⟨b, 9, none⟩ (.int .u64 ((M : Int) + k))) b (stc (m + (j + k)) (cat m f g)) 282 := by
            rw [← stc_part m j k o f g (by rw [e]; exact HO1.out.symm) (by omega) ((M : Int) + k) (by rw [← e]; omega), ← sc_set9 _ ((m + j : Nat) : Int)]; exact B1.out.set 9 _
          refine ⟨⟨hB2, HW.out, by omega⟩, ?_, ?_⟩
          · have := L1.out.state B1.out (Kp.setCell b 9 (.int .u64 ((M : Int) + k)))
            rw [show (m + (j + k)) / 64 - m / 64 = (m + j) / 64 - m / 64 from by have := HO1.out; omega]; exact this
          · exact K1.out.trans (Kp.setCell b 9 _) (fun i _ e => by have : i = b := e; rw [this]; exact HSb.out)
        · rw [eA]; simp [slLen]; omega
    · have ej : j = n := by omega
      subst ej
      go_wp2
      go_end0
      exact ⟨rfl, HS.out, HLG.out, HKP.out⟩
end Go.Proofs.YtpohogpkfdebdaaGreatDoor.Sh
