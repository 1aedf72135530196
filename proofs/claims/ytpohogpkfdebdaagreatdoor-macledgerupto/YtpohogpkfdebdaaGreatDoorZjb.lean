/- A list of bytes that the call owns, gone on with: and the program's laid, ending. A ledger that is handed in, or none: what Note makes of it, told by the blocks that it may turn. The program's goOn: a message gone on with, block by block. The program's take and goOn, walked. -/
import Derived.Test.YtpohogpkfdebdaaGreatDoorZja
import Derived.Laws.AppendOwnNone
import Derived.Deep.OwnRows
import Derived.Test.YtpohogpkfdebdaaGreatDoorZr
import Derived.Deep.RegionHeld3
import Derived.Deep.Cut
namespace Go.Proofs.YtpohogpkfdebdaaGreatDoor.Sg
open Go.ChangeShapes Go.WideShapes Go.ChangeAt Go.RowKit
open Go.Proofs.YtpohogpkfdebdaaGreatDoor.By Go.Proofs.YtpohogpkfdebdaaGreatDoor.Wd

/-- n bytes f, then g. -/
def cat (n : Nat) (f g : Nat → Int) (i : Nat) : Int := if i < n then f i else g (i - n)
theorem cat_bound {n : Nat} {f g : Nat → Int} (hf : ∀ i, 0 ≤ f i ∧ f i < 256) (hg : ∀ i, 0 ≤ g i ∧ g i < 256) (i : Nat) : 0 ≤ cat n f g i ∧ cat n f g i < 256 := by
  unfold cat; split
  · exact hf _
  · exact hg _
theorem wpList_cat {w : World} {ops : Array Oper} {rest : List Oper} {o : Oper} {a : Act} {Q : Exit → Act → World → Prop} (hgd : o.guard = none) (s x : Operand)
    (ho : o.op = .call { callee := .builtin .append, args := #[s, x], argTypes := #[23, 23] })
    (base n m : Nat) (v u : Value) (f g : Nat → Int) (hs : a.eval s = v) (hv : By.Own w base v n f) (hx : a.eval x = u) (hr : By.RB w u m g) (hn : n + m ≤ 140737488355328) (hb : base ≤ w.heap.size)
    (h : ∀ v' w', By.Own w' base v' (n + m) (cat n f g) → w.grownBy w' v.ownBlock → wpList Tryz.prog ops Q rest (a.put o.dst v') w') : wpList Tryz.prog ops Q (o :: rest) a w := by
  obtain ⟨hg, ad, cap, rfl, h1, h2, hc⟩ := hr
  obtain ⟨i0, hi, hz0, hz1, hz2⟩ := info_parts info5
  have hcat : bl n f ++ bl m g = bl (n + m) (cat n f g) := bl_append n m f g
  cases ad with
  | none =>
    have hm0 : m = 0 := by rcases hc with ⟨h, _⟩ | ⟨_, _, h, _⟩; exact h; cases h
    have hc0 : cap = 0 := by rcases hc with ⟨_, h⟩ | ⟨_, _, h, _⟩; exact h rfl; cases h
    subst hm0 hc0
    refine wpList_append_own_none hgd s x 23 ho base 5 i0 1 Tryz.underlying23 hi _ _ _ hs hv.2 hx ?_
    refine h v w ⟨cat_bound hv.1 hg, ?_⟩ (World.grownBy.refl _ _)
    rw [← hcat]; simpa [bl] using hv.2
  | some ad =>
    have HC : ∀ j u, (bl m g)[j]? = some u → w.cell? (ad.add j) = some u := by
      intro j u hj
      obtain ⟨hj1, rfl⟩ := bl_get_inv _ _ _ _ hj
      rcases hc with ⟨h, _⟩ | ⟨b, off, h, hc⟩
      · omega
      · cases h; rw [By.add_plain]; exact hc j hj1
    refine wpList_append_own _ hgd s x 23 ho base 5 i0 (.int .u8 0) 1 1 Tryz.underlying23 hi hz0 hz1 hz2 rfl (by decide) v n (bl n f) hs hv.2 ad m cap (bl m g) hx (by rw [bl_length]; omega) HC (bl_one m g) (by simp [maxLen]; omega) (by omega) hb ?_
    intro v' w' hown hgrow _
    exact h v' w' ⟨cat_bound hv.1 hg, by rw [← hcat]; exact hown⟩ hgrow
theorem below_grow {w w' w1 : World} {B n : Nat} {v : Value} {f : Nat → Int} (hb : Below B w w') (hB : B ≤ w'.heap.size) (ho : By.Own w' B v n f) (hg : w'.grownBy w1 v.ownBlock) : Below B w w1 := hb.grown hg hB (own_row ho)

/-- Eight words as bytes. -/
def lf (h : Nat → Int) (i : Nat) : Int := beByte 8 (h (i / 8)) (i % 8)
theorem lf_bound (h : Nat → Int) (i : Nat) : 0 ≤ lf h i ∧ lf h i < 256 := beByte_bound _ _ _
theorem lf_next (h : Nat → Int) (k i : Nat) : cat (8 * k) (lf h) (beByte 8 (h k)) i = if i < 8 * k + 8 then lf h i else beByte 8 (h k) (i - 8 * k) := by
  unfold cat lf
  by_cases h1 : i < 8 * k
  · rw [if_pos h1, if_pos (by omega)]
  · rw [if_neg h1]
    by_cases h2 : i < 8 * k + 8
    · rw [if_pos h2, show i / 8 = k from by omega, show i % 8 = i - 8 * k from by omega]
    · rw [if_neg h2]
theorem make64d (w : World) : (Instr.makeSlice 23 (.int .i64 0) (.int .i64 64)).run Tryz.prog w = .ok (.slice (some ⟨w.heap.size, 0, none⟩) 0 64) (w.alloc (.cells (bl 64 (fun _ => 0)).toArray 5)) := by kernel_rfl
theorem index71 (h : Nat → Int) (k : Nat) (hk : k < 8) (w : World) : (Instr.index 255 (.agg (wl 8 h).toArray) (.int .i64 k)).run Tryz.prog w = .ok (.int .u64 (h k)) w := by
  have hidx : (wl 8 h)[k]? = some (.int .u64 (h k)) := wl_get 8 h k hk
  simp [Instr.index, go_sem, hk, hidx]
theorem make_lc (l c : Nat) (h : l ≤ c) (hc : c ≤ 140737488355328) (w : World) : (Instr.makeSlice 23 (.int .u64 l) (.int .u64 c)).run Tryz.prog w = .ok (.slice (some ⟨w.heap.size, 0, none⟩) l c) (w.alloc (.cells (bl c (fun _ => 0)).toArray 5)) := by
  obtain ⟨i0, hi, hz0, hz1, hz2⟩ := info_parts info5
  have hr := run_make (P := Tryz.prog) w 23 5 i0 (.int .u8 0) Tryz.underlying23 hi hz0 .u64 .u64 l c (by omega) (by omega) (by rw [hz2]; omega) (by omega)
  have e : madeCells #[Value.int .u8 0] c = (bl c (fun _ => 0)).toArray := by rw [← bl_zero]
  simp only [Int.toNat_natCast, hz1, Nat.mul_one, Value.cells, e] at hr
  exact hr
theorem bl_take (n c : Nat) (f : Nat → Int) (h : n ≤ c) : (bl c f).take n = bl n f := by
  apply List.ext_getElem?
  intro i
  rw [List.getElem?_take]
  by_cases hi : i < n
  · rw [if_pos hi, bl_get _ _ _ (by omega), bl_get _ _ _ hi]
  · rw [if_neg hi, List.getElem?_eq_none (by rw [bl_length]; omega)]
theorem own_made (w : World) (n c B : Nat) (f : Nat → Int) (hf : ∀ i, 0 ≤ f i ∧ f i < 256) (hn : n ≤ c) (hc : c ≤ maxLen) (hB : B ≤ w.heap.size) : By.Own (w.alloc (.cells (bl c f).toArray 5)) B (.slice (some ⟨w.heap.size, 0, none⟩) n c) n f :=
  ⟨hf, by rw [bl_length]; omega, .inr ⟨_, c, _, rfl, hB, heap_alloc_last w _, hn, hc, by simp [bl_length], by simp [bl_take n c f hn]⟩⟩
set_option maxRecDepth 4000 in
set_option maxHeartbeats 1200000 in
theorem laid57 (h : Nat → Int) (hh : ∀ i, W64 (h i)) (w : World) :
    Calls Tryz.prog 270 #[.agg (wl 8 h).toArray] w fun e w' => ∃ v, e = .returned v ∧ By.Own w' w.heap.size v 64 (lf h) ∧ Below w.heap.size w w' := by
  have HH := hid hh
  clear hh
  have l2 := LDh_run (((Blk.new w (wl 8 h) 255).alloc (.cells (bl 64 (fun _ => 0)).toArray 5)).range 0 _ (fun j v h => by rw [Nat.zero_add]; exact h)) (wl_length _ _)
  have hmk := make64d
  go_enter Tryz.func270, Tryz.ntmps270
  go_wp2_with fail
  go_loopw [3, 8] (fun v i wr => ∃ k : Nat, k ≤ 8 ∧ i = .int .i64 k ∧ By.Own wr w.heap.size v (8 * k) (lf h) ∧ Below w.heap.size w wr) (fun _ i _ => 8 - (intOf i).toNat)
  case atStart =>
    refine ⟨0, by omega, rfl, ?_, below_next (below_alloc w _) (below_alloc _ _)⟩
    have := own_made (w.alloc (.cells (wl 8 h).toArray 255)) 0 64 w.heap.size (fun _ => 0) (fun _ => by decide) (by omega) (by decide) (by rw [size_alloc]; omega)
    rw [size_alloc] at this
    exact own_congr this (lf_bound h) (fun i hi => by omega)
  case round =>
    clear l2 hmk
    obtain ⟨k, hk, rfl, hown, hbel⟩ := hrel
    have HO := hid hown
    have HB := hid hbel
    have HZ := hid hbel.size
    clear hown hbel
    by_cases hlt : k < 8
    · have hidx := index71 h k hlt
      go_wp2_with fail
      refine (lay23 (h k) _ (HH.out k).1 (HH.out k).2).mono ?_
      rintro e w1 ⟨u, rfl, hu, hb1⟩
      have HU := hid hu.reads
      have HO1 := hid (own_below HO.out hb1)
      have HB1 := hid (below_next HB.out hb1)
      have HZ1 := hid (Nat.le_trans HZ.out hb1.size)
      clear hu hb1 hidx
      go_wp2_with (at_builtin; go_must (refine wpList_cat rfl _ _ rfl w.heap.size (8 * k) 8 _ _ (lf h) (beByte 8 (h k)) rfl HO1.out rfl HU.out (by omega) HZ1.out ?_))
      intro v' w2 hv' hg
      have R1 := hid (own_congr hv' (lf_bound h) (fun i hi => by rw [lf_next, if_pos hi]))
      have R2 := hid (below_grow HB1.out HZ1.out HO1.out hg)
      clear hv' hg
      go_wp2
      go_roundw
      case rel => exact ⟨k + 1, by omega, by go_num, R1.out, R2.out⟩
      case measure => simp [intOf]; omega
    · have ek : k = 8 := by omega
      subst ek
      go_wp2
      go_ret
      exact ⟨_, rfl, HO.out, HB.out⟩

/-- What the digest puts behind a message of m bytes. -/
def zs (m : Nat) : Nat := (239 - m % 128) % 128
def endf (m : Nat) : Nat → Int := cat (1 + zs m + 8) (fun i => if i = 0 then 128 else 0) (beByte 8 (8 * (m : Int)))
theorem beByte_zero (i : Nat) : beByte 8 0 i = 0 := by unfold beByte; rw [Int.zero_ediv]; rfl
set_option maxRecDepth 4000 in
set_option maxHeartbeats 1200000 in
theorem ending59 (m : Nat) (hm : m ≤ 140737488355328) (w : World) :
    Calls Tryz.prog 269 #[.int .u64 m] w fun e w' => ∃ v, e = .returned v ∧ By.Own w' w.heap.size v (1 + zs m + 16) (endf m) ∧ Below w.heap.size w w' := by
  have e1 : ((239 - (m : Int) % 128) % 18446744073709551616 % 128) = (zs m : Int) := by unfold zs; omega
  have e1' : ((239 - (m : Int) % 128) % 128) = (zs m : Int) := by unfold zs; omega
  have hz : zs m < 128 := by unfold zs; omega
  have hmk := fun w => make_lc (1 + zs m) (1 + zs m + 16) (by omega) (by omega) w
  rw [show ((1 + zs m : Nat) : Int) = 1 + (zs m : Int) from by omega, show ((1 + zs m + 16 : Nat) : Int) = 1 + (zs m : Int) + 16 from by omega] at hmk
  have hE : Hid (endf m = cat (1 + zs m + 8) (fun i => if i = 0 then 128 else 0) (beByte 8 (8 * (m : Int)))) := rfl
  obtain ⟨z, hzz⟩ : ∃ z, zs m = z := ⟨_, rfl⟩
  rw [hzz] at e1 e1' hz hmk hE
  rw [hzz]
  clear hzz
  have hb0 : (bl (1 + z + 16) (fun _ => 0))[0]? = some (.int .u8 0) := bl_get _ _ 0 (by omega)
  have hsh : (m : Int) / 2305843009213693952 = 0 := by omega
  have hs3 : (m : Int) * 8 % 18446744073709551616 = 8 * (m : Int) := by omega
  have ow := hid (own_made w (1 + z) (1 + z + 16) w.heap.size (fun i => if i = 0 then 128 else 0) (fun i => by split <;> decide) (by omega) (by simp [maxLen]; omega) (Nat.le_refl _))
  go_enter Tryz.func269, Tryz.ntmps269
  go_wp2_with fail
  rw [bl_set]
  refine (lay23 0 _ (by omega) (by omega)).mono ?_
  rintro e w1 ⟨u, rfl, hu, hb1⟩
  have HU := hid hu.reads
  have HO1 := hid (own_below ow.out hb1)
  have HB1 := hid (below_next (below_alloc w _) hb1)
  have HZ1 := hid HB1.out.size
  clear hu hb1 hb0 hmk
  go_wp2_with (at_builtin; go_must (refine wpList_cat rfl _ _ rfl w.heap.size (1 + z) 8 _ _ (fun i => if i = 0 then 128 else 0) (beByte 8 0) rfl HO1.out rfl HU.out (by omega) HZ1.out ?_))
  intro v' w2 hv' hg
  have R1 := hid (own_congr hv' (g := fun i => if i = 0 then 128 else 0) (fun i => by split <;> decide) (fun i hi => by
    unfold cat
    split
    · rfl
    · rw [beByte_zero, if_neg (by omega)]))
  have R2 := hid (below_grow HB1.out HZ1.out HO1.out hg)
  have R3 := hid R2.out.size
  clear hv' hg
  go_wp2_with fail
  rw [show (m : Int) * 8 = 8 * m from by omega]
  refine (lay23 (8 * m) _ (by omega) (by omega)).mono ?_
  rintro e w3 ⟨u3, rfl, hu, hb3⟩
  have HU3 := hid hu.reads
  have HO3 := hid (own_below R1.out hb3)
  have HB3 := hid (below_next R2.out hb3)
  have HZ3 := hid HB3.out.size
  clear hu hb3
  go_wp2_with (at_builtin; go_must (refine wpList_cat rfl _ _ rfl w.heap.size (1 + z + 8) 8 _ _ (fun i => if i = 0 then 128 else 0) (beByte 8 (8 * m)) rfl HO3.out rfl HU3.out (by omega) HZ3.out ?_))
  intro v' w4 hv' hg
  have R4 := hid hv'
  have R5 := hid (below_grow HB3.out HZ3.out HO3.out hg)
  clear hv' hg
  go_wp2
  go_ret
  exact ⟨_, rfl, by rw [hE.out]; exact R4.out, R5.out⟩

/-- The form of a message of m bytes. -/
def formf (m : Nat) (f : Nat → Int) : Nat → Int := cat 72 (cat 64 (lf (hw f (m / 128))) (beByte 8 m)) (wt m f)
theorem make104 (w : World) : (Instr.makeSlice 23 (.int .i64 0) (.int .i64 200)).run Tryz.prog w = .ok (.slice (some ⟨w.heap.size, 0, none⟩) 0 200) (w.alloc (.cells (bl 200 (fun _ => 0)).toArray 5)) := by kernel_rfl
theorem St.wait {w : World} {b m : Nat} {f : Nat → Int} (h : St w b m f) : By.RB w (.slice (some ⟨b, 10, none⟩) 128 128) 128 (wt m f) :=
  ⟨wt_bound m f h.byte, _, _, rfl, Nat.le_refl _, by decide, .inr ⟨b, 10, rfl, fun i hi => h.here.cell _ _ (sc_b _ _ _ _ _ (bl_get 128 _ i hi))⟩⟩
theorem St.words {w : World} {b m : Nat} {f : Nat → Int} (h : St w b m f) : (LDh ⟨b, 1, none⟩).run Tryz.prog w = .ok (.agg (wl 8 (hw f (m / 128))).toArray) w :=
  LDh_run (h.here.range 1 _ (fun j v hj => sc_h _ _ _ j v hj)) (wl_length _ _)
set_option maxRecDepth 4000 in
set_option maxHeartbeats 1200000 in
theorem form30 (b m : Nat) (f : Nat → Int) (w : World) (h : St w b m f) :
    Calls Tryz.prog 337 #[.pointer (some ⟨b, 0, none⟩)] w fun e w' => ∃ v, e = .returned v ∧ By.Own w' w.heap.size v 200 (formf m f) ∧ Below w.heap.size w w' := by
  have H := hid h
  have h0 := h.c0
  have hmk := make104
  have HS := hid (h.below (below_alloc w (.cells (bl 200 (fun _ => 0)).toArray 5)))
  have l1 := HS.out.words
  have ow := hid (own_made w 0 200 w.heap.size (fun _ => 0) (fun _ => by decide) (by omega) (by decide) (Nat.le_refl _))
  clear h
  go_enter Tryz.func337, Tryz.ntmps337
  go_wp2_with (first | (go_at_call 268; refine (isNone_st _ _ true h0).mono ?_; rintro e w ⟨rfl, rfl⟩))
  refine (laid57 _ (hw_w f (m / 128)) _).mono ?_
  rintro e w1 ⟨u, rfl, hu, hb1⟩
  have HU := hid hu.reads
  have HO1 := hid (own_below ow.out hb1)
  have HS1 := hid (HS.out.below hb1)
  have HB1 := hid (below_next (below_alloc w _) hb1)
  have HZ1 := hid HB1.out.size
  clear hu hb1 hmk l1 h0
  go_wp2_with (at_builtin; go_must (refine wpList_cat rfl _ _ rfl w.heap.size 0 64 _ _ (fun _ => 0) (lf (hw f (m / 128))) rfl HO1.out rfl HU.out (by omega) HZ1.out ?_))
  intro v2 w2 hv2 hg2
  have HO2 := hid (own_congr hv2 (lf_bound (hw f (m / 128))) (fun i hi => by unfold cat; simp))
  have HB2 := hid (below_grow HB1.out HZ1.out HO1.out hg2)
  have HS2 := hid (H.out.below HB2.out)
  have HZ2 := hid HB2.out.size
  have c9 := HS2.out.c9
  have hm := H.out.few
  clear hv2 hg2
  go_wp2_with fail
  refine (lay23 m _ (by omega) (by omega)).mono ?_
  rintro e w3 ⟨u3, rfl, hu3, hb3⟩
  have HU3 := hid hu3.reads
  have HO3 := hid (own_below HO2.out hb3)
  have HB3 := hid (below_next HB2.out hb3)
  have HZ3 := hid HB3.out.size
  clear hu3 hb3 c9
  go_wp2_with (at_builtin; go_must (refine wpList_cat rfl _ _ rfl w.heap.size (0 + 64) 8 _ _ (lf (hw f (m / 128))) (beByte 8 m) rfl HO3.out rfl HU3.out (by omega) HZ3.out ?_))
  intro v4 w4 hv4 hg4
  have HO4 := hid hv4
  have HB4 := hid (below_grow HB3.out HZ3.out HO3.out hg4)
  have HS4 := hid (H.out.below HB4.out)
  have HZ4 := hid HB4.out.size
  clear hv4 hg4
  go_wp2_with (at_builtin; go_must (refine wpList_cat rfl _ _ rfl w.heap.size (0 + 64 + 8) 128 _ _ (cat 64 (lf (hw f (m / 128))) (beByte 8 m)) (wt m f) rfl HO4.out rfl HS4.out.wait (by omega) HZ4.out ?_))
  intro v5 w5 hv5 hg5
  have HO5 := hid hv5
  have HB5 := hid (below_grow HB4.out HZ4.out HO4.out hg5)
  clear hv5 hg5
  go_wp2
  go_ret
  exact ⟨_, rfl, HO5.out, HB5.out⟩
end Go.Proofs.YtpohogpkfdebdaaGreatDoor.Sg
namespace Go.Proofs.YtpohogpkfdebdaaGreatDoor.Sg
open Go.ChangeShapes Go.WideShapes Go.ChangeAt Go.RowKit
open Go.Proofs.YtpohogpkfdebdaaGreatDoor.By Go.Proofs.YtpohogpkfdebdaaGreatDoor.Wd

/-- A ledger's pointer. -/
def lpv : Option Nat → Value
  | none => .pointer none
  | some b => .pointer (some ⟨b, 0, none⟩)
/-- The ledger (if there is one) has L; of the blocks that were there in w0 it has only such as S names. -/
def LG (S : Nat → Prop) (w0 w : World) (lo : Option Nat) (L : List Rn) : Prop :=
  match lo with
  | none => True
  | some lb => S lb ∧ ∃ rv, Led w lb rv L ∧ ∀ g, rv.ownBlock = some g → g < w0.heap.size → S g
theorem own_type {w : World} {base : Nat} {v : Value} {L : List Rn} (h : Own w base v L) {g : Nat} (hg : v.ownBlock = some g) : ∃ cs, w.heap[g]? = some (.cells cs 78 (0, 0)) := by
  obtain ⟨_, _, h | ⟨g', cap, cur, rfl, _, hc, _⟩⟩ := h
  · obtain ⟨rfl, _⟩ := h; simp [Value.ownBlock] at hg
  · simp [Value.ownBlock] at hg; subst hg; exact ⟨cur, hc⟩
theorem led_apart {w : World} {lb : Nat} {rv : Value} {L : List Rn} (h : Led w lb rv L) {g : Nat} {cs : List Value} {t : TypeId} (hg : Blk w g cs t) (h1 : t ≠ 89) (h2 : t ≠ 78) : ¬ (g = lb ∨ rv.ownBlock = some g) := by
  rintro (e | e)
  · subst e
    have := Option.some.inj (hg.symm.trans h.here)
    simp only [Obj.cells.injEq] at this
    exact h1 this.2.1
  · obtain ⟨c, hc⟩ := own_type h.own e
    have := Option.some.inj (hg.symm.trans hc)
    simp only [Obj.cells.injEq] at this
    exact h2 this.2.1
/-- Blocks that are no ledger's stay. -/
def Kt (w w' : World) : Prop := ∀ g cs t, Blk w g cs t → t ≠ 89 → t ≠ 78 → Blk w' g cs t
theorem LG.kept {S : Nat → Prop} {w0 w w' : World} {lo : Option Nat} {L : List Rn} {T : Nat → Prop} (h : LG S w0 w lo L) (hk : Kp T w w') (hT : ∀ g, T g → ∃ cs t, Blk w g cs t ∧ t ≠ 89 ∧ t ≠ 78) : LG S w0 w' lo L := by
  cases lo with
  | none => exact trivial
  | some lb =>
    obtain ⟨hs, rv, hl, ho⟩ := h
    refine ⟨hs, rv, hl.kept hk (fun e => ?_) (fun g hg e => ?_), ho⟩
    · obtain ⟨cs, t, hb, h1, h2⟩ := hT _ e
      exact led_apart hl hb h1 h2 (.inl rfl)
    · obtain ⟨cs, t, hb, h1, h2⟩ := hT _ e
      exact led_apart hl hb h1 h2 (.inr hg)
theorem LG.below {S : Nat → Prop} {w0 w w' : World} {lo : Option Nat} {L : List Rn} (h : LG S w0 w lo L) (hb : Below w.heap.size w w') : LG S w0 w' lo L := h.kept (Kp.of_below (fun _ => False) hb) (fun _ e => e.elim)
/-- Room for one event more. -/
def Room (L : List Rn) : Prop := tot L ≤ 9000000000000000000 ∧ L.length ≤ 5600000000000
/-- Room for many. -/
def Big (L : List Rn) : Prop := tot L ≤ 8500000000000000000 ∧ L.length ≤ 5400000000000
theorem room_len {L : List Rn} (hr : Room L) : (L.length + 1) * 24 ≤ 140737488355328 := by
  have := hr.2; omega
theorem note_lg (S : Nat → Prop) (w0 w : World) (lo : Option Nat) (L : List Rn) (k s : Int) (hk : 0 ≤ k ∧ k < 256) (hs : 0 ≤ s ∧ s ≤ 1000) (h : LG S w0 w lo L) (h0 : Kp S w0 w) (hr : Room L) :
    Calls Tryz.prog 121 #[lpv lo, .agg #[.int .u8 k, .int .i64 s]] w fun e w' => e = .returned (.tuple #[]) ∧ LG S w0 w' lo (putL L ⟨k, s, 1⟩) ∧ Kp S w0 w' ∧ Kt w w' := by
  cases lo with
  | none =>
    refine (note16n k s w).mono ?_
    rintro e w' ⟨rfl, hb⟩
    exact ⟨rfl, trivial, h0.trans (Kp.of_below S hb) (fun _ _ e => e), fun g cs t hg _ _ => hg.below hb⟩
  | some lb =>
    obtain ⟨hs1, rv, hl, ho⟩ := h
    have hrl := room_len hr
    have hrt := hr.1
    refine (note16 lb rv L k s w hl ⟨hk, ⟨by show -9223372036854775808 ≤ s; omega, by show s ≤ 9223372036854775807; omega⟩, by show -9223372036854775808 ≤ (1 : Int) ∧ (1 : Int) ≤ 9223372036854775807; omega⟩ (by omega) hrl).mono ?_
    rintro e w' ⟨rfl, rv', hl', hkp, hsn⟩
    refine ⟨rfl, ⟨hs1, rv', hl', fun g hg hlt => ?_⟩, h0.trans hkp ?_, fun g cs t hg h1 h2 => hg.kept hkp (led_apart hl hg h1 h2)⟩
    · rcases hsn with e | e
      · exact ho g (by rw [← e]; exact hg) hlt
      · have := e g hg; have := h0.size; omega
    · rintro i hi (rfl | e)
      · exact hs1
      · exact ho i e hi
theorem putL_tot {L : List Rn} {r : Rn} (h : Pos L) (hr : r.c = 1) (hb : tot L ≤ 9000000000000000000) : tot (putL L r) = tot L + 1 := by
  rw [tot_put h (by omega) (by omega), hr]
/-- n events {2, 128} more. -/
def evs512 (L : List Rn) : Nat → List Rn
  | 0 => L
  | n + 1 => putL (evs512 L n) ⟨2, 128, 1⟩
theorem evs512_pos {L : List Rn} (h : Pos L) (n : Nat) : Pos (evs512 L n) := by
  induction n with
  | zero => exact h
  | succ n ih => exact putL_pos ih
theorem evs512_tot {L : List Rn} (h : Pos L) (n : Nat) (hb : tot L + n ≤ 9000000000000000000) : tot (evs512 L n) = tot L + n := by
  induction n with
  | zero => simp [evs512]
  | succ n ih =>
    have := ih (by omega)
    rw [evs512, putL_tot (evs512_pos h n) rfl (by omega), this]; omega
theorem evs512_add (L : List Rn) (a b : Nat) : evs512 (evs512 L a) b = evs512 L (a + b) := by
  induction b with
  | zero => rfl
  | succ b ih => rw [← Nat.add_assoc, evs512, evs512, ih]
/-- The last run is of that event. -/
def Ends (L : List Rn) : Prop := ∃ M c, L = M ++ [⟨2, 128, c⟩] ∧ 1 ≤ c
theorem putL_ends {L : List Rn} (h : Ends L) : Ends (putL L ⟨2, 128, 1⟩) ∧ (putL L ⟨2, 128, 1⟩).length = L.length := by
  obtain ⟨M, c, rfl, hc⟩ := h
  have e : putL (M ++ [⟨2, 128, c⟩]) ⟨2, 128, 1⟩ = M ++ [⟨2, 128, sm c 1⟩] := by
    unfold putL
    rw [if_neg (by show ¬ (1 : Int) < 1; omega), List.getLast?_append, List.getLast?_singleton]
    simp
  rw [e]
  exact ⟨⟨M, _, rfl, (sm_bound hc (by omega)).1⟩, by simp⟩
theorem putL_ends0 (L : List Rn) (hp : Pos L) : Ends (putL L ⟨2, 128, 1⟩) := by
  unfold putL
  rw [if_neg (by show ¬ (1 : Int) < 1; omega)]
  split
  · rename_i q hq
    obtain ⟨M, hM⟩ := List.getLast?_eq_some_iff.1 hq
    split
    · rename_i hk
      subst hM
      obtain ⟨qk, qs, qc⟩ := q
      obtain ⟨rfl, rfl⟩ : qk = 2 ∧ qs = 128 := hk
      have h1 : (1 : Int) ≤ qc := hp ⟨2, 128, qc⟩ (by simp)
      exact ⟨M, sm qc 1, by simp, (sm_bound h1 (by omega)).1⟩
    · exact ⟨L, 1, rfl, by omega⟩
  · exact ⟨[], 1, rfl, by omega⟩
theorem evs512_len {L : List Rn} (hp : Pos L) (n : Nat) : (evs512 L n).length ≤ L.length + 1 := by
  cases n with
  | zero => simp [evs512]
  | succ n =>
    have : Ends (evs512 L (n + 1)) ∧ (evs512 L (n + 1)).length ≤ L.length + 1 := by
      induction n with
      | zero => exact ⟨putL_ends0 L hp, (putL_len (L := L) (r := ⟨2, 128, 1⟩)).1⟩
      | succ n ih =>
        have h := putL_ends ih.1
        rw [evs512]
        exact ⟨h.1, by rw [h.2]; exact ih.2⟩
    exact this.2
/-- Room for more still. -/
def Wide (L : List Rn) : Prop := tot L ≤ 8000000000000000000 ∧ L.length ≤ 5200000000000
theorem Wide.big {L : List Rn} (h : Wide L) : Big L := ⟨by have := h.1; omega, by have := h.2; omega⟩
theorem Big.room {L : List Rn} (h : Big L) : Room L := ⟨by have := h.1; omega, by have := h.2; omega⟩
theorem evs512_big {L : List Rn} (h : Pos L) (hb : Wide L) (n : Nat) (hn : n ≤ 400000000000000000) : Big (evs512 L n) := by
  have h1 := hb.1
  have h2 := hb.2
  have h3 := evs512_len h n
  refine ⟨?_, by omega⟩
  rw [evs512_tot h n (by omega)]; omega
theorem evs512_room {L : List Rn} (h : Pos L) (hb : Big L) (n : Nat) (hn : n ≤ 400000000000000000) : Room (evs512 L n) := by
  have h1 := hb.1
  have h2 := hb.2
  have h3 := evs512_len h n
  refine ⟨?_, by omega⟩
  rw [evs512_tot h n (by omega)]; omega
theorem evs512_tq {L : List Rn} (h : Pos L) (n : Nat) (hb : tq L + n ≤ 5800000000000) : tq (evs512 L n) ≤ tq L + n := by
  induction n with
  | zero => simp [evs512]
  | succ n ih =>
    have h1 := ih (by omega)
    have h2 := tq_put (r := ⟨2, 128, 1⟩) (evs512_pos h n) rfl (by omega)
    rw [evs512]; omega
end Go.Proofs.YtpohogpkfdebdaaGreatDoor.Sg
namespace Go.Proofs.YtpohogpkfdebdaaGreatDoor.Sg
open Go.ChangeShapes Go.WideShapes Go.ChangeAt Go.RowKit
open Go.Proofs.YtpohogpkfdebdaaGreatDoor.By Go.Proofs.YtpohogpkfdebdaaGreatDoor.Wd

theorem tab_congr (b b' : Nat → Int) (h : ∀ i, i < 128 → b i = b' i) (t : Nat) (ht : t ≤ 80) : tab b t = tab b' t := by
  induction t with
  | zero => rfl
  | succ t ih =>
    funext i
    unfold tab
    rw [ih (by omega)]
    split
    · unfold nxt
      split
      · exact BE_congr _ _ 8 (fun i hi => h _ (by omega))
      · rfl
    · rfl
theorem comp_congr (h b b' : Nat → Int) (e : ∀ i, i < 128 → b i = b' i) : comp h b = comp h b' := by
  funext i
  unfold comp
  rw [tab_congr b b' e 80 (by omega)]
/-- A part of a slice of bytes. -/
def sub (a : Option Addr) (cap : Nat) (l h : Int) : Value := .slice (if cap = l.toNat then a else a.map (·.add (l.toNat * 1))) (h.toNat - l.toNat) (cap - l.toNat)
theorem size5 (w : World) : (sizeOf (Tryz.prog.elem 23)).run Tryz.prog w = .ok 1 w := by kernel_rfl
theorem elem22 : Tryz.prog.underlying 23 = some (.slice (Tryz.prog.elem 23)) := by kernel_rfl
@[go_sem high] theorem sub_l (w : World) (a : Option Addr) (n cap : Nat) (l : Int) (h0 : 0 ≤ l) (h1 : l ≤ n) : (Instr.sliceAt 23 (.slice a n cap) (some (.int .i64 l)) none none).run Tryz.prog w = .ok (sub a cap l n) w := by
  rw [run_sliceAt_slice w 23 _ _ _ _ elem22, run_slice_l w 23 a n cap elem22 .i64 l h0 h1, size5]
  rfl
/-- What waits, with k bytes more; what it is of the message. -/
def mix (m o k : Nat) (F g : Nat → Int) (i : Nat) : Int := if o ≤ i ∧ i < o + k then g (i - o) else wt m F i
theorem mix_wt (m k o : Nat) (f g : Nat → Int) (ho : o = m % 128) (hk : o + k < 128) (i : Nat) : mix m o k (cat m f g) g i = wt (m + k) (cat m f g) i := by
  have e1 : (m + k) / 128 = m / 128 := by omega
  have e2 : (m + k) % 128 = o + k := by omega
  unfold mix wt
  rw [e1, e2]
  by_cases h1 : o ≤ i ∧ i < o + k
  · rw [if_pos h1, if_pos h1.2]
    unfold cat
    rw [if_neg (by omega)]
    congr 1
    omega
  · rw [if_neg h1]
    by_cases h2 : i < m % 128
    · rw [if_pos h2, if_pos (by omega)]
    · rw [if_neg h2, if_neg (by omega)]
theorem mix_full (m k o : Nat) (f g : Nat → Int) (ho : o = m % 128) (hk : o + k = 128) (i : Nat) (hi : i < 128) : mix m o k (cat m f g) g i = cat m f g (128 * (m / 128) + i) := by
  unfold mix wt
  by_cases h1 : o ≤ i ∧ i < o + k
  · rw [if_pos h1]
    unfold cat
    rw [if_neg (by omega)]
    congr 1
    omega
  · rw [if_neg h1, if_pos (by omega)]
    congr 1
    omega
theorem stc_part (m k o : Nat) (f g : Nat → Int) (ho : o = m % 128) (hk : o + k < 128) (x : Int) (hx : x = ((m + k : Nat) : Int)) : sc (hw (cat m f g) (m / 128)) x (mix m o k (cat m f g) g) = stc (m + k) (cat m f g) := by
  subst hx
  unfold stc
  rw [show (m + k) / 128 = m / 128 from by omega, funext (mix_wt m k o f g ho hk)]
theorem hw_full (m k o : Nat) (f g : Nat → Int) (ho : o = m % 128) (hk : o + k = 128) : comp (hw (cat m f g) (m / 128)) (mix m o k (cat m f g) g) = hw (cat m f g) ((m + k) / 128) := by
  rw [show (m + k) / 128 = m / 128 + 1 from by omega, comp_congr _ _ _ (mix_full m k o f g ho hk)]
  rfl
theorem hw_next (m j : Nat) (f g : Nat → Int) (ho : (m + j) % 128 = 0) : comp (hw (cat m f g) ((m + j) / 128)) (fun i => g (j + i)) = hw (cat m f g) ((m + (j + 128)) / 128) := by
  rw [show (m + (j + 128)) / 128 = (m + j) / 128 + 1 from by omega, comp_congr _ _ (fun i => cat m f g (128 * ((m + j) / 128) + i)) (fun i hi => ?_)]
  · rfl
  · unfold cat
    rw [if_neg (by omega)]
    congr 1
    omega
theorem stc_end (m n j k : Nat) (f g : Nat → Int) (ho : (m + j) % 128 = 0) (hj : j + k = n) (hk : k < 128) (x : Int) (hx : x = ((m + n : Nat) : Int)) : sc (hw (cat m f g) ((m + j) / 128)) x (fun i => if 0 ≤ i ∧ i < 0 + k then g (j + (i - 0)) else 0) = stc (m + n) (cat m f g) := by
  subst hx
  unfold stc
  have e : wt (m + n) (cat m f g) = fun i => if 0 ≤ i ∧ i < 0 + k then g (j + (i - 0)) else 0 := by
    funext i
    unfold wt
    by_cases h1 : i < k
    · rw [if_pos (by omega), if_pos (by omega)]
      unfold cat
      rw [if_neg (by omega)]
      congr 1
      omega
    · rw [if_neg (by omega), if_neg (by omega)]
  rw [e, show (m + n) / 128 = (m + j) / 128 from by omega]
theorem copy_run (W : World) (b o k A C pb po : Nat) (ty : TypeId) (cells : List Value) (g : Nat → Int) (hb : Blk W b cells 286) (hl : cells.length = 138) (ho : o + k ≤ 128) (hk : k = Nat.min A (128 - o)) (hs : ∀ i, i < k → W.cell? ⟨pb, po + i, none⟩ = some (.int .u8 (g i))) :
    (Builtin.copy_ #[23, 23] ty #[.slice (some ⟨b, 10 + o, none⟩) (128 - o) (128 - o), .slice (some ⟨pb, po, none⟩) A C]).run Tryz.prog W = .ok (.int .i64 k) (W.setCells b (10 + o) (bl k g)) := by
  have h := run_copy_cells (P := Tryz.prog) W 23 23 ty 5 b (10 + o) (128 - o) (128 - o) ⟨pb, po, none⟩ A C (bl k g) Tryz.underlying23 (by kernel_rfl) (by rw [bl_length]; exact hk)
    (fun j v hj => by obtain ⟨hj1, rfl⟩ := bl_get_inv _ _ _ _ hj; rw [By.add_plain]; exact hs j hj1)
    (fun j hj => (hb.there (10 + o) k (by omega) j (by rwa [bl_length] at hj)).1) (fun j hj => hb.frozen _) (bl_one k g)
  rw [bl_length] at h
  exact h
theorem copy_no (W : World) (d a : Option Addr) (dn dc C : Nat) (ty : TypeId) : (Builtin.copy_ #[23, 23] ty #[.slice d dn dc, .slice a 0 C]).run Tryz.prog W = .ok (.int .i64 0) W :=
  run_copy_none W _ _ ty 5 d a dn dc 0 C Tryz.underlying23 (by kernel_rfl) (Nat.zero_min _)
theorem sliceA (b o : Nat) (ho : o < 128) (w : World) : (Instr.sliceAt 284 (.pointer (some ⟨b, 10, none⟩)) (some (.int .i64 o)) none none).run Tryz.prog w = .ok (.slice (some ⟨b, 10 + o, none⟩) (128 - o) (128 - o)) w := by
  have h1 : (o : Int) ≤ 128 := by omega
  have h2 : ¬ 128 = o := by omega
  simp [Instr.sliceAt, go_sem, h1, h2]
/-- A slice's length. -/
def slLen : Value → Nat
  | .slice _ n _ => n
  | _ => 0
theorem blk_mix {W : World} {b m o k : Nat} {f g : Nat → Int} {x : Int} (h : Blk W b (sc (hw (cat m f g) (m / 128)) x (wt m (cat m f g))) 286) (ho : o + k ≤ 128) : Blk (W.setCells b (10 + o) (bl k g)) b (sc (hw (cat m f g) (m / 128)) x (mix m o k (cat m f g) g)) 286 := by
  have := h.put (10 + o) (bl k g)
  rw [sc_putb _ _ _ o k _ ho] at this
  exact this
theorem mix_bound (m o k : Nat) (F g : Nat → Int) (hF : ∀ i, 0 ≤ F i ∧ F i < 256) (hg : ∀ i, 0 ≤ g i ∧ g i < 256) (i : Nat) : 0 ≤ mix m o k F g i ∧ mix m o k F g i < 256 := by
  unfold mix; split
  · exact hg _
  · exact wt_bound _ _ hF _
theorem LG.state {S : Nat → Prop} {w0 w w' : World} {lo : Option Nat} {L : List Rn} {b : Nat} {cells : List Value} (h : LG S w0 w lo L) (hb : Blk w b cells 286) (hk : Kp (fun k => k = b) w w') : LG S w0 w' lo L :=
  h.kept hk (fun g e => ⟨cells, 286, by have : g = b := e; rw [this]; exact hb, by decide, by decide⟩)
theorem sub_next (pb p n cap k : Nat) (hn : n ≤ cap) : ∃ A, sub (some ⟨pb, p, none⟩) cap k n = .slice A (n - k) (cap - k) ∧ (k < n → A = some ⟨pb, p + k, none⟩) := by
  refine ⟨if cap = ((k : Int)).toNat then some ⟨pb, p, none⟩ else (some (⟨pb, p, none⟩ : Addr)).map (·.add (((k : Int)).toNat * 1)), by unfold sub; rw [Int.toNat_natCast, Int.toNat_natCast], fun h => ?_⟩
  rw [Int.toNat_natCast, if_neg (by omega), Nat.mul_one, Option.map_some, By.add_plain]
theorem sc_zero (h : Nat → Int) (m : Int) (q : Nat → Int) : put (sc h m q) 10 (bl 128 (fun _ => 0)) = sc h m (fun _ => 0) := by
  have := sc_putb h m q 0 128 (fun _ => 0) (by omega)
  rw [Nat.add_zero] at this
  rw [this]
  unfold sc
  rw [bl_congr 128 _ (fun _ => 0) (fun i hi => by rw [if_pos (by omega)])]
theorem Kt.blk {w w' : World} (h : Kt w w') {b : Nat} {cs : List Value} (hb : Blk w b cs 286) : Blk w' b cs 286 := h b cs _ hb (by decide) (by decide)
theorem wz8 : Tryz.zeroCells284 = (bl 128 (fun _ => 0)).toArray := by kernel_rfl
end Go.Proofs.YtpohogpkfdebdaaGreatDoor.Sg
namespace Go.Proofs.YtpohogpkfdebdaaGreatDoor.Sg
open Go.ChangeShapes Go.WideShapes Go.ChangeAt Go.RowKit
open Go.Proofs.YtpohogpkfdebdaaGreatDoor.By Go.Proofs.YtpohogpkfdebdaaGreatDoor.Wd

set_option maxRecDepth 4000 in
set_option maxHeartbeats 2000000 in
theorem take61 (b : Nat) (h : Nat → Int) (x : Int) (q f : Nat → Int) (lo : Option Nat) (L : List Rn) (S : Nat → Prop) (w0 w : World) (hb : Blk w b (sc h x q) 286) (hh : ∀ i, W64 (h i)) (hf : ∀ i, 0 ≤ f i ∧ f i < 256) (hk : KT w) (hSb : S b)
    (hl : LG S w0 w lo L) (h0 : Kp S w0 w) (hr : Room L) :
    Calls Tryz.prog 267 #[.pointer (some ⟨b, 0, none⟩), lpv lo, .agg (bl 128 f).toArray] w fun e w' => e = .returned (.tuple #[]) ∧ Blk w' b (sc (comp h f) x q) 286 ∧ LG S w0 w' lo (putL L ⟨2, 128, 1⟩) ∧ Kp S w0 w' := by
  have B := hid hb
  have HH := hid hh
  have HF := hid hf
  have HK := hid hk
  have HS := hid hSb
  have HL := hid hl
  have H0 := hid h0
  have HR := hid hr
  clear hb hh hf hk hSb hl h0 hr
  go_enter Tryz.func267, Tryz.ntmps267
  go_wp2_with fail
  obtain ⟨W, hW⟩ : ∃ x, w.alloc (.cells (bl 128 f).toArray 284) = x := ⟨_, rfl⟩
  have a1 : Blk W b (sc h x q) 286 := by rw [← hW]; exact B.out.alloc _
  have a2 : Blk W w.heap.size (bl 128 f) 284 := by rw [← hW]; exact Blk.new w _ _
  have a3 : KT W := by rw [← hW]; exact HK.out.below (below_alloc _ _)
  have a4 : LG S w0 W lo L := by rw [← hW]; exact HL.out.below (below_alloc _ _)
  have a5 : Kp S w0 W := by rw [← hW]; exact H0.out.trans (Kp.of_below S (below_alloc _ _)) (fun _ _ e => e)
  rw [hW]
  have x1 := LDh_run (w := W.drew) ((a1.drewN 1).range 1 _ (fun j v hj => sc_h _ _ _ j v hj)) (wl_length _ _)
  have x2 := LDb_run (w := W.drew) ((a2.drewN 1).range 0 _ (fun j v hj => by rw [Nat.zero_add]; exact hj)) (bl_length _ _)
  have B1 := hid a1
  have K1 := hid a3
  have L1 := hid a4
  have H1 := hid a5
  clear hW a1 a2 a3 a4 a5 B HK HL H0
  go_region_with (first | (go_at_call 288; go_must (refine (compress64 _ _ HH.out HF.out _ (K1.out.drewN 1)).mono ?_; rintro e w3 ⟨rfl, hb3⟩; have B3 := hid ((B1.out.drewN 1).below hb3); have H3 := hid hb3; have y3 := SVh_run (cs := wl 8 (comp h f)) (B3.out.there 1 8 (by rw [sc_length]; omega)) (wl_length _ _) (wl_one _ _); clear hb3)))
  all_goals obtain ⟨W3, hW3⟩ : ∃ x, w3.setCells b 1 (wl 8 (comp h f)) = x := ⟨_, rfl⟩
  all_goals have hB4 : Blk W3 b (sc (comp h f) x q) 286 := by rw [← hW3, ← sc_puth h]; exact B3.out.put 1 _
  all_goals have hK4 : Kp S w0 W3 := by rw [← hW3]; exact (H1.out.trans (Kp.of_below S (below_next (below_drewN W 1) H3.out)) (fun _ _ e => e)).trans (Kp.setCells b _ _) (fun i _ e => by have : i = b := e; rw [this]; exact HS.out)
  all_goals have hL4 : LG S w0 W3 lo L := by rw [← hW3]; exact (L1.out.below (below_next (below_drewN W 1) H3.out)).state B3.out (Kp.setCells b _ _)
  all_goals rw [hW3]
  all_goals have B4 := hid hB4
  all_goals have K4 := hid hK4
  all_goals have L4 := hid hL4
  all_goals clear hW3 hB4 hK4 hL4 x1 x2 y3
  all_goals go_wp2_with fail
  all_goals refine (note_lg S w0 W3 lo L 2 128 (by decide) (by decide) L4.out K4.out HR.out).mono ?_
  all_goals rintro e W6 ⟨rfl, hl6, hk6, ht6⟩
  all_goals have B6 := hid (ht6.blk B4.out)
  all_goals have K6 := hid hk6
  all_goals have L6 := hid hl6
  all_goals clear hl6 hk6 ht6
  all_goals go_wp2
  all_goals go_end0
  all_goals exact ⟨rfl, B6.out, L6.out, K6.out⟩

theorem st_len {w : World} {b m : Nat} {f g : Nat → Int} (h : Blk w b (stc m f) 286) (hg : ∀ i, i < m → f i = g i) : Blk w b (sc (hw g (m / 128)) m (wt m g)) 286 := by
  rw [stc_congr m f g hg] at h; exact h
theorem sub_whole (pb p : Nat) (n cap : Nat) (w : World) (hn : 128 ≤ n) (hc : n ≤ cap) : (Instr.sliceAt 23 (.slice (some ⟨pb, p, none⟩) n cap) none (some (.int .i64 128)) none).run Tryz.prog w = .ok (.slice (some ⟨pb, p, none⟩) 128 cap) w := by
  have h1 : (128 : Int) ≤ cap := by omega
  simp [Instr.sliceAt, Instr.slice, go_sem, h1]
theorem copy_run0 (W : World) (b k C pb po : Nat) (ty : TypeId) (cells : List Value) (g : Nat → Int) (hb : Blk W b cells 286) (hl : cells.length = 138) (hk : k < 128) (hs : ∀ i, i < k → W.cell? ⟨pb, po + i, none⟩ = some (.int .u8 (g i))) :
    (Builtin.copy_ #[23, 23] ty #[.slice (some ⟨b, 10, none⟩) 128 128, .slice (some ⟨pb, po, none⟩) k C]).run Tryz.prog W = .ok (.int .i64 k) (W.setCells b 10 (bl k g)) :=
  copy_run W b 0 k k C pb po ty cells g hb hl (by omega) (Nat.min_eq_left (by omega)).symm hs
set_option maxRecDepth 4000 in
set_option maxHeartbeats 2000000 in
theorem goOn_some (b m n pb po cap : Nat) (f g : Nat → Int) (lo : Option Nat) (L : List Rn) (S : Nat → Prop) (w : World) (hst : St w b m f) (hk : KT w) (hS0 : ¬ S 3) (hSb : S b) (hl : LG S w w lo L) (hg : ∀ i, 0 ≤ g i ∧ g i < 256) (hp : Pos L)
    (hr : ∀ w', Kp S w w' → ∀ i, i < n → w'.cell? ⟨pb, po + i, none⟩ = some (.int .u8 (g i))) (hn : 0 < n) (hc : n ≤ cap) (hcap : cap ≤ maxLen) (hmn : m + n ≤ 281474976710656) (hroom : Big L) :
    Calls Tryz.prog 240 #[.pointer (some ⟨b, 0, none⟩), lpv lo, .slice (some ⟨pb, po, none⟩) n cap] w fun e w' => e = .returned (.tuple #[]) ∧ St w' b (m + n) (cat m f g) ∧ LG S w w' lo (evs512 L ((m + n) / 128 - m / 128)) ∧ Kp S w w' := by
  have hF := cat_bound (n := m) hst.byte hg
  have B0 := hid (st_len hst.here (g := cat m f g) (fun i hi => by unfold cat; rw [if_pos hi]))
  have HF := hid hF
  have HK := hid hk
  have HS0 := hid hS0
  have HSb := hid hSb
  have HL := hid hl
  have HG := hid hg
  have HP := hid hp
  have HR := hid hr
  have HC := hid hcap
  have HM := hid hroom
  clear hst hk hS0 hSb hl hg hp hr hcap hroom hF
  obtain ⟨F, hF⟩ : ∃ F, cat m f g = F := ⟨_, rfl⟩
  have HFe := hid hF
  rw [hF] at B0 HF
  rw [hF]
  clear hF
  have c9 := B0.out.cell 9 _ (sc_9 _ _ _)
  have f9 := B0.out.frozen 9
  obtain ⟨o, ho⟩ : ∃ o, m % 128 = o := ⟨_, rfl⟩
  have ho128 : o < 128 := by omega
  have hmod : ((m : Int) % 128) = (o : Int) := by omega
  obtain ⟨k, hkk⟩ : ∃ k, Nat.min n (128 - o) = k := ⟨_, rfl⟩
  have hk1 : k ≤ n := by rw [← hkk]; exact Nat.min_le_left _ _
  have hk2 : k ≤ 128 - o := by rw [← hkk]; exact Nat.min_le_right _ _
  have hk3 : o + k < 128 → k = n := fun h => by
    rcases Nat.le_total n (128 - o) with h1 | h1
    · rw [← hkk]; exact Nat.min_eq_left h1
    · have : k = 128 - o := by rw [← hkk]; exact Nat.min_eq_right h1
      omega
  have hsl := sliceA b o ho128
  have B1 := hid (show Blk (w.setCell ⟨b, 9, none⟩ (.int .u64 ((m : Int) + n))) b (sc (hw F (m / 128)) ((m : Int) + n) (wt m F)) 286 from by rw [← sc_set9 _ (m : Int)]; exact B0.out.set 9 _)
  have K1 := hid (show Kp S w (w.setCell ⟨b, 9, none⟩ (.int .u64 ((m : Int) + n))) from (Kp.setCell b 9 _).mono (fun i _ e => by have : i = b := e; rw [this]; exact HSb.out))
  have L1 := hid (show LG S w (w.setCell ⟨b, 9, none⟩ (.int .u64 ((m : Int) + n))) lo L from HL.out.state B0.out (Kp.setCell b 9 _))
  have hcp := fun ty => copy_run (w.setCell ⟨b, 9, none⟩ (.int .u64 ((m : Int) + n))) b o k n cap pb po ty _ g B1.out (sc_length _ _ _) (by omega) hkk.symm (fun i hi => HR.out _ K1.out i (by omega))
  have HKK := hid hkk
  have HO := hid ho
  clear hkk ho
  go_enter Tryz.func240, Tryz.ntmps240
  by_cases hpart : o + k < 128
  · obtain rfl := hk3 hpart
    have hlt : (o : Int) + k < 128 := by omega
    go_wp2
    refine bodyPost_ret (results_none rfl _ _ _) rfl ?_
    have e := HFe.out
    refine ⟨rfl, ⟨?_, HF.out, by omega⟩, ?_, ?_⟩
    · rw [← e, ← stc_part m k o f g HO.out.symm hpart ((m : Int) + k) (by omega), e]
      exact e ▸ blk_mix (e.symm ▸ B1.out) (by omega)
    · rw [show (m + k) / 128 - m / 128 = 0 from by have := HO.out; omega]
      exact L1.out.state B1.out (Kp.setCells b _ _)
    · exact K1.out.trans (Kp.setCells b _ _) (fun i _ e => by have : i = b := e; rw [this]; exact HSb.out)
  · have hlt : ¬ (o : Int) + k < 128 := by omega
    have hfull : o + k = 128 := by omega
    obtain ⟨W2, hW2⟩ : ∃ x, (w.setCell ⟨b, 9, none⟩ (.int .u64 ((m : Int) + n))).setCells b (10 + o) (bl k g) = x := ⟨_, rfl⟩
    have a1 : Blk W2 b (sc (hw F (m / 128)) ((m : Int) + n) (mix m o k F g)) 286 := by
      have e := HFe.out
      rw [← hW2]; exact e ▸ blk_mix (e.symm ▸ B1.out) (by omega)
    have a2 : LG S w W2 lo L := by rw [← hW2]; exact L1.out.state B1.out (Kp.setCells b _ _)
    have a3 : Kp S w W2 := by rw [← hW2]; exact K1.out.trans (Kp.setCells b _ _) (fun i _ e => by have : i = b := e; rw [this]; exact HSb.out)
    rw [hW2] at hcp
    have x2 := LDb_run (a1.range 10 _ (fun j v hj => sc_b _ _ _ j v hj)) (bl_length _ _)
    have B2 := hid a1
    have L2 := hid a2
    have K2 := hid a3
    have KT2 := hid (HK.out.kept a3 HS0.out)
    have hkn : (k : Int) ≤ (n : Int) := by omega
    clear a1 a2 a3 hW2 B0 B1 K1 L1
    go_wp2_with fail
    refine (take61 b _ _ _ _ lo L S w W2 B2.out (hw_w _ _) (mix_bound _ _ _ _ _ HF.out HG.out) KT2.out HSb.out L2.out K2.out HM.out.room).mono ?_
    rintro e W3 ⟨rfl, hb3, hl3, hk3'⟩
    have B3 := hid (show Blk W3 b (sc (hw F ((m + k) / 128)) ((m : Int) + n) (mix m o k F g)) 286 from by
      have e := HFe.out
      have h := hw_full m k o f g HO.out.symm hfull
      rw [e] at h
      rw [← h]; exact hb3)
    have L3 := hid (show LG S w W3 lo (evs512 L ((m + k) / 128 - m / 128)) from by
      rw [show (m + k) / 128 - m / 128 = 1 from by have := HO.out; omega]; exact hl3)
    have K3 := hid hk3'
    obtain ⟨q, hq⟩ : ∃ q, mix m o k F g = q := ⟨_, rfl⟩
    rw [hq] at B3
    clear hb3 hl3 hk3' hcp x2 B2 L2 K2 KT2 hq c9 f9
    obtain ⟨A0, eA0, hA0⟩ := sub_next pb po n cap k hc
    go_wp2_with fail
    go_loopw [2] (fun p wr => ∃ j A, k ≤ j ∧ j ≤ n ∧ (m + j) % 128 = 0 ∧ p = .slice A (n - j) (cap - j) ∧ (j < n → A = some ⟨pb, po + j, none⟩) ∧ Blk wr b (sc (hw F ((m + j) / 128)) ((m : Int) + n) q) 286 ∧ LG S w wr lo (evs512 L ((m + j) / 128 - m / 128)) ∧ Kp S w wr) (fun p _ => slLen p)
    case atStart => exact ⟨k, A0, by omega, by omega, by have := HO.out; omega, rfl, hA0, B3.out, L3.out, K3.out⟩
    case round =>
      clear B3 L3 K3 eA0 hA0
      obtain ⟨j, A, hj0, hj, hmj, rfl, hA, hb, hl, hk'⟩ := hrel
      have B := hid hb
      have LL := hid hl
      have KK := hid hk'
      have MJ := hid hmj
      clear hb hl hk' hmj
      by_cases hlt2 : 128 ≤ n - j
      · obtain rfl := hA (by omega)
        clear hA
        have hsw := fun w => sub_whole pb (po + j) (n - j) (cap - j) w hlt2 (by omega)
        have har := fun w => run_arrayAt (P := Tryz.prog) (w := w) 284 5 128 (some ⟨pb, po + j, none⟩) 128 (cap - j) Tryz.underlying284 (Nat.le_refl _)
        have x2 := LDb_run (w := wr) (g := pb) (o := po + j) (cs := bl 128 (fun i => g (j + i))) (fun i v hi => by obtain ⟨hi1, rfl⟩ := bl_get_inv _ _ _ _ hi; rw [Nat.add_assoc]; exact HR.out wr KK.out (j + i) (by omega)) (bl_length _ _)
        have h128 : (128 : Int) ≤ ((n - j : Nat) : Int) := by omega
        go_wp2_with fail
        refine (take61 b _ _ _ _ lo _ S w wr B.out (hw_w _ _) (fun i => HG.out (j + i)) (HK.out.kept KK.out HS0.out) HSb.out LL.out KK.out (evs512_room HP.out HM.out _ (by omega))).mono ?_
        rintro e W4 ⟨rfl, hb4, hl4, hk4⟩
        have B4 := hid (show Blk W4 b (sc (hw F ((m + (j + 128)) / 128)) ((m : Int) + n) q) 286 from by
          have e := HFe.out
          have h := hw_next m j f g MJ.out
          rw [e] at h
          rw [← h]; exact hb4)
        have L4 := hid (show LG S w W4 lo (evs512 L ((m + (j + 128)) / 128 - m / 128)) from by
          rw [show (m + (j + 128)) / 128 - m / 128 = ((m + j) / 128 - m / 128) + 1 from by have := MJ.out; omega]; exact hl4)
        have K4 := hid hk4
        obtain ⟨A4, eA4, hA4⟩ := sub_next pb (po + j) (n - j) (cap - j) 128 (by omega)
        have eA5 : sub (some ⟨pb, po + j, none⟩) (cap - j) 128 ((n - j : Nat) : Int) = .slice A4 (n - j - 128) (cap - j - 128) := eA4
        clear hb4 hl4 hk4 B LL KK x2 hsw har eA4
        go_wp2
        refine ⟨⟨j + 128, A4, by omega, by omega, by have := MJ.out; omega, by rw [Nat.sub_sub, Nat.sub_sub], fun h => by rw [hA4 (by omega), Nat.add_assoc], B4.out, L4.out, K4.out⟩, by simp [slLen]; omega⟩
      · have h128 : ¬ (128 : Int) ≤ ((n - j : Nat) : Int) := by omega
        have z3 := SVb_run (cs := bl 128 (fun _ => 0)) (B.out.there 10 128 (by rw [sc_length]; omega)) (bl_length _ _) (bl_one _ _)
        rw [← wz8] at z3
        have b5 := B.out.put 10 (bl 128 (fun _ => 0))
        rw [sc_zero] at b5
        obtain ⟨W5, hW5⟩ : ∃ x, wr.setCells b 10 (bl 128 (fun _ => 0)) = x := ⟨_, rfl⟩
        have hK5 : Kp S w W5 := by rw [← hW5]; exact KK.out.trans (Kp.setCells b _ _) (fun i _ e => by have : i = b := e; rw [this]; exact HSb.out)
        have hL5 : LG S w W5 lo (evs512 L ((m + j) / 128 - m / 128)) := by rw [← hW5]; exact LL.out.state B.out (Kp.setCells b _ _)
        rw [hW5] at z3 b5
        have B5 := hid b5
        have K5 := hid hK5
        have L5 := hid hL5
        have EL : Hid ((m + j) / 128 - m / 128 = (m + n) / 128 - m / 128) := by show (m + j) / 128 - m / 128 = (m + n) / 128 - m / 128; have := MJ.out; omega
        clear hW5 hK5 hL5 b5 B LL KK
        by_cases hj2 : j < n
        · obtain rfl := hA hj2
          clear hA
          have hcp := fun ty => copy_run0 W5 b (n - j) (cap - j) pb (po + j) ty _ (fun i => g (j + i)) B5.out (sc_length _ _ _) (by omega) (fun i hi => by rw [Nat.add_assoc]; exact HR.out W5 K5.out (j + i) (by omega))
          go_wp2
          go_end0
          have e := HFe.out
          refine ⟨rfl, ⟨?_, HF.out, by omega⟩, ?_, ?_⟩
          · have b6 := B5.out.put (10 + 0) (bl (n - j) (fun i => g (j + i)))
            rw [sc_putb _ _ _ 0 (n - j) _ (by omega)] at b6
            have h := stc_end m n j (n - j) f g MJ.out (by omega) (by omega) ((m : Int) + n) (by omega)
            rw [e] at h
            rw [← h]
            exact b6
          · rw [← EL.out]
            exact L5.out.state B5.out (Kp.setCells b _ _)
          · exact K5.out.trans (Kp.setCells b _ _) (fun i _ e => by have : i = b := e; rw [this]; exact HSb.out)
        · have ej : j = n := by omega
          subst ej
          clear hA
          have e0 : j - j = 0 := by omega
          have hcp := fun ty => copy_no W5 (some ⟨b, 10, none⟩) A 128 128 (cap - j) ty
          rw [e0]
          go_wp2
          go_end0
          have e := HFe.out
          refine ⟨rfl, ⟨?_, HF.out, by omega⟩, ?_, K5.out⟩
          · have h := stc_end m j j 0 f g MJ.out (by omega) (by omega) ((m : Int) + j) (by omega)
            rw [e] at h
            rw [← h]
            have h2 : (fun i => if 0 ≤ i ∧ i < 0 + 0 then g (j + (i - 0)) else 0) = fun _ : Nat => (0 : Int) := by funext i; rw [if_neg (by omega)]
            rw [h2]
            exact B5.out
          · exact L5.out
set_option maxRecDepth 4000 in
theorem goOn_none (b m : Nat) (a : Option Addr) (cap : Nat) (f g : Nat → Int) (lo : Option Nat) (L : List Rn) (S : Nat → Prop) (w : World) (hst : St w b m f) (hSb : S b) (hl : LG S w w lo L) (hg : ∀ i, 0 ≤ g i ∧ g i < 256) :
    Calls Tryz.prog 240 #[.pointer (some ⟨b, 0, none⟩), lpv lo, .slice a 0 cap] w fun e w' => e = .returned (.tuple #[]) ∧ St w' b (m + 0) (cat m f g) ∧ LG S w w' lo (evs512 L ((m + 0) / 128 - m / 128)) ∧ Kp S w w' := by
  have S1 := hid (hst.congr (cat_bound (n := m) hst.byte hg) (fun i hi => by unfold cat; rw [if_pos hi]))
  have HL := hid hl
  have HS := hid hSb
  have c9 := hst.c9
  have f9 := hst.here.frozen 9
  have hm := hst.few
  obtain ⟨o, ho⟩ : ∃ o, m % 128 = o := ⟨_, rfl⟩
  have ho128 : o < 128 := by omega
  have hmod : ((m : Int) % 128) = (o : Int) := by omega
  have hlt : (o : Int) < 128 := by omega
  have hsl := sliceA b o ho128
  have hcp := fun W ty => copy_no W (some ⟨b, 10 + o, none⟩) a (128 - o) (128 - o) cap ty
  clear hst hSb hl hg ho
  go_enter Tryz.func240, Tryz.ntmps240
  go_wp2
  refine bodyPost_ret (results_none rfl _ _ _) rfl ?_
  rw [show (m + 0) / 128 - m / 128 = 0 from by omega]
  refine ⟨rfl, ⟨?_, S1.out.byte, S1.out.few⟩, HL.out.state S1.out.here (Kp.setCell b 9 _), (Kp.setCell b 9 _).mono (fun i _ e => by have : i = b := e; rw [this]; exact HS.out)⟩
  have := S1.out.here.set 9 (.int .u64 (m : Int))
  unfold stc at this
  rw [sc_set9] at this
  exact this
end Go.Proofs.YtpohogpkfdebdaaGreatDoor.Sg
