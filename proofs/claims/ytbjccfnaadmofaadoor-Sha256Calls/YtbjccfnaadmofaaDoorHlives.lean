/- The law's wants and lives. -/
import Derived.Test.YtbjccfnaadmofaaDoorHeval
import Derived.Deep.RegionLaw
import Derived.Deep.AppendLies
import Derived.Lib.SlBytesConst
namespace Go.Proofs.YtbjccfnaadmofaaDoor.Sh
open Go.ChangeShapes Go.WideShapes Go.ChangeAt Go.RowKit
open Go.Proofs.YtbjccfnaadmofaaDoor.By Go.Proofs.YtbjccfnaadmofaaDoor.Wd

theorem be4 (x : Int) : [Value.int .u8 (IntKind.u8.wrap (x / 16777216)), .int .u8 (IntKind.u8.wrap (x / 65536)), .int .u8 (IntKind.u8.wrap (x / 256)), .int .u8 (IntKind.u8.wrap (x))] = bl 4 (beByte 4 x) := by
  rw [bl4]
  simp [beByte, IntKind.wrap_u8]
theorem be4_at (W : World) (a b c d : Int) : ∀ j u, [Value.int .u8 a, .int .u8 b, .int .u8 c, .int .u8 d][j]? = some u → (W.alloc (.cells #[Value.int .u8 a, .int .u8 b, .int .u8 c, .int .u8 d] 5)).cell? ((⟨W.heap.size, 0, none⟩ : Addr).add j) = some u := fun j u hj => by
  rw [By.add_plain, Nat.zero_add]
  exact (Blk.newAt W _ [Value.int .u8 a, .int .u8 b, .int .u8 c, .int .u8 d] 5 _ rfl rfl).cell j u hj
theorem cell_past {W w1 : World} {r : Option Nat} {B g i : Nat} {u : Value} (hg : W.grownBy w1 r) (hr : ∀ q, r = some q → B + 1 ≤ q) (hc : W.cell? ⟨g, i, none⟩ = some u) (hB : g ≤ B) : w1.cell? ⟨g, i, none⟩ = some u :=
  hg.cell hc (fun e => by have := hr g (by rw [← e]); omega)
set_option maxRecDepth 4000 in
set_option maxHeartbeats 2000000 in
theorem wants35 (h : Nat → Int) (hh : ∀ i, W32 (h i)) (w : World) :
    Calls Tryd.prog 19 #[.agg (wl 8 h).toArray] w fun e w' => ∃ v, e = .returned v ∧ By.Own w' w.heap.size v 32 (lf h) ∧ Below w.heap.size w w' := by
  obtain ⟨i0, hi, hz0, hz1, hz2⟩ := info_parts info5
  have HH := hid hh
  clear hh
  go_enter Tryd.func19, Tryd.ntmps19
  go_wp2_with fail
  go_loopw [3, 4] (fun v i wr => ∃ k : Nat, k ≤ 8 ∧ i = .int .i64 k ∧ Blk wr w.heap.size (wl 8 h) 52 ∧ By.Own wr (w.heap.size + 1) v (4 * k) (lf h) ∧ Below w.heap.size w wr) (fun _ i _ => 8 - (intOf i).toNat)
  case atStart => exact ⟨0, by omega, rfl, Blk.new w _ _, By.own_nil _ _ _ (lf_bound h), below_alloc w _⟩
  case round =>
    obtain ⟨k, hk, rfl, b0, hown, hbel⟩ := hrel
    have B0 := hid b0
    have HO := hid hown
    have HB := hid hbel
    have HZ := hid b0.lt
    clear b0 hown hbel
    by_cases hlt : k < 8
    · have c1 := B0.out.cell k _ (wl_get 8 h k hlt)
      have g1 := (HH.out k).1
      have g2 := (HH.out k).2
      go_wp2_with fail
      have s1 : w.heap.size < wr.heap.size := HZ.out
      have n1 : ¬ w.heap.size = wr.heap.size := by omega
      have N1 : Hid (∀ q, u3.ownBlock = some q → w.heap.size + 1 ≤ q) := own_row HO.out
      have q3 := hid (show ∀ u ∈ [Value.int .u8 (IntKind.u8.wrap (h k / 16777216)), .int .u8 (IntKind.u8.wrap (h k / 65536)), .int .u8 (IntKind.u8.wrap (h k / 256)), .int .u8 (IntKind.u8.wrap (h k))], u.oneCell' = true from by rw [be4]; exact bl_one _ _)
      have q4 : Hid (0 < 4) := by show 0 < 4; decide
      have q5 : Hid (4 * k + 4 ≤ maxLen) := by show 4 * k + 4 ≤ maxLen; simp only [maxLen]; omega
      have q6 : Hid ((4 * k + 4) * 1 ≤ 140737488355328) := by show (4 * k + 4) * 1 ≤ 140737488355328; omega
      have q7 : Hid (w.heap.size + 1 ≤ (wr.alloc (.cells #[Value.int .u8 (IntKind.u8.wrap (h k / 16777216)), .int .u8 (IntKind.u8.wrap (h k / 65536)), .int .u8 (IntKind.u8.wrap (h k / 256)), .int .u8 (IntKind.u8.wrap (h k))] 5)).heap.size) := by show w.heap.size + 1 ≤ (wr.alloc (.cells #[Value.int .u8 (IntKind.u8.wrap (h k / 16777216)), .int .u8 (IntKind.u8.wrap (h k / 65536)), .int .u8 (IntKind.u8.wrap (h k / 256)), .int .u8 (IntKind.u8.wrap (h k))] 5)).heap.size; rw [size_alloc]; omega
      have kc := hid ((B0.out.alloc (.cells #[Value.int .u8 (IntKind.u8.wrap (h k / 16777216)), .int .u8 (IntKind.u8.wrap (h k / 65536)), .int .u8 (IntKind.u8.wrap (h k / 256)), .int .u8 (IntKind.u8.wrap (h k))] 5)).drewN 1 |>.cell k _ (wl_get 8 h k hlt))
      go_region_held3 (fun W => W.cell? ⟨w.heap.size, k, none⟩ = some (.int .u32 (h k))) (go_keep) (first | (refine step_append_lies _ rfl (.tmp 9) (.tmp 29) 40 rfl (w.heap.size + 1) 5 i0 (.int .u8 0) 1 1 Tryd.underlying40 hi hz0 hz1 hz2 rfl (by decide) u3 (4 * k) (bl (4 * k) (lf h)) rfl (World.ownsRow.alloc HO.out.2 (.cells #[.int .u8 (IntKind.u8.wrap (h k / 16777216)), .int .u8 (IntKind.u8.wrap (h k / 65536)), .int .u8 (IntKind.u8.wrap (h k / 256)), .int .u8 (IntKind.u8.wrap (h k))] 5)) ⟨wr.heap.size, 0, none⟩ 4 4 [.int .u8 (IntKind.u8.wrap (h k / 16777216)), .int .u8 (IntKind.u8.wrap (h k / 65536)), .int .u8 (IntKind.u8.wrap (h k / 256)), .int .u8 (IntKind.u8.wrap (h k))] rfl rfl (be4_at wr _ _ _ _) q3.out q4.out q5.out q6.out q7.out _ rfl ?_; intro gq cq w1 hown hgrow hat hltq; have k1 := cell_past hgrow N1.out kc.out (Nat.le_refl _); have HW := hid hown; have HGr := hid hgrow; clear hown hgrow hat hltq))
      have R1 : Hid (By.Own w1 (w.heap.size + 1) (.slice (some ⟨gq, 0, none⟩) (4 * k + 4) cq) (4 * k + 4) (lf h)) := by
        refine own_congr (f := cat (4 * k) (lf h) (beByte 4 (h k))) ⟨cat_bound (n := 4 * k) (lf_bound h) (beByte_bound 4 (h k)), ?_⟩ (lf_bound h) (fun i hi => by rw [lf_next, if_pos hi])
        rw [show bl (4 * k + 4) (cat (4 * k) (lf h) (beByte 4 (h k))) = bl (4 * k) (lf h) ++ bl 4 (beByte 4 (h k)) from (bl_append _ _ _ _).symm]
        have := HW.out
        rw [show [Value.int .u8 (IntKind.u8.wrap (h k / 16777216)), .int .u8 (IntKind.u8.wrap (h k / 65536)), .int .u8 (IntKind.u8.wrap (h k / 256)), .int .u8 (IntKind.u8.wrap (h k))] = bl 4 (beByte 4 (h k)) from be4 (h k)] at this
        exact this
      have R2 : Hid (Below w.heap.size w w1) := (below_drew' (HB.out.alloc (by omega) (.cells #[Value.int .u8 (IntKind.u8.wrap (h k / 16777216)), .int .u8 (IntKind.u8.wrap (h k / 65536)), .int .u8 (IntKind.u8.wrap (h k / 256)), .int .u8 (IntKind.u8.wrap (h k))] 5)) 1).grown HGr.out (Nat.le_trans (Nat.le_succ _) q7.out) (fun q hq => by have := N1.out q hq; omega)
      have R3 : Hid (Blk w1 w.heap.size (wl 8 h) 52) := (HGr.out.block w.heap.size q7.out (fun e => by have := N1.out _ e.symm; omega)).trans (B0.out.alloc (.cells #[Value.int .u8 (IntKind.u8.wrap (h k / 16777216)), .int .u8 (IntKind.u8.wrap (h k / 65536)), .int .u8 (IntKind.u8.wrap (h k / 256)), .int .u8 (IntKind.u8.wrap (h k))] 5))
      clear HW HGr
      clear k1
      go_wp2
      exact ⟨⟨k + 1, by omega, by go_num, R3.out, R1.out, R2.out⟩, by simp [intOf]; omega⟩
    · have ek : k = 8 := by omega
      subst ek
      go_wp2
      go_ret
      exact ⟨_, rfl, own_mono HO.out (by omega), HB.out⟩

theorem lf_l8 (h h' : Nat → Int) (e : l8 h = l8 h') (i : Nat) (hi : i < 32) : lf h i = lf h' i := by
  simp only [l8, List.cons.injEq, and_true] at e
  obtain ⟨e0, e1, e2, e3, e4, e5, e6, e7⟩ := e
  unfold lf
  have : i / 4 < 8 := by omega
  have hh : h (i / 4) = h' (i / 4) := by
    generalize i / 4 = q at this
    match q, this with
    | 0, _ => exact e0
    | 1, _ => exact e1
    | 2, _ => exact e2
    | 3, _ => exact e3
    | 4, _ => exact e4
    | 5, _ => exact e5
    | 6, _ => exact e6
    | 7, _ => exact e7
  rw [hh]
/-- Eight words out of a list. -/
def wof (l : List Int) (i : Nat) : Int := l.getD i 0
theorem wof_w (l : List Int) (h : l.all (fun z => decide (0 ≤ z ∧ z < 4294967296)) = true) (i : Nat) : W32 (wof l i) := by
  unfold wof
  rw [List.getD_eq_getElem?_getD]
  cases he : l[i]? with
  | none => exact ⟨by decide, by decide⟩
  | some z =>
    have := List.all_eq_true.1 h z (List.mem_of_getElem? he)
    simpa [W32] using of_decide_eq_true this
theorem dig_abc (i : Nat) (hi : i < 32) : dig 3 abc i = lf (wof wabc) i := lf_l8 _ _ (abc_words.trans (by rfl)) i hi
theorem lg_nil (S : Nat → Prop) (w : World) : LG S w w none [] := trivial
theorem pos_nil' : Pos [] := fun q hq => by simp at hq
theorem rb_marked (w : World) (n : Nat) (f : Nat → Int) (fr : Nat × Nat) (hf : ∀ i, 0 ≤ f i ∧ f i < 256) (hn : n ≤ maxLen) : By.RB (w.alloc (.cells (bl n f).toArray 5 fr)) (.slice (some ⟨w.heap.size, 0, none⟩) n n) n f :=
  ⟨hf, _, _, rfl, Nat.le_refl _, hn, .inr ⟨_, 0, rfl, fun i hi => by
    rw [cell_of_row _ w.heap.size (0 + i) _ 5 fr (heap_alloc_last w _), Nat.zero_add]
    simpa using bl_get n f i hi⟩⟩
theorem abc_bound (i : Nat) : 0 ≤ abc i ∧ abc i < 256 := lst_bound _ (by decide) i
theorem below_kp {w w' : World} (h : Kp (fun _ => False) w w') : Below w.heap.size w w' := h.below (Nat.le_refl _) (fun _ _ e => e)
theorem wl8of (a0 a1 a2 a3 a4 a5 a6 a7 : Int) : #[Value.int .u32 a0, .int .u32 a1, .int .u32 a2, .int .u32 a3, .int .u32 a4, .int .u32 a5, .int .u32 a6, .int .u32 a7] = (wl 8 (wof [a0, a1, a2, a3, a4, a5, a6, a7])).toArray := rfl
set_option maxRecDepth 4000 in
set_option maxHeartbeats 1200000 in
theorem lives8 (w : World) (hk : KT w) : Calls Tryd.prog 4 #[] w fun e w' => e = .returned (.bool true) ∧ Below w.heap.size w w' := by
  have HK := hid hk
  have hcv := Lib.run_convert_bytes_const (P := Tryd.prog) w 40 5 #[Value.int .u8 97, .int .u8 98, .int .u8 99] 3 3 Tryd.underlying40 Tryd.underlying5
  clear hk
  go_enter Tryd.func4, Tryd.ntmps4
  go_wp2_with fail
  have B0 := hid (rb_marked w 3 abc (3, 4) abc_bound (by decide))
  have b0 := hid (below_alloc w (.cells (bl 3 abc).toArray 5 (3, 4)))
  refine (sum23 3 _ abc none [] (fun _ => False) _ (HK.out.below b0.out) (fun e => e) (lg_nil _ _) pos_nil' (fun w' h' => B0.out.below (below_kp h')) (by omega) (by decide)).mono ?_
  rintro e w1 ⟨u, rfl, hu, -, hk1⟩
  have U1 := hid (own_congr hu (lf_bound (wof wabc)) dig_abc)
  have b1 := hid (below_next b0.out (below_kp hk1))
  clear hu hk1 B0 b0 hcv
  go_wp2_with fail
  refine (wants35 (wof wabc) (wof_w _ (by decide)) _).mono ?_
  rintro e w2 ⟨u2, rfl, hu2, hb2⟩
  have U2 := hid hu2.reads
  have U3 := hid (own_below U1.out hb2).reads
  have b2 := hid (below_next b1.out hb2)
  clear hu2 hb2
  go_wp2_with fail
  refine (same_true _ _ 32 _ _ _ U3.out U2.out (by omega) (fun _ _ => rfl)).mono ?_
  rintro e w3 ⟨rfl, d, rfl⟩
  go_wp2
  go_ret
  exact ⟨rfl, below_drew' b2.out d⟩
end Go.Proofs.YtbjccfnaadmofaaDoor.Sh
