/- The document's memory of a slot: what Look tells. -/
import Derived.Test.YthoklddoeoedgaaSdop
namespace Go.Proofs.Ythoklddoeoedgaa.Sl
open Go.ChangeShapes Go.WideShapes Go.ChangeAt Go.RowKit
open Go.Proofs.Ythoklddoeoedgaa.By
/-- Between two rounds of Look. -/
structure LK (w : World) (rb sb : Nat) (h : Nat → Int) (W : World) : Prop where
  r : Blk W rb (bl 1024 (fun _ => 0)) 30
  s : Blk W sb (bl 1024 h) 30
  rl : w.heap.size ≤ rb
  sl : w.heap.size ≤ sb
  ne : rb ≠ sb
  bel : Below w.heap.size w W
theorem LK.start (w : World) : LK w w.heap.size (w.heap.size + 1) (fun _ => 0) ((w.alloc (.cells (bl 1024 (fun _ => 0)).toArray 30)).alloc (.cells (bl 1024 (fun _ => 0)).toArray 30)) :=
  ⟨(Blk.new _ _ _).alloc _, Blk.newAt _ _ _ _ _ (size_alloc _ _).symm rfl, Nat.le_refl _, Nat.le_succ _, by omega, below_next (below_alloc _ _) (below_alloc _ _)⟩
theorem LK.put {w W : World} {rb sb : Nat} {h : Nat → Int} (H : LK w rb sb h W) (j : Nat) (x : Int) : LK w rb sb (fun i => if i = j then x else h i) (W.setCell ⟨sb, j, none⟩ (.int .u8 x)) :=
  ⟨H.r.other H.ne _ _, by rw [← bl_set]; exact H.s.set j _, H.rl, H.sl, H.ne, below_set H.bel _ _ _ H.sl H.bel.size⟩
/-- The end: the slot is laid into the result. -/
theorem LK.fin {w W : World} {rb sb : Nat} {h : Nat → Int} (H : LK w rb sb h W) : (LDs ⟨sb, 0, none⟩).run Try.prog W = .ok (.agg (bl 1024 h).toArray) W ∧ (SVs ⟨rb, 0, none⟩ (.agg (bl 1024 h).toArray)).run Try.prog W = .ok () (W.setCells rb 0 (bl 1024 h)) ∧ (LDs ⟨rb, 0, none⟩).run Try.prog (W.setCells rb 0 (bl 1024 h)) = .ok (.agg (bl 1024 h).toArray) (W.setCells rb 0 (bl 1024 h)) ∧ Below w.heap.size w (W.setCells rb 0 (bl 1024 h)) := by
  refine ⟨LDs_run (H.s.range 0 _ (fun _ _ hv => by rw [Nat.zero_add]; exact hv)) (bl_length _ _), SVs_run (H.r.there 0 1024 (by rw [bl_length]; omega)) (bl_length _ _) (bl_one _ _), ?_, below_cells H.bel _ _ _ H.rl H.bel.size⟩
  have := H.r.put 0 (bl 1024 h)
  rw [put_all _ _ (by rw [bl_length, bl_length])] at this
  exact LDs_run (this.range 0 _ (fun _ _ hv => by rw [Nat.zero_add]; exact hv)) (bl_length _ _)
theorem sv_congr {f g : Nat → Int} (h : ∀ i, i < 1024 → f i = g i) : sv f = sv g := by unfold sv; rw [bl_congr 1024 f g h]
set_option maxRecDepth 20000 in
set_option maxHeartbeats 1200000 in
theorem rlook_some (b n : Nat) (bv : Value) (f : Nat → Int) (w : World) (h : IsD w (.pointer (some ⟨b, 0, none⟩)) bv (some (n, f))) : Calls Try.prog 20 #[.pointer (some ⟨b, 0, none⟩)] w fun e w' => e = .returned (sv f) ∧ Below w.heap.size w w' := by
  obtain ⟨⟨b', e', hb⟩, ho, hn, hz⟩ := h
  cases e'
  obtain ⟨a, c, rfl⟩ := By.RB.isSlice ho.reads
  have HB := hid hb
  have HO := hid ho.reads
  have HN := hid hn
  have HZ := hid hz
  have L0 := hid (LK.start w)
  clear hb ho hn hz
  go_enter Try.func20, Try.ntmps20
  go_wp2
  go_loopw [4] (fun x wr => ∃ j : Nat, j ≤ n ∧ x = .int .i64 j ∧ ∃ h, (∀ i, h i = cut j f i) ∧ LK w w.heap.size (w.heap.size + 1) h wr) (fun x _ => n - (intOf x).toNat)
  case atStart => exact ⟨0, Nat.zero_le _, rfl, fun _ => 0, fun i => (cut_out 0 f i (Nat.zero_le _)).symm, L0.out⟩
  case round =>
    clear L0
    obtain ⟨j, hj, rfl, h, hh, hl⟩ := hrel
    have cb := (HB.out.below hl.bel).cell 0 _ rfl
    by_cases hjl : j < n
    · have hn2 := HN.out
      have c5 := hl.s.cell j _ (bl_get 1024 h j (by omega))
      have z5 := hl.s.frozen j
      obtain ⟨bl', ol', ela, c6⟩ := By.RB.cellsAt (HO.out.below hl.bel) hjl
      cases ela
      have j0 : (0 : Int) ≤ j := by omega
      have j1 : (j : Int) < n := by omega
      have j2 : (j : Int) < 1024 := by omega
      have NXT : Hid (∃ h, (∀ i, h i = cut (j + 1) f i) ∧ LK w w.heap.size (w.heap.size + 1) h (wr.setCell ⟨w.heap.size + 1, j, none⟩ (.int .u8 (f j)))) := by
        refine ⟨_, fun i => ?_, hl.put j (f j)⟩
        by_cases e : i = j
        · subst e; show (if i = i then f i else h i) = _; rw [if_pos rfl, cut_in _ _ _ (by omega)]
        · show (if i = j then f j else h i) = _
          rw [if_neg e, hh i]; unfold cut
          by_cases e2 : i < j
          · rw [if_pos e2, if_pos (by omega)]
          · rw [if_neg e2, if_neg (by omega)]
      have HJ := hid hjl
      clear hl hh hn2 hjl hj
      go_wp2
      refine ⟨⟨j + 1, by have := HJ.out; omega, by go_num, NXT.out⟩, by have := HJ.out; simp [intOf]; omega⟩
    · have EJ : Hid (j = n) := by show j = n; omega
      have j1 : ¬ (j : Int) < n := by omega
      obtain ⟨f1, f2, f3, f4⟩ := hl.fin
      have F4 := hid f4
      have EQ : Hid (Value.agg (bl 1024 h).toArray = sv f) := sv_congr (fun i _ => by
        rw [hh i, EJ.out]
        by_cases e : i < n
        · exact cut_in _ _ _ e
        · rw [cut_out _ _ _ (by omega), HZ.out i (by omega)])
      clear hl hh hj hjl f4
      go_wp2
      refine bodyPost_ret (results_cell1 rfl rfl f3) rfl ?_
      rw [EQ.out]
      exact ⟨rfl, F4.out⟩
set_option maxRecDepth 20000 in
set_option maxHeartbeats 1200000 in
theorem rlook_none (p bv : Value) (w : World) (h : IsD w p bv none) : Calls Try.prog 20 #[p] w fun e w' => e = .returned (sv (fun _ => 0)) ∧ Below w.heap.size w w' := by
  have L0 := LK.start w
  obtain ⟨W, hW⟩ : ∃ W, (w.alloc (.cells (bl 1024 (fun _ => 0)).toArray 30)).alloc (.cells (bl 1024 (fun _ => 0)).toArray 30) = W := ⟨_, rfl⟩
  rw [hW] at L0
  have hb := L0.bel
  obtain ⟨f1, f2, f3, f4⟩ := L0.fin
  have F4 := hid f4
  clear f4 L0
  rcases h with rfl | ⟨b, rfl, h⟩
  · clear hb
    go_enter Try.func20, Try.ntmps20
    go_wp2
    refine wp_loop_rounds 1 ?_
    rw [rounds_succ]
    go_wp2
    refine bodyPost_ret (results_cell1 rfl rfl f3) rfl ?_
    exact ⟨rfl, F4.out⟩
  · have c0 := (h.below hb).cell 0 _ rfl
    clear hb h
    go_enter Try.func20, Try.ntmps20
    go_wp2
    refine wp_loop_rounds 1 ?_
    rw [rounds_succ]
    go_wp2
    refine bodyPost_ret (results_cell1 rfl rfl f3) rfl ?_
    exact ⟨rfl, F4.out⟩
theorem rlook_m (p bv : Value) (k : Kd) (w : World) (h : IsD w p bv k) : Calls Try.prog 20 #[p] w fun e w' => e = .returned (sv (kf k)) ∧ Below w.heap.size w w' := by
  cases k with
  | none => exact rlook_none p bv w h
  | some z =>
    obtain ⟨n, f⟩ := z
    have h' := h
    obtain ⟨⟨b, rfl, _⟩, _⟩ := h
    exact rlook_some b n bv f w h'
end Go.Proofs.Ythoklddoeoedgaa.Sl
