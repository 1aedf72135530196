/- The program's memory of a slot: what Put of any list, Bytes, Wipe and Same answer. -/
import Derived.Test.YthoklddoeoedgaaSput
namespace Go.Proofs.Ythoklddoeoedgaa.Sl
open Go.ChangeShapes Go.WideShapes Go.ChangeAt Go.RowKit
open Go.Proofs.Ythoklddoeoedgaa.By
/-- What Put answers, and what the memory is then. -/
def pc (k : Kd) (n : Nat) : Int := match k with
  | none => 1
  | some _ => if 1024 < n then 9 else 0
def pk (k : Kd) (n : Nat) (f : Nat → Int) : Kd := match k with
  | none => none
  | some p => if 1024 < n then some p else some (n, cut n f)
/-- The pointer's own block. -/
def pb (p : Value) (j : Nat) : Prop := p = .pointer (some ⟨j, 0, none⟩)
theorem IsM.kept {S : Nat → Prop} {w w' : World} {v : Value} {k : Kd} (h : IsM w v k) (hk : Kp S w w') (hn : ∀ j, pb v j → ¬ S j) : IsM w' v k := by
  cases k with
  | none => exact h.imp id (fun ⟨b, e, h⟩ => ⟨b, e, Blk.kept h hk (hn b e)⟩)
  | some p => obtain ⟨n, f⟩ := p; obtain ⟨b, e, h⟩ := h; exact ⟨b, e, h.kept hk (hn b e)⟩
theorem pb_one {b j : Nat} (h : pb (.pointer (some ⟨b, 0, none⟩)) j) : j = b := by
  unfold pb at h; simp only [Value.pointer.injEq, Option.some.injEq, Addr.mk.injEq] at h; exact h.1.symm
set_option maxRecDepth 20000 in
set_option maxHeartbeats 1200000 in
theorem put_m (p v : Value) (k : Kd) (n : Nat) (f : Nat → Int) (w : World) (h : IsM w p k) (hr : RB w v n f) : Calls Try.prog 12 #[p, v] w fun e w' => e = .returned (.int .i64 (pc k n)) ∧ IsM w' p (pk k n f) ∧ Kp (pb p) w w' := by
  cases k with
  | none =>
    have H := hid h
    clear h hr
    go_enter Try.func12, Try.ntmps12
    go_wp2_with (go_at_call 35; refine (isNone_no _ _ H.out).mono ?_; rintro e w ⟨rfl, rfl⟩)
    go_ret
    exact ⟨rfl, H.out, Kp.refl _ _⟩
  | some q =>
    obtain ⟨n0, f0⟩ := q
    by_cases hn : 1024 < n
    · have e1 : Hid (pc (some (n0, f0)) n = 9) := if_pos hn
      have e2 : Hid (pk (some (n0, f0)) n f = some (n0, f0)) := if_pos hn
      have H := hid h
      obtain ⟨b, rfl, h⟩ := h
      obtain ⟨a, c, rfl⟩ : ∃ a c, v = .slice a n c := by obtain ⟨_, a, c, e, _⟩ := hr; exact ⟨a, c, e⟩
      have h0 := h.c0
      have l1 : (1024 : Int) < n := by omega
      clear h hr
      go_enter Try.func12, Try.ntmps12
      go_wp2_with (go_at_call 35; refine (isNone_mem _ _ h0).mono ?_; rintro e w ⟨rfl, rfl⟩)
      go_ret
      rw [e1.out, e2.out]
      exact ⟨rfl, H.out, Kp.refl _ _⟩
    · have e1 : Hid (pc (some (n0, f0)) n = 0) := if_neg hn
      have e2 : Hid (pk (some (n0, f0)) n f = some (n, cut n f)) := if_neg hn
      obtain ⟨b, rfl, h⟩ := h
      refine (put_ok b n0 n f0 f v w h hr (by omega)).mono ?_
      rintro e w' ⟨rfl, hm, hk⟩
      rw [e1.out, e2.out]
      exact ⟨rfl, ⟨b, rfl, hm⟩, hk.mono (fun j _ e => by show _ = _; rw [e])⟩
theorem copy_out {w : World} {b n g : Nat} {f h : Nat → Int} (ty : TypeId) (hm : Mem w b n f) (ho : Blk w g (bl n h) 5) :
    (Builtin.copy_ #[36, 36] ty #[.slice (some ⟨g, 0, none⟩) n n, .slice (some ⟨b, 1, none⟩) 1024 1024]).run Try.prog w = .ok (.int .i64 n) (w.setCells g 0 (bl n f)) := by
  have hn := hm.hn
  have := run_copy_cells (P := Try.prog) w 36 36 ty 5 g 0 n n ⟨b, 1, none⟩ 1024 1024 (bl n f) Try.underlying36 (by kernel_rfl) (by rw [bl_length]; exact (Nat.min_eq_right hn).symm)
    (fun j v hv => by obtain ⟨hj, rfl⟩ := bl_get_inv _ _ _ _ hv; rw [By.add_plain]; exact hm.cb j (by omega))
    (fun j hj => by rw [bl_length] at hj; rw [Nat.zero_add, ho.cell _ _ (bl_get n h j hj)]; rfl) (fun j _ => ho.frozen _) (bl_one _ _)
  rw [bl_length] at this
  exact this
theorem own_blk {w : World} {g n : Nat} {f : Nat → Int} (base : Nat) (h : Blk w g (bl n f) 5) (hb : base ≤ g) (hf : ∀ i, 0 ≤ f i ∧ f i < 256) (hn : n ≤ maxLen) : By.Own w base (.slice (some ⟨g, 0, none⟩) n n) n f := by
  refine ⟨hf, ?_⟩
  refine ⟨by rw [bl_length, Nat.mul_one], .inr ⟨g, n, (bl n f).toArray, rfl, hb, h, Nat.le_refl _, hn, by simp [bl_length], by rw [Nat.mul_one, List.take_of_length_le (by simp [bl_length])]⟩⟩
theorem blk_own {w : World} {base g n : Nat} {f : Nat → Int} (h : By.Own w base (.slice (some ⟨g, 0, none⟩) n n) n f) : Blk w g (bl n f) 5 := by
  rcases h.2.2 with ⟨e, _⟩ | ⟨g', cap, cur, e, hb, hg, hnc, hcm, hcs, ht⟩
  · cases e
  · simp only [Value.slice.injEq, Option.some.injEq, Addr.mk.injEq, and_true, true_and] at e
    obtain ⟨rfl, rfl⟩ := e
    rw [List.take_of_length_le (by simp [hcs])] at ht
    show w.heap[g]? = _
    rw [hg, ← ht]
set_option maxRecDepth 20000 in
set_option maxHeartbeats 1200000 in
theorem bytes_m (p : Value) (k : Kd) (w : World) (h : IsM w p k) : Calls Try.prog 16 #[p] w fun e w' => ∃ v, e = .returned v ∧ By.Own w' w.heap.size v (kn k) (kf k) ∧ Below w.heap.size w w' := by
  cases k with
  | none =>
    have H := hid h
    clear h
    go_enter Try.func16, Try.ntmps16
    go_wp2_with (go_at_call 35; refine (isNone_no _ _ H.out).mono ?_; rintro e w ⟨rfl, rfl⟩)
    go_ret
    exact ⟨_, rfl, own_nil _ _ _ (fun _ => by show (0 : Int) ≤ 0 ∧ (0 : Int) < 256; decide), Below.refl _ _⟩
  | some q =>
    obtain ⟨n, f⟩ := q
    obtain ⟨b, rfl, h⟩ := h
    have h0 := h.c0
    have hcn := h.cn
    have hn := h.hn
    obtain ⟨i0, hi, hz0, hz1, hz2⟩ := info_parts info5
    have H := hid h
    clear h
    go_enter Try.func16, Try.ntmps16
    go_wp2_with (first | (go_at_call 35; refine (isNone_mem _ _ h0).mono ?_; rintro e w ⟨rfl, rfl⟩) | (at_make; go_must (refine wpList_make_full _ rfl _ _ 36 rfl w.heap.size 5 i0 (.int .u8 0) 1 Try.underlying36 hi hz0 hz1 .i64 .i64 _ _ n rfl rfl rfl rfl (by rw [hz2]; omega) (by simp [maxLen]; omega) (Nat.le_refl _) ?_)))
    intro W hown hgrow
    rw [bl_zero] at hown
    have hb := Below.of_grown hgrow
    have NB : Blk W w.heap.size (bl n (fun _ => 0)) 5 := blk_own ⟨fun _ => by show (0 : Int) ≤ 0 ∧ (0 : Int) < 256; decide, hown⟩
    have cp := fun ty => copy_out ty (H.out.below hb) NB
    obtain ⟨W2, hW2⟩ : ∃ W2, W.setCells w.heap.size 0 (bl n f) = W2 := ⟨_, rfl⟩
    rw [hW2] at cp
    have R : Hid (By.Own W2 w.heap.size (.slice (some ⟨w.heap.size, 0, none⟩) n n) n f ∧ Below w.heap.size w W2) := by
      have := NB.put 0 (bl n f)
      rw [put_all _ _ (by rw [bl_length, bl_length]), hW2] at this
      refine ⟨own_blk _ this (Nat.le_refl _) H.out.hf (by simp [maxLen]; omega), ?_⟩
      rw [← hW2]
      exact below_cells hb _ _ _ (Nat.le_refl _) hb.size
    clear H NB hb hW2 hown hgrow
    go_wp2
    go_ret
    exact ⟨_, rfl, R.out⟩
/-- Wipe: behind the note, noughts. -/
theorem wipe_no (p lp : Value) (w : World) (h : IsM w p none) : Calls Try.prog 23 #[p, lp] w fun e w' => e = .returned (.int .i64 1) ∧ w' = w := by
  have H := hid h
  clear h
  go_enter Try.func23, Try.ntmps23
  go_wp2_with (go_at_call 35; refine (isNone_no _ _ H.out).mono ?_; rintro e w ⟨rfl, rfl⟩)
  go_ret
  exact ⟨rfl, rfl⟩
set_option maxRecDepth 20000 in
set_option maxHeartbeats 1200000 in
theorem wipe_mem (b n : Nat) (f : Nat → Int) (lp : Value) (w : World) (R : World → Prop) (h : Mem w b n f) (hN : Notes w lp 8 1024 R) (hR : ∀ w', R w' → Mem w' b n f) :
    Calls Try.prog 23 #[.pointer (some ⟨b, 0, none⟩), lp] w fun e w' => e = .returned (.int .i64 0) ∧ ∃ w1, R w1 ∧ Mem w' b 0 (fun _ => 0) ∧ Kp (fun j => j = b) w1 w' := by
  have h0 := h.c0
  have HN := hid hN
  have HR := hid hR
  clear h hN hR
  go_enter Try.func23, Try.ntmps23
  go_wp2_with (go_at_call 35; refine (isNone_mem _ _ h0).mono ?_; rintro e w ⟨rfl, rfl⟩)
  refine (wipe31_any lp b 1 1024 1024 w R HN.out (by omega) (fun w' r j hj => by rw [(HR.out w' r).cb j hj]; rfl) (fun w' r j _ => (HR.out w' r).here.frozen _)).mono ?_
  rintro e W ⟨rfl, w1, hr, hW⟩
  have m1 := HR.out w1 hr
  have b1 := m1.here.put 1 (List.replicate 1024 (.int .u8 0))
  have k1 : Kp (fun j => j = b) w1 _ := Kp.setCells b 1 (List.replicate 1024 (.int .u8 0))
  rw [← hW] at b1 k1
  rw [rep_bl, show (1 : Nat) = 1 + 0 from rfl, mc_put _ _ _ _ 0 1024 (by omega)] at b1
  have c1 := b1.cell 1025 _ (mc_n _ _ _)
  have z1 := b1.frozen 1025
  obtain ⟨W2, hW2⟩ : ∃ W2, W.setCell ⟨b, 1025, none⟩ (.int .i64 0) = W2 := ⟨_, rfl⟩
  have b2 : Blk W2 b _ _ := hW2 ▸ b1.set 1025 (.int .i64 0)
  rw [mc_setn] at b2
  have k2 : Kp (fun j => j = b) W W2 := hW2 ▸ Kp.setCell b _ _
  have Q : Hid (∃ w1, R w1 ∧ Mem W2 b 0 (fun _ => 0) ∧ Kp (fun j => j = b) w1 W2) := by
    refine ⟨w1, hr, ⟨?_, Nat.zero_le _, fun _ => by show (0 : Int) ≤ 0 ∧ (0 : Int) < 256; decide, fun _ _ => rfl⟩, k1.trans k2 (fun _ _ e => e)⟩
    rw [mc_congr true (fun _ => 0) _ _ (fun i hi => ?_)]
    · exact b2
    · rw [if_pos (by omega)]
  clear m1 b1 k1 b2 k2 hr hW HN HR
  go_wp2
  go_ret
  exact ⟨rfl, Q.out⟩
theorem same_no1 (lp p q : Value) (w : World) (h : IsM w p none) : Calls Try.prog 25 #[lp, p, q] w fun e w' => e = .returned (.bool false) ∧ w' = w := by
  have H := hid h
  clear h
  go_enter Try.func25, Try.ntmps25
  go_wp2_with (go_at_call 35; refine (isNone_no _ _ H.out).mono ?_; rintro e w ⟨rfl, rfl⟩)
  go_ret
  exact ⟨rfl, rfl⟩
theorem same_no2 (lp q : Value) (b n : Nat) (f : Nat → Int) (w : World) (h : Mem w b n f) (hq : IsM w q none) : Calls Try.prog 25 #[lp, .pointer (some ⟨b, 0, none⟩), q] w fun e w' => e = .returned (.bool false) ∧ w' = w := by
  have H := hid hq
  have h0 := h.c0
  clear h hq
  go_enter Try.func25, Try.ntmps25
  go_wp2_with (go_at_call 35; first | (with_reducible refine (isNone_mem _ _ h0).mono ?_; rintro e w ⟨rfl, rfl⟩) | (refine (isNone_no _ _ H.out).mono ?_; rintro e w ⟨rfl, rfl⟩))
  go_ret
  exact ⟨rfl, rfl⟩
theorem Mem.rb {w : World} {b n : Nat} {f : Nat → Int} (h : Mem w b n f) : RB w (.slice (some ⟨b, 1, none⟩) 1024 1024) 1024 f :=
  ⟨h.hf, _, _, rfl, Nat.le_refl _, by simp [maxLen], .inr ⟨b, 1, rfl, fun i hi => h.cb i hi⟩⟩
set_option maxRecDepth 20000 in
set_option maxHeartbeats 1200000 in
theorem same_mem (lp : Value) (a b n m : Nat) (f g : Nat → Int) (w : World) (R : World → Prop) (ha : Mem w a n f) (hb : Mem w b m g) (hN : Notes (w.drewN 1) lp 6 1024 R) (hRa : ∀ w', R w' → Mem w' a n f) (hRb : ∀ w', R w' → Mem w' b m g) :
    Calls Try.prog 25 #[lp, .pointer (some ⟨a, 0, none⟩), .pointer (some ⟨b, 0, none⟩)] w fun e w' => e = .returned (.bool (eqB f g 1024)) ∧ ∃ w1 d, R w1 ∧ w' = w1.drewN d := by
  have h0 := ha.c0
  have h1 := hb.c0
  have HN := hid hN
  have HA := hid hRa
  have HB := hid hRb
  clear ha hb hN hRa hRb
  go_enter Try.func25, Try.ntmps25
  go_wp2_with (go_at_call 35; first | (with_reducible refine (isNone_mem _ _ h0).mono ?_; rintro e w ⟨rfl, rfl⟩) | (with_reducible refine (isNone_mem _ _ h1).mono ?_; rintro e w ⟨rfl, rfl⟩))
  go_region_law (first | (go_simp; go_at_call 38; refine (equal12 lp _ _ 1024 f g (w.drewN 1) R HN.out ⟨_, _, rfl⟩ ⟨_, _, rfl⟩ (fun w' r => (HA.out w' r).rb) (fun w' r => (HB.out w' r).rb) (by omega)).mono ?_; rintro e W ⟨rfl, w1, d, hr, hW⟩; have Q := hid (⟨w1, d, hr, hW⟩ : ∃ w1 d, R w1 ∧ W = w1.drewN d); clear hr hW))
  go_wp2
  go_ret
  exact ⟨rfl, Q.out⟩
end Go.Proofs.Ythoklddoeoedgaa.Sl
