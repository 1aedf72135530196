/- A state of the document: what its calls answer. -/
import Derived.Test.YtdhbkekpjojlnaaDoorJsums
import Derived.Test.YtdhbkekpjojlnaaDoorJgs2
namespace Go.Proofs.YtdhbkekpjojlnaaDoor.Sg
open Go.ChangeShapes Go.WideShapes Go.ChangeAt Go.RowKit
open Go.Proofs.YtdhbkekpjojlnaaDoor.By Go.Proofs.YtdhbkekpjojlnaaDoor.Wd

/-- The document's state in block b: none, or its message. -/
def IsR (w : World) (b : Nat) : SK → Prop
  | none => ∃ v, Blk w b [v, .bool false] 43
  | some (m, f) => m ≤ 140737488351232 ∧ ∃ v, Blk w b [v, .bool true] 43 ∧ By.Own w 0 v m f
theorem IsR.kept {w w' : World} {b : Nat} {k : SK} {S : Nat → Prop} (h : IsR w b k) (hk : Kp S w w') (h1 : ¬ S b) (h2 : ∀ g cs, Blk w g cs 5 → ¬ S g) : IsR w' b k := by
  match k, h with
  | none, ⟨v, h⟩ => exact ⟨v, h.kept hk h1⟩
  | some (m, f), ⟨hm, v, h, ho⟩ =>
    refine ⟨hm, v, h.kept hk h1, own_kept ho hk (fun g hg => ?_)⟩
    obtain ⟨c, hc⟩ := own8_type ho hg
    exact h2 g c.toList (by show w.heap[g]? = _; rw [hc])
theorem IsR.below {w w' : World} {b : Nat} {k : SK} (h : IsR w b k) (hb : Below w.heap.size w w') : IsR w' b k := h.kept (Kp.of_below (fun _ => False) hb) id (fun _ _ _ => id)
theorem rnew11 (w : World) : Calls Tryd.prog 7 #[] w fun e w' => e = .returned (.pointer (some ⟨w.heap.size, 0, none⟩)) ∧ IsR w' w.heap.size (some (0, fun _ => 0)) ∧ Below w.heap.size w w' := by
  go_enter Tryd.func7, Tryd.ntmps7
  go_wp2
  go_ret
  exact ⟨rfl, ⟨by omega, _, Blk.newAt w _ _ _ _ rfl rfl, By.own_nil _ _ _ (fun _ => by decide)⟩, below_alloc _ _⟩
theorem made_st (b : Nat) (w : World) (x : Bool) (h : w.cell? ⟨b, 1, none⟩ = some (.bool x)) : Calls Tryd.prog 36 #[.pointer (some ⟨b, 0, none⟩)] w fun e w' => e = .returned (.bool x) ∧ w' = w := by
  go_enter Tryd.func36, Tryd.ntmps36
  go_wp2
  go_ret
  exact ⟨rfl, rfl⟩
theorem made_nil (w : World) : Calls Tryd.prog 36 #[.pointer none] w fun e w' => e = .returned (.bool false) ∧ w' = w := by
  go_enter Tryd.func36, Tryd.ntmps36
  go_wp2
  go_ret
  exact ⟨rfl, rfl⟩
theorem rlen40 (b m : Nat) (f : Nat → Int) (w : World) (h : IsR w b (some (m, f))) : Calls Tryd.prog 31 #[.pointer (some ⟨b, 0, none⟩)] w fun e w' => e = .returned (.int .i64 m) ∧ w' = w := by
  obtain ⟨hm, v, hb, ho⟩ := h
  have h1 := hb.cell 1 _ rfl
  have h0 := hb.cell 0 _ rfl
  obtain ⟨a, cap, rfl⟩ : ∃ a cap, v = .slice a m cap := by obtain ⟨_, a, cap, e, _⟩ := ho.reads; exact ⟨a, cap, e⟩
  clear hb ho
  go_enter Tryd.func31, Tryd.ntmps31
  go_wp2_with (go_at_call 36; refine (made_st _ _ true h1).mono ?_; rintro e w ⟨rfl, rfl⟩)
  go_ret
  exact ⟨rfl, rfl⟩
theorem rlen40n (b : Nat) (w : World) (h : IsR w b none) : Calls Tryd.prog 31 #[.pointer (some ⟨b, 0, none⟩)] w fun e w' => e = .returned (.int .i64 0) ∧ w' = w := by
  obtain ⟨v, hb⟩ := h
  have h1 := hb.cell 1 _ rfl
  clear hb
  go_enter Tryd.func31, Tryd.ntmps31
  go_wp2_with (go_at_call 36; refine (made_st _ _ false h1).mono ?_; rintro e w ⟨rfl, rfl⟩)
  go_ret
  exact ⟨rfl, rfl⟩
theorem rlen40z (w : World) : Calls Tryd.prog 31 #[.pointer none] w fun e w' => e = .returned (.int .i64 0) ∧ w' = w := by
  go_enter Tryd.func31, Tryd.ntmps31
  go_wp2_with (go_at_call 36; refine (made_nil _).mono ?_; rintro e w ⟨rfl, rfl⟩)
  go_ret
  exact ⟨rfl, rfl⟩
theorem rform18 (b m : Nat) (f : Nat → Int) (w : World) (h : IsR w b (some (m, f))) : Calls Tryd.prog 14 #[.pointer (some ⟨b, 0, none⟩)] w fun e w' => ∃ v, e = .returned v ∧ By.Own w' w.heap.size v 200 (formf m f) ∧ Below w.heap.size w w' := by
  obtain ⟨hm, v, hb, ho⟩ := h
  have h1 := hb.cell 1 _ rfl
  have h0 := hb.cell 0 _ rfl
  have HO := hid ho
  clear hb ho
  go_enter Tryd.func14, Tryd.ntmps14
  go_wp2_with (go_at_call 36; refine (made_st _ _ true h1).mono ?_; rintro e w ⟨rfl, rfl⟩)
  refine (form46 m _ f _ HO.out.reads hm).mono ?_
  rintro e w1 ⟨u, rfl, hu, hb⟩
  have U := hid hu
  have b1 := hid hb
  clear hu hb
  go_wp2
  go_ret
  exact ⟨_, rfl, U.out, b1.out⟩
theorem rform18n (b : Nat) (w : World) (h : IsR w b none) : Calls Tryd.prog 14 #[.pointer (some ⟨b, 0, none⟩)] w fun e w' => e = .returned (.slice none 0 0) ∧ w' = w := by
  obtain ⟨v, hb⟩ := h
  have h1 := hb.cell 1 _ rfl
  clear hb
  go_enter Tryd.func14, Tryd.ntmps14
  go_wp2_with (go_at_call 36; refine (made_st _ _ false h1).mono ?_; rintro e w ⟨rfl, rfl⟩)
  go_ret
  exact ⟨rfl, rfl⟩
theorem rform18z (w : World) : Calls Tryd.prog 14 #[.pointer none] w fun e w' => e = .returned (.slice none 0 0) ∧ w' = w := by
  go_enter Tryd.func14, Tryd.ntmps14
  go_wp2_with (go_at_call 36; refine (made_nil _).mono ?_; rintro e w ⟨rfl, rfl⟩)
  go_ret
  exact ⟨rfl, rfl⟩
theorem rclone37 (b m : Nat) (f : Nat → Int) (w : World) (h : IsR w b (some (m, f))) : Calls Tryd.prog 25 #[.pointer (some ⟨b, 0, none⟩)] w fun e w' => e = .returned (.tuple #[.pointer (some ⟨w.heap.size, 0, none⟩), .int .i64 0]) ∧ IsR w' w.heap.size (some (m, f)) ∧ Below w.heap.size w w' := by
  obtain ⟨hm, v, hb, ho⟩ := h
  have h1 := hb.cell 1 _ rfl
  have h0 := hb.cell 0 _ rfl
  obtain ⟨a, cap, rfl⟩ : ∃ a cap, v = .slice a m cap := by obtain ⟨_, a, cap, e, _⟩ := ho.reads; exact ⟨a, cap, e⟩
  have HO := hid ho
  clear hb ho
  go_enter Tryd.func25, Tryd.ntmps25
  go_wp2_with (go_at_call 36; refine (made_st _ _ true h1).mono ?_; rintro e w ⟨rfl, rfl⟩)
  go_ret2
  exact ⟨rfl, ⟨hm, _, Blk.newAt w _ _ _ _ rfl rfl, own_below HO.out (below_alloc _ _)⟩, below_alloc _ _⟩
theorem rclone37n (b : Nat) (w : World) (h : IsR w b none) : Calls Tryd.prog 25 #[.pointer (some ⟨b, 0, none⟩)] w fun e w' => e = .returned (.tuple #[.pointer none, .int .i64 1]) ∧ w' = w := by
  obtain ⟨v, hb⟩ := h
  have h1 := hb.cell 1 _ rfl
  clear hb
  go_enter Tryd.func25, Tryd.ntmps25
  go_wp2_with (go_at_call 36; refine (made_st _ _ false h1).mono ?_; rintro e w ⟨rfl, rfl⟩)
  go_ret2
  exact ⟨rfl, rfl⟩
theorem rclone37z (w : World) : Calls Tryd.prog 25 #[.pointer none] w fun e w' => e = .returned (.tuple #[.pointer none, .int .i64 1]) ∧ w' = w := by
  go_enter Tryd.func25, Tryd.ntmps25
  go_wp2_with (go_at_call 36; refine (made_nil _).mono ?_; rintro e w ⟨rfl, rfl⟩)
  go_ret2
  exact ⟨rfl, rfl⟩
theorem rreset38 (b m : Nat) (f : Nat → Int) (w : World) (h : IsR w b (some (m, f))) : Calls Tryd.prog 27 #[.pointer (some ⟨b, 0, none⟩)] w fun e w' => e = .returned (.int .i64 0) ∧ IsR w' b (some (0, fun _ => 0)) ∧ Kp (fun j => j = b) w w' := by
  obtain ⟨hm, v, hb, ho⟩ := h
  have h1 := hb.cell 1 _ rfl
  have h0 := hb.cell 0 _ rfl
  have f0 := hb.frozen 0
  have B := hid hb
  clear hb ho
  go_enter Tryd.func27, Tryd.ntmps27
  go_wp2_with (go_at_call 36; refine (made_st _ _ true h1).mono ?_; rintro e w ⟨rfl, rfl⟩)
  go_ret
  exact ⟨rfl, ⟨by omega, _, B.out.set 0 _, By.own_nil _ _ _ (fun _ => by decide)⟩, Kp.setCell b 0 _⟩
theorem rreset38n (b : Nat) (w : World) (h : IsR w b none) : Calls Tryd.prog 27 #[.pointer (some ⟨b, 0, none⟩)] w fun e w' => e = .returned (.int .i64 1) ∧ w' = w := by
  obtain ⟨v, hb⟩ := h
  have h1 := hb.cell 1 _ rfl
  clear hb
  go_enter Tryd.func27, Tryd.ntmps27
  go_wp2_with (go_at_call 36; refine (made_st _ _ false h1).mono ?_; rintro e w ⟨rfl, rfl⟩)
  go_ret
  exact ⟨rfl, rfl⟩
theorem rreset38z (w : World) : Calls Tryd.prog 27 #[.pointer none] w fun e w' => e = .returned (.int .i64 1) ∧ w' = w := by
  go_enter Tryd.func27, Tryd.ntmps27
  go_wp2_with (go_at_call 36; refine (made_nil _).mono ?_; rintro e w ⟨rfl, rfl⟩)
  go_ret
  exact ⟨rfl, rfl⟩
theorem rled_apart {w : World} {lb : Nat} {rv : Value} {L : List Rn} (h : RLed w lb rv L) {g : Nat} {cs : List Value} {t : TypeId} (hg : Blk w g cs t) (h1 : t ≠ 58) (h2 : t ≠ 79) : ¬ (g = lb ∨ rv.ownBlock = some g) := by
  rintro (e | e)
  · subst e
    exact Blk.ne hg (show Blk w g _ 58 from h.here) h1 rfl
  · obtain ⟨c, hc⟩ := own_type h.own e
    exact Blk.ne hg (show Blk w g c.toList 79 from by show w.heap[g]? = _; rw [hc]) h2 rfl
theorem rwipe39 (b m lb : Nat) (f : Nat → Int) (rv : Value) (L : List Rn) (w : World) (h : IsR w b (some (m, f))) (hl : RLed w lb rv L) (hroom : Room L) :
    Calls Tryd.prog 29 #[.pointer (some ⟨b, 0, none⟩), .pointer (some ⟨lb, 0, none⟩)] w fun e w' => e = .returned (.int .i64 0) ∧ IsR w' b none ∧ (∃ rv', RLed w' lb rv' (putL L ⟨8, 200, 1⟩) ∧ SameOrNew w rv rv') ∧ Kp (fun j => j = b ∨ j = lb ∨ rv.ownBlock = some j) w w' := by
  obtain ⟨hm, v, hb, ho⟩ := h
  have h1 := hb.cell 1 _ rfl
  have B := hid hb
  have HL := hid hl
  have HR := hid hroom
  clear hb ho hl hroom
  go_enter Tryd.func29, Tryd.ntmps29
  go_wp2_with (first | (go_at_call 36; refine (made_st _ _ true h1).mono ?_; rintro e w ⟨rfl, rfl⟩))
  refine (refNote42 lb rv L 8 200 _ HL.out ⟨by show (0 : Int) ≤ 8 ∧ (8 : Int) < 256; decide, by show (-9223372036854775808 : Int) ≤ 200 ∧ (200 : Int) ≤ 9223372036854775807; decide, by show (-9223372036854775808 : Int) ≤ 1 ∧ (1 : Int) ≤ 9223372036854775807; decide⟩ (by have := HR.out.1; omega) (by have := HR.out.2; omega)).mono ?_
  rintro e w1 ⟨rfl, rv1, hl1, hk1, hs1⟩
  have B1 := hid (B.out.kept hk1 (rled_apart HL.out B.out (by decide) (by decide)))
  have L1 := hid hl1
  have K1 := hid hk1
  have O1 := hid hs1
  have f0 := B1.out.frozen 0
  have f1 := B1.out.frozen 1
  have c0 := B1.out.cell 0 _ rfl
  have c1 := B1.out.cell 1 _ rfl
  clear hl1 hk1 hs1 h1
  go_wp2
  go_ret
  refine ⟨rfl, ⟨_, (B1.out.set 0 (.slice none 0 0)).set 1 (.bool false)⟩, ⟨rv1, ?_, O1.out⟩, ?_⟩
  · have n1 := rled_apart L1.out B1.out (by decide) (by decide)
    exact (L1.out.kept (Kp.setCell b 0 _) (fun e => n1 (.inl e.symm)) (fun g hg e => n1 (.inr (by have e' : g = b := e; rw [← e']; exact hg)))).kept (Kp.setCell b 1 _) (fun e => n1 (.inl e.symm)) (fun g hg e => n1 (.inr (by have e' : g = b := e; rw [← e']; exact hg)))
  · refine ((K1.out.mono (fun j _ h => ?_)).trans (Kp.setCell b 0 _) (fun i _ e => .inl e)).trans (Kp.setCell b 1 _) (fun i _ e => .inl e)
    rcases h with h | h
    · exact .inr (.inl h)
    · exact .inr (.inr h)
theorem rwipe39n (b : Nat) (lp : Value) (w : World) (h : IsR w b none) : Calls Tryd.prog 29 #[.pointer (some ⟨b, 0, none⟩), lp] w fun e w' => e = .returned (.int .i64 1) ∧ w' = w := by
  obtain ⟨v, hb⟩ := h
  have h1 := hb.cell 1 _ rfl
  clear hb
  go_enter Tryd.func29, Tryd.ntmps29
  go_wp2_with (go_at_call 36; refine (made_st _ _ false h1).mono ?_; rintro e w ⟨rfl, rfl⟩)
  go_ret
  exact ⟨rfl, rfl⟩
theorem rwipe39z (lp : Value) (w : World) : Calls Tryd.prog 29 #[.pointer none, lp] w fun e w' => e = .returned (.int .i64 1) ∧ w' = w := by
  go_enter Tryd.func29, Tryd.ntmps29
  go_wp2_with (go_at_call 36; refine (made_nil _).mono ?_; rintro e w ⟨rfl, rfl⟩)
  go_ret
  exact ⟨rfl, rfl⟩
theorem rsum36 (b m lb : Nat) (f : Nat → Int) (rv : Value) (L : List Rn) (w : World) (h : IsR w b (some (m, f))) (hl : RLed w lb rv L) (hroom : Wide L) :
    Calls Tryd.prog 23 #[.pointer (some ⟨b, 0, none⟩), .pointer (some ⟨lb, 0, none⟩)] w fun e w' => ∃ v, e = .returned (.tuple #[v, .int .i64 0]) ∧ By.Own w' w.heap.size v 64 (dig m f) ∧ (∃ rv', RLed w' lb rv' (evs512 L (last m)) ∧ SameOrNew w rv rv') ∧ Kp (fun j => j = lb ∨ rv.ownBlock = some j) w w' := by
  obtain ⟨hm, v, hb, ho⟩ := h
  have h1 := hb.cell 1 _ rfl
  have h0 := hb.cell 0 _ rfl
  obtain ⟨a, cap, rfl⟩ : ∃ a cap, v = .slice a m cap := by obtain ⟨_, a, cap, e, _⟩ := ho.reads; exact ⟨a, cap, e⟩
  have B := hid hb
  have HO := hid ho
  have HL := hid hl
  have HR := hid hroom
  have hl1 : Hid (1 ≤ last m ∧ last m ≤ 2) := by show 1 ≤ last m ∧ last m ≤ 2; unfold last zs; omega
  clear hb ho hl hroom
  go_enter Tryd.func23, Tryd.ntmps23
  go_wp2_with (first | (go_at_call 36; refine (made_st _ _ true h1).mono ?_; rintro e w ⟨rfl, rfl⟩))
  refine (last51 m _ (by omega)).mono ?_
  rintro e w ⟨rfl, rfl⟩
  go_wp2_with fail
  refine (blocks50 lb (last m) rv L _ HL.out (by have := hl1.out; omega) (by have := hl1.out; omega) HR.out).mono ?_
  rintro e w1 ⟨rfl, rv1, hlr, hk1, hs1⟩
  have B1 := hid (B.out.kept hk1 (rled_apart HL.out B.out (by decide) (by decide)))
  have O1 := hid (own_kept HO.out hk1 (fun g hg => by
    obtain ⟨c, hc⟩ := own8_type HO.out hg
    exact rled_apart HL.out (show Blk w g c.toList 5 from by show w.heap[g]? = _; rw [hc]) (by decide) (by decide)))
  have L1 := hid hlr
  have K1 := hid hk1
  have S1 := hid hs1
  have c0 := B1.out.cell 0 _ rfl
  clear hlr hk1 hs1 h0 h1
  go_wp2_with fail
  refine (digest52 m _ f _ O1.out.reads hm).mono ?_
  rintro e w2 ⟨u2, rfl, hu, hb⟩
  have U2 := hid (own_mono hu K1.out.size)
  have L2 := hid (L1.out.below hb)
  have K2 := hid (K1.out.trans (Kp.of_below _ hb) (fun _ _ e => e))
  clear hu hb
  go_wp2
  go_ret2
  exact ⟨_, rfl, U2.out, ⟨_, L2.out, S1.out⟩, K2.out⟩
theorem rsum36n (b : Nat) (lp : Value) (w : World) (h : IsR w b none) : Calls Tryd.prog 23 #[.pointer (some ⟨b, 0, none⟩), lp] w fun e w' => e = .returned (.tuple #[.slice none 0 0, .int .i64 1]) ∧ w' = w := by
  obtain ⟨v, hb⟩ := h
  have h1 := hb.cell 1 _ rfl
  clear hb
  go_enter Tryd.func23, Tryd.ntmps23
  go_wp2_with (go_at_call 36; refine (made_st _ _ false h1).mono ?_; rintro e w ⟨rfl, rfl⟩)
  go_ret2
  exact ⟨rfl, rfl⟩
theorem rsum36z (lp : Value) (w : World) : Calls Tryd.prog 23 #[.pointer none, lp] w fun e w' => e = .returned (.tuple #[.slice none 0 0, .int .i64 1]) ∧ w' = w := by
  go_enter Tryd.func23, Tryd.ntmps23
  go_wp2_with (go_at_call 36; refine (made_nil _).mono ?_; rintro e w ⟨rfl, rfl⟩)
  go_ret2
  exact ⟨rfl, rfl⟩
theorem rwrite35n (b : Nat) (lp v : Value) (w : World) (h : IsR w b none) : Calls Tryd.prog 21 #[.pointer (some ⟨b, 0, none⟩), lp, v] w fun e w' => e = .returned (.int .i64 1) ∧ w' = w := by
  obtain ⟨v', hb⟩ := h
  have h1 := hb.cell 1 _ rfl
  clear hb
  go_enter Tryd.func21, Tryd.ntmps21
  go_wp2_with (go_at_call 36; refine (made_st _ _ false h1).mono ?_; rintro e w ⟨rfl, rfl⟩)
  go_ret
  exact ⟨rfl, rfl⟩
theorem rwrite35z (lp v : Value) (w : World) : Calls Tryd.prog 21 #[.pointer none, lp, v] w fun e w' => e = .returned (.int .i64 1) ∧ w' = w := by
  go_enter Tryd.func21, Tryd.ntmps21
  go_wp2_with (go_at_call 36; refine (made_nil _).mono ?_; rintro e w ⟨rfl, rfl⟩)
  go_ret
  exact ⟨rfl, rfl⟩
set_option maxHeartbeats 800000 in
theorem rwrite35 (b m lb n : Nat) (f g : Nat → Int) (v rv : Value) (L : List Rn) (w : World) (h : IsR w b (some (m, f))) (hl : RLed w lb rv L) (hroom : Wide L) (hr : ∀ w', Below w.heap.size w w' → By.RB w' v n g) (hmn : m + n ≤ 140737488351232) :
    Calls Tryd.prog 21 #[.pointer (some ⟨b, 0, none⟩), .pointer (some ⟨lb, 0, none⟩), v] w fun e w' => e = .returned (.int .i64 0) ∧ IsR w' b (some (m + n, cat m f g)) ∧ (∃ rv', RLed w' lb rv' (evs512 L ((m + n) / 128 - m / 128)) ∧ SameOrNew w rv rv') ∧ Kp (fun j => j = b ∨ j = lb ∨ rv.ownBlock = some j) w w' := by
  obtain ⟨hm, vm, hb, ho⟩ := h
  have h1 := hb.cell 1 _ rfl
  have h0 := hb.cell 0 _ rfl
  obtain ⟨a, cap, rfl⟩ : ∃ a cap, vm = .slice a m cap := by obtain ⟨_, a, cap, e, _⟩ := ho.reads; exact ⟨a, cap, e⟩
  have B := hid hb
  have HO := hid ho
  have HL := hid hl
  have HR := hid hroom
  have HV := hid hr
  clear hb ho hl hroom hr
  go_enter Tryd.func21, Tryd.ntmps21
  go_wp2_with (first | (go_at_call 36; refine (made_st _ _ true h1).mono ?_; rintro e w ⟨rfl, rfl⟩) | (at_builtin; refine wpList_cat rfl _ _ rfl w.heap.size 0 m _ _ f f rfl (By.own_nil _ _ _ HO.out.1) rfl HO.out.reads (by omega) (Nat.le_refl _) ?_))
  intro v1 w1 hv1 hg1
  have O1 := hid (own_congr (g := f) hv1 HO.out.1 (fun i hi => by rw [cat0]))
  have b1 := hid (below_grow (Below.refl w.heap.size w) (Nat.le_refl _) (By.own_nil w w.heap.size f HO.out.1) hg1)
  clear hv1 hg1
  go_wp2_with (at_builtin; refine wpList_cat rfl _ _ rfl w.heap.size m n _ _ f g rfl O1.out rfl (HV.out _ b1.out) (by omega) b1.out.size ?_)
  intro v2 w2 hv2 hg2
  have O2 := hid hv2
  have b2 := hid (below_grow b1.out b1.out.size O1.out hg2)
  obtain ⟨a2, c2, rfl⟩ : ∃ a2 c2, v2 = .slice a2 (m + n) c2 := by obtain ⟨_, x, y, e, _⟩ := hv2.reads; exact ⟨x, y, e⟩
  have B2 := hid (B.out.below b2.out)
  have f2 := B2.out.frozen 0
  have c2' := B2.out.cell 0 _ rfl
  have L2 := hid (HL.out.below b2.out)
  clear hv2 hg2 O1 h0 h1
  go_wp2_with fail
  obtain ⟨W3, hW3⟩ : ∃ x, w2.setCell ⟨b, 0, none⟩ (.slice a2 (m + n) c2) = x := ⟨_, rfl⟩
  have x1 : Blk W3 b [.slice a2 (m + n) c2, .bool true] 43 := by rw [← hW3]; exact B2.out.set 0 _
  have x2 : Kp (fun j => j = b) w2 W3 := by rw [← hW3]; exact Kp.setCell b 0 _
  have n1 := rled_apart L2.out B2.out (by decide) (by decide)
  have x3 : RLed W3 lb rv L := L2.out.kept x2 (fun e => n1 (.inl e.symm)) (fun g hg e => n1 (.inr (by have e' : g = b := e; rw [← e']; exact hg)))
  have x4 : By.Own W3 w.heap.size (.slice a2 (m + n) c2) (m + n) (cat m f g) := own_kept O2.out x2 (fun g hg e => by
    obtain ⟨c, hc⟩ := own8_type O2.out hg
    have e' : g = b := e
    exact Blk.ne (show Blk w2 g c.toList 5 from by show w2.heap[g]? = _; rw [hc]) B2.out (by decide) e')
  rw [hW3]
  have X1 := hid x1
  have X3 := hid x3
  have X4 := hid x4
  have X5 := hid (show Kp (fun j => j = b ∨ j = lb ∨ rv.ownBlock = some j) w W3 from (Kp.of_below _ b2.out).trans x2 (fun i _ e => .inl e))
  have SN := hid (show ∀ rv', SameOrNew W3 rv rv' → SameOrNew w rv rv' from fun rv' h => by
    rcases h with h | h
    · exact .inl h
    · exact .inr (fun g hg => Nat.le_trans X5.out.size (h g hg)))
  clear hW3 x1 x2 x3 x4 n1 O2 B2 L2 f2 c2'
  obtain ⟨q, hq⟩ : ∃ q : Nat, (m + n) / 128 - m / 128 = q := ⟨_, rfl⟩
  have HQ := hid hq
  have e1 : ((m : Int) + n) / 128 - (m : Int) / 128 = (q : Int) := by omega
  go_wp2_with fail
  try rw [e1]
  by_cases hz : 0 < q
  · refine (blocks50 lb q rv L _ X3.out hz (by omega) HR.out).mono ?_
    rintro e w4 ⟨rfl, rv4, hl4, hk4, hs4⟩
    have B4 := hid (X1.out.kept hk4 (rled_apart X3.out X1.out (by decide) (by decide)))
    have O4 := hid (own_kept X4.out hk4 (fun g hg => by
      obtain ⟨c, hc⟩ := own8_type X4.out hg
      exact rled_apart X3.out (show Blk W3 g c.toList 5 from by show W3.heap[g]? = _; rw [hc]) (by decide) (by decide)))
    have L4 := hid hl4
    have S4 := hid (SN.out _ hs4)
    have K4 := hid (X5.out.trans hk4 (fun i _ e => .inr e))
    clear hl4 hk4 hs4
    go_wp2
    go_ret
    exact ⟨rfl, ⟨hmn, _, B4.out, own_mono O4.out (Nat.zero_le _)⟩, ⟨_, by rw [HQ.out]; exact L4.out, S4.out⟩, K4.out⟩
  · obtain rfl : q = 0 := by omega
    refine (blocks50z lb _).mono ?_
    rintro e w4 ⟨rfl, hb4⟩
    have B4 := hid (X1.out.below hb4)
    have O4 := hid (own_below X4.out hb4)
    have L4 := hid (X3.out.below hb4)
    have K4 := hid (X5.out.trans (Kp.of_below _ hb4) (fun _ _ e => e))
    clear hb4
    go_wp2
    go_ret
    exact ⟨rfl, ⟨hmn, _, B4.out, own_mono O4.out (Nat.zero_le _)⟩, ⟨_, by rw [HQ.out]; exact L4.out, .inl rfl⟩, K4.out⟩
end Go.Proofs.YtdhbkekpjojlnaaDoor.Sg
