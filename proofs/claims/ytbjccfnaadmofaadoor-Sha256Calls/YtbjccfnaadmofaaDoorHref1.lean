/- A state of the document: what its calls answer. -/
import Derived.Test.YtbjccfnaadmofaaDoorDform
import Derived.Test.YtbjccfnaadmofaaDoorHgs2
namespace Go.Proofs.YtbjccfnaadmofaaDoor.Sh
open Go.ChangeShapes Go.WideShapes Go.ChangeAt Go.RowKit
open Go.Proofs.YtbjccfnaadmofaaDoor.By Go.Proofs.YtbjccfnaadmofaaDoor.Wd

/-- The document's state in block b: none, or its message. -/
def IsR (w : World) (b : Nat) : SK → Prop
  | none => ∃ v, Blk w b [v, .bool false] 62
  | some (m, f) => m ≤ 900000 ∧ ∃ v, Blk w b [v, .bool true] 62 ∧ By.Own w 0 v m f
theorem IsR.kept {w w' : World} {b : Nat} {k : SK} {S : Nat → Prop} (h : IsR w b k) (hk : Kp S w w') (h1 : ¬ S b) (h2 : ∀ g cs, Blk w g cs 5 → ¬ S g) : IsR w' b k := by
  match k, h with
  | none, ⟨v, h⟩ => exact ⟨v, h.kept hk h1⟩
  | some (m, f), ⟨hm, v, h, ho⟩ =>
    refine ⟨hm, v, h.kept hk h1, own_kept ho hk (fun g hg => ?_)⟩
    obtain ⟨c, hc⟩ := own8_type ho hg
    exact h2 g c.toList (by show w.heap[g]? = _; rw [hc])
theorem IsR.below {w w' : World} {b : Nat} {k : SK} (h : IsR w b k) (hb : Below w.heap.size w w') : IsR w' b k := h.kept (Kp.of_below (fun _ => False) hb) id (fun _ _ _ => id)
theorem rnew11 (w : World) : Calls Tryd.prog 9 #[] w fun e w' => e = .returned (.pointer (some ⟨w.heap.size, 0, none⟩)) ∧ IsR w' w.heap.size (some (0, fun _ => 0)) ∧ Below w.heap.size w w' := by
  go_enter Tryd.func9, Tryd.ntmps9
  go_wp2
  go_ret
  exact ⟨rfl, ⟨by omega, _, Blk.newAt w _ _ _ _ rfl rfl, By.own_nil _ _ _ (fun _ => by decide)⟩, below_alloc _ _⟩
theorem none_st (b : Nat) (w : World) (x : Bool) (h : w.cell? ⟨b, 1, none⟩ = some (.bool x)) : Calls Tryd.prog 44 #[.pointer (some ⟨b, 0, none⟩)] w fun e w' => e = .returned (.bool (!x)) ∧ w' = w := by
  go_enter Tryd.func44, Tryd.ntmps44
  go_wp2
  go_ret
  exact ⟨rfl, rfl⟩
theorem none_nil (w : World) : Calls Tryd.prog 44 #[.pointer none] w fun e w' => e = .returned (.bool true) ∧ w' = w := by
  go_enter Tryd.func44, Tryd.ntmps44
  go_wp2
  go_ret
  exact ⟨rfl, rfl⟩
theorem rlen40 (b m : Nat) (f : Nat → Int) (w : World) (h : IsR w b (some (m, f))) : Calls Tryd.prog 38 #[.pointer (some ⟨b, 0, none⟩)] w fun e w' => e = .returned (.int .i64 m) ∧ w' = w := by
  obtain ⟨hm, v, hb, ho⟩ := h
  have h1 := hb.cell 1 _ rfl
  have h0 := hb.cell 0 _ rfl
  obtain ⟨a, cap, rfl⟩ : ∃ a cap, v = .slice a m cap := by obtain ⟨_, a, cap, e, _⟩ := ho.reads; exact ⟨a, cap, e⟩
  clear hb ho
  go_enter Tryd.func38, Tryd.ntmps38
  go_wp2_with (go_at_call 44; refine (none_st _ _ true h1).mono ?_; rintro e w ⟨rfl, rfl⟩)
  go_ret
  exact ⟨rfl, rfl⟩
theorem rlen40n (b : Nat) (w : World) (h : IsR w b none) : Calls Tryd.prog 38 #[.pointer (some ⟨b, 0, none⟩)] w fun e w' => e = .returned (.int .i64 0) ∧ w' = w := by
  obtain ⟨v, hb⟩ := h
  have h1 := hb.cell 1 _ rfl
  clear hb
  go_enter Tryd.func38, Tryd.ntmps38
  go_wp2_with (go_at_call 44; refine (none_st _ _ false h1).mono ?_; rintro e w ⟨rfl, rfl⟩)
  go_ret
  exact ⟨rfl, rfl⟩
theorem rlen40z (w : World) : Calls Tryd.prog 38 #[.pointer none] w fun e w' => e = .returned (.int .i64 0) ∧ w' = w := by
  go_enter Tryd.func38, Tryd.ntmps38
  go_wp2_with (go_at_call 44; refine (none_nil _).mono ?_; rintro e w ⟨rfl, rfl⟩)
  go_ret
  exact ⟨rfl, rfl⟩
theorem rform18 (b m : Nat) (f : Nat → Int) (w : World) (h : IsR w b (some (m, f))) : Calls Tryd.prog 36 #[.pointer (some ⟨b, 0, none⟩)] w fun e w' => ∃ v, e = .returned v ∧ By.Own w' w.heap.size v 104 (formf m f) ∧ Below w.heap.size w w' := by
  obtain ⟨hm, v, hb, ho⟩ := h
  have h1 := hb.cell 1 _ rfl
  have h0 := hb.cell 0 _ rfl
  have HO := hid ho
  clear hb ho
  go_enter Tryd.func36, Tryd.ntmps36
  go_wp2_with (go_at_call 44; refine (none_st _ _ true h1).mono ?_; rintro e w ⟨rfl, rfl⟩)
  refine (form46 m _ f _ HO.out.reads hm).mono ?_
  rintro e w1 ⟨u, rfl, hu, hb⟩
  have U := hid hu
  have b1 := hid hb
  clear hu hb
  go_wp2
  go_ret
  exact ⟨_, rfl, U.out, b1.out⟩
theorem rform18n (b : Nat) (w : World) (h : IsR w b none) : Calls Tryd.prog 36 #[.pointer (some ⟨b, 0, none⟩)] w fun e w' => e = .returned (.slice none 0 0) ∧ w' = w := by
  obtain ⟨v, hb⟩ := h
  have h1 := hb.cell 1 _ rfl
  clear hb
  go_enter Tryd.func36, Tryd.ntmps36
  go_wp2_with (go_at_call 44; refine (none_st _ _ false h1).mono ?_; rintro e w ⟨rfl, rfl⟩)
  go_ret
  exact ⟨rfl, rfl⟩
theorem rform18z (w : World) : Calls Tryd.prog 36 #[.pointer none] w fun e w' => e = .returned (.slice none 0 0) ∧ w' = w := by
  go_enter Tryd.func36, Tryd.ntmps36
  go_wp2_with (go_at_call 44; refine (none_nil _).mono ?_; rintro e w ⟨rfl, rfl⟩)
  go_ret
  exact ⟨rfl, rfl⟩
theorem rclone37n (b : Nat) (w : World) (h : IsR w b none) : Calls Tryd.prog 30 #[.pointer (some ⟨b, 0, none⟩)] w fun e w' => e = .returned (.tuple #[.pointer none, .int .i64 1]) ∧ w' = w := by
  obtain ⟨v, hb⟩ := h
  have h1 := hb.cell 1 _ rfl
  clear hb
  go_enter Tryd.func30, Tryd.ntmps30
  go_wp2_with (go_at_call 44; refine (none_st _ _ false h1).mono ?_; rintro e w ⟨rfl, rfl⟩)
  go_ret2
  exact ⟨rfl, rfl⟩
theorem rclone37z (w : World) : Calls Tryd.prog 30 #[.pointer none] w fun e w' => e = .returned (.tuple #[.pointer none, .int .i64 1]) ∧ w' = w := by
  go_enter Tryd.func30, Tryd.ntmps30
  go_wp2_with (go_at_call 44; refine (none_nil _).mono ?_; rintro e w ⟨rfl, rfl⟩)
  go_ret2
  exact ⟨rfl, rfl⟩
theorem rreset38 (b m : Nat) (f : Nat → Int) (w : World) (h : IsR w b (some (m, f))) : Calls Tryd.prog 32 #[.pointer (some ⟨b, 0, none⟩)] w fun e w' => e = .returned (.int .i64 0) ∧ IsR w' b (some (0, fun _ => 0)) ∧ Kp (fun j => j = b) w w' := by
  obtain ⟨hm, v, hb, ho⟩ := h
  have h1 := hb.cell 1 _ rfl
  have h0 := hb.cell 0 _ rfl
  have f0 := hb.frozen 0
  have B := hid hb
  clear hb ho
  go_enter Tryd.func32, Tryd.ntmps32
  go_wp2_with (go_at_call 44; refine (none_st _ _ true h1).mono ?_; rintro e w ⟨rfl, rfl⟩)
  go_ret
  exact ⟨rfl, ⟨by omega, _, B.out.set 0 _, By.own_nil _ _ _ (fun _ => by decide)⟩, Kp.setCell b 0 _⟩
theorem rreset38n (b : Nat) (w : World) (h : IsR w b none) : Calls Tryd.prog 32 #[.pointer (some ⟨b, 0, none⟩)] w fun e w' => e = .returned (.int .i64 1) ∧ w' = w := by
  obtain ⟨v, hb⟩ := h
  have h1 := hb.cell 1 _ rfl
  clear hb
  go_enter Tryd.func32, Tryd.ntmps32
  go_wp2_with (go_at_call 44; refine (none_st _ _ false h1).mono ?_; rintro e w ⟨rfl, rfl⟩)
  go_ret
  exact ⟨rfl, rfl⟩
theorem rreset38z (w : World) : Calls Tryd.prog 32 #[.pointer none] w fun e w' => e = .returned (.int .i64 1) ∧ w' = w := by
  go_enter Tryd.func32, Tryd.ntmps32
  go_wp2_with (go_at_call 44; refine (none_nil _).mono ?_; rintro e w ⟨rfl, rfl⟩)
  go_ret
  exact ⟨rfl, rfl⟩
theorem rled_apart {w : World} {lb : Nat} {rv : Value} {L : List Rn} (h : RLed w lb rv L) {g : Nat} {cs : List Value} {t : TypeId} (hg : Blk w g cs t) (h1 : t ≠ 56) (h2 : t ≠ 84) : ¬ (g = lb ∨ rv.ownBlock = some g) := by
  rintro (e | e)
  · subst e
    exact Blk.ne hg (show Blk w g _ 56 from h.here) h1 rfl
  · obtain ⟨c, hc⟩ := own_type h.own e
    exact Blk.ne hg (show Blk w g c.toList 84 from by show w.heap[g]? = _; rw [hc]) h2 rfl
theorem rwipe39n (b : Nat) (lp : Value) (w : World) (h : IsR w b none) : Calls Tryd.prog 34 #[.pointer (some ⟨b, 0, none⟩), lp] w fun e w' => e = .returned (.int .i64 1) ∧ w' = w := by
  obtain ⟨v, hb⟩ := h
  have h1 := hb.cell 1 _ rfl
  clear hb
  go_enter Tryd.func34, Tryd.ntmps34
  go_wp2_with (go_at_call 44; refine (none_st _ _ false h1).mono ?_; rintro e w ⟨rfl, rfl⟩)
  go_ret
  exact ⟨rfl, rfl⟩
theorem rwipe39z (lp : Value) (w : World) : Calls Tryd.prog 34 #[.pointer none, lp] w fun e w' => e = .returned (.int .i64 1) ∧ w' = w := by
  go_enter Tryd.func34, Tryd.ntmps34
  go_wp2_with (go_at_call 44; refine (none_nil _).mono ?_; rintro e w ⟨rfl, rfl⟩)
  go_ret
  exact ⟨rfl, rfl⟩
theorem rsum36n (b : Nat) (lp : Value) (w : World) (h : IsR w b none) : Calls Tryd.prog 27 #[.pointer (some ⟨b, 0, none⟩), lp] w fun e w' => e = .returned (.tuple #[.slice none 0 0, .int .i64 1]) ∧ w' = w := by
  obtain ⟨v, hb⟩ := h
  have h1 := hb.cell 1 _ rfl
  clear hb
  go_enter Tryd.func27, Tryd.ntmps27
  go_wp2_with (go_at_call 44; refine (none_st _ _ false h1).mono ?_; rintro e w ⟨rfl, rfl⟩)
  go_ret2
  exact ⟨rfl, rfl⟩
theorem rsum36z (lp : Value) (w : World) : Calls Tryd.prog 27 #[.pointer none, lp] w fun e w' => e = .returned (.tuple #[.slice none 0 0, .int .i64 1]) ∧ w' = w := by
  go_enter Tryd.func27, Tryd.ntmps27
  go_wp2_with (go_at_call 44; refine (none_nil _).mono ?_; rintro e w ⟨rfl, rfl⟩)
  go_ret2
  exact ⟨rfl, rfl⟩
theorem rwrite35n (b : Nat) (lp v : Value) (w : World) (h : IsR w b none) : Calls Tryd.prog 23 #[.pointer (some ⟨b, 0, none⟩), lp, v] w fun e w' => e = .returned (.int .i64 1) ∧ w' = w := by
  obtain ⟨v', hb⟩ := h
  have h1 := hb.cell 1 _ rfl
  clear hb
  go_enter Tryd.func23, Tryd.ntmps23
  go_wp2_with (go_at_call 44; refine (none_st _ _ false h1).mono ?_; rintro e w ⟨rfl, rfl⟩)
  go_ret
  exact ⟨rfl, rfl⟩
theorem rwrite35z (lp v : Value) (w : World) : Calls Tryd.prog 23 #[.pointer none, lp, v] w fun e w' => e = .returned (.int .i64 1) ∧ w' = w := by
  go_enter Tryd.func23, Tryd.ntmps23
  go_wp2_with (go_at_call 44; refine (none_nil _).mono ?_; rintro e w ⟨rfl, rfl⟩)
  go_ret
  exact ⟨rfl, rfl⟩
end Go.Proofs.YtbjccfnaadmofaaDoor.Sh
