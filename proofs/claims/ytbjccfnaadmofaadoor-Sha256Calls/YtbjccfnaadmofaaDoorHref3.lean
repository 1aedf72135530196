/- A state of the document: Clone, Wipe, Sum, Write. -/
import Derived.Test.YtbjccfnaadmofaaDoorHref2
namespace Go.Proofs.YtbjccfnaadmofaaDoor.Sh
open Go.ChangeShapes Go.WideShapes Go.ChangeAt Go.RowKit
open Go.Proofs.YtbjccfnaadmofaaDoor.By Go.Proofs.YtbjccfnaadmofaaDoor.Wd

theorem RG.kept {w w' : World} {L : List Rn} {lo : Option (Nat × Value)} {S : Nat → Prop} (h : RG w L lo) (hk : Kp S w w') (hn : ∀ g, SR lo g → ¬ S g) : RG w' L lo := by
  match lo, h, hn with
  | none, _, _ => exact trivial
  | some (lb, rv), h, hn => exact ⟨h.1.kept hk (hn _ (.inl rfl)) (fun g hg => hn g (.inr hg)), h.2⟩
theorem event52e (w : World) : Calls Tryd.prog 46 #[] w fun e w' => e = .returned (.agg #[.int .u8 1, .int .i64 64]) ∧ w' = w.alloc (.cells #[.int .u8 1, .int .i64 64] 82) := by
  go_enter Tryd.func46, Tryd.ntmps46
  go_wp2
  refine bodyPost_ret (v := .agg #[.int .u8 1, .int .i64 64]) (by simp [results, Tryd.results46, go_sem]) rfl ⟨rfl, rfl⟩
theorem bel_al {w W : World} {o : Obj} (h : Below w.heap.size w W) : Below w.heap.size w (W.alloc o) := below_next h (below_alloc W o)
theorem bel_dr {w W : World} (h : Below w.heap.size w W) : Below w.heap.size w W.drew := below_next h (below_drewN W 1)
theorem rtimes' (lo : Option (Nat × Value)) (L : List Rn) (n : Nat) (w W : World) (hb : Below w.heap.size w W) (h : RG w L lo) (hn : n ≤ 1000000) :
    Calls Tryd.prog 45 #[lptr lo, .agg #[.int .u8 1, .int .i64 64], .int .i64 n] W fun e w' => e = .returned (.tuple #[]) ∧ RP w w' (evs256 L n) lo ∧ Kp (SR lo) w w' := by
  refine (rtimes lo L n W (h.below hb) hn).mono ?_
  rintro e w1 ⟨rfl, hp, hk⟩
  exact ⟨rfl, hp.from hb.size, (Kp.of_below _ hb).trans hk (fun _ _ e => e)⟩
theorem last51 (n : Nat) (w : World) (hn : n ≤ 900000) : Calls Tryd.prog 49 #[.int .i64 n] w fun e w' => e = .returned (.int .i64 (last n)) ∧ w' = w := by
  by_cases h : n % 64 ≤ 55
  · have h1 : ¬ (n : Int) % 64 > 55 := by omega
    have e : last n = 1 := by unfold last zs; omega
    go_enter Tryd.func49, Tryd.ntmps49
    go_wp2
    go_ret
    exact ⟨by first | rfl | (rw [e]; rfl), rfl⟩
  · have h1 : (n : Int) % 64 > 55 := by omega
    have e : last n = 2 := by unfold last zs; omega
    go_enter Tryd.func49, Tryd.ntmps49
    go_wp2
    go_ret
    exact ⟨by first | rfl | (rw [e]; rfl), rfl⟩
theorem rclone37 (b m : Nat) (f : Nat → Int) (w : World) (h : IsR w b (some (m, f))) : Calls Tryd.prog 30 #[.pointer (some ⟨b, 0, none⟩)] w fun e w' => ∃ c, w.heap.size ≤ c ∧ e = .returned (.tuple #[.pointer (some ⟨c, 0, none⟩), .int .i64 0]) ∧ IsR w' c (some (m, f)) ∧ Below w.heap.size w w' := by
  obtain ⟨hm, v, hb, ho⟩ := h
  have h1 := hb.cell 1 _ rfl
  have h0 := hb.cell 0 _ rfl
  obtain ⟨a, cap, rfl⟩ : ∃ a cap, v = .slice a m cap := by obtain ⟨_, a, cap, e, _⟩ := ho.reads; exact ⟨a, cap, e⟩
  have HO := hid ho
  clear hb ho
  go_enter Tryd.func30, Tryd.ntmps30
  go_wp2_with (first | (go_at_call 44; refine (none_st _ _ true h1).mono ?_; rintro e w ⟨rfl, rfl⟩) | (at_builtin; refine wpList_cat rfl _ _ rfl w.heap.size 0 m _ _ f f rfl (By.own_nil _ _ _ HO.out.1) rfl HO.out.reads (by omega) (Nat.le_refl _) ?_))
  intro v1 w1 hv1 hg1
  have O1 := hid (own_congr (g := f) hv1 HO.out.1 (fun i hi => by rw [cat0]))
  have b1 := hid (below_grow (Below.refl w.heap.size w) (Nat.le_refl _) (By.own_nil w w.heap.size f HO.out.1) hg1)
  obtain ⟨a1, c1, rfl⟩ : ∃ a1 c1, v1 = .slice a1 m c1 := by obtain ⟨_, x, y, e, _⟩ := O1.out.reads; exact ⟨x, y, e⟩
  clear hv1 hg1
  go_wp2
  go_ret2
  exact ⟨_, b1.out.size, rfl, ⟨hm, _, Blk.newAt w1 _ _ _ _ rfl rfl, own_mono (own_below O1.out (below_alloc _ _)) (Nat.zero_le _)⟩, below_next b1.out (below_alloc _ _)⟩
theorem rwipe39 (b m : Nat) (lo : Option (Nat × Value)) (f : Nat → Int) (L : List Rn) (w : World) (h : IsR w b (some (m, f))) (hl : RG w L lo) :
    Calls Tryd.prog 34 #[.pointer (some ⟨b, 0, none⟩), lptr lo] w fun e w' => e = .returned (.int .i64 0) ∧ IsR w' b none ∧ RP w w' (putL L ⟨8, 104, 1⟩) lo ∧ Kp (fun j => j = b ∨ SR lo j) w w' := by
  obtain ⟨hm, v, hb, ho⟩ := h
  have h1 := hb.cell 1 _ rfl
  have h0 := hb.cell 0 _ rfl
  have f0 := hb.frozen 0
  have f1 := hb.frozen 1
  have B := hid hb
  have HL := hid hl
  clear hb ho hl
  go_enter Tryd.func34, Tryd.ntmps34
  go_wp2_with (first | (go_at_call 44; refine (none_st _ _ true h1).mono ?_; rintro e w ⟨rfl, rfl⟩))
  obtain ⟨W3, hW3⟩ : ∃ x, (w.setCell ⟨b, 0, none⟩ (.slice none 0 0)).setCell ⟨b, 1, none⟩ (.bool false) = x := ⟨_, rfl⟩
  have x1 : Blk W3 b [.slice none 0 0, .bool false] 62 := by rw [← hW3]; exact (B.out.set 0 _).set 1 _
  have x2 : Kp (fun j => j = b) w W3 := by rw [← hW3]; exact (Kp.setCell b 0 _).trans (Kp.setCell b 1 _) (fun _ _ e => e)
  have x3 : RG W3 L lo := HL.out.kept x2 (fun g hg e => HL.out.apart B.out (by decide) (by decide) (by have e' : g = b := e; rw [← e']; exact hg))
  rw [hW3]
  have X1 := hid x1
  have X2 := hid x2
  have X3 := hid x3
  clear hW3 x1 x2 x3
  refine (rnote lo L 8 104 _ X3.out (by decide) (by decide)).mono ?_
  rintro e w4 ⟨rfl, hp, hk⟩
  have B4 := hid (X1.out.kept hk (X3.out.apart X1.out (by decide) (by decide)))
  have P4 := hid (hp.from X2.out.size)
  have K4 := hid ((X2.out.mono (T := fun j => j = b ∨ SR lo j) (fun j _ h => .inl h)).trans hk (fun _ _ e => .inr e))
  clear hp hk
  go_wp2
  go_ret
  exact ⟨rfl, ⟨_, B4.out⟩, P4.out, K4.out⟩
theorem rsum36 (b m : Nat) (lo : Option (Nat × Value)) (f : Nat → Int) (L : List Rn) (w : World) (h : IsR w b (some (m, f))) (hl : RG w L lo) :
    Calls Tryd.prog 27 #[.pointer (some ⟨b, 0, none⟩), lptr lo] w fun e w' => ∃ v, e = .returned (.tuple #[v, .int .i64 0]) ∧ By.Own w' w.heap.size v 32 (dig m f) ∧ RP w w' (evs256 L (last m)) lo ∧ Kp (SR lo) w w' := by
  obtain ⟨hm, v, hb, ho⟩ := h
  have h1 := hb.cell 1 _ rfl
  have h0 := hb.cell 0 _ rfl
  obtain ⟨a, cap, rfl⟩ : ∃ a cap, v = .slice a m cap := by obtain ⟨_, a, cap, e, _⟩ := ho.reads; exact ⟨a, cap, e⟩
  have B := hid hb
  have HO := hid ho
  have HL := hid hl
  have hl1 : Hid (1 ≤ last m ∧ last m ≤ 2) := by show 1 ≤ last m ∧ last m ≤ 2; unfold last zs; omega
  clear hb ho hl
  go_enter Tryd.func27, Tryd.ntmps27
  go_wp2_with (first | (go_at_call 44; refine (none_st _ _ true h1).mono ?_; rintro e w ⟨rfl, rfl⟩))
  have h0a := (B.out.below (below_alloc w (.cells #[.int .u8 1, .int .i64 64] 82))).cell 0 _ rfl
  go_region_law (first | (go_simp; go_at_call 46; refine (event52e _).mono ?_; rintro e w' ⟨rfl, rfl⟩) | (go_simp; go_at_call 49; refine (last51 m _ (by omega)).mono ?_; rintro e w' ⟨rfl, rfl⟩) | (go_simp; go_at_call 45; refine (rtimes' lo L (last m) w _ ?bb HL.out (by have := hl1.out; omega)).mono ?_; (case bb => (repeat (first | with_reducible exact Below.refl _ _ | with_reducible refine bel_al ?_ | with_reducible refine bel_dr ?_))); rintro e w4 ⟨rfl, hp, hk⟩))
  all_goals (
    have P4 := hid hp
    have K4 := hid hk
    have B4 := hid (B.out.kept hk (HL.out.apart B.out (by decide) (by decide)))
    have O4 := hid (own_kept HO.out hk (fun g hg => by
      obtain ⟨c, hc⟩ := own8_type HO.out hg
      exact HL.out.apart (show Blk w g c.toList 5 from by show w.heap[g]? = _; rw [hc]) (by decide) (by decide)))
    have c0 := B4.out.cell 0 _ rfl
    clear hp hk h0 h1 h0a
    go_wp2_with fail
    refine (digest54 m _ f _ O4.out.reads hm).mono ?_
    rintro e w5 ⟨u5, rfl, hu, hb⟩
    have U5 := hid (own_mono hu K4.out.size)
    have P5 := hid (P4.out.below hb)
    have K5 := hid (K4.out.trans (Kp.of_below _ hb) (fun _ _ e => e))
    clear hu hb
    go_wp2
    go_ret2
    exact ⟨_, rfl, U5.out, P5.out, K5.out⟩)
end Go.Proofs.YtbjccfnaadmofaaDoor.Sh
