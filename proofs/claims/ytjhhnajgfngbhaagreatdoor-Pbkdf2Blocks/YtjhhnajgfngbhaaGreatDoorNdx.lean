/- The document's PBKDF2: its mac and its ledger between two tags; tag. -/
import Derived.Test.YtjhhnajgfngbhaaGreatDoorIdx
import Derived.Test.YtjhhnajgfngbhaaGreatDoorNnum
import Derived.Deep.RegionHeld3
namespace Go.Proofs.YtjhhnajgfngbhaaGreatDoor.Dg
open Go.ChangeShapes Go.WideShapes Go.ChangeAt Go.RowKit
open Go.Proofs.YtjhhnajgfngbhaaGreatDoor.By
open Go.Proofs.YtjhhnajgfngbhaaGreatDoor.Sh (Blk size_alloc)
/-- Lists of bytes stay. -/
def KO (W W' : World) : Prop := (∀ base n v f, By.Own W base v n f → By.Own W' base v n f) ∧ W.heap.size ≤ W'.heap.size
theorem KO.refl (W : World) : KO W W := ⟨fun _ _ _ _ h => h, Nat.le_refl _⟩
theorem KO.trans {A B C : World} (h : KO A B) (h' : KO B C) : KO A C := ⟨fun _ _ _ _ ho => h'.1 _ _ _ _ (h.1 _ _ _ _ ho), Nat.le_trans h.2 h'.2⟩
theorem KO.below {A B C : World} (h : KO A B) (hb : Below B.heap.size B C) : KO A C := ⟨fun _ _ _ _ ho => own_below (h.1 _ _ _ _ ho) hb, Nat.le_trans h.2 hb.size⟩
structure EX (w : World) (mb c : Nat) (rv0 : Value) (a : Bool) (nk : Nat) (g : Nat → Int) (L : List Rn) (m : Nat) (f : Nat → Int) (kv mv : Value) (W : World) : Prop where
  kp : Kp (SM mb rv0) w W
  rl : ∃ rv', RLed W mb rv' L ∧ SameOrNew w rv0 rv'
  q : IsQk W c ⟨a, nk, g, m, f⟩ kv mv
  cz : w.heap.size ≤ c
section
variable {w W W' : World} {mb c : Nat} {rv0 : Value} {a : Bool} {nk : Nat} {g : Nat → Int} {L : List Rn} {m : Nat} {f : Nat → Int} {kv mv : Value}
theorem EX.below (h : EX w mb c rv0 a nk g L m f kv mv W) (hb : Below W.heap.size W W') : EX w mb c rv0 a nk g L m f kv mv W' := by
  obtain ⟨rv', h1, h2⟩ := h.rl
  exact ⟨h.kp.trans (Kp.of_below _ hb) (fun _ _ e => e), ⟨rv', h1.below hb, h2⟩, h.q.below hb, h.cz⟩
theorem EX.nb (h : EX w mb c rv0 a nk g L m f kv mv W) {rv' : Value} (hr : RLed W mb rv' L) : NB W (fun i => i = c ∨ SM mb rv' i) := fun i hi cs hb => by
  rcases hi with e | e
  · exact Blk.ne hb h.q.here (by decide) e
  · exact rled_no hr hb (by decide) (by decide) e
theorem EX.back (h : EX w mb c rv0 a nk g L m f kv mv W) {rv' : Value} (hs : SameOrNew w rv0 rv') (hk : Kp (fun i => i = c ∨ SM mb rv' i) W W') : Kp (SM mb rv0) w W' := h.kp.trans hk (fun i hi e => by
  rcases e with e | e | e
  · have := h.cz; omega
  · exact .inl e
  · rcases hs with hs | hs
    · exact .inr (hs ▸ e)
    · have := hs i e; omega)
theorem EX.reset (h : EX w mb c rv0 a nk g L m f kv mv W) :
    Calls Tryz.prog 45 #[.pointer (some ⟨c, 0, none⟩)] W fun e w' => e = .returned (.int .i64 0) ∧ EX w mb c rv0 a nk g L 0 nof kv (.slice none 0 0) w' ∧ KO W w' := by
  obtain ⟨rv', hr, hs⟩ := h.rl
  have nb := h.nb hr
  refine (qreset c ⟨a, nk, g, m, f⟩ kv mv W h.q).mono ?_
  rintro e w' ⟨rfl, g1, g2⟩
  have hk := g2.mono (T := fun i => i = c ∨ SM mb rv' i) (fun _ _ e => .inl e)
  refine ⟨rfl, ⟨h.back hs hk, ⟨rv', hr.kept g2 (fun e => ?_) (fun p hp e => ?_), hs⟩, g1, h.cz⟩, fun _ _ _ _ ho => nb_own nb hk ho, g2.size⟩
  · exact rled_no hr h.q.here (by decide) (by decide) (.inl (show mb = c from e).symm)
  · exact rled_no hr h.q.here (by decide) (by decide) (.inr (by rw [← show p = c from e]; exact hp))
theorem EX.write (h : EX w mb c rv0 a nk g L m f kv mv W) (n : Nat) (v : Value) (f' : Nat → Int) (hr : By.RB W v n f') (hmn : m + n ≤ 140737488352328) (ht : tq L ≤ 4399500000000) :
    Calls Tryz.prog 43 #[.pointer (some ⟨c, 0, none⟩), .pointer (some ⟨mb, 0, none⟩), v] W fun e w' => e = .returned (.int .i64 0) ∧ ∃ mv', EX w mb c rv0 a nk g (evs a L ((m + n) / bk a - m / bk a)) (m + n) (cat m f f') kv mv' w' ∧ KO W w' := by
  obtain ⟨rv', hl, hs⟩ := h.rl
  have nb := h.nb hl
  have hz := h.kp.size
  refine (qwriteM ⟨a, nk, g, m, f⟩ mb c n rv' kv mv v f' L W h.q hl hr hmn ht).mono ?_
  rintro e w' ⟨rfl, ⟨mv', g1, g2⟩, ⟨rv2, g3, g4⟩, g5⟩
  exact ⟨rfl, mv', ⟨h.back hs g5, ⟨rv2, g3, son_trans hs g4 hz⟩, g1, h.cz⟩, fun _ _ _ _ ho => nb_own nb g5 ho, g5.size⟩
theorem EX.sum (h : EX w mb c rv0 a nk g L m f kv mv W) (hn : nk ≤ 140737488352328) (hmm : m ≤ 140737488352328) (ht : tq L ≤ 4399500000000) :
    Calls Tryz.prog 44 #[.pointer (some ⟨c, 0, none⟩), .pointer (some ⟨mb, 0, none⟩)] W fun e w' => ∃ u, e = .returned (.tuple #[u, .int .i64 0]) ∧ By.Own w' W.heap.size u (sz a) (hm a (kb a nk g) m f) ∧ EX w mb c rv0 a nk g (sev a L m) m f kv mv w' ∧ KO W w' := by
  obtain ⟨rv', hl, hs⟩ := h.rl
  have nb := h.nb hl
  have hz := h.kp.size
  refine (qsumM ⟨a, nk, g, m, f⟩ mb c rv' kv mv L W h.q hl hn hmm ht).mono ?_
  rintro e w' ⟨u, rfl, g1, ⟨rv2, g3, g4⟩, g5⟩
  have hk := g5.mono (T := fun i => i = c ∨ SM mb rv' i) (fun _ _ e => .inr e)
  exact ⟨u, rfl, g1, ⟨h.back hs hk, ⟨rv2, g3, son_trans hs g4 hz⟩, h.q.kl hl g5, h.cz⟩, fun _ _ _ _ ho => nb_own nb hk ho, g5.size⟩
/-- A list of bytes of the call's own is written over, or gone on with. -/
theorem EX.grow (h : EX w mb c rv0 a nk g L 0 nof kv (.slice none 0 0) W) {n : Nat} {u : Value} {fu : Nat → Int} (ho : By.Own W w.heap.size u n fu) (hk : Kp (fun j => u.ownBlock = some j) W W') (hkv : ∀ p, u.ownBlock = some p → kv.ownBlock ≠ some p) : EX w mb c rv0 a nk g L 0 nof kv (.slice none 0 0) W' := by
  obtain ⟨rv', hl, hs⟩ := h.rl
  have ty : ∀ {i cs t}, Blk W i cs t → t ≠ 5 → ¬ u.ownBlock = some i := fun hb ht e => by
    obtain ⟨c8, h8⟩ := own_d8 ho e
    exact Blk.ne hb h8 ht rfl
  refine ⟨h.kp.trans hk (fun i hi e => by have := own_row ho i e; omega), ⟨rv', hl.kept hk (ty hl.here (by decide)) (fun p hp e => ?_), hs⟩, ⟨h.q.here.kept hk (ty h.q.here (by decide)), Sg.own_kept h.q.k hk (fun p hp e => hkv p e hp), Sg.own_kept h.q.m hk (fun p hp e => by simp [Value.ownBlock] at hp)⟩, h.cz⟩
  obtain ⟨cc, hc⟩ := Sg.own_type hl.own hp
  exact ty (show Blk W p cc.toList 66 from by show W.heap[p]? = _; rw [hc]) (by decide) e
theorem edv (a : Bool) (m n : Nat) : m / bk a + ((m + n) / bk a - m / bk a) = (m + n) / bk a := by
  have : m / bk a ≤ (m + n) / bk a := Nat.div_le_div_right (by omega)
  omega
set_option maxHeartbeats 2000000 in
theorem etag (h : EX w mb c rv0 a nk g L 0 nof kv (.slice none 0 0) W) (n n2 : Nat) (v v2 : Value) (f' f2 : Nat → Int) (hr : By.RB W v n f') (hr2 : ∃ base, By.Own W base v2 n2 f2) (hm0 : n + n2 ≤ 1000004) (hn : nk ≤ 140737488352328) (hp : Pos L) (ht : tq L ≤ 4000000000) :
    Calls Tryz.prog 35 #[.pointer (some ⟨mb, 0, none⟩), .pointer (some ⟨c, 0, none⟩), v, v2] W fun e w' => ∃ u, e = .returned u ∧ By.Own w' W.heap.size u (sz a) (hm a (kb a nk g) (n + n2) (cat n f' f2)) ∧ EX w mb c rv0 a nk g (evs a L (ue a (n + n2))) 0 nof kv (.slice none 0 0) w' ∧ KO W w' := by
  obtain ⟨base, ho2⟩ := hr2
  have HO2 := hid ho2
  have HW := hid (h.write n v f' hr (by omega) (by omega))
  rw [Nat.zero_add, Nat.zero_div, Nat.sub_zero, show cat 0 nof f' = f' from Sg.cat0 _ _] at HW
  have HF := hid (show ∀ k, k ≤ 40000 → tq (evs a L k) ≤ 4000000002 from fun k hk => by
    have h1 := evs_fine a hp k (by omega) (by omega)
    have h2 : k / 1048576 = 0 := by omega
    omega)
  have D1 := hid (show n / bk a ≤ 16000 by have := bk_div a n; omega)
  have D2 := hid (show (n + n2) / bk a ≤ 16000 by have := bk_div a (n + n2); omega)
  obtain ⟨-, va, vc, rfl, -⟩ := hr
  obtain ⟨xa, xc, rfl⟩ := (show ∃ xa xc, v2 = .slice xa n2 xc from by obtain ⟨-, xa, xc, e, -⟩ := ho2.reads; exact ⟨xa, xc, e⟩)
  clear h hp ht ho2
  by_cases h2 : n2 = 0
  · have h2' : ¬ (0 : Int) < (n2 : Int) := by omega
    have E2 := hid h2
    clear h2
    go_enter Tryz.func35, Tryz.ntmps35
    go_wp2_with fail
    refine HW.out.mono ?_
    rintro e w1 ⟨rfl, mv1, h1, k1⟩
    have X1 := hid h1
    have K1 := hid k1
    clear h1 k1 HW
    go_wp2_with fail
    refine (X1.out.sum hn (by omega) (by have := HF.out (n / bk a) (by have := D1.out; omega); omega)).mono ?_
    rintro e w2 ⟨u, rfl, hu, h1, k1⟩
    have X2 := hid h1
    have K2 := hid (K1.out.trans k1)
    have U2 := hid hu
    have Z2 := hid K1.out.2
    clear h1 k1 hu X1 K1
    go_wp2_with fail
    refine X2.out.reset.mono ?_
    rintro e w3 ⟨rfl, h1, k1⟩
    have X3 := hid h1
    have K3 := hid (K2.out.trans k1)
    have U3 := hid (k1.1 _ _ _ _ U2.out)
    clear h1 k1 X2 K2 U2
    go_wp2
    go_ret
    have x3 := X3.out
    have u3 := Sg.own_mono U3.out Z2.out
    have e2 := E2.out
    have er : sev a (evs a L (n / bk a)) n = evs a L (ue a n) := by unfold sev ue; rw [evs_add]
    rw [er] at x3
    have ec : hm a (kb a nk g) n (cat n f' f2) = hm a (kb a nk g) n f' := hm_congr a _ n _ _ (fun i hi => by show (if i < n then f' i else _) = _; rw [if_pos hi])
    rw [e2, Nat.add_zero, ec]
    exact ⟨u, rfl, u3, x3, K3.out⟩
  · have h2' : (0 : Int) < (n2 : Int) := by omega
    go_enter Tryz.func35, Tryz.ntmps35
    go_wp2_with fail
    refine HW.out.mono ?_
    rintro e w1 ⟨rfl, mv1, h1, k1⟩
    have X1 := hid h1
    have K1 := hid k1
    clear h1 k1 HW
    go_wp2_with fail
    refine (X1.out.write n2 _ f2 (K1.out.1 _ _ _ _ HO2.out).reads (by omega) (by have := HF.out (n / bk a) (by have := D1.out; omega); omega)).mono ?_
    rintro e w1b ⟨rfl, mv2, h1, k1⟩
    rw [evs_add, edv] at h1
    have X1 := hid h1
    have K1 := hid (K1.out.trans k1)
    clear h1 k1
    go_wp2_with fail
    refine (X1.out.sum hn (by omega) (by have := HF.out ((n + n2) / bk a) (by have := D2.out; omega); omega)).mono ?_
    rintro e w2 ⟨u, rfl, hu, h1, k1⟩
    have X2 := hid h1
    have K2 := hid (K1.out.trans k1)
    have U2 := hid hu
    have Z2 := hid K1.out.2
    clear h1 k1 hu X1 K1
    go_wp2_with fail
    refine X2.out.reset.mono ?_
    rintro e w3 ⟨rfl, h1, k1⟩
    have X3 := hid h1
    have K3 := hid (K2.out.trans k1)
    have U3 := hid (k1.1 _ _ _ _ U2.out)
    clear h1 k1 X2 K2 U2
    go_wp2
    go_ret
    have x3 := X3.out
    have u3 := Sg.own_mono U3.out Z2.out
    have er : sev a (evs a L ((n + n2) / bk a)) (n + n2) = evs a L (ue a (n + n2)) := by unfold sev ue; rw [evs_add]
    rw [er] at x3
    exact ⟨u, rfl, u3, x3, K3.out⟩
end
end Go.Proofs.YtjhhnajgfngbhaaGreatDoor.Dg
