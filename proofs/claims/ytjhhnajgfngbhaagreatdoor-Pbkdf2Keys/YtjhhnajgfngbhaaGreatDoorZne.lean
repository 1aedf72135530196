/- The document's PBKDF2: its mac and its ledger between two tags; tag. The document's PBKDF2: one block. The document's PBKDF2: Key and Block, whatever is asked. -/
import Derived.Test.YtjhhnajgfngbhaaGreatDoorIdx
import Derived.Test.YtjhhnajgfngbhaaGreatDoorZna
import Derived.Deep.RegionHeld3
import Derived.Test.YtjhhnajgfngbhaaGreatDoorZmt
import Derived.Test.YtjhhnajgfngbhaaGreatDoorZnd
namespace Go.Proofs.YtjhhnajgfngbhaaGreatDoor.Dg
open Go.ChangeShapes Go.WideShapes Go.ChangeAt Go.RowKit
open Go.Proofs.YtjhhnajgfngbhaaGreatDoor.By
open Go.Proofs.YtjhhnajgfngbhaaGreatDoor.Sh (Blk size_alloc)
/-- Lists of bytes stay. -/
def KO (W W' : World) : Prop := (∀ base n v f, By.Own W base v n f → By.Own W' base v n f) ∧ W.heap.size ≤ W'.heap.size
theorem KO.refl (W : World) : KO W W := ⟨fun _ _ _ _ h => h, Nat.le_refl _⟩
theorem KO.trans {A B C : World} (h : KO A B) (h' : KO B C) : KO A C := ⟨fun _ _ _ _ ho => h'.1 _ _ _ _ (h.1 _ _ _ _ ho), Nat.le_trans h.2 h'.2⟩
theorem KO.below {A B C : World} (h : KO A B) (hb : Below B.heap.size B C) : KO A C := ⟨fun _ _ _ _ ho => own_below (h.1 _ _ _ _ ho) hb, Nat.le_trans h.2 hb.size⟩
structure EX (w : World) (mb c : Nat) (rv0 : Value) (a : Bool) (nk : Nat) (g : Nat → Int) (L : List Rn) (m : Nat) (f : Nat → Int) (kv mv : Value) (W : World) : Prop where
  kp : Kp (SM mb rv0) w W
  rl : ∃ rv', RLed W mb rv' L ∧ SameOrNew w rv0 rv'
  q : IsQk W c ⟨a, nk, g, m, f⟩ kv mv
  cz : w.heap.size ≤ c
section
variable {w W W' : World} {mb c : Nat} {rv0 : Value} {a : Bool} {nk : Nat} {g : Nat → Int} {L : List Rn} {m : Nat} {f : Nat → Int} {kv mv : Value}
theorem EX.below (h : EX w mb c rv0 a nk g L m f kv mv W) (hb : Below W.heap.size W W') : EX w mb c rv0 a nk g L m f kv mv W' := by
  obtain ⟨rv', h1, h2⟩ := h.rl
  exact ⟨h.kp.trans (Kp.of_below _ hb) (fun _ _ e => e), ⟨rv', h1.below hb, h2⟩, h.q.below hb, h.cz⟩
theorem EX.nb (h : EX w mb c rv0 a nk g L m f kv mv W) {rv' : Value} (hr : RLed W mb rv' L) : NB W (fun i => i = c ∨ SM mb rv' i) := fun i hi cs hb => by
  rcases hi with e | e
  · exact Blk.ne hb h.q.here (by decide) e
  · exact rled_no hr hb (by decide) (by decide) e
theorem EX.back (h : EX w mb c rv0 a nk g L m f kv mv W) {rv' : Value} (hs : SameOrNew w rv0 rv') (hk : Kp (fun i => i = c ∨ SM mb rv' i) W W') : Kp (SM mb rv0) w W' := h.kp.trans hk (fun i hi e => by
  rcases e with e | e | e
  · have := h.cz; omega
  · exact .inl e
  · rcases hs with hs | hs
    · exact .inr (hs ▸ e)
    · have := hs i e; omega)
theorem EX.reset (h : EX w mb c rv0 a nk g L m f kv mv W) :
    Calls Tryz.prog 45 #[.pointer (some ⟨c, 0, none⟩)] W fun e w' => e = .returned (.int .i64 0) ∧ EX w mb c rv0 a nk g L 0 nof kv (.slice none 0 0) w' ∧ KO W w' := by
  obtain ⟨rv', hr, hs⟩ := h.rl
  have nb := h.nb hr
  refine (qreset c ⟨a, nk, g, m, f⟩ kv mv W h.q).mono ?_
  rintro e w' ⟨rfl, g1, g2⟩
  have hk := g2.mono (T := fun i => i = c ∨ SM mb rv' i) (fun _ _ e => .inl e)
  refine ⟨rfl, ⟨h.back hs hk, ⟨rv', hr.kept g2 (fun e => ?_) (fun p hp e => ?_), hs⟩, g1, h.cz⟩, fun _ _ _ _ ho => nb_own nb hk ho, g2.size⟩
  · exact rled_no hr h.q.here (by decide) (by decide) (.inl (show mb = c from e).symm)
  · exact rled_no hr h.q.here (by decide) (by decide) (.inr (by rw [← show p = c from e]; exact hp))
theorem EX.write (h : EX w mb c rv0 a nk g L m f kv mv W) (n : Nat) (v : Value) (f' : Nat → Int) (hr : By.RB W v n f') (hmn : m + n ≤ 140737488352328) (ht : tq L ≤ 4399500000000) :
    Calls Tryz.prog 43 #[.pointer (some ⟨c, 0, none⟩), .pointer (some ⟨mb, 0, none⟩), v] W fun e w' => e = .returned (.int .i64 0) ∧ ∃ mv', EX w mb c rv0 a nk g (evs a L ((m + n) / bk a - m / bk a)) (m + n) (cat m f f') kv mv' w' ∧ KO W w' := by
  obtain ⟨rv', hl, hs⟩ := h.rl
  have nb := h.nb hl
  have hz := h.kp.size
  refine (qwriteM ⟨a, nk, g, m, f⟩ mb c n rv' kv mv v f' L W h.q hl hr hmn ht).mono ?_
  rintro e w' ⟨rfl, ⟨mv', g1, g2⟩, ⟨rv2, g3, g4⟩, g5⟩
  exact ⟨rfl, mv', ⟨h.back hs g5, ⟨rv2, g3, son_trans hs g4 hz⟩, g1, h.cz⟩, fun _ _ _ _ ho => nb_own nb g5 ho, g5.size⟩
theorem EX.sum (h : EX w mb c rv0 a nk g L m f kv mv W) (hn : nk ≤ 140737488352328) (hmm : m ≤ 140737488352328) (ht : tq L ≤ 4399500000000) :
    Calls Tryz.prog 44 #[.pointer (some ⟨c, 0, none⟩), .pointer (some ⟨mb, 0, none⟩)] W fun e w' => ∃ u, e = .returned (.tuple #[u, .int .i64 0]) ∧ By.Own w' W.heap.size u (sz a) (hm a (kb a nk g) m f) ∧ EX w mb c rv0 a nk g (sev a L m) m f kv mv w' ∧ KO W w' := by
  obtain ⟨rv', hl, hs⟩ := h.rl
  have nb := h.nb hl
  have hz := h.kp.size
  refine (qsumM ⟨a, nk, g, m, f⟩ mb c rv' kv mv L W h.q hl hn hmm ht).mono ?_
  rintro e w' ⟨u, rfl, g1, ⟨rv2, g3, g4⟩, g5⟩
  have hk := g5.mono (T := fun i => i = c ∨ SM mb rv' i) (fun _ _ e => .inr e)
  exact ⟨u, rfl, g1, ⟨h.back hs hk, ⟨rv2, g3, son_trans hs g4 hz⟩, h.q.kl hl g5, h.cz⟩, fun _ _ _ _ ho => nb_own nb hk ho, g5.size⟩
/-- A list of bytes of the call's own is written over, or gone on with. -/
theorem EX.grow (h : EX w mb c rv0 a nk g L 0 nof kv (.slice none 0 0) W) {n : Nat} {u : Value} {fu : Nat → Int} (ho : By.Own W w.heap.size u n fu) (hk : Kp (fun j => u.ownBlock = some j) W W') (hkv : ∀ p, u.ownBlock = some p → kv.ownBlock ≠ some p) : EX w mb c rv0 a nk g L 0 nof kv (.slice none 0 0) W' := by
  obtain ⟨rv', hl, hs⟩ := h.rl
  have ty : ∀ {i cs t}, Blk W i cs t → t ≠ 5 → ¬ u.ownBlock = some i := fun hb ht e => by
    obtain ⟨c8, h8⟩ := own_d8 ho e
    exact Blk.ne hb h8 ht rfl
  refine ⟨h.kp.trans hk (fun i hi e => by have := own_row ho i e; omega), ⟨rv', hl.kept hk (ty hl.here (by decide)) (fun p hp e => ?_), hs⟩, ⟨h.q.here.kept hk (ty h.q.here (by decide)), Sg.own_kept h.q.k hk (fun p hp e => hkv p e hp), Sg.own_kept h.q.m hk (fun p hp e => by simp [Value.ownBlock] at hp)⟩, h.cz⟩
  obtain ⟨cc, hc⟩ := Sg.own_type hl.own hp
  exact ty (show Blk W p cc.toList 66 from by show W.heap[p]? = _; rw [hc]) (by decide) e
theorem edv (a : Bool) (m n : Nat) : m / bk a + ((m + n) / bk a - m / bk a) = (m + n) / bk a := by
  have : m / bk a ≤ (m + n) / bk a := Nat.div_le_div_right (by omega)
  omega
set_option maxHeartbeats 2000000 in
theorem etag (h : EX w mb c rv0 a nk g L 0 nof kv (.slice none 0 0) W) (n n2 : Nat) (v v2 : Value) (f' f2 : Nat → Int) (hr : By.RB W v n f') (hr2 : ∃ base, By.Own W base v2 n2 f2) (hm0 : n + n2 ≤ 1000004) (hn : nk ≤ 140737488352328) (hp : Pos L) (ht : tq L ≤ 4000000000) :
    Calls Tryz.prog 35 #[.pointer (some ⟨mb, 0, none⟩), .pointer (some ⟨c, 0, none⟩), v, v2] W fun e w' => ∃ u, e = .returned u ∧ By.Own w' W.heap.size u (sz a) (hm a (kb a nk g) (n + n2) (cat n f' f2)) ∧ EX w mb c rv0 a nk g (evs a L (ue a (n + n2))) 0 nof kv (.slice none 0 0) w' ∧ KO W w' := by
  obtain ⟨base, ho2⟩ := hr2
  have HO2 := hid ho2
  have HW := hid (h.write n v f' hr (by omega) (by omega))
  rw [Nat.zero_add, Nat.zero_div, Nat.sub_zero, show cat 0 nof f' = f' from Sg.cat0 _ _] at HW
  have HF := hid (show ∀ k, k ≤ 40000 → tq (evs a L k) ≤ 4000000002 from fun k hk => by
    have h1 := evs_fine a hp k (by omega) (by omega)
    have h2 : k / 1048576 = 0 := by omega
    omega)
  have D1 := hid (show n / bk a ≤ 16000 by have := bk_div a n; omega)
  have D2 := hid (show (n + n2) / bk a ≤ 16000 by have := bk_div a (n + n2); omega)
  obtain ⟨-, va, vc, rfl, -⟩ := hr
  obtain ⟨xa, xc, rfl⟩ := (show ∃ xa xc, v2 = .slice xa n2 xc from by obtain ⟨-, xa, xc, e, -⟩ := ho2.reads; exact ⟨xa, xc, e⟩)
  clear h hp ht ho2
  by_cases h2 : n2 = 0
  · have h2' : ¬ (0 : Int) < (n2 : Int) := by omega
    have E2 := hid h2
    clear h2
    go_enter Tryz.func35, Tryz.ntmps35
    go_wp2_with fail
    refine HW.out.mono ?_
    rintro e w1 ⟨rfl, mv1, h1, k1⟩
    have X1 := hid h1
    have K1 := hid k1
    clear h1 k1 HW
    go_wp2_with fail
    refine (X1.out.sum hn (by omega) (by have := HF.out (n / bk a) (by have := D1.out; omega); omega)).mono ?_
    rintro e w2 ⟨u, rfl, hu, h1, k1⟩
    have X2 := hid h1
    have K2 := hid (K1.out.trans k1)
    have U2 := hid hu
    have Z2 := hid K1.out.2
    clear h1 k1 hu X1 K1
    go_wp2_with fail
    refine X2.out.reset.mono ?_
    rintro e w3 ⟨rfl, h1, k1⟩
    have X3 := hid h1
    have K3 := hid (K2.out.trans k1)
    have U3 := hid (k1.1 _ _ _ _ U2.out)
    clear h1 k1 X2 K2 U2
    go_wp2
    go_ret
    have x3 := X3.out
    have u3 := Sg.own_mono U3.out Z2.out
    have e2 := E2.out
    have er : sev a (evs a L (n / bk a)) n = evs a L (ue a n) := by unfold sev ue; rw [evs_add]
    rw [er] at x3
    have ec : hm a (kb a nk g) n (cat n f' f2) = hm a (kb a nk g) n f' := hm_congr a _ n _ _ (fun i hi => by show (if i < n then f' i else _) = _; rw [if_pos hi])
    rw [e2, Nat.add_zero, ec]
    exact ⟨u, rfl, u3, x3, K3.out⟩
  · have h2' : (0 : Int) < (n2 : Int) := by omega
    go_enter Tryz.func35, Tryz.ntmps35
    go_wp2_with fail
    refine HW.out.mono ?_
    rintro e w1 ⟨rfl, mv1, h1, k1⟩
    have X1 := hid h1
    have K1 := hid k1
    clear h1 k1 HW
    go_wp2_with fail
    refine (X1.out.write n2 _ f2 (K1.out.1 _ _ _ _ HO2.out).reads (by omega) (by have := HF.out (n / bk a) (by have := D1.out; omega); omega)).mono ?_
    rintro e w1b ⟨rfl, mv2, h1, k1⟩
    rw [evs_add, edv] at h1
    have X1 := hid h1
    have K1 := hid (K1.out.trans k1)
    clear h1 k1
    go_wp2_with fail
    refine (X1.out.sum hn (by omega) (by have := HF.out ((n + n2) / bk a) (by have := D2.out; omega); omega)).mono ?_
    rintro e w2 ⟨u, rfl, hu, h1, k1⟩
    have X2 := hid h1
    have K2 := hid (K1.out.trans k1)
    have U2 := hid hu
    have Z2 := hid K1.out.2
    clear h1 k1 hu X1 K1
    go_wp2_with fail
    refine X2.out.reset.mono ?_
    rintro e w3 ⟨rfl, h1, k1⟩
    have X3 := hid h1
    have K3 := hid (K2.out.trans k1)
    have U3 := hid (k1.1 _ _ _ _ U2.out)
    clear h1 k1 X2 K2 U2
    go_wp2
    go_ret
    have x3 := X3.out
    have u3 := Sg.own_mono U3.out Z2.out
    have er : sev a (evs a L ((n + n2) / bk a)) (n + n2) = evs a L (ue a (n + n2)) := by unfold sev ue; rw [evs_add]
    rw [er] at x3
    exact ⟨u, rfl, u3, x3, K3.out⟩
end
end Go.Proofs.YtjhhnajgfngbhaaGreatDoor.Dg
namespace Go.Proofs.YtjhhnajgfngbhaaGreatDoor.Dg
open Go.ChangeShapes Go.WideShapes Go.ChangeAt Go.RowKit
open Go.Proofs.YtjhhnajgfngbhaaGreatDoor.By
open Go.Proofs.YtjhhnajgfngbhaaGreatDoor.Sh (Blk size_alloc)
theorem own4d (i : Nat) (W : World) : By.Own (W.alloc (.cells #[.int .u8 ((i : Int) / 16777216 % 256), .int .u8 ((i : Int) / 65536 % 256), .int .u8 ((i : Int) / 256 % 256), .int .u8 ((i : Int) % 256)] 5)) W.heap.size (.slice (some ⟨W.heap.size, 0, none⟩) 4 4) 4 (i4 i) := by
  refine By.own_lit W _ 4 _ (i4_b i) (by decide) rfl ?_
  show [Value.int .u8 ((i : Int) / 16777216 % 256), .int .u8 ((i : Int) / 65536 % 256), .int .u8 ((i : Int) / 256 % 256), .int .u8 ((i : Int) % 256)] = bl 4 (i4 i)
  rw [show bl 4 (i4 i) = [Value.int .u8 (i4 i 0), .int .u8 (i4 i 1), .int .u8 (i4 i 2), .int .u8 (i4 i 3)] from rfl]
  have e0 : i4 i 0 = (i : Int) / 16777216 % 256 := by unfold i4; rw [show 256 ^ (3 - 0) = 16777216 from rfl]; omega
  have e1 : i4 i 1 = (i : Int) / 65536 % 256 := by unfold i4; rw [show 256 ^ (3 - 1) = 65536 from rfl]; omega
  have e2 : i4 i 2 = (i : Int) / 256 % 256 := by unfold i4; rw [show 256 ^ (3 - 2) = 256 from rfl]; omega
  have e3 : i4 i 3 = (i : Int) % 256 := by unfold i4; rw [show 256 ^ (3 - 3) = 1 from rfl]; omega
  rw [e0, e1, e2, e3]
section
variable {w W : World} {mb c : Nat} {rv0 : Value} {a : Bool} {nk : Nat} {g : Nat → Int} {L : List Rn} {kv : Value}
set_option maxRecDepth 8000 in
set_option maxHeartbeats 4000000 in
theorem eblock (h : EX w mb c rv0 a nk g L 0 nof kv (.slice none 0 0) W) (ns C i : Nat) (v : Value) (f : Nat → Int) (hr : ∀ w', Kp (SM mb rv0) w w' → By.RB w' v ns f) (hns : ns ≤ 1000000) (hC1 : 1 ≤ C) (hC2 : C ≤ 1048576) (hn : nk ≤ 140737488352328) (hp : Pos L) (ht : tq L ≤ 3900000000) :
    Calls Tryz.prog 25 #[.pointer (some ⟨mb, 0, none⟩), .pointer (some ⟨c, 0, none⟩), v, .int .i64 C, .int .i64 i] W fun e w' => ∃ u, e = .returned u ∧ By.Own w' W.heap.size u (sz a) (xs a (kb a nk g) ns f i (C - 1)) ∧ EX w mb c rv0 a nk g (evs a L (be a ns C)) 0 nof kv (.slice none 0 0) w' ∧ KO W w' := by
  have HX := hid h
  have HR := hid hr
  have HP := hid hp
  have HF := hid (show ∀ k, k ≤ 4300000 → tq (evs a L k) ≤ 3900000010 from fun k hk => by
    have h1 := evs_fine a hp k (by omega) (by omega)
    have h2 : k / 1048576 ≤ 4300000 / 1048576 := Nat.div_le_div_right hk
    omega)
  have HT := hid ht
  obtain ⟨-, va, vc, rfl, -⟩ := hr w (Kp.refl _ _)
  obtain ⟨K, hK⟩ : ∃ K, kb a nk g = K := ⟨_, rfl⟩
  rw [hK]
  have HKK := hid hK
  obtain ⟨s, hs⟩ : ∃ s, sz a = s := ⟨_, rfl⟩
  have hs1 : 0 < s := by rw [← hs]; exact sz_pos a
  have hs2 : s ≤ 64 := by rw [← hs]; exact sz_le a
  have HS := hid hs
  have WW := hid (show w.heap.size ≤ W.heap.size from h.kp.size)
  have KV := hid (show ∀ p, kv.ownBlock = some p → p < W.heap.size from fun p hp => own_lt h.q.k p hp)
  have b1 := below_alloc W (.cells #[.int .u8 ((i : Int) / 16777216 % 256), .int .u8 ((i : Int) / 65536 % 256), .int .u8 ((i : Int) / 256 % 256), .int .u8 ((i : Int) % 256)] 5)
  have O1 := hid (own4d i W)
  have X1 := hid (h.below b1)
  have K1 := hid ((KO.refl W).below b1)
  have R1 := hid (hr _ (h.below b1).kp)
  clear h hr hp ht hK hs b1
  go_enter Tryz.func25, Tryz.ntmps25
  go_wp2_with fail
  obtain ⟨w1, hw1⟩ : ∃ y, W.alloc (.cells #[.int .u8 ((i : Int) / 16777216 % 256), .int .u8 ((i : Int) / 65536 % 256), .int .u8 ((i : Int) / 256 % 256), .int .u8 ((i : Int) % 256)] 5) = y := ⟨_, rfl⟩
  rw [hw1] at O1 X1 K1 R1 ⊢
  clear hw1
  refine (etag X1.out ns 4 _ _ f (i4 i) R1.out ⟨_, O1.out⟩ (by omega) hn HP.out (by have := HT.out; omega)).mono ?_
  rintro e w2 ⟨u, rfl, hu, h2, k2⟩
  have U2 := hid (show By.Own w2 W.heap.size u s (uu a K ns f i 0) from by
    have o := Sg.own_mono hu K1.out.2
    rw [HKK.out, HS.out] at o
    exact o)
  have X2 := hid (show EX w mb c rv0 a nk g (evs a L (bq a ns 0)) 0 nof kv (.slice none 0 0) w2 from by rw [show bq a ns 0 = ue a (ns + 4) from by unfold bq; omega]; exact h2)
  have K2 := hid (K1.out.trans k2)
  obtain ⟨ua, uc, rfl⟩ := own_sl U2.out
  clear hu h2 k2 O1 X1 K1 R1 HX
  go_wp2_with (at_builtin; go_must (refine Sg.wpList_cat rfl _ _ rfl w2.heap.size 0 s _ _ nof _ rfl (own_nil _ _ _ nof_b) rfl U2.out.reads (by omega) (Nat.le_refl _) ?_))
  intro ov w3 ho3 hg3
  rw [show Sg.cat 0 nof (uu a K ns f i 0) = uu a K ns f i 0 from Sg.cat0 _ _] at ho3
  have b3 := Below.of_grown hg3
  obtain ⟨go, oc, rfl, -⟩ := own_cells ho3 hs1
  have O3 := hid (Sg.own_mono ho3 K2.out.2)
  have X3 := hid (X2.out.below b3)
  have U3 := hid (own_below U2.out b3)
  have K3 := hid (K2.out.below b3)
  have N3 := hid (show ∀ p, (Value.slice ua s uc).ownBlock = some p → p ≠ go from fun p hp e => by have h1 := own_lt U2.out p hp; have h2 := own_row ho3 go rfl; omega)
  have Z3 := hid (show W.heap.size ≤ go from Nat.le_trans K2.out.2 (own_row ho3 go rfl))
  clear ho3 hg3 b3 X2 U2 K2
  go_wp2_with fail
  go_loopw [11, 13] (fun uv j wr => ∃ k : Nat, k + 1 ≤ C ∧ j = .int .i64 ((k : Int) + 1) ∧ EX w mb c rv0 a nk g (evs a L (bq a ns k)) 0 nof kv (.slice none 0 0) wr ∧ By.Own wr W.heap.size (.slice (some ⟨go, 0, none⟩) s oc) s (xs a K ns f i k) ∧ By.Own wr W.heap.size uv s (uu a K ns f i k) ∧ (∀ p, uv.ownBlock = some p → p ≠ go) ∧ KO W wr) (fun _ j _ => C - (intOf j).toNat)
  case atStart => exact ⟨0, by omega, rfl, X3.out, O3.out, U3.out, N3.out, K3.out⟩
  case round =>
    clear X3 O3 U3 N3 K3
    obtain ⟨k, hk, rfl, hx, ho, hu, hne, hko⟩ := hrel
    obtain ⟨ka, kc', rfl⟩ := own_sl hu
    have X := hid hx
    have O := hid ho
    have U := hid hu
    have NE := hid hne
    have KK := hid hko
    have HKL := hid hk
    have WZ := hid (show W.heap.size ≤ wr.heap.size from hko.2)
    clear hx ho hu hne hko hk
    by_cases hlt : k + 1 < C
    · have hlt' : (k : Int) + 1 < (C : Int) := by omega
      go_wp2_with fail
      refine (etag X.out s 0 _ _ (uu a K ns f i k) nof U.out.reads ⟨0, own_nil _ _ _ nof_b⟩ (by omega) hn (evsP a HP.out _) (by have := HF.out (bq a ns k) (bq_le a ns k hns (by have := HKL.out; omega)); omega)).mono ?_
      rintro e w4 ⟨u, rfl, hu, h4, k4⟩
      have V4 := hid (show By.Own w4 wr.heap.size u s (uu a K ns f i (k + 1)) from by
        rw [HKK.out, Nat.add_zero, HS.out] at hu
        have ec : hm a K s (cat s (uu a K ns f i k) nof) = hm a K s (uu a K ns f i k) := hm_congr a K s _ _ (fun i hi => by show (if i < s then _ else _) = _; rw [if_pos hi])
        rw [ec] at hu
        show By.Own w4 wr.heap.size u s (hm a K (sz a) (uu a K ns f i k))
        rw [HS.out]
        exact hu)
      have X4 := hid (show EX w mb c rv0 a nk g (evs a L (bq a ns (k + 1))) 0 nof kv (.slice none 0 0) w4 from by
        rw [Nat.add_zero, evs_add, ← HS.out, bq_succ] at h4
        exact h4)
      have O4 := hid (k4.1 _ _ _ _ O.out)
      have K4 := hid (KK.out.trans k4)
      have GL := hid (own_lt O.out go rfl)
      have N4 := hid (show ∀ p, u.ownBlock = some p → p ≠ go from fun p hp e => by have h1 := own_row V4.out p hp; have h2 := GL.out; omega)
      obtain ⟨ug, uc', rfl, -⟩ := own_cells V4.out hs1
      have NG := hid (N4.out ug rfl)
      clear hu h4 k4 X O U NE KK
      go_wp2_with fail
      go_loopw [14] (fun j wq => ∃ q : Nat, q ≤ s ∧ j = .int .i64 q ∧ By.Own wq W.heap.size (.slice (some ⟨go, 0, none⟩) s oc) s (fun i' => if i' < q then bx (xs a K ns f i k i') (uu a K ns f i (k + 1) i') else xs a K ns f i k i') ∧ w4.grownBy wq (some go)) (fun j _ => s - (intOf j).toNat)
      case atStart => exact ⟨0, Nat.zero_le _, rfl, O4.out, World.grownBy.refl _ _⟩
      case round =>
        obtain ⟨q, hq, rfl, hown, hgr⟩ := hrel
        have HW := hid hown
        have HG := hid hgr
        by_cases hlq : q < s
        · have hlq' : (q : Int) < (s : Int) := by omega
          obtain ⟨X, hX⟩ : ∃ y, xs a K ns f i k = y := ⟨_, rfl⟩
          obtain ⟨Y, hY⟩ : ∃ y, uu a K ns f i (k + 1) = y := ⟨_, rfl⟩
          rw [hX, hY] at hown HW
          have HXX := hid hX
          have HYY := hid hY
          have hcell : wr.cell? ⟨go, q, none⟩ = some (.int .u8 (X q)) := by
            rw [hown.2.cellAt q (by omega), bl_get _ _ _ hlq, if_neg (by omega)]
          have hfz := hown.2.frozenAt q
          have hux : wr.cell? ⟨ug, q, none⟩ = some (.int .u8 (Y q)) := by
            have hk' := Sg.own_kept V4.out (Kp.of_grown hgr) (fun p hp e => NG.out (by cases hp; exact (Option.some.inj e).symm))
            rw [hk'.2.cellAt q (by omega), bl_get _ _ _ hlq, hY]
          have XB := hid (show BB X from hX ▸ xs_b a K ns f i k)
          clear hown hgr hX hY
          obtain ⟨x, ex⟩ : ∃ x, X q = x := ⟨_, rfl⟩
          obtain ⟨y, ey⟩ : ∃ y, Y q = y := ⟨_, rfl⟩
          have EX' := hid ex
          have EY := hid ey
          rw [ex] at hcell
          rw [ey] at hux
          clear ex ey
          go_wp2_with fail
          have HWd := hid (show By.Own wr.drew W.heap.size (.slice (some ⟨go, 0, none⟩) s oc) s (fun i => if i < q then bx (X i) (Y i) else X i) from HW.out)
          have HGd := hid (show w4.grownBy wr.drew (some go) from ⟨HG.out.os, HG.out.tape, HG.out.output, HG.out.size, HG.out.block⟩)
          go_region_law (fail)
          all_goals
            go_wp2_with fail
            have S := own_store HWd.out q (bx x y) (bx_b _ _)
            refine ⟨⟨q + 1, by omega, by go_num, ?_, grown_trans HGd.out S.2⟩, by simp [intOf]; omega⟩
            rw [HXX.out, HYY.out]
            refine own_congr S.1 (fun i => ?_) (fun i hi => ?_)
            · show 0 ≤ (if i < q + 1 then bx (X i) (Y i) else X i) ∧ (if i < q + 1 then bx (X i) (Y i) else X i) < 256
              split
              · exact bx_b _ _
              · exact XB.out i
            · show (if i = q then bx x y else if i < q then bx (X i) (Y i) else X i) = if i < q + 1 then bx (X i) (Y i) else X i
              by_cases h : i = q
              · subst h; rw [if_pos rfl, if_pos (by omega), EX'.out, EY.out]
              · rw [if_neg h]; by_cases h2 : i < q
                · rw [if_pos h2, if_pos (by omega)]
                · rw [if_neg h2, if_neg (by omega)]
        · have hlq' : ¬ (q : Int) < (s : Int) := by omega
          have kg := Kp.of_grown hgr
          have O9 := hid (show By.Own wr W.heap.size (.slice (some ⟨go, 0, none⟩) s oc) s (xs a K ns f i (k + 1)) from own_congr hown (xs_b a K ns f i (k + 1)) (fun i' hi => by rw [if_pos (by omega)]; rfl))
          have V9 := hid (Sg.own_mono (Sg.own_kept V4.out kg (fun p hp e => N4.out p hp (Option.some.inj e).symm)) WZ.out)
          have X9 := hid (X4.out.grow (Sg.own_mono O4.out WW.out) (kg.mono (fun _ _ e => e)) (fun p hp e => by have h1 := KV.out p e; have h2 := Z3.out; have : go = p := Option.some.inj hp; omega))
          have K9 := hid (show KO W wr from ⟨fun base n v f ho => Sg.own_kept (K4.out.1 _ _ _ _ ho) kg (fun p hp e => by have h1 := own_lt ho p hp; have h2 := Z3.out; have : go = p := Option.some.inj e; omega), Nat.le_trans K4.out.2 kg.size⟩)
          clear hown hgr kg HW HG V4 O4 X4 K4
          go_wp2_with fail
          exact ⟨⟨k + 1, by omega, by rfl, X9.out, O9.out, V9.out, N4.out, K9.out⟩, by simp [intOf]; omega⟩
    · have hlt' : ¬ (k : Int) + 1 < (C : Int) := by omega
      have ek := hid (show k = C - 1 by have := HKL.out; omega)
      go_wp2
      go_ret
      have o := O.out
      have x := X.out
      rw [ek.out] at o x
      rw [bq_be] at x
      exact ⟨_, rfl, by rw [HS.out]; exact o, x, KK.out⟩
end
end Go.Proofs.YtjhhnajgfngbhaaGreatDoor.Dg
namespace Go.Proofs.YtjhhnajgfngbhaaGreatDoor.Dg
open Go.ChangeShapes Go.WideShapes Go.ChangeAt Go.RowKit
open Go.Proofs.YtjhhnajgfngbhaaGreatDoor.By
open Go.Proofs.YtjhhnajgfngbhaaGreatDoor.Sh (Blk size_alloc)
theorem sizeN (al : Int) (h1 : ¬ al = 1) (h2 : ¬ al = 2) (w : World) : Calls Tryz.prog 20 #[.int .u8 al] w fun e w' => e = .returned (.int .i64 0) ∧ w' = w := by
  go_enter Tryz.func20, Tryz.ntmps20
  go_wp2
  go_ret
  exact ⟨rfl, rfl⟩
theorem sizeA (a : Bool) (w : World) : Calls Tryz.prog 20 #[.int .u8 (an a)] w fun e w' => e = .returned (.int .i64 (sz a)) ∧ w' = w := by
  cases a
  · show Calls Tryz.prog 20 #[.int .u8 1] w _
    go_enter Tryz.func20, Tryz.ntmps20
    go_wp2
    go_ret
    exact ⟨rfl, rfl⟩
  · show Calls Tryz.prog 20 #[.int .u8 2] w _
    go_enter Tryz.func20, Tryz.ntmps20
    go_wp2
    go_ret
    exact ⟨rfl, rfl⟩
theorem firstN (al : Int) (h1 : ¬ al = 1) (h2 : ¬ al = 2) (c : Int) (w : World) : Calls Tryz.prog 23 #[.int .u8 al, .int .i64 c] w fun e w' => e = .returned (.int .i64 4) ∧ w' = w := by
  go_enter Tryz.func23, Tryz.ntmps23
  go_wp2_with fail
  refine (sizeN al h1 h2 _).mono ?_
  rintro e w1 ⟨rfl, hw⟩
  subst w1
  go_wp2
  go_ret
  exact ⟨rfl, rfl⟩
theorem firstA (a : Bool) (c : Int) (w : World) : Calls Tryz.prog 23 #[.int .u8 (an a), .int .i64 c] w fun e w' => e = .returned (.int .i64 (rc c)) ∧ w' = w := by
  obtain ⟨s, hs⟩ : ∃ s, sz a = s := ⟨_, rfl⟩
  have hs1 : ¬ (s : Int) = 0 := by have := sz_pos a; omega
  have SA := hid (fun w => sizeA a w)
  rw [hs] at SA
  clear hs
  by_cases h : cok c
  · have h1 : ¬ c < 1 := by have := h.1; omega
    have h2 : ¬ 1048576 < c := by have := h.2; omega
    rw [show rc c = 0 from if_pos h]
    clear h
    go_enter Tryz.func23, Tryz.ntmps23
    go_wp2_with fail
    refine (SA.out _).mono ?_
    rintro e w1 ⟨rfl, hw⟩
    subst w1
    go_wp2
    go_ret
    exact ⟨rfl, rfl⟩
  · rw [show rc c = 10 from if_neg h]
    by_cases h1 : c < 1
    · clear h
      go_enter Tryz.func23, Tryz.ntmps23
      go_wp2_with fail
      refine (SA.out _).mono ?_
      rintro e w1 ⟨rfl, hw⟩
      subst w1
      go_wp2
      go_ret
      exact ⟨rfl, rfl⟩
    · have h2 : 1048576 < c := by unfold cok at h; omega
      clear h
      go_enter Tryz.func23, Tryz.ntmps23
      go_wp2_with fail
      refine (SA.out _).mono ?_
      rintro e w1 ⟨rfl, hw⟩
      subst w1
      go_wp2
      go_ret
      exact ⟨rfl, rfl⟩
theorem dkeyN (al : Int) (h1 : ¬ al = 1) (h2 : ¬ al = 2) (lp v v2 : Value) (c n : Int) (w : World) : Calls Tryz.prog 9 #[lp, .int .u8 al, v, v2, .int .i64 c, .int .i64 n] w fun e w' => e = .returned (.tuple #[.slice none 0 0, .int .i64 4]) ∧ w' = w := by
  go_enter Tryz.func9, Tryz.ntmps9
  go_wp2_with fail
  refine (firstN al h1 h2 c _).mono ?_
  rintro e w1 ⟨rfl, hw⟩
  subst w1
  go_wp2
  go_ret2
  exact ⟨rfl, rfl⟩
theorem dblkN (al : Int) (h1 : ¬ al = 1) (h2 : ¬ al = 2) (lp v v2 : Value) (c n : Int) (w : World) : Calls Tryz.prog 18 #[lp, .int .u8 al, v, v2, .int .i64 c, .int .i64 n] w fun e w' => e = .returned (.tuple #[.slice none 0 0, .int .i64 4]) ∧ w' = w := by
  go_enter Tryz.func18, Tryz.ntmps18
  go_wp2_with fail
  refine (firstN al h1 h2 c _).mono ?_
  rintro e w1 ⟨rfl, hw⟩
  subst w1
  go_wp2
  go_ret2
  exact ⟨rfl, rfl⟩
theorem dkey_bad (a : Bool) (c n : Int) (hn : ¬ kok c n) (lp v v2 : Value) (w : World) : Calls Tryz.prog 9 #[lp, .int .u8 (an a), v, v2, .int .i64 c, .int .i64 n] w fun e w' => e = .returned (.tuple #[.slice none 0 0, .int .i64 (kc c n)]) ∧ w' = w := by
  have R := hid (fun w => firstA a c w)
  by_cases hc : cok c
  · rw [show rc c = 0 from if_pos hc] at R
    rw [show kc c n = if n < 0 then 2 else if 16320 < n then 9 else 0 from if_pos hc]
    by_cases h1 : n < 0
    · rw [if_pos h1]
      clear hn hc
      go_enter Tryz.func9, Tryz.ntmps9
      go_wp2_with fail
      refine (R.out _).mono ?_
      rintro e w1 ⟨rfl, hw⟩
      subst w1
      go_wp2
      go_ret2
      exact ⟨rfl, rfl⟩
    · have h2 : 16320 < n := by unfold kok at hn; unfold cok at hc; omega
      rw [if_neg h1, if_pos h2]
      clear hn hc
      go_enter Tryz.func9, Tryz.ntmps9
      go_wp2_with fail
      refine (R.out _).mono ?_
      rintro e w1 ⟨rfl, hw⟩
      subst w1
      go_wp2
      go_ret2
      exact ⟨rfl, rfl⟩
  · rw [show rc c = 10 from if_neg hc] at R
    rw [show kc c n = 10 from if_neg hc]
    clear hn hc
    go_enter Tryz.func9, Tryz.ntmps9
    go_wp2_with fail
    refine (R.out _).mono ?_
    rintro e w1 ⟨rfl, hw⟩
    subst w1
    go_wp2
    go_ret2
    exact ⟨rfl, rfl⟩
theorem dblk_bad (a : Bool) (c i : Int) (hn : ¬ iok c i) (lp v v2 : Value) (w : World) : Calls Tryz.prog 18 #[lp, .int .u8 (an a), v, v2, .int .i64 c, .int .i64 i] w fun e w' => e = .returned (.tuple #[.slice none 0 0, .int .i64 (ic c i)]) ∧ w' = w := by
  have R := hid (fun w => firstA a c w)
  by_cases hc : cok c
  · rw [show rc c = 0 from if_pos hc] at R
    rw [show ic c i = 2 from by unfold ic; rw [if_pos hc, if_neg (by unfold iok at hn; unfold cok at hc; omega)]]
    by_cases h1 : i < 1
    · clear hn hc
      go_enter Tryz.func18, Tryz.ntmps18
      go_wp2_with fail
      refine (R.out _).mono ?_
      rintro e w1 ⟨rfl, hw⟩
      subst w1
      go_wp2
      go_ret2
      exact ⟨rfl, rfl⟩
    · have h2 : 4294967295 < i := by unfold iok at hn; unfold cok at hc; omega
      clear hn hc
      go_enter Tryz.func18, Tryz.ntmps18
      go_wp2_with fail
      refine (R.out _).mono ?_
      rintro e w1 ⟨rfl, hw⟩
      subst w1
      go_wp2
      go_ret2
      exact ⟨rfl, rfl⟩
  · rw [show rc c = 10 from if_neg hc] at R
    rw [show ic c i = 10 from if_neg hc]
    clear hn hc
    go_enter Tryz.func18, Tryz.ntmps18
    go_wp2_with fail
    refine (R.out _).mono ?_
    rintro e w1 ⟨rfl, hw⟩
    subst w1
    go_wp2
    go_ret2
    exact ⟨rfl, rfl⟩
/-- The list that a told one is the beginning of. -/
def OwnF (W : World) (base : Nat) (v : Value) (n : Nat) (f : Nat → Int) : Prop := ∃ oa ol oc, v = .slice oa n oc ∧ n ≤ ol ∧ By.Own W base (.slice oa ol oc) ol f
theorem ownf_own {W : World} {base n : Nat} {v : Value} {f : Nat → Int} (h : By.Own W base v n f) : OwnF W base v n f := by
  obtain ⟨oa, oc, rfl⟩ := own_sl h
  exact ⟨oa, n, oc, rfl, Nat.le_refl _, h⟩
set_option maxHeartbeats 4000000 in
theorem dblk_ok (a : Bool) (mb np ns C i : Nat) (rv v v2 : Value) (g f : Nat → Int) (L : List Rn) (w : World) (h : RLed w mb rv L) (hr : ∀ w', Kp (SM mb rv) w w' → By.RB w' v np g) (hr2 : ∀ w', Kp (SM mb rv) w w' → By.RB w' v2 ns f) (hn : np ≤ 140737488352328) (hns : ns ≤ 1000000) (hC1 : 1 ≤ C) (hC2 : C ≤ 1048576) (hi1 : 1 ≤ i) (hi2 : i ≤ 4294967295) (ht : tq L ≤ 900000000) :
    Calls Tryz.prog 18 #[.pointer (some ⟨mb, 0, none⟩), .int .u8 (an a), v, v2, .int .i64 C, .int .i64 i] w fun e w' => ∃ u, e = .returned (.tuple #[u, .int .i64 0]) ∧ By.Own w' w.heap.size u (sz a) (xs a (kb a np g) ns f i (C - 1)) ∧ RW w w' mb rv (del a L np ns C 1) := by
  have HC := hid (qnewM a mb np rv v g L w h hr hn ht)
  have HR2 := hid hr2
  have HP := hid h.pos
  have HF := hid (kev_fine a h.pos np (by omega) (by omega))
  have R := hid (fun w => firstA a C w)
  rw [show rc (C : Int) = 0 from if_pos (by unfold cok; omega)] at R
  have h1' : ¬ (i : Int) < 1 := by omega
  have h2' : ¬ (4294967295 : Int) < (i : Int) := by omega
  obtain ⟨-, xa, xc', rfl, -⟩ := hr2 w (Kp.refl _ _)
  clear h hr hr2
  go_enter Tryz.func18, Tryz.ntmps18
  go_wp2_with fail
  refine (R.out _).mono ?_
  rintro e w1 ⟨rfl, hw⟩
  subst w1
  go_wp2_with fail
  refine HC.out.mono ?_
  rintro e w1 ⟨c, kv, hcz, rfl, hq, hkv, hrw⟩
  have X1 := hid (show EX w mb c rv a np g (kev a L np) 0 nof kv (.slice none 0 0) w1 from ⟨hrw.2, hrw.1, hq, hcz⟩)
  have Z1 := hid (show w.heap.size ≤ w1.heap.size from hrw.2.size)
  clear hcz hq hkv hrw HC
  go_wp2_with fail
  refine (eblock X1.out ns C i _ f HR2.out hns hC1 hC2 hn (kevP a HP.out np) (by have := HF.out; omega)).mono ?_
  rintro e w2 ⟨u, rfl, hu, hx, -⟩
  have U2 := hid (Sg.own_mono hu Z1.out)
  have X2 := hid hx
  clear hu hx X1
  go_wp2
  go_ret2
  refine ⟨u, rfl, U2.out, ?_⟩
  have e1 : del a L np ns C 1 = evs a (kev a L np) (be a ns C) := by unfold del; rw [Nat.one_mul]
  rw [e1]
  exact ⟨X2.out.rl, X2.out.kp⟩
set_option maxHeartbeats 4000000 in
theorem dkey_ok (a : Bool) (mb np ns C N : Nat) (rv v v2 : Value) (g f : Nat → Int) (L : List Rn) (w : World) (h : RLed w mb rv L) (hr : ∀ w', Kp (SM mb rv) w w' → By.RB w' v np g) (hr2 : ∀ w', Kp (SM mb rv) w w' → By.RB w' v2 ns f) (hn : np ≤ 140737488352328) (hns : ns ≤ 1000000) (hC1 : 1 ≤ C) (hC2 : C ≤ 1048576) (hN : N ≤ 16320) (ht : tq L ≤ 900000000) :
    Calls Tryz.prog 9 #[.pointer (some ⟨mb, 0, none⟩), .int .u8 (an a), v, v2, .int .i64 C, .int .i64 N] w fun e w' => ∃ u, e = .returned (.tuple #[u, .int .i64 0]) ∧ OwnF w' w.heap.size u N (dk a (kb a np g) ns f C) ∧ RW w w' mb rv (del a L np ns C (qp a N)) := by
  have HC := hid (qnewM a mb np rv v g L w h hr hn ht)
  have HR2 := hid hr2
  have HP := hid h.pos
  have HF := hid (kev_fine a h.pos np (by omega) (by omega))
  have HQ := hid (qp_511 a N hN)
  have R := hid (fun w => firstA a C w)
  rw [show rc (C : Int) = 0 from if_pos (by unfold cok; omega)] at R
  have hN' : (N : Int) ≤ 16320 := by omega
  obtain ⟨s, hs⟩ : ∃ s, sz a = s := ⟨_, rfl⟩
  have hs1 : 0 < s := by rw [← hs]; exact sz_pos a
  have hs2 : s ≤ 64 := by rw [← hs]; exact sz_le a
  have HS := hid hs
  obtain ⟨K, hK⟩ : ∃ K, kb a np g = K := ⟨_, rfl⟩
  rw [hK]
  have HKK := hid hK
  obtain ⟨-, xa, xc', rfl, -⟩ := hr2 w (Kp.refl _ _)
  clear h hr hr2 hs hK
  go_enter Tryz.func9, Tryz.ntmps9
  go_wp2_with fail
  refine (R.out _).mono ?_
  rintro e w1 ⟨rfl, hw⟩
  subst w1
  go_wp2_with fail
  refine HC.out.mono ?_
  rintro e w1 ⟨c, kv, hcz, rfl, hq, hkv, hrw⟩
  have X1 := hid (show EX w mb c rv a np g (kev a L np) 0 nof kv (.slice none 0 0) w1 from ⟨hrw.2, hrw.1, hq, hcz⟩)
  clear hcz hq hkv hrw HC
  go_wp2_with fail
  go_loopw [17, 18] (fun ov j wr => ∃ k ol : Nat, k ≤ qp a N ∧ k * s = ol ∧ j = .int .i64 ((k : Int) + 1) ∧ EX w mb c rv a np g (evs a (kev a L np) (k * be a ns C)) 0 nof kv (.slice none 0 0) wr ∧ By.Own wr w.heap.size ov ol (dk a K ns f C) ∧ (∀ p, ov.ownBlock = some p → kv.ownBlock ≠ some p) ∧ ol ≤ N + 64) (fun ov _ _ => N + 64 - slen ov)
  case atStart => exact ⟨0, 0, Nat.zero_le _, Nat.zero_mul _, rfl, by rw [Nat.zero_mul, evs_zero]; exact X1.out, own_nil _ _ _ (dk_b _ _ _ _ _), fun p hp => by simp [Value.ownBlock] at hp, by omega⟩
  case round =>
    clear X1
    obtain ⟨k, ol, hk, hol, rfl, hx, ho, hne, hol2⟩ := hrel
    have X := hid hx
    have O := hid ho
    have NE := hid hne
    have HK := hid hk
    have HO := hid hol
    obtain ⟨oa, oc, rfl⟩ := own_sl ho
    clear hx ho hne hk hol
    by_cases hlt : ol < N
    · have hlt' : (ol : Int) < (N : Int) := by omega
      have hkb : k ≤ 510 := Nat.le_trans HK.out HQ.out
      have hkq := hid (qp_lt a N k (by rw [HS.out, HO.out]; exact hlt))
      have P := hid (eblock X.out ns C (k + 1) _ f HR2.out hns hC1 hC2 hn (evsP a (kevP a HP.out np) _) (by
        have h1 := bes_fine a (kevP a HP.out np) ns C k (by have := HF.out; omega) hns hC2 (by have := HK.out; have := HQ.out; omega)
        have := HF.out
        omega))
      rw [show ((k + 1 : Nat) : Int) = (k : Int) + 1 from rfl, HKK.out, HS.out, evs_add, ← Nat.succ_mul] at P
      go_wp2_with fail
      refine P.out.mono ?_
      rintro e w2 ⟨u, rfl, hu, hx, hko⟩
      have U2 := hid hu
      have X2 := hid hx
      have O2 := hid (hko.1 _ _ _ _ O.out)
      have Z2 := hid (show w.heap.size ≤ w2.heap.size from hx.kp.size)
      obtain ⟨ua, uc, rfl⟩ := own_sl hu
      clear hu hx hko P X O
      go_wp2_with (at_builtin; go_must (refine wpList_catS rfl _ _ rfl w.heap.size ol s _ _ _ _ rfl O2.out rfl U2.out.reads (by omega) Z2.out ?_))
      intro ov' w3 ho3 hk3 hs3
      have X3 := hid (X2.out.grow O2.out hk3 NE.out)
      have O3 := hid (show By.Own w3 w.heap.size ov' (ol + s) (dk a K ns f C) from own_congr ho3 (dk_b a K ns f C) (fun i hi => by
        have h := dk_cat a K ns f C k s (by rw [HS.out]; omega) i (by rw [HS.out, HO.out]; exact hi)
        rw [HS.out, HO.out] at h
        exact h))
      have N3 := hid (show ∀ p, ov'.ownBlock = some p → kv.ownBlock ≠ some p from fun p hp e => by
        rcases hs3 with h | h
        · exact NE.out p (h ▸ hp) e
        · have h1 := h p hp
          have h2 := own_lt X2.out.q.k p e
          omega)
      obtain ⟨na, nc, rfl⟩ := own_sl O3.out
      clear ho3 hk3 hs3 O2 X2 NE
      go_wp2_with fail
      exact ⟨⟨k + 1, ol + s, hkq.out, by rw [Nat.succ_mul, HO.out], by rfl, X3.out, O3.out, N3.out, by omega⟩, by simp [slen]; omega⟩
    · have hlt' : ¬ (ol : Int) < (N : Int) := by omega
      have EQ := hid (show qp a N = k by
        apply Classical.byContradiction
        intro h
        have h1 := HK.out
        have h2 := qp_spec a N
        have h3 : (k + 1) * sz a ≤ qp a N * sz a := Nat.mul_le_mul_right _ (by have : ¬ qp a N = k := h; omega)
        have h4 : (k + 1) * sz a = k * sz a + sz a := Nat.succ_mul _ _
        have h5 := HO.out
        have h6 := HS.out
        rw [h6] at h2 h3 h4
        omega)
      have hoc := rb_cap O.out.reads
      have hsl := fun W => psub_h oa ol oc N W (by omega) hoc
      go_wp2
      go_ret2
      have x := X.out
      rw [← EQ.out] at x
      exact ⟨_, rfl, ⟨oa, ol, oc, rfl, by omega, O.out⟩, x.rl, x.kp⟩
theorem dkey_any (a : Bool) (mb np ns : Nat) (c n : Int) (rv v v2 : Value) (g f : Nat → Int) (L : List Rn) (w : World) (h : RLed w mb rv L) (hr : ∀ w', Kp (SM mb rv) w w' → By.RB w' v np g) (hr2 : ∀ w', Kp (SM mb rv) w w' → By.RB w' v2 ns f) (hn : np ≤ 140737488352328) (hns : kok c n → ns ≤ 1000000) (ht : tq L ≤ 900000000) :
    Calls Tryz.prog 9 #[.pointer (some ⟨mb, 0, none⟩), .int .u8 (an a), v, v2, .int .i64 c, .int .i64 n] w fun e w' => ∃ u, e = .returned (.tuple #[u, .int .i64 (kc c n)]) ∧ OwnF w' w.heap.size u (kN c n) (dk a (kb a np g) ns f c.toNat) ∧ RW w w' mb rv (kl a L np ns c n) := by
  by_cases hh : kok c n
  · have hs := hns hh
    rw [kc_ok hh, show kN c n = n.toNat from if_pos hh, show kl a L np ns c n = del a L np ns c.toNat (qp a n.toNat) from if_pos hh]
    have h' := hh
    unfold kok at h'
    obtain ⟨N, rfl⟩ : ∃ N : Nat, n = N := ⟨n.toNat, by omega⟩
    obtain ⟨C, rfl⟩ : ∃ C : Nat, c = C := ⟨c.toNat, by omega⟩
    exact dkey_ok a mb np ns C N rv v v2 g f L w h hr hr2 hn hs (by omega) (by omega) (by omega) ht
  · refine (dkey_bad a c n hh _ v v2 w).mono ?_
    rintro e w' ⟨rfl, rfl⟩
    exact ⟨_, rfl, by rw [show kN c n = 0 from if_neg hh]; exact ownf_own (own_nil _ _ _ (dk_b _ _ _ _ _)), by rw [show kl a L np ns c n = L from if_neg hh]; exact RW.refl h⟩
theorem dblk_any (a : Bool) (mb np ns : Nat) (c i : Int) (rv v v2 : Value) (g f : Nat → Int) (L : List Rn) (w : World) (h : RLed w mb rv L) (hr : ∀ w', Kp (SM mb rv) w w' → By.RB w' v np g) (hr2 : ∀ w', Kp (SM mb rv) w w' → By.RB w' v2 ns f) (hn : np ≤ 140737488352328) (hns : iok c i → ns ≤ 1000000) (ht : tq L ≤ 900000000) :
    Calls Tryz.prog 18 #[.pointer (some ⟨mb, 0, none⟩), .int .u8 (an a), v, v2, .int .i64 c, .int .i64 i] w fun e w' => ∃ u, e = .returned (.tuple #[u, .int .i64 (ic c i)]) ∧ OwnF w' w.heap.size u (iN a c i) (xs a (kb a np g) ns f i.toNat (c.toNat - 1)) ∧ RW w w' mb rv (il a L np ns c i) := by
  by_cases hh : iok c i
  · have hs := hns hh
    rw [ic_ok hh, show iN a c i = sz a from if_pos hh, show il a L np ns c i = del a L np ns c.toNat 1 from if_pos hh]
    have h' := hh
    unfold iok at h'
    obtain ⟨N, rfl⟩ : ∃ N : Nat, i = N := ⟨i.toNat, by omega⟩
    obtain ⟨C, rfl⟩ : ∃ C : Nat, c = C := ⟨c.toNat, by omega⟩
    refine (dblk_ok a mb np ns C N rv v v2 g f L w h hr hr2 hn hs (by omega) (by omega) (by omega) (by omega) ht).mono ?_
    rintro e w' ⟨u, rfl, g1, g2⟩
    exact ⟨u, rfl, ownf_own g1, g2⟩
  · refine (dblk_bad a c i hh _ v v2 w).mono ?_
    rintro e w' ⟨rfl, rfl⟩
    exact ⟨_, rfl, by rw [show iN a c i = 0 from if_neg hh]; exact ownf_own (own_nil _ _ _ (xs_b _ _ _ _ _ _)), by rw [show il a L np ns c i = L from if_neg hh]; exact RW.refl h⟩
end Go.Proofs.YtjhhnajgfngbhaaGreatDoor.Dg
