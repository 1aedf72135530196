/- The document's HKDF: its mac, its ledger and its lists while the parts are made. -/
import Derived.Test.YtjhhnajgfngbhaaGreatDoorMdoc2
import Derived.Test.YtjhhnajgfngbhaaGreatDoorZna
import Derived.Test.YtjhhnajgfngbhaaGreatDoorZmt
import Derived.Deep.RegionHeld3
namespace Go.Proofs.YtjhhnajgfngbhaaGreatDoor.Dg
open Go.ChangeShapes Go.WideShapes Go.ChangeAt Go.RowKit
open Go.Proofs.YtjhhnajgfngbhaaGreatDoor.By
open Go.Proofs.YtjhhnajgfngbhaaGreatDoor.Sh (Blk size_alloc)
theorem own_d8 {W : World} {base n : Nat} {v : Value} {f : Nat → Int} (ho : By.Own W base v n f) {g : Nat} (hg : v.ownBlock = some g) : ∃ cs, Blk W g cs 5 := by
  obtain ⟨c, hc⟩ := Sg.own8_type ho hg
  exact ⟨c.toList, by show W.heap[g]? = _; rw [hc]⟩
/-- k parts are told, the last one made is that of number j. -/
structure DX (w : World) (mb c : Nat) (rv0 : Value) (a : Bool) (nk : Nat) (g : Nat → Int) (ni : Nat) (inf : Nat → Int) (L : List Rn) (k j m : Nat) (f : Nat → Int) (kv mv ov lv : Value) (W : World) : Prop where
  kp : Kp (SM mb rv0) w W
  rl : ∃ rv', RLed W mb rv' L ∧ SameOrNew w rv0 rv'
  q : IsQk W c ⟨a, nk, g, m, f⟩ kv mv
  cz : w.heap.size ≤ c
  oo : By.Own W w.heap.size ov (k * sz a) (okm a (kb a nk g) ni inf)
  lo : By.Own W w.heap.size lv (pl a j) (tp a (kb a nk g) ni inf j)
  ol : ∀ p, ov.ownBlock = some p → lv.ownBlock ≠ some p ∧ kv.ownBlock ≠ some p ∧ mv.ownBlock ≠ some p
section
variable {w W W' : World} {mb c : Nat} {rv0 : Value} {a : Bool} {nk : Nat} {g : Nat → Int} {ni : Nat} {inf : Nat → Int} {L : List Rn} {k j m : Nat} {f : Nat → Int} {kv mv ov lv : Value}
theorem DX.below (h : DX w mb c rv0 a nk g ni inf L k j m f kv mv ov lv W) (hb : Below W.heap.size W W') : DX w mb c rv0 a nk g ni inf L k j m f kv mv ov lv W' := by
  obtain ⟨rv', h1, h2⟩ := h.rl
  exact ⟨h.kp.trans (Kp.of_below _ hb) (fun _ _ e => e), ⟨rv', h1.below hb, h2⟩, h.q.below hb, h.cz, own_below h.oo hb, own_below h.lo hb, h.ol⟩
/-- Blocks that the mac's record and the ledger have. -/
def NB (W : World) (S : Nat → Prop) : Prop := ∀ i, S i → ∀ cs, ¬ Blk W i cs 5
theorem nb_own {S : Nat → Prop} (hn : NB W S) (hk : Kp S W W') {base n : Nat} {v : Value} {f : Nat → Int} (ho : By.Own W base v n f) : By.Own W' base v n f := Sg.own_kept ho hk (fun p hp hs => by
  obtain ⟨cs, hc⟩ := own_d8 ho hp
  exact hn p hs cs hc)
theorem DX.nb (h : DX w mb c rv0 a nk g ni inf L k j m f kv mv ov lv W) {rv' : Value} (hr : RLed W mb rv' L) : NB W (fun i => i = c ∨ SM mb rv' i) := fun i hi cs hb => by
  rcases hi with e | e
  · exact Blk.ne hb h.q.here (by decide) e
  · exact rled_no hr hb (by decide) (by decide) e
theorem DX.back (h : DX w mb c rv0 a nk g ni inf L k j m f kv mv ov lv W) {rv' : Value} (hs : SameOrNew w rv0 rv') (hk : Kp (fun i => i = c ∨ SM mb rv' i) W W') : Kp (SM mb rv0) w W' := h.kp.trans hk (fun i hi e => by
  rcases e with e | e | e
  · have := h.cz; omega
  · exact .inl e
  · rcases hs with hs | hs
    · exact .inr (hs ▸ e)
    · have := hs i e; omega)
theorem son_trans {rv1 rv2 : Value} (h1 : SameOrNew w rv0 rv1) (h2 : SameOrNew W rv1 rv2) (hz : w.heap.size ≤ W.heap.size) : SameOrNew w rv0 rv2 := by
  rcases h2 with h2 | h2
  · rcases h1 with h1 | h1
    · exact .inl (h2.trans h1)
    · exact .inr (fun p hp => h1 p (h2 ▸ hp))
  · exact .inr (fun p hp => Nat.le_trans hz (h2 p hp))
theorem DX.reset (h : DX w mb c rv0 a nk g ni inf L k j m f kv mv ov lv W) :
    Calls Tryz.prog 45 #[.pointer (some ⟨c, 0, none⟩)] W fun e w' => e = .returned (.int .i64 0) ∧ DX w mb c rv0 a nk g ni inf L k j 0 nof kv (.slice none 0 0) ov lv w' ∧ (∀ {base n : Nat} {v : Value} {f : Nat → Int}, By.Own W base v n f → By.Own w' base v n f) ∧ W.heap.size ≤ w'.heap.size := by
  obtain ⟨rv', hr, hs⟩ := h.rl
  have nb := h.nb hr
  refine (qreset c ⟨a, nk, g, m, f⟩ kv mv W h.q).mono ?_
  rintro e w' ⟨rfl, g1, g2⟩
  have hk := g2.mono (T := fun i => i = c ∨ SM mb rv' i) (fun _ _ e => .inl e)
  refine ⟨rfl, ⟨h.back hs hk, ⟨rv', hr.kept g2 (fun e => ?_) (fun p hp e => ?_), hs⟩, g1, h.cz, nb_own nb hk h.oo, nb_own nb hk h.lo, fun p hp => ⟨(h.ol p hp).1, (h.ol p hp).2.1, by simp [Value.ownBlock]⟩⟩, fun ho => nb_own nb hk ho, g2.size⟩
  · exact rled_no hr h.q.here (by decide) (by decide) (.inl (show mb = c from e).symm)
  · exact rled_no hr h.q.here (by decide) (by decide) (.inr (by rw [← show p = c from e]; exact hp))
theorem DX.write (h : DX w mb c rv0 a nk g ni inf L k j 0 nof kv mv ov lv W) (n : Nat) (v : Value) (f' : Nat → Int) (hr : By.RB W v n f') (hmn : n ≤ 140737488352328) (ht : tq L ≤ 4399500000000) :
    Calls Tryz.prog 43 #[.pointer (some ⟨c, 0, none⟩), .pointer (some ⟨mb, 0, none⟩), v] W fun e w' => e = .returned (.int .i64 0) ∧ ∃ mv', DX w mb c rv0 a nk g ni inf (evs a L (n / bk a)) k j n f' kv mv' ov lv w' := by
  obtain ⟨rv', hl, hs⟩ := h.rl
  have nb := h.nb hl
  have hz := h.kp.size
  refine (qwriteM ⟨a, nk, g, 0, nof⟩ mb c n rv' kv mv v f' L W h.q hl hr (by show 0 + n ≤ _; omega) ht).mono ?_
  rintro e w' ⟨rfl, ⟨mv', g1, g2⟩, ⟨rv2, g3, g4⟩, g5⟩
  have e0 : 0 / bk a = 0 := Nat.zero_div _
  have e1 : cat 0 nof f' = f' := Sg.cat0 _ _
  dsimp only at g1 g3
  rw [Nat.zero_add, e0, Nat.sub_zero] at g3
  rw [Nat.zero_add, e1] at g1
  exact ⟨rfl, mv', h.back hs g5, ⟨rv2, g3, son_trans hs g4 hz⟩, g1, h.cz, nb_own nb g5 h.oo, nb_own nb g5 h.lo, fun p hp => ⟨(h.ol p hp).1, (h.ol p hp).2.1, fun e => by have h1 := g2 p e; have h2 := own_lt h.oo p hp; omega⟩⟩
theorem DX.sum (h : DX w mb c rv0 a nk g ni inf L k j m f kv mv ov lv W) (hn : nk ≤ 140737488352328) (hmm : m ≤ 140737488352328) (ht : tq L ≤ 4399500000000) (he : hm a (kb a nk g) m f = tp a (kb a nk g) ni inf (j + 1)) :
    Calls Tryz.prog 44 #[.pointer (some ⟨c, 0, none⟩), .pointer (some ⟨mb, 0, none⟩)] W fun e w' => ∃ u, e = .returned (.tuple #[u, .int .i64 0]) ∧ DX w mb c rv0 a nk g ni inf (sev a L m) k (j + 1) m f kv mv ov u w' := by
  obtain ⟨rv', hl, hs⟩ := h.rl
  have nb := h.nb hl
  have hz := h.kp.size
  refine (qsumM ⟨a, nk, g, m, f⟩ mb c rv' kv mv L W h.q hl hn hmm ht).mono ?_
  rintro e w' ⟨u, rfl, g1, ⟨rv2, g3, g4⟩, g5⟩
  have hk := g5.mono (T := fun i => i = c ∨ SM mb rv' i) (fun _ _ e => .inr e)
  dsimp only at g1
  rw [he] at g1
  exact ⟨u, rfl, h.back hs hk, ⟨rv2, g3, son_trans hs g4 hz⟩, h.q.kl hl g5, h.cz, nb_own nb hk h.oo, Sg.own_mono g1 hz, fun p hp => ⟨fun e => by have h1 := own_row g1 p e; have h2 := own_lt h.oo p hp; omega, (h.ol p hp).2⟩⟩
/-- The part is put behind what is told. -/
theorem DX.put (h : DX w mb c rv0 a nk g ni inf L k (k + 1) m f kv mv ov lv W) {ov' : Value} (ho : By.Own W' w.heap.size ov' (k * sz a + sz a) (cat (k * sz a) (okm a (kb a nk g) ni inf) (tp a (kb a nk g) ni inf (k + 1)))) (hk : Kp (fun i => ov.ownBlock = some i) W W') (hs : SameOrNew W ov ov') :
    DX w mb c rv0 a nk g ni inf L (k + 1) (k + 1) m f kv mv ov' lv W' := by
  obtain ⟨rv', hl, hsl⟩ := h.rl
  have ty : ∀ {i cs t}, ov.ownBlock = some i → Blk W i cs t → t ≠ 5 → False := fun hi hb ht => by
    obtain ⟨c8, h8⟩ := own_d8 h.oo hi
    exact Blk.ne hb h8 ht rfl
  have hz := h.kp.size
  refine ⟨h.kp.trans hk (fun i hi e => by have := own_row h.oo i e; omega), ⟨rv', hl.kept hk (fun e => ty e hl.here (by decide)) (fun p hp e => ?_), hsl⟩, ⟨h.q.here.kept hk (fun e => ty e h.q.here (by decide)), Sg.own_kept h.q.k hk (fun p hp e => (h.ol p e).2.1 hp), Sg.own_kept h.q.m hk (fun p hp e => (h.ol p e).2.2 hp)⟩, h.cz, ?_, Sg.own_kept h.lo hk (fun p hp e => (h.ol p e).1 hp), fun p hp => ?_⟩
  · obtain ⟨cc, hc⟩ := Sg.own_type hl.own hp
    exact ty e (show Blk W p cc.toList 66 from by show W.heap[p]? = _; rw [hc]) (by decide)
  · rw [show (k + 1) * sz a = k * sz a + sz a from Nat.succ_mul _ _]
    exact own_congr ho (okm_b _ _ _ _) (fun i hi => okm_cat a (kb a nk g) ni inf k (sz a) (Nat.le_refl _) i hi)
  · rcases hs with e | e
    · exact h.ol p (e ▸ hp)
    · have hp' := e p hp
      exact ⟨fun e => by have := own_lt h.lo p e; omega, fun e => by have := own_lt h.q.k p e; omega, fun e => by have := own_lt h.q.m p e; omega⟩
end
end Go.Proofs.YtjhhnajgfngbhaaGreatDoor.Dg
