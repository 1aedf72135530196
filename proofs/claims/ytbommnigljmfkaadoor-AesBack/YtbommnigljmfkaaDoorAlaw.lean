/- The statements' helper 'runs'; a ledger beside ciphers, all of them new; the statement AesKnown, walked. -/
import Derived.Test.YtbommnigljmfkaaDoorAwk2
namespace Go.Proofs.YtbommnigljmfkaaDoor.Ae
open Go.ChangeShapes Go.WideShapes Go.ChangeAt Go.RowKit
open Go.Proofs.YtbommnigljmfkaaDoor.By Go.Proofs.YtbommnigljmfkaaDoor.Gf
open Go.Proofs.YtbommnigljmfkaaDoor.Kc (own_kept own_mono own8_type cat cat_bound wpList_cat below_grow)
def NS (w : World) (x : Nat) : Prop := w.heap.size ≤ x
/-- Since w: a ledger of the call's own in block lb has L. -/
structure Lg (w W : World) (lb : Nat) (L : List Rn) : Prop where
  lg : LG (NS w) w W (some lb) L
  kp : Kp (NS w) w W
section
variable {w W W' : World} {lb : Nat} {L : List Rn}
theorem Lg.bel (h : Lg w W lb L) : Below w.heap.size w W := h.kp.below (Nat.le_refl _) (fun k hk e => by unfold NS at e; omega)
theorem Lg.below (h : Lg w W lb L) (hb : Below W.heap.size W W') : Lg w W' lb L := ⟨h.lg.below hb, h.kp.trans (Kp.of_below _ hb) (fun _ _ e => e)⟩
theorem Lg.km (h : Lg w W lb L) (hk : KM w) : KM W := hk.kept h.kp (by have := hk.lt; unfold NS; omega)
theorem Lg.ku (h : Lg w W lb L) (hk : KU w) : KU W := hk.kept h.kp (by have := hk.lt; unfold NS; omega)
theorem Lg.led (h : Lg w W lb L) : ∃ rv, Led W lb rv L := by obtain ⟨_, rv, hl, _⟩ := h.lg; exact ⟨rv, hl⟩
theorem newL (w W : World) (hb : Below w.heap.size w W) : Calls Tryd.prog 8 #[] W fun e w' => e = .returned (.pointer (some ⟨W.heap.size, 0, none⟩)) ∧ Lg w w' W.heap.size [] ∧ Below W.heap.size W w' := by
  refine (new9 W).mono ?_
  rintro e w' ⟨rfl, hl, hb'⟩
  exact ⟨rfl, ⟨⟨hb.size, _, hl, fun g hg => by simp [Value.ownBlock] at hg⟩, (Kp.of_below _ hb).trans (Kp.of_below _ hb') (fun _ _ e => e) |>.mono (fun _ _ e => e)⟩, hb'⟩
end
section
variable {w W : World} {lb : Nat} {L : List Rn}
theorem Lg.new (h : Lg w W lb L) (hr : Room L) (k : Nat) (hk : k = 4 ∨ k = 6 ∨ k = 8) (key : Nat → Nat) (hkey : ∀ i, key i < 256) (kb ko cap : Nat) (hc : 4 * k ≤ cap)
    (hcell : ∀ V, Below w.heap.size w V → Kt W V → ∀ i, i < 4 * k → V.cell? ⟨kb, ko + i, none⟩ = some (.int .u8 (key i : Nat))) :
    Calls Tryd.prog 18 #[.pointer (some ⟨lb, 0, none⟩), .slice (some ⟨kb, ko, none⟩) (4 * k) cap] W fun e w' => ∃ g, e = .returned (.tuple #[.pointer (some ⟨g, 0, none⟩), .int .i64 0]) ∧ Ci w' g k (rk k key) ∧ W.heap.size ≤ g ∧ Lg w w' lb (putL L ⟨4, ((4 * k : Nat) : Int), 1⟩) ∧ Kt W w' := by
  refine (new_ok (NS w) w W (some lb) L k hk key hkey kb ko cap hc h.lg h.kp hr (fun V hv ht => hcell V (hv.below (Nat.le_refl _) (fun k hk e => by unfold NS at e; omega)) ht)).mono ?_
  rintro e w' ⟨g, rfl, hc, hg, hl, hkp, ht⟩
  exact ⟨g, rfl, hc, hg, ⟨hl, hkp⟩, ht⟩
theorem Lg.enc (h : Lg w W lb L) (hr : Room L) (hk : KM w) (g k : Nat) (ws b : Nat → Nat) (hb : B16 b) (hc : Ci W g k ws) :
    Calls Tryd.prog 22 #[.pointer (some ⟨g, 0, none⟩), .pointer (some ⟨lb, 0, none⟩), bv b] W fun e w' => e = .returned (.tuple #[bv (enc ws (k + 6) b), .int .i64 0]) ∧ Lg w w' lb (putL L ⟨5, ((4 * k : Nat) : Int), 1⟩) ∧ Ci w' g k ws ∧ Kt W w' := by
  refine (enc_ci (NS w) w W (some lb) L g k ws b hb hc h.lg h.kp hr hk (by have := hk.lt; unfold NS; omega)).mono ?_
  rintro e w' ⟨rfl, hl, hkp, ht⟩
  exact ⟨rfl, ⟨hl, hkp⟩, ⟨ht.2 _ _ _ hc.here (by decide) (by decide), hc.kk, hc.lt⟩, ht⟩
theorem Lg.dec (h : Lg w W lb L) (hr : Room L) (hk : KU w) (g k : Nat) (ws b : Nat → Nat) (hb : B16 b) (hc : Ci W g k ws) :
    Calls Tryd.prog 24 #[.pointer (some ⟨g, 0, none⟩), .pointer (some ⟨lb, 0, none⟩), bv b] W fun e w' => e = .returned (.tuple #[bv (dec ws (k + 6) b), .int .i64 0]) ∧ Lg w w' lb (putL L ⟨5, ((4 * k : Nat) : Int), 1⟩) ∧ Ci w' g k ws ∧ Kt W w' := by
  refine (dec_ci (NS w) w W (some lb) L g k ws b hb hc h.lg h.kp hr hk (by have := hk.lt; unfold NS; omega)).mono ?_
  rintro e w' ⟨rfl, hl, hkp, ht⟩
  exact ⟨rfl, ⟨hl, hkp⟩, ⟨ht.2 _ _ _ hc.here (by decide) (by decide), hc.kk, hc.lt⟩, ht⟩
theorem Lg.wipe (h : Lg w W lb L) (hr : Room L) (g k : Nat) (ws : Nat → Nat) (hc : Ci W g k ws) (hg : w.heap.size ≤ g) :
    Calls Tryd.prog 19 #[.pointer (some ⟨g, 0, none⟩), .pointer (some ⟨lb, 0, none⟩)] W fun e w' => e = .returned (.int .i64 0) ∧ Lg w w' lb (putL L ⟨8, ((16 * (k + 7) : Nat) : Int), 1⟩) ∧ NoCi w' g ∧ Kx g W w' := by
  refine (wipe_ci (NS w) w W (some lb) L g k ws hc h.lg h.kp hr (fun e => by omega)).mono ?_
  rintro e w' ⟨rfl, hn, hl, hkp, ht⟩
  exact ⟨rfl, ⟨hl, hkp⟩, hn, ht⟩
theorem Lg.runs (h : Lg w W lb L) (hn : L.length ≤ 1000) : Calls Tryd.prog 15 #[.pointer (some ⟨lb, 0, none⟩)] W fun e w' => ∃ v, e = .returned v ∧ RB w' v L ∧ Below W.heap.size W w' := by
  obtain ⟨rv, hl⟩ := h.led
  refine (runs22 lb rv L W hl (by omega)).mono ?_
  rintro e w' ⟨v, rfl, ho, hb⟩
  exact ⟨v, rfl, ho.reads, hb⟩
theorem Lg.len (h : Lg w W lb L) : Calls Tryd.prog 21 #[.pointer (some ⟨lb, 0, none⟩)] W fun e w' => e = .returned (.int .i64 (tot L)) ∧ w' = W := by
  obtain ⟨rv, hl⟩ := h.led
  exact len20 lb rv L W hl
end
theorem sameL (a b : Value) (L : List Rn) (W : World) (ha : RB W a L) (hb : RB W b L) (hl : L.length < 1000000000000000000) : Calls Tryd.prog 14 #[a, b] W fun e w' => e = .returned (.bool true) ∧ ∃ d, w' = W.drewN d := by
  refine (same14 a b L L W ha hb hl hl).mono ?_
  rintro e w' ⟨rfl, d, rfl⟩
  exact ⟨by rw [decide_eq_true rfl], d, rfl⟩
theorem ev_ok (k s c : Int) (h1 : 0 ≤ k ∧ k < 256) (h2 : 0 ≤ s ∧ s ≤ 1000) (h3 : 0 ≤ c ∧ c ≤ 1000) : (⟨k, s, c⟩ : Rn).Ok :=
  ⟨h1, ⟨by show -9223372036854775808 ≤ s; omega, by show s ≤ 9223372036854775807; omega⟩, ⟨by show -9223372036854775808 ≤ c; omega, by show c ≤ 9223372036854775807; omega⟩⟩
set_option maxRecDepth 8000 in
set_option maxHeartbeats 2000000 in
theorem runsL (n c : Nat) (hn : n ≤ 100) (h0 : 1 ≤ c) (hc : c ≤ 10) (w : World) : Calls Tryd.prog 25 #[.int .i64 n, .int .i64 c] w fun e w' => ∃ v, e = .returned v ∧ Own w' w.heap.size v [⟨4, n, 1⟩, ⟨5, n, c⟩] ∧ Below w.heap.size w w' := by
  have O1 := hid ((own_lit w [⟨4, n, 1⟩] #[.int .u8 4, .int .i64 n, .int .i64 1] (fun r hr => by simp at hr; subst hr; exact ev_ok 4 n 1 (by omega) (by omega) (by omega)) rfl (by simp [maxLen])).alloc (.cells #[.int .u8 5, .int .i64 n, .int .i64 c] 70))
  have hd : decide ((0 : Int) < (c : Int)) = true := decide_eq_true (by omega)
  have hd2 : (0 : Int) < (c : Int) := by omega
  have HB := hid ((below_alloc w (.cells #[.int .u8 4, .int .i64 n, .int .i64 1] 70)).alloc (by simp) (.cells #[.int .u8 5, .int .i64 n, .int .i64 c] 70))
  go_enter Tryd.func25, Tryd.ntmps25
  go_wp2_with (at_builtin; go_must (refine wpList_push rfl _ _ rfl w.heap.size _ [⟨4, n, 1⟩] ⟨5, n, c⟩ O1.out (ev_ok 5 n c (by omega) (by omega) (by omega)) ?c1 ?c2 ⟨_, 0, none⟩ rfl rfl ?c3 ?_))
  case c1 => simp; omega
  case c2 => simp
  case c3 => exact cells_new' _ ⟨5, n, c⟩ _ (by simp)
  intro u' w1 hown hkp hson
  have R := hid hown
  have R2 := hid (HB.out.trans (hkp.below (by simp; omega) (fun k hk e => by simp [Value.ownBlock] at e; omega)))
  clear hown hkp hson
  go_wp2
  go_ret
  exact ⟨_, rfl, R.out, R2.out⟩
def szl : List Value := [.int .i64 0, .int .i64 15, .int .i64 17, .int .i64 33]
theorem make_n (n : Nat) (hn : n ≤ 100) (w : World) : (Instr.makeSlice 22 (.int .i64 n) (.int .i64 n)).run Tryd.prog w = .ok (.slice (some ⟨w.heap.size, 0, none⟩) n n) (w.alloc (.cells (bl n (cb nul)).toArray 5)) := by
  obtain ⟨i0, hi, hz0, hz1, hz2⟩ := info_parts info5
  have hr := run_make (P := Tryd.prog) w 22 5 i0 (.int .u8 0) Tryd.underlying22 hi hz0 .i64 .i64 n n (by omega) (by omega) (by rw [hz2]; omega) (by omega)
  have e : madeCells #[Value.int .u8 0] n = (bl n (cb nul)).toArray := by
    have h := bl_zero n
    have e2 : bl n (fun _ => (0 : Int)) = bl n (cb nul) := rfl
    rw [← e2, ← h]
  simp only [Int.toNat_natCast, hz1, Nat.mul_one, Value.cells, e] at hr
  exact hr
theorem room_of {L : List Rn} (h1 : tot L ≤ 1000) (h2 : L.length ≤ 1000) : Room L := ⟨by omega, by omega⟩
set_option maxRecDepth 8000 in
set_option maxHeartbeats 8000000 in
theorem known_walk (w : World) (hM : KM w) (hU : KU w) : Calls Tryd.prog 7 #[] w fun e w' => e = .returned (.bool true) ∧ Below w.heap.size w w' := by
  have HM := hid hM
  have HU := hid hU
  clear hM hU
  have A0 := hid (Blk.newAt w _ szl 3 _ rfl (show #[Value.int IntKind.i64 0, Value.int IntKind.i64 15, Value.int IntKind.i64 17, Value.int IntKind.i64 33] = szl.toArray from rfl))
  have HA := hid (below_alloc w (.cells #[Value.int IntKind.i64 0, Value.int IntKind.i64 15, Value.int IntKind.i64 17, Value.int IntKind.i64 33] 3))
  go_enter Tryd.func7, Tryd.ntmps7
  go_wp2_with fail
  generalize w.alloc (.cells #[Value.int IntKind.i64 0, Value.int IntKind.i64 15, Value.int IntKind.i64 17, Value.int IntKind.i64 33] 3) = W1 at *
  go_loopw [2] (fun i wr => ∃ j : Nat, j ≤ 4 ∧ i = .int .i64 j ∧ Blk wr w.heap.size szl 3 ∧ Below w.heap.size w wr) (fun i _ => 4 - (intOf i).toNat)
  case atStart => exact ⟨0, by omega, rfl, A0.out, HA.out⟩
  case round =>
    clear A0 HA
    obtain ⟨j, hj, rfl, b0, hbel⟩ := hrel
    have B0 := hid b0
    have HB := hid hbel
    clear b0 hbel
    by_cases hlt : j < 4
    · have hcase : j = 0 ∨ j = 1 ∨ j = 2 ∨ j = 3 := by omega
      clear hlt hj
      rcases hcase with rfl | rfl | rfl | rfl
      · have c1 := B0.out.cell 0 (.int .i64 0) rfl
        have mk := fun w => make_n 0 (by omega) w
        rw [show ((0 : Nat) : Int) = 0 from rfl] at mk
        have B2 := hid (B0.out.alloc (.cells (bl 0 (cb nul)).toArray 5))
        have H2 := hid (below_next HB.out (below_alloc wr (.cells (bl 0 (cb nul)).toArray 5)))
        go_wp2_with fail
        refine (new_bad _ _ 0 0 _ (by decide) (by decide) (by decide)).mono ?_
        rintro e w' ⟨rfl, hw'⟩
        subst w'
        go_wp2_with fail
        exact ⟨⟨0 + 1, by omega, rfl, B2.out, H2.out⟩, by simp [intOf]⟩
      · have c1 := B0.out.cell 1 (.int .i64 15) rfl
        have mk := fun w => make_n 15 (by omega) w
        rw [show ((15 : Nat) : Int) = 15 from rfl] at mk
        have B2 := hid (B0.out.alloc (.cells (bl 15 (cb nul)).toArray 5))
        have H2 := hid (below_next HB.out (below_alloc wr (.cells (bl 15 (cb nul)).toArray 5)))
        go_wp2_with fail
        refine (new_bad _ _ 15 15 _ (by decide) (by decide) (by decide)).mono ?_
        rintro e w' ⟨rfl, hw'⟩
        subst w'
        go_wp2_with fail
        exact ⟨⟨1 + 1, by omega, rfl, B2.out, H2.out⟩, by simp [intOf]⟩
      · have c1 := B0.out.cell 2 (.int .i64 17) rfl
        have mk := fun w => make_n 17 (by omega) w
        rw [show ((17 : Nat) : Int) = 17 from rfl] at mk
        have B2 := hid (B0.out.alloc (.cells (bl 17 (cb nul)).toArray 5))
        have H2 := hid (below_next HB.out (below_alloc wr (.cells (bl 17 (cb nul)).toArray 5)))
        go_wp2_with fail
        refine (new_bad _ _ 17 17 _ (by decide) (by decide) (by decide)).mono ?_
        rintro e w' ⟨rfl, hw'⟩
        subst w'
        go_wp2_with fail
        exact ⟨⟨2 + 1, by omega, rfl, B2.out, H2.out⟩, by simp [intOf]⟩
      · have c1 := B0.out.cell 3 (.int .i64 33) rfl
        have mk := fun w => make_n 33 (by omega) w
        rw [show ((33 : Nat) : Int) = 33 from rfl] at mk
        have B2 := hid (B0.out.alloc (.cells (bl 33 (cb nul)).toArray 5))
        have H2 := hid (below_next HB.out (below_alloc wr (.cells (bl 33 (cb nul)).toArray 5)))
        go_wp2_with fail
        refine (new_bad _ _ 33 33 _ (by decide) (by decide) (by decide)).mono ?_
        rintro e w' ⟨rfl, hw'⟩
        subst w'
        go_wp2_with fail
        exact ⟨⟨3 + 1, by omega, rfl, B2.out, H2.out⟩, by simp [intOf]⟩
    · have ej : j = 4 := by omega
      subst ej
      go_wp2_with fail
      refine (newL w wr HB.out).mono ?_
      rintro e W2 ⟨rfl, g2, b2⟩
      have G2 := hid g2
      have mk := fun w => make_n 16 (by omega) w
      rw [show ((16 : Nat) : Int) = 16 from rfl] at mk
      have N2 := hid (Blk.newAt W2 _ (bl 16 (cb nul)) 5 _ rfl rfl)
      have G3 := hid (G2.out.below (below_alloc W2 (.cells (bl 16 (cb nul)).toArray 5)))
      clear g2 b2
      generalize hlb : wr.heap.size = lb at *
      clear hlb
      have NC := hid (G3.out.new (room_of (by decide) (by decide)) 4 (.inl rfl) nul (fun _ => Nat.zero_lt_succ _) W2.heap.size 0 16 (by omega) (fun V hv ht i hi => by rw [Nat.zero_add]; exact (ht.2 _ _ _ N2.out (by decide) (by decide)).cell i _ (bl_get 16 _ i hi)))
      have H2 := hid G2.out.bel
      clear G2
      go_wp2_with fail
      refine NC.out.mono ?_
      rintro e W4 ⟨g, rfl, c4, hg, g4, t4⟩
      have hgw := hid (show w.heap.size ≤ g from Nat.le_trans H2.out.size (Nat.le_trans (by simp) hg))
      have C4 := hid c4
      have G4 := hid g4
      clear c4 hg g4 t4 NC G3 N2 mk
      go_wp2_with fail
      refine (G4.out.enc (room_of (by decide) (by decide)) HM.out g 4 _ nul (fun _ _ => Nat.zero_lt_succ _) C4.out).mono ?_
      rintro e W5 ⟨rfl, g5, c5, t5⟩
      have C5 := hid c5
      have G5 := hid g5
      clear g5 c5 t5 G4 C4
      go_wp2_with fail
      refine (G5.out.dec (room_of (by decide) (by decide)) HU.out g 4 _ nul (fun _ _ => Nat.zero_lt_succ _) C5.out).mono ?_
      rintro e W6 ⟨rfl, g6, c6, t6⟩
      have C6 := hid c6
      have G6 := hid g6
      clear g6 c6 t6 G5 C5
      go_wp2_with fail
      refine (G6.out.wipe (room_of (by decide) (by decide)) g 4 _ C6.out hgw.out).mono ?_
      rintro e W7 ⟨rfl, g7, n7, t7⟩
      have G7 := hid (show Lg w W7 lb [⟨4, 16, 1⟩, ⟨5, 16, 2⟩, ⟨8, 176, 1⟩] from g7)
      have N7 := hid n7
      clear g7 n7 t7 G6 C6
      go_wp2_with fail
      refine (runsL 16 2 (by omega) (by omega) (by omega) W7).mono ?_
      rintro e W8 ⟨v8, rfl, o8, b8⟩
      have O8 := hid (o8.alloc (.cells #[.int .u8 8, .int .i64 176, .int .i64 1] 70))
      have B8 := hid (below_next b8 (below_alloc W8 (.cells #[.int .u8 8, .int .i64 176, .int .i64 1] 70)))
      have hz8 := hid b8.size
      clear o8 b8
      go_wp2_with (at_builtin; go_must (refine wpList_push rfl _ _ rfl W7.heap.size _ [⟨4, 16, 1⟩, ⟨5, 16, 2⟩] ⟨8, 176, 1⟩ O8.out (ev_ok 8 176 1 (by omega) (by omega) (by omega)) ?c1 ?c2 ⟨_, 0, none⟩ rfl rfl ?c3 ?_))
      case c1 => simp; have := hz8.out; omega
      case c2 => decide
      case c3 => exact cells_new' _ ⟨8, 176, 1⟩ _ rfl
      intro u9 W9 hown hkp hson
      have O9 := hid hown
      have B9 := hid (B8.out.trans (hkp.below B8.out.size (fun k hk e => by
        rcases O8.out.shape with ⟨h, _⟩ | ⟨g', cap, h, hb, _⟩
        · rw [h] at e; simp [Value.ownBlock] at e
        · rw [h] at e; simp [Value.ownBlock] at e; omega)))
      have G9 := hid (G7.out.below B9.out)
      have N9 := hid (N7.out.below B9.out)
      clear hown hkp hson O8 B8 B9 G7 N7
      go_wp2_with fail
      refine (awake1 W9 (G9.out.km HM.out)).mono ?_
      rintro e W10 ⟨rfl, b10⟩
      have G10 := hid (G9.out.below b10)
      have O10 := hid (O9.out.below b10)
      have N10 := hid (N9.out.below b10)
      clear b10 G9 O9 N9
      go_wp2_with fail
      refine (G10.out.runs (by decide)).mono ?_
      rintro e W11 ⟨v11, rfl, r11, b11⟩
      have G11 := hid (G10.out.below b11)
      have R11 := hid r11
      have O11 := hid (O10.out.below b11)
      have N11 := hid (N10.out.below b11)
      clear r11 b11 G10 O10 N10
      go_wp2_with fail
      refine (sameL v11 u9 [⟨4, 16, 1⟩, ⟨5, 16, 2⟩, ⟨8, 176, 1⟩] W11 R11.out O11.out.reads (by decide)).mono ?_
      rintro e W12 ⟨rfl, d, rfl⟩
      go_wp2_with fail
      refine (keyLen_no g _ (N11.out.below (below_drewN W11 d)).c0).mono ?_
      rintro e w' ⟨rfl, hw'⟩
      subst w'
      go_wp2_with fail
      go_ret
      exact ⟨rfl, below_drew' G11.out.bel d⟩
end Go.Proofs.YtbommnigljmfkaaDoor.Ae
