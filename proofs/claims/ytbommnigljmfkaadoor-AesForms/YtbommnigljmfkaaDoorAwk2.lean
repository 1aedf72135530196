/- The calls without a ledger; the statements' helper 'awake' answers true. -/
import Derived.Test.YtbommnigljmfkaaDoorAwk
namespace Go.Proofs.YtbommnigljmfkaaDoor.Ae
open Go.ChangeShapes Go.WideShapes Go.ChangeAt Go.RowKit
open Go.Proofs.YtbommnigljmfkaaDoor.By Go.Proofs.YtbommnigljmfkaaDoor.Gf
open Go.Proofs.YtbommnigljmfkaaDoor.Kc (own_kept own_mono own8_type cat cat_bound wpList_cat below_grow)
theorem new_ok (S : Nat → Prop) (w0 w : World) (lo : Option Nat) (L : List Rn) (k : Nat) (hk : k = 4 ∨ k = 6 ∨ k = 8) (key : Nat → Nat) (hkey : ∀ i, key i < 256) (kb ko cap : Nat) (hc : 4 * k ≤ cap) (h : LG S w0 w lo L) (h0 : Kp S w0 w) (hr : Room L)
    (hcell : ∀ W, Kp S w0 W → Kt w W → ∀ i, i < 4 * k → W.cell? ⟨kb, ko + i, none⟩ = some (.int .u8 (key i : Nat))) :
    Calls Tryd.prog 18 #[lpv lo, .slice (some ⟨kb, ko, none⟩) (4 * k) cap] w fun e w' => ∃ g, e = .returned (.tuple #[.pointer (some ⟨g, 0, none⟩), .int .i64 0]) ∧ Ci w' g k (rk k key) ∧ w.heap.size ≤ g ∧ LG S w0 w' lo (putL L ⟨4, ((4 * k : Nat) : Int), 1⟩) ∧ Kp S w0 w' ∧ Kt w w' := by
  rcases hk with rfl | rfl | rfl
  · exact new_ok16 S w0 w lo L key hkey kb ko cap hc h h0 hr hcell
  · exact new_ok24 S w0 w lo L key hkey kb ko cap hc h h0 hr hcell
  · exact new_ok32 S w0 w lo L key hkey kb ko cap hc h h0 hr hcell
theorem room0 : Room [] := ⟨by show (0 : Int) ≤ _; decide, by decide⟩
theorem below_kp {w w' : World} (h : Kp (fun _ => False) w w') : Below w.heap.size w w' := h.below (Nat.le_refl _) (fun _ _ e => e)
theorem newN (k : Nat) (hk : k = 4 ∨ k = 6 ∨ k = 8) (key : Nat → Nat) (hkey : ∀ i, key i < 256) (kb ko cap : Nat) (hc : 4 * k ≤ cap) (w : World) (hcell : ∀ i, i < 4 * k → w.cell? ⟨kb, ko + i, none⟩ = some (.int .u8 (key i : Nat))) :
    Calls Tryd.prog 18 #[.pointer none, .slice (some ⟨kb, ko, none⟩) (4 * k) cap] w fun e w' => ∃ g, e = .returned (.tuple #[.pointer (some ⟨g, 0, none⟩), .int .i64 0]) ∧ Ci w' g k (rk k key) ∧ w.heap.size ≤ g ∧ Below w.heap.size w w' := by
  have hb := block_lt_of_cell (hcell 0 (by omega))
  refine (new_ok (fun _ => False) w w none [] k hk key hkey kb ko cap hc trivial (Kp.refl _ _) room0 (fun W h _ i hi => ?_)).mono ?_
  · exact ((below_kp h).cell (p := ⟨kb, ko + i, none⟩) hb).trans (hcell i hi)
  · rintro e w' ⟨g, rfl, hc, hg, _, hkp, _⟩
    exact ⟨g, rfl, hc, hg, below_kp hkp⟩
theorem encN (g k : Nat) (ws b : Nat → Nat) (w : World) (hb : B16 b) (hc : Ci w g k ws) (hk : KM w) : Calls Tryd.prog 22 #[.pointer (some ⟨g, 0, none⟩), .pointer none, bv b] w fun e w' => e = .returned (.tuple #[bv (enc ws (k + 6) b), .int .i64 0]) ∧ Below w.heap.size w w' := by
  refine (enc_ci (fun _ => False) w w none [] g k ws b hb hc trivial (Kp.refl _ _) room0 hk id).mono ?_
  rintro e w' ⟨rfl, _, hkp, _⟩
  exact ⟨rfl, below_kp hkp⟩
/-- With a cipher's own round keys a block is enciphered as the numbers say. -/
theorem enc_rk (k : Nat) (key b : Nat → Nat) : E16 (enc (rk k key) (k + 6) b) (enc (wds k key (3 * k + 28)) (k + 6) b) :=
  enc_k (fun p hp => by unfold rk; rw [upto_get _ _ _ (by omega)]) b
theorem dec_rk (k : Nat) (key b : Nat → Nat) : E16 (dec (rk k key) (k + 6) b) (dec (wds k key (3 * k + 28)) (k + 6) b) :=
  dec_k (fun p hp => by unfold rk; rw [upto_get _ _ _ (by omega)]) b
theorem ris1 (i : Nat) (h : i < 40) : ris 1 i = i := by unfold ris; omega
theorem blk17 (i : Nat) (h : i < 16) : blk 16 (kf (cb (ris 17))) i = 17 * i := by
  unfold blk
  rw [if_pos h, kf_cb]
  unfold ris
  omega
theorem want0 : E16 (enc (rk 4 (kf (cb (ris 1)))) (4 + 6) (blk 16 (kf (cb (ris 17))))) (fun j => wnt (16 * 0 + j)) := by
  refine (enc_rk 4 _ _).trans ((aes128 _ _ (fun p hp => by rw [kf_cb]; exact ris1 p (by omega)) (fun i hi => blk17 i hi)).trans (fun j hj => ?_))
  have h : ∀ j, j < 16 → ofl [105, 196, 224, 216, 106, 123, 4, 48, 216, 205, 183, 128, 112, 180, 197, 90] j = wnt (16 * 0 + j) := by decide
  exact h j hj
theorem want1 : E16 (enc (rk 6 (kf (cb (ris 1)))) (6 + 6) (blk 16 (kf (cb (ris 17))))) (fun j => wnt (16 * 1 + j)) := by
  refine (enc_rk 6 _ _).trans ((aes192 _ _ (fun p hp => by rw [kf_cb]; exact ris1 p (by omega)) (fun i hi => blk17 i hi)).trans (fun j hj => ?_))
  have h : ∀ j, j < 16 → ofl [221, 169, 124, 164, 134, 76, 223, 224, 110, 175, 112, 160, 236, 13, 113, 145] j = wnt (16 * 1 + j) := by decide
  exact h j hj
theorem want2 : E16 (enc (rk 8 (kf (cb (ris 1)))) (8 + 6) (blk 16 (kf (cb (ris 17))))) (fun j => wnt (16 * 2 + j)) := by
  refine (enc_rk 8 _ _).trans ((aes256 _ _ (fun p hp => by rw [kf_cb]; exact ris1 p (by omega)) (fun i hi => blk17 i hi)).trans (fun j hj => ?_))
  have h : ∀ j, j < 16 → ofl [142, 162, 183, 202, 81, 103, 69, 191, 234, 252, 73, 144, 75, 73, 96, 137] j = wnt (16 * 2 + j) := by decide
  exact h j hj
theorem own_at {w : World} {B n : Nat} {v : Value} {f : Nat → Int} (h : By.Own w B v n f) (hn : 0 < n) : ∃ g cap, v = .slice (some ⟨g, 0, none⟩) n cap ∧ n ≤ cap ∧ ∀ i, i < n → w.cell? ⟨g, 0 + i, none⟩ = some (.int .u8 ((kf f i : Nat) : Int)) := by
  rcases h.shape with ⟨_, h0⟩ | ⟨g, cap, rfl, _, _, hc, _, hcell, _⟩
  · omega
  · exact ⟨g, cap, rfl, hc, fun i hi => by rw [Nat.zero_add, kf_eq h.1]; exact hcell i hi⟩
theorem eqb_false {f g : Nat → Nat} (h : ¬ E16 f g) : eqb f g = false := by
  rw [← Bool.not_eq_true]; exact fun e => h ((eqb_iff f g).1 e)
set_option maxRecDepth 8000 in
set_option maxHeartbeats 8000000 in
theorem awake1 (w : World) (hkm : KM w) : Calls Tryd.prog 17 #[] w fun e w' => e = .returned (.bool true) ∧ Below w.heap.size w w' := by
  have A0 := hid (Blk.newAt w _ _ 86 _ rfl zn48)
  have s1 := SVy_run (cs := bl 48 (cb wnt)) (A0.out.there 0 48 (by rw [bl_length]; omega)) (bl_length _ _) (bl_one _ _)
  have b1 := A0.out.put 0 (bl 48 (cb wnt))
  rw [put_all _ _ (by rw [bl_length, bl_length])] at b1
  have A1 := hid b1
  have HA := hid (below_cells (below_alloc w (.cells #[Value.int IntKind.u8 0, Value.int IntKind.u8 0, Value.int IntKind.u8 0, Value.int IntKind.u8 0, Value.int IntKind.u8 0, Value.int IntKind.u8 0, Value.int IntKind.u8 0, Value.int IntKind.u8 0, Value.int IntKind.u8 0, Value.int IntKind.u8 0, Value.int IntKind.u8 0, Value.int IntKind.u8 0, Value.int IntKind.u8 0, Value.int IntKind.u8 0, Value.int IntKind.u8 0, Value.int IntKind.u8 0, Value.int IntKind.u8 0, Value.int IntKind.u8 0, Value.int IntKind.u8 0, Value.int IntKind.u8 0, Value.int IntKind.u8 0, Value.int IntKind.u8 0, Value.int IntKind.u8 0, Value.int IntKind.u8 0, Value.int IntKind.u8 0, Value.int IntKind.u8 0, Value.int IntKind.u8 0, Value.int IntKind.u8 0, Value.int IntKind.u8 0, Value.int IntKind.u8 0, Value.int IntKind.u8 0, Value.int IntKind.u8 0, Value.int IntKind.u8 0, Value.int IntKind.u8 0, Value.int IntKind.u8 0, Value.int IntKind.u8 0, Value.int IntKind.u8 0, Value.int IntKind.u8 0, Value.int IntKind.u8 0, Value.int IntKind.u8 0, Value.int IntKind.u8 0, Value.int IntKind.u8 0, Value.int IntKind.u8 0, Value.int IntKind.u8 0, Value.int IntKind.u8 0, Value.int IntKind.u8 0, Value.int IntKind.u8 0, Value.int IntKind.u8 0] 86)) w.heap.size 0 (bl 48 (cb wnt)) (Nat.le_refl _) (by simp))
  rw [← wn48] at s1
  have HK := hid hkm
  clear b1 A0 hkm
  go_enter Tryd.func17, Tryd.ntmps17
  go_wp2_with fail
  generalize (w.alloc (Obj.cells #[Value.int IntKind.u8 0, Value.int IntKind.u8 0, Value.int IntKind.u8 0, Value.int IntKind.u8 0, Value.int IntKind.u8 0, Value.int IntKind.u8 0, Value.int IntKind.u8 0, Value.int IntKind.u8 0, Value.int IntKind.u8 0, Value.int IntKind.u8 0, Value.int IntKind.u8 0, Value.int IntKind.u8 0, Value.int IntKind.u8 0, Value.int IntKind.u8 0, Value.int IntKind.u8 0, Value.int IntKind.u8 0, Value.int IntKind.u8 0, Value.int IntKind.u8 0, Value.int IntKind.u8 0, Value.int IntKind.u8 0, Value.int IntKind.u8 0, Value.int IntKind.u8 0, Value.int IntKind.u8 0, Value.int IntKind.u8 0, Value.int IntKind.u8 0, Value.int IntKind.u8 0, Value.int IntKind.u8 0, Value.int IntKind.u8 0, Value.int IntKind.u8 0, Value.int IntKind.u8 0, Value.int IntKind.u8 0, Value.int IntKind.u8 0, Value.int IntKind.u8 0, Value.int IntKind.u8 0, Value.int IntKind.u8 0, Value.int IntKind.u8 0, Value.int IntKind.u8 0, Value.int IntKind.u8 0, Value.int IntKind.u8 0, Value.int IntKind.u8 0, Value.int IntKind.u8 0, Value.int IntKind.u8 0, Value.int IntKind.u8 0, Value.int IntKind.u8 0, Value.int IntKind.u8 0, Value.int IntKind.u8 0, Value.int IntKind.u8 0, Value.int IntKind.u8 0] 86)).setCells w.heap.size 0 (bl 48 (cb wnt)) = W1 at *
  clear s1
  go_loopw [2] (fun i wr => ∃ j : Nat, j ≤ 3 ∧ i = .int .i64 j ∧ Blk wr w.heap.size (bl 48 (cb wnt)) 86 ∧ Below w.heap.size w wr) (fun i _ => 3 - (intOf i).toNat)
  case atStart => exact ⟨0, by omega, rfl, A1.out, HA.out⟩
  case round =>
    clear A1 HA
    obtain ⟨j, hj, rfl, b0, hbel⟩ := hrel
    have B0 := hid b0
    have HB := hid hbel
    have HM := hid (HK.out.kept (Kp.of_below (fun _ => False) hbel) id)
    clear b0 hbel
    by_cases hlt : j < 3
    · have hcase : j = 0 ∨ j = 1 ∨ j = 2 := by omega
      clear hlt hj
      rcases hcase with rfl | rfl | rfl
      · go_wp2_with fail
        refine (rising1 16 1 (by omega) (by omega) _).mono ?_
        rintro e W2 ⟨v2, rfl, o2, h2⟩
        obtain ⟨kb, cap, rfl, hcap, hcell⟩ := own_at o2 (by omega)
        have B2 := hid (B0.out.below h2)
        have H2 := hid (below_next HB.out h2)
        have M2 := hid (HM.out.kept (Kp.of_below (fun _ => False) h2) id)
        have NC := hid (newN 4 (.inl rfl) (kf (cb (ris 1))) (fun i => by rw [kf_cb]; exact ris_lt 1 i) kb 0 cap hcap W2 hcell)
        clear o2 h2 hcell hcap B0 HB HM
        go_wp2_with fail
        refine NC.out.mono ?_
        rintro e W3 ⟨g, rfl, c3, _, h3⟩
        have C3 := hid c3
        have B3 := hid (B2.out.below h3)
        have H3 := hid (below_next H2.out h3)
        have M3 := hid (M2.out.kept (Kp.of_below (fun _ => False) h3) id)
        clear c3 h3 B2 H2 M2 NC
        go_wp2_with fail
        refine (rising1 16 17 (by omega) (by omega) _).mono ?_
        rintro e W4 ⟨v4, rfl, o4, h4⟩
        have C4 := hid (C3.out.below h4)
        have B4 := hid (B3.out.below h4)
        have H4 := hid (below_next H3.out h4)
        have M4 := hid (M3.out.kept (Kp.of_below (fun _ => False) h4) id)
        have R4 := hid o4.reads
        clear o4 h4 C3 B3 H3 M3
        go_wp2_with fail
        refine (block1 v4 16 (cb (ris 17)) _ R4.out (by omega)).mono ?_
        rintro e W5 ⟨rfl, h5⟩
        have C5 := hid (C4.out.below h5)
        have B5 := hid (B4.out.below h5)
        have H5 := hid (below_next H4.out h5)
        have M5 := hid (M4.out.kept (Kp.of_below (fun _ => False) h5) id)
        clear h5 C4 B4 H4 M4 R4
        go_wp2_with fail
        refine (encN g 4 _ _ _ (blk_b 16 _ (fun i => by rw [kf_cb]; exact ris_lt 17 i)) C5.out M5.out).mono ?_
        rintro e W6 ⟨rfl, h6⟩
        have B6 := hid (B5.out.below h6)
        have H6 := hid (below_next H5.out h6)
        clear h6 C5 B5 H5 M5
        have N6 := hid (Blk.newAt W6 _ _ 58 _ rfl zeroN)
        obtain ⟨z, ez⟩ : ∃ z, enc (rk 4 (kf (cb (ris 1)))) (4 + 6) (blk 16 (kf (cb (ris 17)))) = z := ⟨_, rfl⟩
        rw [ez]
        obtain ⟨y, ey⟩ : ∃ y, (fun j => wnt (16 * 0 + j)) = y := ⟨_, rfl⟩
        have EQ := eqb_true (show E16 z y from by rw [← ez, ← ey]; exact want0)
        clear ez
        have s6 : (SVb ⟨W6.heap.size, 0, none⟩ (bv z)).run Tryd.prog _ = _ := SVb_run (cs := bl 16 (cb z)) (N6.out.there 0 16 (by rw [bl_length]; omega)) (bl_length _ _) (bl_one _ _)
        have b7 := N6.out.put 0 (bl 16 (cb z))
        rw [put_all _ _ (by rw [bl_length, bl_length])] at b7
        have K7 := hid (below_cells (below_alloc W6 (.cells #[Value.int IntKind.u8 0, Value.int IntKind.u8 0, Value.int IntKind.u8 0, Value.int IntKind.u8 0, Value.int IntKind.u8 0, Value.int IntKind.u8 0, Value.int IntKind.u8 0, Value.int IntKind.u8 0, Value.int IntKind.u8 0, Value.int IntKind.u8 0, Value.int IntKind.u8 0, Value.int IntKind.u8 0, Value.int IntKind.u8 0, Value.int IntKind.u8 0, Value.int IntKind.u8 0, Value.int IntKind.u8 0] 58)) W6.heap.size 0 (bl 16 (cb z)) (Nat.le_refl _) (by simp))
        have B7 := hid (B6.out.below K7.out)
        have H7 := hid (below_next H6.out K7.out)
        generalize hW7 : (W6.alloc (Obj.cells #[Value.int IntKind.u8 0, Value.int IntKind.u8 0, Value.int IntKind.u8 0, Value.int IntKind.u8 0, Value.int IntKind.u8 0, Value.int IntKind.u8 0, Value.int IntKind.u8 0, Value.int IntKind.u8 0, Value.int IntKind.u8 0, Value.int IntKind.u8 0, Value.int IntKind.u8 0, Value.int IntKind.u8 0, Value.int IntKind.u8 0, Value.int IntKind.u8 0, Value.int IntKind.u8 0, Value.int IntKind.u8 0] 58)).setCells W6.heap.size 0 (bl 16 (cb z)) = W7 at *
        have l7 : (LDb ⟨W6.heap.size, 0, none⟩).run Tryd.prog W7.drew = .ok (bv z) W7.drew := LDb_run (range0 (b7.drewN 1)) (bl_length _ _)
        have m7 : (LDb ⟨w.heap.size, 16 * 0, none⟩).run Tryd.prog W7.drew = .ok (bv (fun j => wnt (16 * 0 + j))) W7.drew := LDb_run ((B7.out.drewN 1).range (16 * 0) (bl 16 (cb fun j => wnt (16 * 0 + j))) (fun j v hv => by obtain ⟨hj, rfl⟩ := bl_get_inv _ _ _ _ hv; exact bl_get 48 _ _ (by omega))) (bl_length _ _)
        rw [show 16 * 0 = 0 from rfl] at m7
        rw [show (fun j => wnt (0 + j)) = y from ey] at m7
        clear ey
        clear b7 K7 B6 H6 N6 hW7
        go_wp2_with fail
        go_region
        all_goals
          go_simp
          go_wp2_with fail
          exact ⟨⟨0 + 1, by omega, rfl, B7.out.drewN 1, below_dr H7.out⟩, by simp [intOf]⟩
      · go_wp2_with fail
        refine (rising1 24 1 (by omega) (by omega) _).mono ?_
        rintro e W2 ⟨v2, rfl, o2, h2⟩
        obtain ⟨kb, cap, rfl, hcap, hcell⟩ := own_at o2 (by omega)
        have B2 := hid (B0.out.below h2)
        have H2 := hid (below_next HB.out h2)
        have M2 := hid (HM.out.kept (Kp.of_below (fun _ => False) h2) id)
        have NC := hid (newN 6 (.inr (.inl rfl)) (kf (cb (ris 1))) (fun i => by rw [kf_cb]; exact ris_lt 1 i) kb 0 cap hcap W2 hcell)
        clear o2 h2 hcell hcap B0 HB HM
        go_wp2_with fail
        refine NC.out.mono ?_
        rintro e W3 ⟨g, rfl, c3, _, h3⟩
        have C3 := hid c3
        have B3 := hid (B2.out.below h3)
        have H3 := hid (below_next H2.out h3)
        have M3 := hid (M2.out.kept (Kp.of_below (fun _ => False) h3) id)
        clear c3 h3 B2 H2 M2 NC
        go_wp2_with fail
        refine (rising1 16 17 (by omega) (by omega) _).mono ?_
        rintro e W4 ⟨v4, rfl, o4, h4⟩
        have C4 := hid (C3.out.below h4)
        have B4 := hid (B3.out.below h4)
        have H4 := hid (below_next H3.out h4)
        have M4 := hid (M3.out.kept (Kp.of_below (fun _ => False) h4) id)
        have R4 := hid o4.reads
        clear o4 h4 C3 B3 H3 M3
        go_wp2_with fail
        refine (block1 v4 16 (cb (ris 17)) _ R4.out (by omega)).mono ?_
        rintro e W5 ⟨rfl, h5⟩
        have C5 := hid (C4.out.below h5)
        have B5 := hid (B4.out.below h5)
        have H5 := hid (below_next H4.out h5)
        have M5 := hid (M4.out.kept (Kp.of_below (fun _ => False) h5) id)
        clear h5 C4 B4 H4 M4 R4
        go_wp2_with fail
        refine (encN g 6 _ _ _ (blk_b 16 _ (fun i => by rw [kf_cb]; exact ris_lt 17 i)) C5.out M5.out).mono ?_
        rintro e W6 ⟨rfl, h6⟩
        have B6 := hid (B5.out.below h6)
        have H6 := hid (below_next H5.out h6)
        clear h6 C5 B5 H5 M5
        have N6 := hid (Blk.newAt W6 _ _ 58 _ rfl zeroN)
        obtain ⟨z, ez⟩ : ∃ z, enc (rk 6 (kf (cb (ris 1)))) (6 + 6) (blk 16 (kf (cb (ris 17)))) = z := ⟨_, rfl⟩
        rw [ez]
        obtain ⟨y, ey⟩ : ∃ y, (fun j => wnt (16 * 1 + j)) = y := ⟨_, rfl⟩
        have EQ := eqb_true (show E16 z y from by rw [← ez, ← ey]; exact want1)
        clear ez
        have s6 : (SVb ⟨W6.heap.size, 0, none⟩ (bv z)).run Tryd.prog _ = _ := SVb_run (cs := bl 16 (cb z)) (N6.out.there 0 16 (by rw [bl_length]; omega)) (bl_length _ _) (bl_one _ _)
        have b7 := N6.out.put 0 (bl 16 (cb z))
        rw [put_all _ _ (by rw [bl_length, bl_length])] at b7
        have K7 := hid (below_cells (below_alloc W6 (.cells #[Value.int IntKind.u8 0, Value.int IntKind.u8 0, Value.int IntKind.u8 0, Value.int IntKind.u8 0, Value.int IntKind.u8 0, Value.int IntKind.u8 0, Value.int IntKind.u8 0, Value.int IntKind.u8 0, Value.int IntKind.u8 0, Value.int IntKind.u8 0, Value.int IntKind.u8 0, Value.int IntKind.u8 0, Value.int IntKind.u8 0, Value.int IntKind.u8 0, Value.int IntKind.u8 0, Value.int IntKind.u8 0] 58)) W6.heap.size 0 (bl 16 (cb z)) (Nat.le_refl _) (by simp))
        have B7 := hid (B6.out.below K7.out)
        have H7 := hid (below_next H6.out K7.out)
        generalize hW7 : (W6.alloc (Obj.cells #[Value.int IntKind.u8 0, Value.int IntKind.u8 0, Value.int IntKind.u8 0, Value.int IntKind.u8 0, Value.int IntKind.u8 0, Value.int IntKind.u8 0, Value.int IntKind.u8 0, Value.int IntKind.u8 0, Value.int IntKind.u8 0, Value.int IntKind.u8 0, Value.int IntKind.u8 0, Value.int IntKind.u8 0, Value.int IntKind.u8 0, Value.int IntKind.u8 0, Value.int IntKind.u8 0, Value.int IntKind.u8 0] 58)).setCells W6.heap.size 0 (bl 16 (cb z)) = W7 at *
        have l7 : (LDb ⟨W6.heap.size, 0, none⟩).run Tryd.prog W7.drew = .ok (bv z) W7.drew := LDb_run (range0 (b7.drewN 1)) (bl_length _ _)
        have m7 : (LDb ⟨w.heap.size, 16 * 1, none⟩).run Tryd.prog W7.drew = .ok (bv (fun j => wnt (16 * 1 + j))) W7.drew := LDb_run ((B7.out.drewN 1).range (16 * 1) (bl 16 (cb fun j => wnt (16 * 1 + j))) (fun j v hv => by obtain ⟨hj, rfl⟩ := bl_get_inv _ _ _ _ hv; exact bl_get 48 _ _ (by omega))) (bl_length _ _)
        rw [show 16 * 1 = 16 from rfl] at m7
        rw [show (fun j => wnt (16 + j)) = y from ey] at m7
        clear ey
        clear b7 K7 B6 H6 N6 hW7
        go_wp2_with fail
        go_region
        all_goals
          go_simp
          go_wp2_with fail
          exact ⟨⟨1 + 1, by omega, rfl, B7.out.drewN 1, below_dr H7.out⟩, by simp [intOf]⟩
      · go_wp2_with fail
        refine (rising1 32 1 (by omega) (by omega) _).mono ?_
        rintro e W2 ⟨v2, rfl, o2, h2⟩
        obtain ⟨kb, cap, rfl, hcap, hcell⟩ := own_at o2 (by omega)
        have B2 := hid (B0.out.below h2)
        have H2 := hid (below_next HB.out h2)
        have M2 := hid (HM.out.kept (Kp.of_below (fun _ => False) h2) id)
        have NC := hid (newN 8 (.inr (.inr rfl)) (kf (cb (ris 1))) (fun i => by rw [kf_cb]; exact ris_lt 1 i) kb 0 cap hcap W2 hcell)
        clear o2 h2 hcell hcap B0 HB HM
        go_wp2_with fail
        refine NC.out.mono ?_
        rintro e W3 ⟨g, rfl, c3, _, h3⟩
        have C3 := hid c3
        have B3 := hid (B2.out.below h3)
        have H3 := hid (below_next H2.out h3)
        have M3 := hid (M2.out.kept (Kp.of_below (fun _ => False) h3) id)
        clear c3 h3 B2 H2 M2 NC
        go_wp2_with fail
        refine (rising1 16 17 (by omega) (by omega) _).mono ?_
        rintro e W4 ⟨v4, rfl, o4, h4⟩
        have C4 := hid (C3.out.below h4)
        have B4 := hid (B3.out.below h4)
        have H4 := hid (below_next H3.out h4)
        have M4 := hid (M3.out.kept (Kp.of_below (fun _ => False) h4) id)
        have R4 := hid o4.reads
        clear o4 h4 C3 B3 H3 M3
        go_wp2_with fail
        refine (block1 v4 16 (cb (ris 17)) _ R4.out (by omega)).mono ?_
        rintro e W5 ⟨rfl, h5⟩
        have C5 := hid (C4.out.below h5)
        have B5 := hid (B4.out.below h5)
        have H5 := hid (below_next H4.out h5)
        have M5 := hid (M4.out.kept (Kp.of_below (fun _ => False) h5) id)
        clear h5 C4 B4 H4 M4 R4
        go_wp2_with fail
        refine (encN g 8 _ _ _ (blk_b 16 _ (fun i => by rw [kf_cb]; exact ris_lt 17 i)) C5.out M5.out).mono ?_
        rintro e W6 ⟨rfl, h6⟩
        have B6 := hid (B5.out.below h6)
        have H6 := hid (below_next H5.out h6)
        clear h6 C5 B5 H5 M5
        have N6 := hid (Blk.newAt W6 _ _ 58 _ rfl zeroN)
        obtain ⟨z, ez⟩ : ∃ z, enc (rk 8 (kf (cb (ris 1)))) (8 + 6) (blk 16 (kf (cb (ris 17)))) = z := ⟨_, rfl⟩
        rw [ez]
        obtain ⟨y, ey⟩ : ∃ y, (fun j => wnt (16 * 2 + j)) = y := ⟨_, rfl⟩
        have EQ := eqb_true (show E16 z y from by rw [← ez, ← ey]; exact want2)
        clear ez
        have s6 : (SVb ⟨W6.heap.size, 0, none⟩ (bv z)).run Tryd.prog _ = _ := SVb_run (cs := bl 16 (cb z)) (N6.out.there 0 16 (by rw [bl_length]; omega)) (bl_length _ _) (bl_one _ _)
        have b7 := N6.out.put 0 (bl 16 (cb z))
        rw [put_all _ _ (by rw [bl_length, bl_length])] at b7
        have K7 := hid (below_cells (below_alloc W6 (.cells #[Value.int IntKind.u8 0, Value.int IntKind.u8 0, Value.int IntKind.u8 0, Value.int IntKind.u8 0, Value.int IntKind.u8 0, Value.int IntKind.u8 0, Value.int IntKind.u8 0, Value.int IntKind.u8 0, Value.int IntKind.u8 0, Value.int IntKind.u8 0, Value.int IntKind.u8 0, Value.int IntKind.u8 0, Value.int IntKind.u8 0, Value.int IntKind.u8 0, Value.int IntKind.u8 0, Value.int IntKind.u8 0] 58)) W6.heap.size 0 (bl 16 (cb z)) (Nat.le_refl _) (by simp))
        have B7 := hid (B6.out.below K7.out)
        have H7 := hid (below_next H6.out K7.out)
        generalize hW7 : (W6.alloc (Obj.cells #[Value.int IntKind.u8 0, Value.int IntKind.u8 0, Value.int IntKind.u8 0, Value.int IntKind.u8 0, Value.int IntKind.u8 0, Value.int IntKind.u8 0, Value.int IntKind.u8 0, Value.int IntKind.u8 0, Value.int IntKind.u8 0, Value.int IntKind.u8 0, Value.int IntKind.u8 0, Value.int IntKind.u8 0, Value.int IntKind.u8 0, Value.int IntKind.u8 0, Value.int IntKind.u8 0, Value.int IntKind.u8 0] 58)).setCells W6.heap.size 0 (bl 16 (cb z)) = W7 at *
        have l7 : (LDb ⟨W6.heap.size, 0, none⟩).run Tryd.prog W7.drew = .ok (bv z) W7.drew := LDb_run (range0 (b7.drewN 1)) (bl_length _ _)
        have m7 : (LDb ⟨w.heap.size, 16 * 2, none⟩).run Tryd.prog W7.drew = .ok (bv (fun j => wnt (16 * 2 + j))) W7.drew := LDb_run ((B7.out.drewN 1).range (16 * 2) (bl 16 (cb fun j => wnt (16 * 2 + j))) (fun j v hv => by obtain ⟨hj, rfl⟩ := bl_get_inv _ _ _ _ hv; exact bl_get 48 _ _ (by omega))) (bl_length _ _)
        rw [show 16 * 2 = 32 from rfl] at m7
        rw [show (fun j => wnt (32 + j)) = y from ey] at m7
        clear ey
        clear b7 K7 B6 H6 N6 hW7
        go_wp2_with fail
        go_region
        all_goals
          go_simp
          go_wp2_with fail
          exact ⟨⟨2 + 1, by omega, rfl, B7.out.drewN 1, below_dr H7.out⟩, by simp [intOf]⟩
    · have ej : j = 3 := by omega
      subst ej
      go_wp2_with fail
      go_ret
      exact ⟨rfl, HB.out⟩
end Go.Proofs.YtbommnigljmfkaaDoor.Ae
