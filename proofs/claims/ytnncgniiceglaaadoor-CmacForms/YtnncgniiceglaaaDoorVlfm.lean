/- The statement CmacForms, walked. -/
import Derived.Test.YtnncgniiceglaaaDoorVlw1
import Derived.Test.YtnncgniiceglaaaDoorVcat
import Derived.Test.YtnncgniiceglaaaDoorVzer
namespace Go.Proofs.YtnncgniiceglaaaDoor.Vm
open Go.ChangeShapes Go.WideShapes Go.ChangeAt Go.RowKit
open Go.Proofs.YtnncgniiceglaaaDoor.By Go.Proofs.YtnncgniiceglaaaDoor.Gf Go.Proofs.YtnncgniiceglaaaDoor.Ae
open Go.Proofs.YtnncgniiceglaaaDoor.Kc (own_kept own_mono own8_type cat cat_bound wpList_cat below_grow)
theorem fml_le (k : Nat) (h : k ≤ 8) : fml k ≤ 140737488355999 := by unfold fml; omega
theorem room33 (k : Nat) (h : k ≤ 8) : 16 * (k + 7) + 16 + 16 + 33 ≤ 140737488355328 := by omega
/-- What a fresh mac's form is. -/
theorem fresh_form (k : Nat) (ws : Nat → Nat) (i : Nat) (hi : i < fml k) : cb (fmf k ws 0 nought) i = cat (16 * (k + 7) + 16 + 16) (cat (16 * (k + 7) + 16) (cat (16 * (k + 7)) (cb ws) (cb (upto 16 (sk1 ws (k + 6))))) (cb (upto 16 (sk2 ws (k + 6))))) (fun _ => 0) i := by
  unfold fml at hi
  show ((fmf k ws 0 nought i : Nat) : Int) = _
  unfold cat fmf
  by_cases h1 : i < 16 * (k + 7)
  · rw [if_pos h1, if_pos (by omega), if_pos (by omega), if_pos h1]
  · rw [if_neg h1]
    by_cases h2 : i < 16 * (k + 7) + 64
    · rw [if_pos h2]
      unfold four
      by_cases h3 : i < 16 * (k + 7) + 16
      · rw [if_pos (by omega), if_pos (by omega), if_pos h3, if_neg h1]
        show _ = ((upto 16 (sk1 ws (k + 6)) (i - 16 * (k + 7)) : Nat) : Int)
        rw [upto_get _ _ _ (by omega)]
      · by_cases h4 : i < 16 * (k + 7) + 16 + 16
        · rw [if_neg (by omega), if_pos (by omega), if_pos h4, if_neg h3]
          show _ = ((upto 16 (sk2 ws (k + 6)) (i - (16 * (k + 7) + 16)) : Nat) : Int)
          rw [upto_get _ _ _ (by omega)]
          congr 2
        · rw [if_neg (by omega), if_neg (by omega), if_neg h4]
          by_cases h5 : i - 16 * (k + 7) < 48
          · rw [if_pos h5]; rfl
          · rw [if_neg h5]
            show ((wtn nought 0 (i - 16 * (k + 7) - 48) : Nat) : Int) = 0
            unfold wtn nought
            split <;> rfl
    · rw [if_neg h2, if_neg (by omega)]
      rfl
set_option maxRecDepth 4000 in
set_option maxHeartbeats 4000000 in
theorem forms_bad (a : Option Addr) (n cap : Nat) (w : World) (hk : KM w) (h1 : n ≠ 16) (h2 : n ≠ 24) (h3 : n ≠ 32) : Calls Tryd.prog 7 #[.slice a n cap] w fun e w' => e = .returned (.bool true) ∧ Below w.heap.size w w' := by
  have HK := hid hk
  clear hk
  go_enter Tryd.func7, Tryd.ntmps7
  go_wp2_with fail
  refine (awake1 w HK.out).mono ?_
  rintro e w2 ⟨rfl, hb2⟩
  have B2 := hid hb2
  clear hb2
  go_wp2_with (first | (go_at_call 19; refine (cnew_bad _ a n cap _ h1 h2 h3).mono ?_; rintro e w3 ⟨rfl, hb3⟩; have B3 := hid (below_next B2.out hb3); clear hb3) | (go_at_call 32; refine (new_bad _ a n cap _ h1 h2 h3).mono ?_; rintro e w' ⟨rfl, hw'⟩; subst w'))
  go_ret
  exact ⟨rfl, B3.out⟩
set_option maxRecDepth 4000 in
set_option maxHeartbeats 4000000 in
theorem forms_ok (k : Nat) (hkk : k = 4 ∨ k = 6 ∨ k = 8) (key : Nat → Nat) (hkey : ∀ i, key i < 256) (kb ko cap : Nat) (hc : 4 * k ≤ cap) (w : World) (hk : KM w) (hcell : ∀ i, i < 4 * k → w.cell? ⟨kb, ko + i, none⟩ = some (.int .u8 (key i : Nat))) : Calls Tryd.prog 7 #[.slice (some ⟨kb, ko, none⟩) (4 * k) cap] w fun e w' => e = .returned (.bool true) ∧ Below w.heap.size w w' := by
  have HK := hid hk
  have HC := hid hcell
  have hkb := block_lt_of_cell (hcell 0 (by omega))
  have HKY := hid hkey
  clear hk hcell hkey
  go_enter Tryd.func7, Tryd.ntmps7
  go_wp2_with fail
  refine (awake1 w HK.out).mono ?_
  rintro e w2 ⟨rfl, hb2⟩
  have B2 := hid hb2
  clear hb2
  go_wp2_with fail
  refine (cnewN k hkk key HKY.out kb ko cap hc w2 (km_below HK.out B2.out) (fun i hi => (B2.out.cell (p := ⟨kb, ko + i, none⟩) hkb).trans (HC.out i hi))).mono ?_
  rintro e w3 ⟨g, gc, rfl, hm3, -, -, hb3⟩
  have M3 := hid hm3
  have B3 := hid (below_next B2.out hb3)
  clear hm3 hb3 B2
  go_wp2_with fail
  refine (newN k hkk key HKY.out kb ko cap hc w3 (fun i hi => (B3.out.cell (p := ⟨kb, ko + i, none⟩) hkb).trans (HC.out i hi))).mono ?_
  rintro e w4 ⟨c, rfl, hc4, -, hb4⟩
  have M4 := hid (M3.out.below hb4)
  have C4 := hid hc4
  have B4 := hid (below_next B3.out hb4)
  clear hc4 hb4 M3 B3
  obtain ⟨ws, hws⟩ : ∃ ws, rk k key = ws := ⟨_, rfl⟩
  rw [hws] at M4 C4
  have hW : ∀ i, ws i < 256 := M4.out.ci.lt
  have HWs := hid hW
  have EC := hid (show Calls Tryd.prog 33 #[.pointer (some ⟨c, 0, none⟩), .pointer none, .agg z16.toArray] w4 fun e w' => e = .returned (.tuple #[.agg (bl 16 (cb (enc ws (k + 6) nought))).toArray, .int .i64 0]) ∧ Below w4.heap.size w4 w' from encN c k ws nought w4 nought_b C4.out (km_below HK.out B4.out))
  have hE : B16 (enc ws (k + 6) nought) := enc_b hW _ nought_b
  have hE1 : B16 (sk1 ws (k + 6)) := sk1_b hW _
  have DC := hid (show ∀ W, Calls Tryd.prog 34 #[.agg (bl 16 (cb (enc ws (k + 6) nought))).toArray] W fun e w' => e = .returned (.agg (bl 16 (cb (sk1 ws (k + 6)))).toArray) ∧ Below W.heap.size W w' from fun W => dbl1 _ hE W)
  have DC2 := hid (show ∀ W, Calls Tryd.prog 34 #[.agg (bl 16 (cb (sk1 ws (k + 6)))).toArray] W fun e w' => e = .returned (.agg (bl 16 (cb (sk2 ws (k + 6)))).toArray) ∧ Below W.heap.size W w' from fun W => dbl1 _ hE1 W)
  clear hE hE1 hW
  go_wp2_with fail
  refine EC.out.mono ?_
  rintro e w5 ⟨rfl, hb5⟩
  obtain ⟨W6, s6, b6, k6⟩ := z_var w5 (enc ws (k + 6) nought)
  have k56 := below_next hb5 k6
  have M6 := hid (M4.out.below k56)
  have C6 := hid (C4.out.below k56)
  have B6 := hid (below_next B4.out k56)
  have l6 := z_ld b6
  clear hb5 k6 b6 k56 M4 C4 B4 EC
  go_wp2_with fail
  refine (DC.out W6).mono ?_
  rintro e w7 ⟨rfl, hb7⟩
  obtain ⟨W8, s8, b8, k8⟩ := z_var w7 (sk1 ws (k + 6))
  have k78 := below_next hb7 k8
  have M8 := hid (M6.out.below k78)
  have C8 := hid (C6.out.below k78)
  have B8 := hid (below_next B6.out k78)
  have V8 := hid b8
  have l8 := z_ld b8
  clear hb7 k8 b8 k78 M6 C6 B6 DC l6 s6
  obtain ⟨o1, ho1⟩ : ∃ x, w7.heap.size = x := ⟨_, rfl⟩
  rw [ho1] at s8 V8 l8
  go_wp2_with fail
  refine (DC2.out W8).mono ?_
  rintro e w9 ⟨rfl, hb9⟩
  obtain ⟨WA, sA, bA, kA⟩ := z_var w9 (sk2 ws (k + 6))
  have k9A := below_next hb9 kA
  have MA := hid (M8.out.below k9A)
  have CA := hid (C8.out.below k9A)
  have BA := hid (below_next B8.out k9A)
  have VA := hid (V8.out.below k9A)
  have UA := hid bA
  clear hb9 kA bA k9A M8 C8 B8 V8 DC2 l8 s8
  obtain ⟨o2, ho2⟩ : ∃ x, w9.heap.size = x := ⟨_, rfl⟩
  rw [ho2] at sA UA
  have FC := hid (form_ci c k ws WA.drew (CA.out.below (below_drewN WA 1)))
  have hsl := sliceB
  have HK8 := hid (kk_le hkk)
  have HE1 := hid (sk1_b HWs.out (k + 6))
  have HE2 := hid (sk2_b HWs.out (k + 6))
  go_wp2_with fail
  go_region_law (first
    | (go_simp; go_at_call 35; refine FC.out.mono ?_; rintro e wB ⟨v, rfl, hoB, hbB⟩; have OB := hid hoB; have KB := hid (below_next (below_drewN WA 1) hbB); have RB1 := hid (rb_tag (VA.out.below KB.out) HE1.out); clear hoB hbB)
    | (refine step_cat rfl (.tmp 53) (.tmp 54) rfl WA.heap.size (16 * (k + 7)) 16 _ _ (cb ws) (cb (upto 16 (sk1 ws (k + 6)))) rfl OB.out rfl RB1.out (Nat.le_trans (fmf_room k 0 HK8.out (Nat.zero_le _)) (Nat.le_refl _)) KB.out.size ?_; intro v' wC hown hgrow; have OC := hid hown; have KC := hid (below_grow KB.out KB.out.size OB.out hgrow); clear hown hgrow))
  all_goals
    have RB2 := hid (rb_tag (UA.out.below KC.out) HE2.out)
    have RM2 := hid (show 16 * (k + 7) + 16 + 16 ≤ 140737488355328 from fmf_room k 1 HK8.out (by decide))
    go_simp
    go_wp2_with (at_builtin; go_must (refine wpList_cat rfl _ _ rfl WA.heap.size (16 * (k + 7) + 16) 16 _ _ _ (cb (upto 16 (sk2 ws (k + 6)))) rfl OC.out rfl RB2.out RM2.out KC.out.size ?_))
    intro v2 wD hown hgrow
    have OD := hid hown
    have KD := hid (below_grow KC.out KC.out.size OC.out hgrow)
    clear hown hgrow OC KC RB1 RB2 OB KB
    have RM3 := hid (room33 k HK8.out)
    have P0 := hid (show 0 < 16 * (k + 7) + 16 + 16 from Nat.succ_pos _)
    go_wp2_with (at_builtin; go_must (refine wpList_zeros rfl _ _ rfl WA.heap.size (16 * (k + 7) + 16 + 16) 33 _ _ rfl OD.out rfl P0.out RM3.out KD.out.size ?_))
    intro v3 wF hown hgrow
    have OF := hid hown
    have KF := hid (below_grow KD.out KD.out.size OD.out hgrow)
    clear hown hgrow OD KD
    go_wp2_with fail
    refine (form_mc g gc k 0 ws nought wF (MA.out.below KF.out)).mono ?_
    rintro e wG ⟨v4, rfl, ho4, hb4⟩
    have FE := hid (fresh_form k ws)
    have S4 := hid (same_true v4 v3 (fml k) _ _ wG ho4.reads (own_below OF.out hb4).reads (fml_le k HK8.out) FE.out)
    have KG := hid (below_next BA.out (below_next KF.out hb4))
    clear ho4 hb4
    go_wp2_with (go_at_call 13; refine S4.out.mono ?_; rintro e wH ⟨rfl, d, rfl⟩)
    go_ret
    exact ⟨by simp, below_drew' KG.out d⟩
theorem forms_walk (a : Option Addr) (n cap : Nat) (f : Nat → Int) (w : World) (hk : KM w) (h : By.RB w (.slice a n cap) n f) : Calls Tryd.prog 7 #[.slice a n cap] w fun e w' => e = .returned (.bool true) ∧ Below w.heap.size w w' := by
  rcases key_cases n with ⟨h1, h2, h3⟩ | ⟨k, hkk, rfl⟩
  · exact forms_bad a n cap w hk h1 h2 h3
  · obtain ⟨b, o, rfl, hc, hcell⟩ := rb_cells (rb_kf h) (by omega)
    exact forms_ok k hkk (kf f) (kf_lt h.1) b o cap hc w hk hcell
end Go.Proofs.YtnncgniiceglaaaDoor.Vm
