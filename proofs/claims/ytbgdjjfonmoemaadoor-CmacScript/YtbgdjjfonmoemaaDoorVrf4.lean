/- The document's cmac: FormOf. -/
import Derived.Test.YtbgdjjfonmoemaaDoorVrf3
import Derived.Test.YtbgdjjfonmoemaaDoorVfrm0
namespace Go.Proofs.YtbgdjjfonmoemaaDoor.Vm
open Go.ChangeShapes Go.WideShapes Go.ChangeAt Go.RowKit
open Go.Proofs.YtbgdjjfonmoemaaDoor.By Go.Proofs.YtbgdjjfonmoemaaDoor.Gf Go.Proofs.YtbgdjjfonmoemaaDoor.Ae
open Go.Proofs.YtbgdjjfonmoemaaDoor.Kc (own_kept own_mono own8_type cat cat_bound wpList_cat below_grow)
/-- The four blocks that are laid behind the round keys. -/
structure Fz (w : World) (o1 o2 o3 o4 : Nat) (S1 S2 S3 S4 : Nat → Nat) (W : World) : Prop where
  b1 : Blk W o1 (bl 16 (cb S1)) 82
  b2 : Blk W o2 (bl 16 (cb S2)) 82
  b3 : Blk W o3 (bl 16 (cb S3)) 82
  b4 : Blk W o4 (bl 16 (cb S4)) 82
  bel : Below w.heap.size w W
theorem Fz.push {w W W' : World} {o1 o2 o3 o4 : Nat} {S1 S2 S3 S4 : Nat → Nat} (h : Fz w o1 o2 o3 o4 S1 S2 S3 S4 W) (hk : Kn W W') (hb : Below w.heap.size w W') : Fz w o1 o2 o3 o4 S1 S2 S3 S4 W' := ⟨hk _ _ _ (by decide) h.b1, hk _ _ _ (by decide) h.b2, hk _ _ _ (by decide) h.b3, hk _ _ _ (by decide) h.b4, hb⟩
theorem fmf_1 (k n : Nat) (ws m : Nat → Nat) (j : Nat) (hj : j < 16) : fmf k ws n m (16 * (k + 7) + 16 * 0 + j) = sk1 ws (k + 6) j := by
  unfold fmf; rw [if_neg (by omega), if_pos (by omega)]; unfold four; rw [if_pos (by omega), show 16 * (k + 7) + 16 * 0 + j - 16 * (k + 7) = j from by omega]
theorem fmf_2 (k n : Nat) (ws m : Nat → Nat) (j : Nat) (hj : j < 16) : fmf k ws n m (16 * (k + 7) + 16 * 1 + j) = sk2 ws (k + 6) j := by
  unfold fmf; rw [if_neg (by omega), if_pos (by omega)]; unfold four; rw [if_neg (by omega), if_pos (by omega), show 16 * (k + 7) + 16 * 1 + j - 16 * (k + 7) - 16 = j from by omega]
theorem fmf_3 (k n : Nat) (ws m : Nat → Nat) (j : Nat) (hj : j < 16) : fmf k ws n m (16 * (k + 7) + 16 * 2 + j) = chn ws (k + 6) m (nbl n) j := by
  unfold fmf; rw [if_neg (by omega), if_pos (by omega)]; unfold four; rw [if_neg (by omega), if_neg (by omega), if_pos (by omega), show 16 * (k + 7) + 16 * 2 + j - 16 * (k + 7) - 32 = j from by omega]
theorem fmf_4 (k n : Nat) (ws m : Nat → Nat) (j : Nat) (hj : j < 16) : fmf k ws n m (16 * (k + 7) + 16 * 3 + j) = wtn m n j := by
  unfold fmf; rw [if_neg (by omega), if_pos (by omega)]; unfold four; rw [if_neg (by omega), if_neg (by omega), if_neg (by omega), show 16 * (k + 7) + 16 * 3 + j - 16 * (k + 7) - 48 = j from by omega]
theorem fmf_5 (k n : Nat) (ws m : Nat → Nat) : fmf k ws n m (16 * (k + 7) + 64) = ctn n := by
  unfold fmf; rw [if_neg (by omega), if_neg (by omega)]
theorem own_len {w : World} {b n n' : Nat} {v : Value} {F : Nat → Int} (h : By.Own w b v n F) (e : n = n') : By.Own w b v n' F := by rw [← e]; exact h
theorem fmf_0 (k n : Nat) (ws m : Nat → Nat) (i : Nat) (hi : i < 16 * (k + 7)) : fmf k ws n m i = ws i := by
  unfold fmf; rw [if_pos hi]
set_option maxRecDepth 8000 in
set_option maxHeartbeats 8000000 in
theorem rFormOf (k : Nat) (hk : k = 4 ∨ k = 6 ∨ k = 8) (key : Nat → Nat) (hkey : ∀ i, key i < 256) (kv pv : Value) (n : Nat) (f : Nat → Nat) (w : World) (hkr : By.RB w kv (4 * k) (cb key)) (hr : By.RB w pv n (cb f)) (hn : n ≤ 140737488355999) :
    Calls Tryd.prog 54 #[kv, pv] w fun e w' => ∃ v, e = .returned v ∧ By.Own w' w.heap.size v (fml k) (cb (fmf k (wds k key (3 * k + 28)) n f)) ∧ Below w.heap.size w w' := by
  have HR := hid hr
  have HKR := hid hkr
  obtain ⟨hf, ad, cap, rfl, h1, h2, -⟩ := hr
  obtain ⟨kb, ko, kc, rfl, hkc⟩ : ∃ kb ko kc, kv = .slice (some ⟨kb, ko, none⟩) (4 * k) kc ∧ ∀ i, i < 4 * k → w.cell? ⟨kb, ko + i, none⟩ = some (.int .u8 (key i : Nat)) := by
    obtain ⟨_, a', cap', he, _, _, h0 | ⟨b, off, h0, hc⟩⟩ := hkr
    · omega
    · exact ⟨b, off, cap', by rw [he, h0], hc⟩
  have HF := hid (show ∀ i, f i < 256 from fun i => Int.ofNat_lt.1 (hf i).2)
  clear hf h1 h2 hkr
  go_enter Tryd.func54, Tryd.ntmps54
  go_wp2_with fail
  refine (rof k hk key hkey kb ko kc w hkc).mono ?_
  rintro e w2 ⟨g, wv, rfl, hg, hb, how, hb2⟩
  have A2 := hid (show RA w2 g wv (4 * (k + 6 + 1)) (wds k key (3 * k + 28)) from ⟨hb, how.base, wds_lt k key hkey _⟩)
  have B2 := hid hb2
  clear hg hb how hb2 hkc
  obtain ⟨ws, hws⟩ : ∃ ws, wds k key (3 * k + 28) = ws := ⟨_, rfl⟩
  obtain ⟨r, hr6⟩ : ∃ r, k + 6 = r := ⟨_, rfl⟩
  rw [hws, hr6] at A2
  have hr14 : r ≤ 14 := by omega
  have hE : B16 (enc ws r nought) := enc_b A2.out.lt _ nought_b
  have hs1 : B16 (sk1 ws r) := sk1_b A2.out.lt r
  have HMF := hid (show ∀ i, 0 ≤ cb (fmf k ws n f) i ∧ cb (fmf k ws n f) i < 256 from fun i => ⟨Int.natCast_nonneg _, Int.ofNat_lt.2 (fmf_lt A2.out.lt HF.out i)⟩)
  go_wp2_with fail
  refine (renc g r wv ws nought nought_b w2 A2.out hr14).mono ?_
  rintro e w3 ⟨rfl, hb3⟩
  have A3 := hid (A2.out.below hb3)
  have B3 := hid (below_next B2.out hb3)
  clear hb3 A2 B2
  unfold bv
  go_wp2_with fail
  refine (rdbl1 (enc ws r nought) hE w3).mono ?_
  rintro e w4 ⟨rfl, hb4⟩
  have A4 := hid (A3.out.below hb4)
  have B4 := hid (below_next B3.out hb4)
  clear hb4 A3 B3
  obtain ⟨W5, s5, b5, k5⟩ := z_var w4 (sk1 ws r)
  have A5 := hid (A4.out.below k5)
  have B5 := hid (below_next B4.out k5)
  have V5 := hid b5
  have l5 := z_ld b5
  have z1 := hid B4.out.size
  clear b5 k5 A4 B4
  rw [show dbl (enc ws r nought) = sk1 ws r from rfl]
  unfold bv
  obtain ⟨o1, ho1⟩ : ∃ x, w4.heap.size = x := ⟨_, rfl⟩
  rw [ho1] at s5 V5 l5
  go_wp2_with fail
  refine (rdbl1 (sk1 ws r) hs1 W5).mono ?_
  rintro e w6 ⟨rfl, hb6⟩
  have A6 := hid (A5.out.below hb6)
  have B6 := hid (below_next B5.out hb6)
  have V6 := hid (V5.out.below hb6)
  clear hb6 A5 B5 V5 l5 s5
  obtain ⟨W7, s7, b7, k7⟩ := z_var w6 (sk2 ws r)
  have A7 := hid (A6.out.below k7)
  have B7 := hid (below_next B6.out k7)
  have V7 := hid (V6.out.below k7)
  have U7 := hid b7
  clear b7 k7 A6 B6 V6
  rw [show dbl (sk1 ws r) = sk2 ws r from rfl]
  unfold bv
  obtain ⟨o2, ho2⟩ : ∃ x, w6.heap.size = x := ⟨_, rfl⟩
  rw [ho2] at s7 U7
  obtain ⟨B, hB⟩ : ∃ B, nbl n = B := ⟨_, rfl⟩
  have BC := hid (rblocks n hn)
  rw [hB] at BC
  have hBn : B ≤ 8796093022250 := by rw [← hB]; unfold nbl; omega
  have C7 := hid (rchain g r wv ws (.slice ad n cap) n f W7 A7.out hr14 (HR.out.below B7.out) hn)
  rw [hB] at C7
  go_wp2_with fail
  refine C7.out.mono ?_
  rintro e w8 ⟨rfl, hb8⟩
  have A8 := hid (A7.out.below hb8)
  have B8 := hid (below_next B7.out hb8)
  have V8 := hid (V7.out.below hb8)
  have U8 := hid (U7.out.below hb8)
  clear hb8 A7 B7 V7 U7 C7 s7
  obtain ⟨W9, s9, b9, k9⟩ := z_var w8 (chn ws r f B)
  have A9 := hid (A8.out.below k9)
  have B9 := hid (below_next B8.out k9)
  have V9 := hid (V8.out.below k9)
  have U9 := hid (U8.out.below k9)
  have X9 := hid b9
  clear b9 k9 A8 B8 V8 U8
  unfold bv
  obtain ⟨o3, ho3⟩ : ∃ x, w8.heap.size = x := ⟨_, rfl⟩
  rw [ho3] at s9 X9
  go_wp2_with (go_at_call 47; refine (BC.out _).mono ?_; rintro e w' ⟨rfl, hw'⟩; subst w')
  have CB := hid (rblock (.slice ad n cap) n B f W9 (HR.out.below B9.out) hn hBn)
  rw [show bv (bkp f n B) = bv (wtn f n) from bv_e (by rw [← hB]; exact bkp_last n)] at CB
  refine CB.out.mono ?_
  rintro e wA ⟨rfl, hbA⟩
  have AA := hid (A9.out.below hbA)
  have BA := hid (below_next B9.out hbA)
  have VA := hid (V9.out.below hbA)
  have UA := hid (U9.out.below hbA)
  have XA := hid (X9.out.below hbA)
  clear hbA A9 B9 V9 U9 X9 CB s9
  obtain ⟨WB, sB, bB, kB⟩ := z_var wA (wtn f n)
  have AB := hid (AA.out.below kB)
  have BB := hid (below_next BA.out kB)
  have VB := hid (VA.out.below kB)
  have UB := hid (UA.out.below kB)
  have XB := hid (XA.out.below kB)
  have YB := hid bB
  clear bB kB AA BA VA UA XA
  unfold bv
  obtain ⟨o4, ho4⟩ : ∃ x, wA.heap.size = x := ⟨_, rfl⟩
  rw [ho4] at sB YB
  go_wp2_with fail
  refine (rform g (4 * (r + 1)) wv ws (by omega) (by omega) WB AB.out).mono ?_
  rintro e wC ⟨v0, rfl, ho0, hbC⟩
  obtain ⟨F, hF⟩ : ∃ F, fmf k ws n f = F := ⟨_, rfl⟩
  rw [hF] at HMF
  have O0 := hid (show By.Own wC w.heap.size v0 (16 * (k + 7) + 16 * 0 + 0) (cb F) from by
    have h := own_mono ho0 BB.out.size
    rw [show 4 * (4 * (r + 1)) = 16 * (k + 7) + 16 * 0 + 0 from by omega] at h
    exact own_congr h HMF.out (fun i hi => by show ((ws i : Nat) : Int) = ((F i : Nat) : Int); rw [← hF, fmf_0 k n ws f i (by omega)]))
  have E1 := hid (show ∀ j, j < 16 → F (16 * (k + 7) + 16 * 0 + j) = sk1 ws r j from fun j hj => by rw [← hF, ← hr6]; exact fmf_1 k n ws f j hj)
  have E2 := hid (show ∀ j, j < 16 → F (16 * (k + 7) + 16 * 1 + j) = sk2 ws r j from fun j hj => by rw [← hF, ← hr6]; exact fmf_2 k n ws f j hj)
  have E3 := hid (show ∀ j, j < 16 → F (16 * (k + 7) + 16 * 2 + j) = chn ws r f B j from fun j hj => by rw [← hF, ← hr6, ← hB]; exact fmf_3 k n ws f j hj)
  have E4 := hid (show ∀ j, j < 16 → F (16 * (k + 7) + 16 * 3 + j) = wtn f n j from fun j hj => by rw [← hF]; exact fmf_4 k n ws f j hj)
  have E5 := hid (show F (16 * (k + 7) + 16 * 3 + 16) = ctn n from by rw [← hF]; exact fmf_5 k n ws f)
  have Z0 := hid (show Fz w o1 o2 o3 o4 (sk1 ws r) (sk2 ws r) (chn ws r f B) (wtn f n) wC from ⟨VB.out.below hbC, UB.out.below hbC, XB.out.below hbC, YB.out.below hbC, below_next BB.out hbC⟩)
  have hct := nbl_ct n
  have hcl := ctn_le n
  rw [hB] at hct
  have HK8 := hid (show k ≤ 8 from by omega)
  clear ho0 hbC AB BB VB UB XB YB sB hE hs1 HR HKR
  obtain ⟨S1, hS1⟩ : ∃ x, sk1 ws r = x := ⟨_, rfl⟩
  obtain ⟨S2, hS2⟩ : ∃ x, sk2 ws r = x := ⟨_, rfl⟩
  obtain ⟨S3, hS3⟩ : ∃ x, chn ws r f B = x := ⟨_, rfl⟩
  obtain ⟨S4, hS4⟩ : ∃ x, wtn f n = x := ⟨_, rfl⟩
  obtain ⟨N, hN⟩ : ∃ x, 16 * (k + 7) = x := ⟨_, rfl⟩
  have HN := hid (show N ≤ 1000 from by have := HK8.out; omega)
  have HFL := hid (show fml k = N + 16 * 3 + 16 + 1 from by rw [← hN]; unfold fml; omega)
  rw [hS1] at E1 Z0
  rw [hS2] at E2 Z0
  rw [hS3] at E3 Z0
  rw [hS4] at E4 Z0
  rw [hN] at O0 E1 E2 E3 E4 E5
  go_wp2_with fail
  go_loopw [11, 12] (fun v i wr => ∃ j : Nat, j ≤ 16 ∧ i = .int .i64 j ∧ By.Own wr w.heap.size v (N + 16 * 0 + j) (cb F) ∧ Fz w o1 o2 o3 o4 S1 S2 S3 S4 wr) (fun _ i _ => 16 - (intOf i).toNat)
  case atStart => exact ⟨0, Nat.zero_le _, rfl, O0.out, Z0.out⟩
  case round =>
    obtain ⟨j, hj, rfl, hov, hfz⟩ := hrel
    have OV := hid hov
    have ZV := hid hfz
    clear hov hfz
    by_cases hlt : j < 16
    · have x1 := ZV.out.b1.cell j _ (bl_get 16 _ j hlt)
      have hd : decide ((j : Int) < 16) = true := decide_eq_true (by omega)
      have hd2 : (j : Int) < 16 := by omega
      obtain ⟨y, hy⟩ : ∃ y, S1 j = y := ⟨_, rfl⟩
      have HY := hid (show cb F (N + 16 * 0 + j) = (y : Int) from by show ((F (N + 16 * 0 + j) : Nat) : Int) = _; rw [E1.out j hlt, hy])
      have HY2 := hid (show y < 256 from by have := (HMF.out (N + 16 * 0 + j)).2; rw [HY.out] at this; omega)
      rw [show cb S1 j = (y : Int) from by show ((S1 j : Nat) : Int) = _; rw [hy]] at x1
      have RB1 := hid (ap_rb wr y HY2.out)
      have OA := hid (own_below OV.out (below_alloc wr (.cells #[.int .u8 (y : Int)] 5)))
      have BA' := hid (below_next ZV.out.bel (below_alloc wr (.cells #[.int .u8 (y : Int)] 5)))
      have RM := hid (show N + 16 * 0 + j + 1 ≤ 140737488355328 from by have := HN.out; omega)
      clear hy
      go_wp2_with (at_builtin; go_must (refine wpList_cat rfl _ _ rfl w.heap.size (N + 16 * 0 + j) 1 _ _ (cb F) (fun _ => (y : Int)) rfl OA.out rfl RB1.out RM.out BA'.out.size ?_))
      intro v' w1 hown hgrow
      have P1 := hid (ap_own hown HMF.out HY.out)
      have Q1 := hid (ZV.out.push (ap_kn OV.out hgrow) (below_grow BA'.out BA'.out.size OA.out hgrow))
      clear hown hgrow
      go_wp2_with fail
      exact ⟨⟨j + 1, by omega, by go_num, P1.out, Q1.out⟩, by simp [intOf]; omega⟩
    · have HJ := hid (show j = 16 by omega)
      have hd : decide ((j : Int) < 16) = false := decide_eq_false (by omega)
      clear hlt hj
      have O1 := hid (own_len OV.out (show N + 16 * 0 + j = N + 16 * 1 + 0 from by have := HJ.out; omega))
      have Z1 := hid ZV.out
      clear OV ZV
      go_wp2_with fail
      go_loopw [11, 13] (fun v i wr => ∃ j : Nat, j ≤ 16 ∧ i = .int .i64 j ∧ By.Own wr w.heap.size v (N + 16 * 1 + j) (cb F) ∧ Fz w o1 o2 o3 o4 S1 S2 S3 S4 wr) (fun _ i _ => 16 - (intOf i).toNat)
      case atStart => exact ⟨0, Nat.zero_le _, rfl, O1.out, Z1.out⟩
      case round =>
        obtain ⟨j, hj, rfl, hov, hfz⟩ := hrel
        have OV := hid hov
        have ZV := hid hfz
        clear hov hfz
        by_cases hlt : j < 16
        · have x1 := ZV.out.b2.cell j _ (bl_get 16 _ j hlt)
          have hd : decide ((j : Int) < 16) = true := decide_eq_true (by omega)
          have hd2 : (j : Int) < 16 := by omega
          obtain ⟨y, hy⟩ : ∃ y, S2 j = y := ⟨_, rfl⟩
          have HY := hid (show cb F (N + 16 * 1 + j) = (y : Int) from by show ((F (N + 16 * 1 + j) : Nat) : Int) = _; rw [E2.out j hlt, hy])
          have HY2 := hid (show y < 256 from by have := (HMF.out (N + 16 * 1 + j)).2; rw [HY.out] at this; omega)
          rw [show cb S2 j = (y : Int) from by show ((S2 j : Nat) : Int) = _; rw [hy]] at x1
          have RB1 := hid (ap_rb wr y HY2.out)
          have OA := hid (own_below OV.out (below_alloc wr (.cells #[.int .u8 (y : Int)] 5)))
          have BA' := hid (below_next ZV.out.bel (below_alloc wr (.cells #[.int .u8 (y : Int)] 5)))
          have RM := hid (show N + 16 * 1 + j + 1 ≤ 140737488355328 from by have := HN.out; omega)
          clear hy
          go_wp2_with (at_builtin; go_must (refine wpList_cat rfl _ _ rfl w.heap.size (N + 16 * 1 + j) 1 _ _ (cb F) (fun _ => (y : Int)) rfl OA.out rfl RB1.out RM.out BA'.out.size ?_))
          intro v' w1 hown hgrow
          have P1 := hid (ap_own hown HMF.out HY.out)
          have Q1 := hid (ZV.out.push (ap_kn OV.out hgrow) (below_grow BA'.out BA'.out.size OA.out hgrow))
          clear hown hgrow
          go_wp2_with fail
          exact ⟨⟨j + 1, by omega, by go_num, P1.out, Q1.out⟩, by simp [intOf]; omega⟩
        · have HJ := hid (show j = 16 by omega)
          have hd : decide ((j : Int) < 16) = false := decide_eq_false (by omega)
          clear hlt hj
          have O2 := hid (own_len OV.out (show N + 16 * 1 + j = N + 16 * 2 + 0 from by have := HJ.out; omega))
          have Z2 := hid ZV.out
          clear OV ZV
          go_wp2_with fail
          go_loopw [11, 14] (fun v i wr => ∃ j : Nat, j ≤ 16 ∧ i = .int .i64 j ∧ By.Own wr w.heap.size v (N + 16 * 2 + j) (cb F) ∧ Fz w o1 o2 o3 o4 S1 S2 S3 S4 wr) (fun _ i _ => 16 - (intOf i).toNat)
          case atStart => exact ⟨0, Nat.zero_le _, rfl, O2.out, Z2.out⟩
          case round =>
            obtain ⟨j, hj, rfl, hov, hfz⟩ := hrel
            have OV := hid hov
            have ZV := hid hfz
            clear hov hfz
            by_cases hlt : j < 16
            · have x1 := ZV.out.b3.cell j _ (bl_get 16 _ j hlt)
              have hd : decide ((j : Int) < 16) = true := decide_eq_true (by omega)
              have hd2 : (j : Int) < 16 := by omega
              obtain ⟨y, hy⟩ : ∃ y, S3 j = y := ⟨_, rfl⟩
              have HY := hid (show cb F (N + 16 * 2 + j) = (y : Int) from by show ((F (N + 16 * 2 + j) : Nat) : Int) = _; rw [E3.out j hlt, hy])
              have HY2 := hid (show y < 256 from by have := (HMF.out (N + 16 * 2 + j)).2; rw [HY.out] at this; omega)
              rw [show cb S3 j = (y : Int) from by show ((S3 j : Nat) : Int) = _; rw [hy]] at x1
              have RB1 := hid (ap_rb wr y HY2.out)
              have OA := hid (own_below OV.out (below_alloc wr (.cells #[.int .u8 (y : Int)] 5)))
              have BA' := hid (below_next ZV.out.bel (below_alloc wr (.cells #[.int .u8 (y : Int)] 5)))
              have RM := hid (show N + 16 * 2 + j + 1 ≤ 140737488355328 from by have := HN.out; omega)
              clear hy
              go_wp2_with (at_builtin; go_must (refine wpList_cat rfl _ _ rfl w.heap.size (N + 16 * 2 + j) 1 _ _ (cb F) (fun _ => (y : Int)) rfl OA.out rfl RB1.out RM.out BA'.out.size ?_))
              intro v' w1 hown hgrow
              have P1 := hid (ap_own hown HMF.out HY.out)
              have Q1 := hid (ZV.out.push (ap_kn OV.out hgrow) (below_grow BA'.out BA'.out.size OA.out hgrow))
              clear hown hgrow
              go_wp2_with fail
              exact ⟨⟨j + 1, by omega, by go_num, P1.out, Q1.out⟩, by simp [intOf]; omega⟩
            · have HJ := hid (show j = 16 by omega)
              have hd : decide ((j : Int) < 16) = false := decide_eq_false (by omega)
              clear hlt hj
              have O3 := hid (own_len OV.out (show N + 16 * 2 + j = N + 16 * 3 + 0 from by have := HJ.out; omega))
              have Z3 := hid ZV.out
              clear OV ZV
              go_wp2_with fail
              go_loopw [11, 15] (fun v i wr => ∃ j : Nat, j ≤ 16 ∧ i = .int .i64 j ∧ By.Own wr w.heap.size v (N + 16 * 3 + j) (cb F) ∧ Fz w o1 o2 o3 o4 S1 S2 S3 S4 wr) (fun _ i _ => 16 - (intOf i).toNat)
              case atStart => exact ⟨0, Nat.zero_le _, rfl, O3.out, Z3.out⟩
              case round =>
                obtain ⟨j, hj, rfl, hov, hfz⟩ := hrel
                have OV := hid hov
                have ZV := hid hfz
                clear hov hfz
                by_cases hlt : j < 16
                · have x1 := ZV.out.b4.cell j _ (bl_get 16 _ j hlt)
                  have hd : decide ((j : Int) < 16) = true := decide_eq_true (by omega)
                  have hd2 : (j : Int) < 16 := by omega
                  obtain ⟨y, hy⟩ : ∃ y, S4 j = y := ⟨_, rfl⟩
                  have HY := hid (show cb F (N + 16 * 3 + j) = (y : Int) from by show ((F (N + 16 * 3 + j) : Nat) : Int) = _; rw [E4.out j hlt, hy])
                  have HY2 := hid (show y < 256 from by have := (HMF.out (N + 16 * 3 + j)).2; rw [HY.out] at this; omega)
                  rw [show cb S4 j = (y : Int) from by show ((S4 j : Nat) : Int) = _; rw [hy]] at x1
                  have RB1 := hid (ap_rb wr y HY2.out)
                  have OA := hid (own_below OV.out (below_alloc wr (.cells #[.int .u8 (y : Int)] 5)))
                  have BA' := hid (below_next ZV.out.bel (below_alloc wr (.cells #[.int .u8 (y : Int)] 5)))
                  have RM := hid (show N + 16 * 3 + j + 1 ≤ 140737488355328 from by have := HN.out; omega)
                  clear hy
                  go_wp2_with (at_builtin; go_must (refine wpList_cat rfl _ _ rfl w.heap.size (N + 16 * 3 + j) 1 _ _ (cb F) (fun _ => (y : Int)) rfl OA.out rfl RB1.out RM.out BA'.out.size ?_))
                  intro v' w1 hown hgrow
                  have P1 := hid (ap_own hown HMF.out HY.out)
                  have Q1 := hid (ZV.out.push (ap_kn OV.out hgrow) (below_grow BA'.out BA'.out.size OA.out hgrow))
                  clear hown hgrow
                  go_wp2_with fail
                  exact ⟨⟨j + 1, by omega, by go_num, P1.out, Q1.out⟩, by simp [intOf]; omega⟩
                · have HJ := hid (show j = 16 by omega)
                  have hd : decide ((j : Int) < 16) = false := decide_eq_false (by omega)
                  clear hlt hj
                  have OV := hid (own_len OV.out (show N + 16 * 3 + j = N + 16 * 3 + 16 from by have := HJ.out; omega))
                  have HY := hid (show cb F (N + 16 * 3 + 16) = ((ctn n : Nat) : Int) from congrArg Nat.cast E5.out)
                  obtain ⟨c, hcc⟩ : ∃ c, ctn n = c := ⟨_, rfl⟩
                  rw [hcc] at HY hct hcl
                  have hq5 : wrap64 (16 * (B : Int)) = 16 * (B : Int) := by unfold wrap64; omega
                  have hq6 : (n : Int) - 16 * (B : Int) = (c : Int) := by omega
                  have hq8 : (c : Int) % 256 = (c : Int) := by omega
                  have hq9 : c < 256 := by omega
                  have RB1 := hid (ap_rb wr c (by omega))
                  have OA := hid (own_below OV.out (below_alloc wr (.cells #[.int .u8 (c : Int)] 5)))
                  have BA' := hid (below_next ZV.out.bel (below_alloc wr (.cells #[.int .u8 (c : Int)] 5)))
                  have RM := hid (show N + 16 * 3 + 16 + 1 ≤ 140737488355328 from by have := HN.out; omega)
                  clear hct
                  go_wp2_with (at_builtin; go_must (refine wpList_cat rfl _ _ rfl w.heap.size (N + 16 * 3 + 16) 1 _ _ (cb F) (fun _ => (c : Int)) rfl OA.out rfl RB1.out RM.out BA'.out.size ?_))
                  intro v' w1 hown hgrow
                  have P1 := hid (ap_own hown HMF.out HY.out)
                  have Q1 := hid (below_grow BA'.out BA'.out.size OA.out hgrow)
                  clear hown hgrow
                  go_wp2_with fail
                  go_ret
                  exact ⟨_, rfl, by rw [hws, HFL.out, hF]; exact P1.out, Q1.out⟩
end Go.Proofs.YtbgdjjfonmoemaaDoor.Vm
