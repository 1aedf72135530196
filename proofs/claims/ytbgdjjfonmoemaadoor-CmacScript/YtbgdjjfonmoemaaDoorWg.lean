/- The document's cmac: Blocks, block, chain. The document's cmac: chain. -/
import Derived.Test.YtbgdjjfonmoemaaDoorWa
import Derived.Test.YtbgdjjfonmoemaaDoorWb
import Derived.Test.YtbgdjjfonmoemaaDoorYq
import Derived.Test.YtbgdjjfonmoemaaDoorYr
namespace Go.Proofs.YtbgdjjfonmoemaaDoor.Vm
open Go.ChangeShapes Go.WideShapes Go.ChangeAt Go.RowKit
open Go.Proofs.YtbgdjjfonmoemaaDoor.By Go.Proofs.YtbgdjjfonmoemaaDoor.Gf Go.Proofs.YtbgdjjfonmoemaaDoor.Ae
theorem rblocks (n : Nat) (hn : n ≤ 140737488355999) (w : World) : Calls Tryd.prog 47 #[.int .i64 n] w fun e w' => e = .returned (.int .i64 ((nbl n + 1 : Nat) : Int)) ∧ w' = w := by
  by_cases h : n = 0
  · subst h
    go_enter Tryd.func47, Tryd.ntmps47
    go_wp2
    go_ret
    exact ⟨rfl, rfl⟩
  · have e1 : ((n : Int) == 0) = false := by rw [beq_eq_false_iff_ne]; omega
    have e2 : ¬ (n : Int) = 0 := by omega
    obtain ⟨B, hB⟩ : ∃ B, nbl n + 1 = B := ⟨_, rfl⟩
    have e3 : ((n : Int) + 15).tdiv 16 = (B : Int) := by
      rw [Int.tdiv_eq_ediv_of_nonneg (by omega), ← hB]
      unfold nbl; omega
    have e4 : wrap64 (B : Int) = (B : Int) := by
      have : B ≤ 140737488355999 := by rw [← hB]; unfold nbl; omega
      unfold wrap64; omega
    rw [hB]
    clear hB
    go_enter Tryd.func47, Tryd.ntmps47
    go_wp2
    go_ret
    exact ⟨by show Ending.returned (.int .i64 (wrap64 (B : Int))) = _; rw [e4], rfl⟩
/-- Block i of a message of n bytes, noughts behind its end. -/
def bkp (f : Nat → Nat) (n i j : Nat) : Nat := if 16 * i + j < n then f (16 * i + j) else 0
theorem bkp_b {f : Nat → Nat} (h : ∀ i, f i < 256) (n i : Nat) : B16 (bkp f n i) := fun j _ => by
  unfold bkp; split
  · exact h _
  · decide
theorem bkp_mid {f : Nat → Nat} {n i : Nat} (h : i < nbl n) : E16 (bkp f n i) (mbk f i) := fun j hj => by
  unfold bkp mbk
  rw [if_pos (by unfold nbl at h; omega)]
theorem bkp_last {f : Nat → Nat} (n : Nat) : E16 (bkp f n (nbl n)) (wtn f n) := fun j _ => by
  unfold bkp wtn
  have := nbl_ct n
  by_cases h : j < ctn n
  · rw [if_pos h, if_pos (by omega)]
  · rw [if_neg h, if_neg (by omega)]
set_option maxRecDepth 8000 in
set_option maxHeartbeats 4000000 in
theorem rblock (v : Value) (n i : Nat) (f : Nat → Nat) (w : World) (hr : By.RB w v n (cb f)) (hn : n ≤ 140737488355999) (hi : i ≤ 8796093022250) : Calls Tryd.prog 68 #[v, .int .i64 i] w fun e w' => e = .returned (bv (bkp f n i)) ∧ Below w.heap.size w w' := by
  have HR := hid hr
  obtain ⟨hf, ad, cap, rfl, h1, h2, -⟩ := hr
  have HF := hid hf
  clear hf h1 h2
  unfold bv
  go_enter Tryd.func68, Tryd.ntmps68
  go_wp2_with fail
  go_loopw [6] (fun x wr => ∃ k : Nat, k ≤ 16 ∧ 16 * i + k ≤ max n (16 * i) ∧ x = .int .i64 k ∧ Blk wr w.heap.size z16 82 ∧ Blk wr (w.heap.size + 1) (bl 16 (cb (upto k (bkp f n i)))) 82 ∧ Below w.heap.size w wr) (fun x _ => 16 - (intOf x).toNat)
  case atStart =>
    exact ⟨0, by omega, by omega, rfl, (z_new w).alloc _, Blk.newAt _ _ _ _ _ (by simp) rfl, (below_alloc w _).alloc (by simp) _⟩
  case round =>
    obtain ⟨k, hk, hk2, rfl, b0, b1, hbel⟩ := hrel
    have B0 := hid b0
    have B1 := hid b1
    have HB := hid hbel
    have HZ := hid b1.lt
    clear b0 b1 hbel
    have hw1 : wrap64 (16 * (i : Int)) = 16 * (i : Int) := by unfold wrap64; omega
    have hw2 : wrap64 (16 * (i : Int) + (k : Int)) = 16 * (i : Int) + (k : Int) := by unfold wrap64; omega
    by_cases hlt : k < 16 ∧ 16 * i + k < n
    · obtain ⟨b, off, rfl, hc⟩ : ∃ b off, ad = some ⟨b, off, none⟩ ∧ wr.cell? ⟨b, off + (16 * i + k), none⟩ = some (.int .u8 (f (16 * i + k) : Nat)) := by
        obtain ⟨_, a', cap', he, _, _, h0 | ⟨b, off, rfl, hc⟩⟩ := HR.out.below HB.out
        · omega
        · simp at he
          exact ⟨b, off, he.1, hc (16 * i + k) hlt.2⟩
      obtain ⟨h16, hin⟩ := hlt
      have f1 := B1.out.frozen k
      have x1 := B1.out.cell k _ (bl_get 16 _ k h16)
      have HS := hid (upto_set (bkp f n i) k)
      have HE := hid (show bkp f n i k = f (16 * i + k) from if_pos hin)
      obtain ⟨x, ex⟩ : ∃ x, f (16 * i + k) = x := ⟨_, rfl⟩
      obtain ⟨p, hp⟩ : ∃ p, 16 * i + k = p := ⟨_, rfl⟩
      have hp2 : 16 * (i : Int) + (k : Int) = (p : Int) := by omega
      rw [ex] at hc HE
      rw [hp] at hc hin
      rw [hp2] at hw2
      have hd1 : decide ((k : Int) < 16) = true := decide_eq_true (by omega)
      have hd2 : decide ((p : Int) < (n : Int)) = true := decide_eq_true (by omega)
      clear ex
      go_wp2_with fail
      have hz := HZ.out
      refine ⟨⟨k + 1, by omega, by omega, by go_num, B0.out.other (by omega) _ _, ?_, below_set HB.out _ _ _ (by omega) HB.out.size⟩, by simp [intOf]; omega⟩
      rw [← HS.out, HE.out]
      exact B1.out.set _ _
    · have HE := hid (show bl 16 (cb (upto k (bkp f n i))) = bl 16 (cb (bkp f n i)) from bl_congr _ _ _ (fun x hx => by
        show ((upto k (bkp f n i) x : Nat) : Int) = ((bkp f n i x : Nat) : Int)
        unfold upto bkp
        by_cases hx2 : x < k
        · rw [if_pos hx2]
        · rw [if_neg hx2, if_neg (by omega)]))
      rw [HE.out] at B1
      obtain ⟨s1, b3⟩ := z_st (f := bkp f n i) B0.out z16_len
      have l1 := z_ld B1.out
      have L3 := hid (z_ld b3)
      clear b3
      have hz := HZ.out
      have HB3 := hid (below_cells HB.out w.heap.size 0 (bl 16 (cb (bkp f n i))) (Nat.le_refl _) HB.out.size)
      by_cases h16 : k < 16
      · have hd1 : decide ((k : Int) < 16) = true := decide_eq_true (by omega)
        have hd2 : decide (16 * (i : Int) + (k : Int) < (n : Int)) = false := decide_eq_false (by omega)
        have hd3 : ¬ 16 * (i : Int) + (k : Int) < (n : Int) := by omega
        go_wp2_with fail
        refine bodyPost_ret ?_ rfl ⟨rfl, HB3.out⟩
        exact results_cell1 Tryd.results68 rfl L3.out
      · have hd1 : decide ((k : Int) < 16) = false := decide_eq_false (by omega)
        go_wp2_with fail
        refine bodyPost_ret ?_ rfl ⟨rfl, HB3.out⟩
        exact results_cell1 Tryd.results68 rfl L3.out
end Go.Proofs.YtbgdjjfonmoemaaDoor.Vm
namespace Go.Proofs.YtbgdjjfonmoemaaDoor.Vm
open Go.ChangeShapes Go.WideShapes Go.ChangeAt Go.RowKit
open Go.Proofs.YtbgdjjfonmoemaaDoor.By Go.Proofs.YtbgdjjfonmoemaaDoor.Gf Go.Proofs.YtbgdjjfonmoemaaDoor.Ae
set_option maxRecDepth 8000 in
set_option maxHeartbeats 4000000 in
theorem rchain (g r : Nat) (wv : Value) (ws : Nat → Nat) (v : Value) (n : Nat) (f : Nat → Nat) (w : World) (h : RA w g wv (4 * (r + 1)) ws) (hr14 : r ≤ 14) (hr : By.RB w v n (cb f)) (hn : n ≤ 140737488355999) :
    Calls Tryd.prog 70 #[.pointer (some ⟨g, 0, none⟩), v] w fun e w' => e = .returned (bv (chn ws r f (nbl n))) ∧ Below w.heap.size w w' := by
  have HR := hid hr
  obtain ⟨hf, ad, cap, rfl, h1, h2, -⟩ := hr
  have HF := hid (show ∀ i, f i < 256 from fun i => Int.ofNat_lt.1 (hf i).2)
  have HA := hid h
  clear hf h1 h2 h
  obtain ⟨B, hB⟩ : ∃ B, nbl n = B := ⟨_, rfl⟩
  have hBn : B ≤ 8796093022250 := by rw [← hB]; unfold nbl; omega
  have BC := hid (rblocks n hn)
  rw [hB] at BC ⊢
  have HMid := hid (show ∀ i, i < B → E16 (bkp f n i) (mbk f i) from fun i hi => bkp_mid (by omega))
  clear hB
  go_enter Tryd.func70, Tryd.ntmps70
  go_wp2_with fail
  go_loopw [6] (fun x wr => ∃ k : Nat, k ≤ B ∧ x = .int .i64 k ∧ Blk wr w.heap.size z16 82 ∧ Blk wr (w.heap.size + 1) (bl 16 (cb (chn ws r f k))) 82 ∧ Below w.heap.size w wr) (fun x _ => B - (intOf x).toNat)
  case atStart =>
    exact ⟨0, by omega, rfl, (z_new w).alloc _, Blk.newAt _ _ _ _ _ (by simp) rfl, (below_alloc w _).alloc (by simp) _⟩
  case round =>
    obtain ⟨k, hk, rfl, b0, b1, hbel⟩ := hrel
    have B0 := hid b0
    have B1 := hid b1
    have HB := hid hbel
    have HZ := hid b1.lt
    clear b0 b1 hbel
    have hB1 : ((B + 1 : Nat) : Int) - 1 = (B : Int) := by omega
    by_cases hlt : k < B
    · have hd : decide ((k : Int) < (B : Int)) = true := decide_eq_true (by omega)
      have hch : B16 (chn ws r f k) := chn_b HA.out.lt HF.out _ _
      have hbk : B16 (bkp f n k) := bkp_b HF.out n k
      have HX := hid (xr_b hch hbk)
      have l1 := z_ld (B1.out.drewN 1)
      rw [show wr.drewN 1 = wr.drew from rfl] at l1
      have KC := hid (rblock (.slice ad n cap) n k f wr.drew (HR.out.below (below_dr HB.out)) hn (by omega))
      have XC := hid (show ∀ W, Calls Tryd.prog 69 #[.agg (bl 16 (cb (chn ws r f k))).toArray, bv (bkp f n k)] W fun e w' => e = .returned (bv (xr (chn ws r f k) (bkp f n k))) ∧ Below W.heap.size W w' from fun W => rxored1 _ _ hch hbk W)
      have EC := hid (show ∀ W, RA W g wv (4 * (r + 1)) ws → Calls Tryd.prog 67 #[.pointer (some ⟨g, 0, none⟩), bv (xr (chn ws r f k) (bkp f n k))] W fun e w' => e = .returned (.agg (bl 16 (cb (enc ws r (xr (chn ws r f k) (bkp f n k))))).toArray) ∧ Below W.heap.size W w' from fun W hW => renc g r wv ws _ HX.out W hW hr14)
      clear hch hbk
      go_wp2_with (go_at_call 47; refine (BC.out _).mono ?_; rintro e w' ⟨rfl, hw'⟩; subst w')
      go_region_law (first
        | (go_simp; go_at_call 68; refine KC.out.mono ?_; rintro e w2 ⟨rfl, hb2⟩; have D2 := hid ((B1.out.drewN 1).below hb2); have D0 := hid ((B0.out.drewN 1).below hb2); have HB2 := hid (below_next (below_dr HB.out) hb2); have l2 := z_ld D2.out; clear hb2)
        | (go_simp; go_at_call 69; refine (XC.out w2).mono ?_; rintro e w3 ⟨rfl, hb3⟩; have E2 := hid (D2.out.below hb3); have E0 := hid (D0.out.below hb3); have HB3 := hid (below_next HB2.out hb3); clear hb3)
        | (go_simp; go_at_call 67; refine (EC.out w3 (HA.out.below HB3.out)).mono ?_; rintro e w4 ⟨rfl, hb4⟩; have F2 := hid (E2.out.below hb4); have F0 := hid (E0.out.below hb4); have HB4 := hid (below_next HB3.out hb4); obtain ⟨s5, b5⟩ := z_st (f := enc ws r (xr (chn ws r f k) (bkp f n k))) F2.out (bl_length _ _); have G2 := hid b5; clear hb4 b5))
      all_goals
        go_simp
        go_wp2_with fail
        have hz := HZ.out
        have hs := HB4.out.size
        refine ⟨⟨k + 1, by omega, by go_num, F0.out.kept (Kp.setCells _ _ _) (by omega), ?_, below_cells HB4.out _ _ _ (by omega) HB4.out.size⟩, by simp [intOf]; omega⟩
        rw [show bl 16 (cb (chn ws r f (k + 1))) = bl 16 (cb (enc ws r (xr (chn ws r f k) (bkp f n k)))) from bl16_e (enc_e _ _ (xr_e (E16.refl _) (HMid.out k hlt).symm))]
        exact G2.out
    · have ek : k = B := by omega
      subst ek
      have hd : decide ((k : Int) < (k : Int)) = false := decide_eq_false (by omega)
      obtain ⟨s1, b3⟩ := z_st (f := chn ws r f k) B0.out z16_len
      have l1 := z_ld B1.out
      have L3 := hid (z_ld b3)
      clear b3
      have HB3 := hid (below_cells HB.out w.heap.size 0 (bl 16 (cb (chn ws r f k))) (Nat.le_refl _) HB.out.size)
      go_wp2_with (go_at_call 47; refine (BC.out _).mono ?_; rintro e w' ⟨rfl, hw'⟩; subst w')
      refine bodyPost_ret ?_ rfl ⟨rfl, HB3.out⟩
      exact results_cell1 Tryd.results70 rfl L3.out
end Go.Proofs.YtbgdjjfonmoemaaDoor.Vm
