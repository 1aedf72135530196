/- The document's cmac: Of. -/
import Derived.Test.YtbgdjjfonmoemaaDoorWg
import Derived.Test.YtbgdjjfonmoemaaDoorYo
import Derived.Test.YtbgdjjfonmoemaaDoorWb
namespace Go.Proofs.YtbgdjjfonmoemaaDoor.Vm
open Go.ChangeShapes Go.WideShapes Go.ChangeAt Go.RowKit
open Go.Proofs.YtbgdjjfonmoemaaDoor.By Go.Proofs.YtbgdjjfonmoemaaDoor.Gf Go.Proofs.YtbgdjjfonmoemaaDoor.Ae
open Go.Proofs.YtbgdjjfonmoemaaDoor.Kc (own_kept own_mono own8_type cat cat_bound wpList_cat below_grow)
theorem blk_ty {W : World} {g : Nat} {cs cs' : List Value} {t t' : TypeId} (h : Blk W g cs t) (h' : Blk W g cs' t') : t = t' := by
  have := Option.some.inj (h.symm.trans h')
  simp only [Obj.cells.injEq] at this
  exact this.2.1
/-- Stored whole, the world by name. -/
theorem z_stE {W : World} {q : Nat} {cs : List Value} (f : Nat → Nat) (h : Blk W q cs 82) (hl : cs.length = 16) : ∃ W', (SVb ⟨q, 0, none⟩ (.agg (bl 16 (cb f)).toArray)).run Tryd.prog W = .ok () W' ∧ Blk W' q (bl 16 (cb f)) 82 ∧ Kp (fun j => j = q) W W' := by
  obtain ⟨a, b⟩ := z_st (f := f) h hl
  exact ⟨_, a, b, Kp.setCells q 0 _⟩
theorem once1 {T G : Prop} (f : T → G) (t : T) : G := f t
theorem upto_lt {f : Nat → Nat} (h : B16 f) (i : Nat) : upto 16 f i < 256 := by
  unfold upto; split
  · exact h _ (by omega)
  · decide
theorem mrk_set (m : Nat → Nat) (n : Nat) : (bl 16 (cb (wtn m n))).set (ctn n) (.int .u8 128) = bl 16 (cb (mrk m n)) := by
  rw [show (Value.int .u8 128) = .int .u8 ((128 : Nat) : Int) from rfl, bl_set]
  refine bl_congr _ _ _ (fun i _ => ?_)
  show (if i = ctn n then ((128 : Nat) : Int) else ((wtn m n i : Nat) : Int)) = ((mrk m n i : Nat) : Int)
  unfold mrk
  split <;> rfl
theorem ra_ne {W : World} {g n x : Nat} {wv : Value} {f : Nat → Nat} {cs : List Value} {t : TypeId} (h : RA W g wv n f) (hb : Blk W x cs t) (ht : t ≠ 100) : ∀ q, wv.ownBlock = some q → q ≠ x := by
  rintro q hq rfl
  obtain ⟨hl, h' | ⟨q', cap, cur, rfl, h0, hc, r⟩⟩ := h.own
  · obtain ⟨rfl, -⟩ := h'; simp [Value.ownBlock] at hq
  · simp [Value.ownBlock] at hq; subst hq
    have h2 : Blk W q' cur.toList 100 := by show W.heap[q']? = _; rw [hc]
    exact ht (blk_ty hb h2)
set_option maxRecDepth 8000 in
set_option maxHeartbeats 4000000 in
theorem rOf (k : Nat) (hk : k = 4 ∨ k = 6 ∨ k = 8) (key : Nat → Nat) (hkey : ∀ i, key i < 256) (kv pv : Value) (n : Nat) (f : Nat → Nat) (w : World) (hkr : By.RB w kv (4 * k) (cb key)) (hr : By.RB w pv n (cb f)) (hn : n ≤ 140737488355999) :
    Calls Tryd.prog 49 #[kv, pv] w fun e w' => ∃ v, e = .returned v ∧ By.Own w' w.heap.size v 16 (cb (upto 16 (tgn (wds k key (3 * k + 28)) (k + 6) f n))) ∧ Below w.heap.size w w' := by
  have HR := hid hr
  have HKR := hid hkr
  obtain ⟨hf, ad, cap, rfl, h1, h2, -⟩ := hr
  obtain ⟨kb, ko, kc, rfl, hkc⟩ : ∃ kb ko kc, kv = .slice (some ⟨kb, ko, none⟩) (4 * k) kc ∧ ∀ i, i < 4 * k → w.cell? ⟨kb, ko + i, none⟩ = some (.int .u8 (key i : Nat)) := by
    obtain ⟨_, a', cap', he, _, _, h0 | ⟨b, off, h0, hc⟩⟩ := hkr
    · omega
    · exact ⟨b, off, cap', by rw [he, h0], hc⟩
  have HF := hid (show ∀ i, f i < 256 from fun i => Int.ofNat_lt.1 (hf i).2)
  clear hf h1 h2 hkr
  go_enter Tryd.func49, Tryd.ntmps49
  go_wp2_with fail
  refine (rof k hk key hkey kb ko kc w hkc).mono ?_
  rintro e w2 ⟨g, wv, rfl, hg, hb, how, hb2⟩
  have A2 := hid (show RA w2 g wv (4 * (k + 6 + 1)) (wds k key (3 * k + 28)) from ⟨hb, how.base, wds_lt k key hkey _⟩)
  have B2 := hid hb2
  clear hg hb how hb2 hkc
  obtain ⟨ws, hws⟩ : ∃ ws, wds k key (3 * k + 28) = ws := ⟨_, rfl⟩
  obtain ⟨r, hr6⟩ : ∃ r, k + 6 = r := ⟨_, rfl⟩
  rw [hws, hr6] at A2
  have hr14 : r ≤ 14 := by omega
  have hE : B16 (enc ws r nought) := enc_b A2.out.lt _ nought_b
  go_wp2_with fail
  refine (renc g r wv ws nought nought_b w2 A2.out hr14).mono ?_
  rintro e w3 ⟨rfl, hb3⟩
  have A3 := hid (A2.out.below hb3)
  have B3 := hid (below_next B2.out hb3)
  clear hb3 A2 B2
  unfold bv
  go_wp2_with fail
  refine (rdbl1 (enc ws r nought) hE w3).mono ?_
  rintro e w4 ⟨rfl, hb4⟩
  have A4 := hid (A3.out.below hb4)
  have B4 := hid (below_next B3.out hb4)
  clear hb4 A3 B3
  obtain ⟨W5, s5, b5, k5⟩ := z_var w4 (sk1 ws r)
  have A5 := hid (A4.out.below k5)
  have B5 := hid (below_next B4.out k5)
  have V1 := hid b5
  clear b5 k5 A4 B4
  rw [show dbl (enc ws r nought) = sk1 ws r from rfl]
  unfold bv
  obtain ⟨o1, ho1⟩ : ∃ x, w4.heap.size = x := ⟨_, rfl⟩
  rw [ho1] at s5 V1
  obtain ⟨B, hB⟩ : ∃ B, nbl n = B := ⟨_, rfl⟩
  have BC := hid (rblocks n hn)
  rw [hB] at BC
  have hBn : B ≤ 8796093022250 := by rw [← hB]; unfold nbl; omega
  go_wp2_with (go_at_call 47; refine (BC.out _).mono ?_; rintro e w' ⟨rfl, hw'⟩; subst w')
  have CB := hid (rblock (.slice ad n cap) n B f W5 (HR.out.below B5.out) hn hBn)
  rw [show bv (bkp f n B) = bv (wtn f n) from bv_e (by rw [← hB]; exact bkp_last n)] at CB
  refine CB.out.mono ?_
  rintro e w6 ⟨rfl, hb6⟩
  have A6 := hid (A5.out.below hb6)
  have B6 := hid (below_next B5.out hb6)
  have V6 := hid (V1.out.below hb6)
  clear hb6 A5 B5 V1 CB
  obtain ⟨W7, s7, b7, k7⟩ := z_var w6 (wtn f n)
  have A7 := hid (A6.out.below k7)
  have B7 := hid (below_next B6.out k7)
  have V7 := hid (V6.out.below k7)
  have U7 := hid b7
  have hne := hid (show o1 ≠ w6.heap.size from Nat.ne_of_lt V6.out.lt)
  have B6' := hid B6.out.size
  clear b7 k7 A6 B6 V6
  obtain ⟨o2, ho2⟩ : ∃ x, w6.heap.size = x := ⟨_, rfl⟩
  rw [ho2] at s7 U7 hne
  unfold bv
  have hct := nbl_ct n
  have hcl := ctn_le n
  rw [hB] at hct
  have hwt : B16 (wtn f n) := wtn_b HF.out n
  have hs1 : B16 (sk1 ws r) := sk1_b A7.out.lt r
  by_cases hc : ctn n = 16
  · have hq : ((n : Int) == 16 * ((B : Int) + 1)) = true := by rw [beq_iff_eq]; omega
    have hq3 : wrap64 (16 * ((B : Int) + 1)) = 16 * ((B : Int) + 1) := by unfold wrap64; omega
    have el := hid (show xr (wtn f n) (sk1 ws r) = lstb ws r f n from (if_pos hc).symm)
    have l1 := z_ld U7.out
    have l2 := z_ld V7.out
    have XC := hid (show Calls Tryd.prog 69 #[.agg (bl 16 (cb (wtn f n))).toArray, .agg (bl 16 (cb (sk1 ws r))).toArray] W7 fun e w' => e = .returned (.agg (bl 16 (cb (xr (wtn f n) (sk1 ws r)))).toArray) ∧ Below W7.heap.size W7 w' from rxored1 _ _ hwt hs1 W7)
    rw [el.out] at XC
    clear hwt hs1
    go_wp2_with fail
    refine XC.out.mono ?_
    rintro e w8 ⟨rfl, hb8⟩
    have A8 := hid (A7.out.below hb8)
    have B8 := hid (below_next B7.out hb8)
    obtain ⟨s9, b9⟩ := z_st (f := lstb ws r f n) (U7.out.below hb8) (bl_length _ _)
    have hk9 : Kp (fun j => j = o2) w8 (w8.setCells o2 0 (bl 16 (cb (lstb ws r f n)))) := Kp.setCells o2 0 _
    obtain ⟨W9, hW9⟩ : ∃ x, w8.setCells o2 0 (bl 16 (cb (lstb ws r f n))) = x := ⟨_, rfl⟩
    rw [hW9] at s9 b9 hk9
    have ho2w := hid (show w.heap.size ≤ o2 from by rw [← ho2]; have := B6'.out; omega)
    have A9 := hid (A8.out.kept hk9 (fun e => by have e' : g = o2 := e; subst e'; exact absurd rfl (A8.out.here.ne (U7.out.below hb8) (by decide))) (fun q hq e => ra_ne A8.out (U7.out.below hb8) (by decide) q hq e))
    have B9 := hid (B8.out.trans (hk9.below B8.out.size (fun j hj e => by have e' : j = o2 := e; have := ho2w.out; omega)))
    have U9 := hid b9
    clear hb8 b9 hk9 A7 B7 V7 U7 A8 B8
    go_wp2_with fail
    have C9 := hid (show ∀ W, RA W g wv (4 * (r + 1)) ws → By.RB W (.slice ad n cap) n (cb f) → Calls Tryd.prog 70 #[.pointer (some ⟨g, 0, none⟩), .slice ad n cap] W fun e w' => e = .returned (bv (chn ws r f B)) ∧ Below W.heap.size W w' from fun W h1 h2 => by have := rchain g r wv ws (.slice ad n cap) n f W h1 hr14 h2 hn; rwa [hB] at this)
    have hch : B16 (chn ws r f B) := chn_b A9.out.lt HF.out _ _
    have hls : B16 (lstb ws r f n) := lstb_b A9.out.lt HF.out _ _
    have HX := hid (xr_b hch hls)
    have X9 := hid (show ∀ W, Calls Tryd.prog 69 #[bv (chn ws r f B), .agg (bl 16 (cb (lstb ws r f n))).toArray] W fun e w' => e = .returned (bv (xr (chn ws r f B) (lstb ws r f n))) ∧ Below W.heap.size W w' from fun W => rxored1 _ _ hch hls W)
    have E9 := hid (show ∀ W, RA W g wv (4 * (r + 1)) ws → Calls Tryd.prog 67 #[.pointer (some ⟨g, 0, none⟩), bv (xr (chn ws r f B) (lstb ws r f n))] W fun e w' => e = .returned (.agg (bl 16 (cb (tgn ws r f n))).toArray) ∧ Below W.heap.size W w' from fun W hW => by have := renc g r wv ws _ HX.out W hW hr14; rw [← hB] at this ⊢; exact this)
    clear hch hls
    obtain ⟨TG, hTG⟩ : ∃ x, tgn ws r f n = x := ⟨_, rfl⟩
    have HTG := hid (show ∀ i, 0 ≤ cb (upto 16 TG) i ∧ cb (upto 16 TG) i < 256 from fun i => ⟨Int.natCast_nonneg _, Int.ofNat_lt.2 (by rw [← hTG]; exact upto_lt (tgn_b A9.out.lt HF.out _ _) i)⟩)
    rw [hTG] at E9
    have hl := z_ld (U9.out.drewN 1)
    rw [show W9.drewN 1 = W9.drew from rfl] at hl
    have hl' := z_ld ((U9.out.below (below_alloc W9 (.cells z16.toArray 82))).drewN 1)
    rw [show (W9.alloc (.cells z16.toArray 82)).drewN 1 = (W9.alloc (.cells z16.toArray 82)).drew from rfl] at hl'
    go_region_law (first
      | (go_simp; go_at_call 70; refine (C9.out W9.drew (A9.out.below (below_drewN W9 1)) (HR.out.below (below_dr B9.out))).mono ?_; rintro e wA ⟨rfl, hbA⟩; have AA := hid ((A9.out.below (below_drewN W9 1)).below hbA); have BA := hid (below_next (below_dr B9.out) hbA); have UA := hid ((U9.out.drewN 1).below hbA); have lA := z_ld UA.out; have lA' := z_ld (UA.out.below (below_alloc wA (.cells z16.toArray 82))); clear hbA)
      | (go_simp; go_at_call 70; refine (C9.out (W9.drew.alloc (.cells z16.toArray 82)) ((A9.out.below (below_drewN W9 1)).below (below_alloc _ _)) (HR.out.below (below_next (below_dr B9.out) (below_alloc _ _)))).mono ?_; rintro e wA ⟨rfl, hbA⟩; have AA := hid (((A9.out.below (below_drewN W9 1)).below (below_alloc _ _)).below hbA); have BA := hid (below_next (below_next (below_dr B9.out) (below_alloc _ _)) hbA); have UA := hid (((U9.out.drewN 1).below (below_alloc _ _)).below hbA); have lA := z_ld UA.out; have lA' := z_ld (UA.out.below (below_alloc wA (.cells z16.toArray 82))); have PX := hid (show Blk wA W9.heap.size z16 82 from (z_new W9.drew).below hbA); have QX := hid (show w.heap.size ≤ W9.heap.size from B9.out.size); clear hbA; obtain ⟨q, hq⟩ : ∃ q, W9.heap.size = q := ⟨_, rfl⟩; rw [hq] at PX QX)
      | (go_simp; go_at_call 69; refine (X9.out wA).mono ?_; rintro e wB ⟨rfl, hbB⟩; have AB := hid (AA.out.below hbB); have BB := hid (below_next BA.out hbB); (try (have PX := hid (PX.out.below hbB))); clear hbB)
      | (go_simp; go_at_call 69; refine (X9.out (wA.alloc (.cells z16.toArray 82))).mono ?_; rintro e wB ⟨rfl, hbB⟩; have AB := hid ((AA.out.below (below_alloc _ _)).below hbB); have BB := hid (below_next (below_next BA.out (below_alloc _ _)) hbB); have PX := hid ((z_new wA).below hbB); have QX := hid (show w.heap.size ≤ wA.heap.size from BA.out.size); clear hbB; obtain ⟨q, hq⟩ : ∃ q, wA.heap.size = q := ⟨_, rfl⟩; rw [hq] at PX QX)
      | (go_simp; go_at_call 67; refine (E9.out wB AB.out).mono ?_; rintro e wC ⟨rfl, hbC⟩; have BCC := hid (below_next BB.out hbC); have PX := hid (PX.out.below hbC); obtain ⟨WD, sD, bD, kD⟩ := z_stE TG PX.out z16_len; have BD := hid (BCC.out.trans (kD.below BCC.out.size (fun j hj e => by have := QX.out; omega))); have XD := hid bD; clear hbC bD kD BCC)
      | (go_simp; go_at_call 67; refine (E9.out wB AB.out).mono ?_; rintro e wC ⟨rfl, hbC⟩; have BCC := hid (below_next BB.out hbC); obtain ⟨WD, sD, bD, kD⟩ := z_var wC TG; have BD := hid (below_next BCC.out kD); have XD := hid bD; have QX := hid (show w.heap.size ≤ wC.heap.size from BCC.out.size); clear hbC bD kD BCC; obtain ⟨q, hq⟩ : ∃ q, wC.heap.size = q := ⟨_, rfl⟩; rw [hq] at XD QX sD)
      | (go_simp; go_at_call 67; refine (E9.out (wB.alloc (.cells z16.toArray 82)) (AB.out.below (below_alloc _ _))).mono ?_; rintro e wC ⟨rfl, hbC⟩; have BCC := hid (below_next (below_next BB.out (below_alloc _ _)) hbC); have PX := hid ((z_new wB).below hbC); obtain ⟨q, hq⟩ : ∃ q, wB.heap.size = q := ⟨_, rfl⟩; have QX := hid (show w.heap.size ≤ wB.heap.size from BB.out.size); rw [hq] at PX QX; obtain ⟨WD, sD, bD, kD⟩ := z_stE TG PX.out z16_len; have BD := hid (BCC.out.trans (kD.below BCC.out.size (fun j hj e => by have := QX.out; omega))); have XD := hid bD; clear hbC bD kD BCC))
    all_goals
      clear lA lA' hl hl' X9 C9 E9 sD
      go_simp
      go_wp2_with fail
      go_loopw [10, 11] (fun v i wr => ∃ j : Nat, j ≤ 16 ∧ i = .int .i64 j ∧ By.Own wr w.heap.size v j (cb (upto 16 TG)) ∧ Blk wr q (bl 16 (cb TG)) 82 ∧ Below w.heap.size w wr) (fun _ i _ => 16 - (intOf i).toNat)
      case atStart => exact ⟨0, by omega, rfl, own_nil _ _ _ HTG.out, XD.out, BD.out⟩
      case round =>
        obtain ⟨j, hj, rfl, hov, hbq, hbr⟩ := hrel
        have OV := hid hov
        have BQ := hid hbq
        have BR := hid hbr
        clear hov hbq hbr
        by_cases hlt : j < 16
        · have x1 := BQ.out.cell j _ (bl_get 16 _ j hlt)
          have hd : decide ((j : Int) < 16) = true := decide_eq_true (by omega)
          have hd2 : (j : Int) < 16 := by omega
          obtain ⟨y, hy⟩ : ∃ y, TG j = y := ⟨_, rfl⟩
          have HY := hid (show cb (upto 16 TG) j = (y : Int) from by show ((upto 16 TG j : Nat) : Int) = _; rw [upto_get _ _ _ hlt, hy])
          have HY2 := hid (show y < 256 from by have := (HTG.out j).2; rw [HY.out] at this; omega)
          rw [show cb TG j = (y : Int) from by show ((TG j : Nat) : Int) = _; rw [hy]] at x1
          have RB1 := hid (ap_rb wr y HY2.out)
          have OA := hid (own_below OV.out (below_alloc wr (.cells #[.int .u8 (y : Int)] 5)))
          have BA' := hid (below_next BR.out (below_alloc wr (.cells #[.int .u8 (y : Int)] 5)))
          clear hy
          go_wp2_with (at_builtin; go_must (refine wpList_cat rfl _ _ rfl w.heap.size j 1 _ _ (cb (upto 16 TG)) (fun _ => (y : Int)) rfl OA.out rfl RB1.out (by omega) BA'.out.size ?_))
          intro v' w1 hown hgrow
          have O1 := hid (ap_own hown HTG.out HY.out)
          have B1 := hid (below_grow BA'.out BA'.out.size OA.out hgrow)
          have Q1 := hid (ap_kn OV.out hgrow _ _ _ (by decide) BQ.out)
          clear hown hgrow
          go_wp2_with fail
          exact ⟨⟨j + 1, by omega, by go_num, O1.out, Q1.out, B1.out⟩, by simp [intOf]; omega⟩
        · obtain rfl : j = 16 := by omega
          have hd : decide (((16 : Nat) : Int) < 16) = false := decide_eq_false (by omega)
          go_wp2_with fail
          go_ret
          exact ⟨_, rfl, by rw [hws, hr6, hTG]; exact OV.out, BR.out⟩
  · have hc2 : ctn n < 16 := by omega
    have hq : ((n : Int) == 16 * ((B : Int) + 1)) = false := by rw [beq_eq_false_iff_ne]; omega
    have hq2 : ¬ (n : Int) = 16 * ((B : Int) + 1) := by omega
    have hq3 : wrap64 (16 * ((B : Int) + 1)) = 16 * ((B : Int) + 1) := by unfold wrap64; omega
    have hq5 : wrap64 (16 * (B : Int)) = 16 * (B : Int) := by unfold wrap64; omega
    have el := hid (show xr (mrk f n) (sk2 ws r) = lstb ws r f n from (if_neg hc).symm)
    have hmk : B16 (mrk f n) := mrk_b HF.out n
    have hs2 : B16 (sk2 ws r) := sk2_b A7.out.lt r
    have hset := mrk_set f n
    obtain ⟨c, hcc⟩ : ∃ c, ctn n = c := ⟨_, rfl⟩
    rw [hcc] at hset hc2 hct
    have hq6 : (n : Int) - 16 * (B : Int) = (c : Int) := by omega
    have hq7 : (c : Int) < 16 := by omega
    have x7 := U7.out.cell c _ (bl_get 16 _ c hc2)
    have f7 := U7.out.frozen c
    have U8 := hid (show Blk (W7.setCell ⟨o2, c, none⟩ (.int .u8 128)) o2 (bl 16 (cb (mrk f n))) 82 from by rw [← hset]; exact U7.out.set c _)
    have V8 := hid (V7.out.other hne.out c (.int .u8 128))
    have ho2w := hid (show w.heap.size ≤ o2 from by rw [← ho2]; have := B6'.out; omega)
    have hk8 : Kp (fun j => j = o2) W7 (W7.setCell ⟨o2, c, none⟩ (.int .u8 128)) := Kp.setCell o2 c _
    have A8 := hid (A7.out.kept hk8 (fun e => by have e' : g = o2 := e; subst e'; exact absurd rfl (A7.out.here.ne U7.out (by decide))) (fun q hq e => ra_ne A7.out U7.out (by decide) q hq e))
    have B8 := hid (B7.out.trans (hk8.below B7.out.size (fun j hj e => by have e' : j = o2 := e; have := ho2w.out; omega)))
    obtain ⟨W8, hW8⟩ : ∃ x, W7.setCell ⟨o2, c, none⟩ (.int .u8 128) = x := ⟨_, rfl⟩
    rw [hW8] at U8 V8 A8 B8
    clear hk8 hset
    have XC := hid (show ∀ W, Calls Tryd.prog 69 #[.agg (bl 16 (cb (mrk f n))).toArray, .agg (bl 16 (cb (sk2 ws r))).toArray] W fun e w' => e = .returned (.agg (bl 16 (cb (lstb ws r f n))).toArray) ∧ Below W.heap.size W w' from fun W => by have := rxored1 _ _ hmk hs2 W; rw [el.out] at this; exact this)
    have DC := hid (show Calls Tryd.prog 66 #[.agg (bl 16 (cb (sk1 ws r))).toArray] W8.drew fun e w' => e = .returned (.agg (bl 16 (cb (sk2 ws r))).toArray) ∧ Below W8.drew.heap.size W8.drew w' from rdbl1 (sk1 ws r) hs1 W8.drew)
    clear hwt hs1 hmk hs2
    have l1 := z_ld (U8.out.drewN 1)
    have l2 := z_ld (V8.out.drewN 1)
    rw [show W8.drewN 1 = W8.drew from rfl] at l1 l2
    go_wp2_with fail
    rename_i QQ KK aK
    refine' once1 (T := ∀ W9, RA W9 g wv (4 * (r + 1)) ws → Below w.heap.size w W9 → Blk W9 o2 (bl 16 (cb (lstb ws r f n))) 82 → Exit.then KK QQ Exit.normal _ W9) _ _
    rotate_left
    · intro key
      go_region_law (first
        | (go_simp; go_at_call 66; refine DC.out.mono ?_; rintro e wA ⟨rfl, hbA⟩; have AA := hid ((A8.out.below (below_drewN W8 1)).below hbA); have BA := hid (below_next (below_dr B8.out) hbA); have UA := hid ((U8.out.drewN 1).below hbA); have lA := z_ld UA.out; clear hbA)
        | (go_simp; go_at_call 69; refine (XC.out wA).mono ?_; rintro e wB ⟨rfl, hbB⟩; have AB := hid (AA.out.below hbB); have BB := hid (below_next BA.out hbB); have UB := hid (UA.out.below hbB); obtain ⟨WC, sC, bC, kC⟩ := z_stE (lstb ws r f n) UB.out (bl_length _ _); have AC := hid (AB.out.kept kC (fun e => by have e' : g = o2 := e; subst e'; exact absurd rfl (AB.out.here.ne UB.out (by decide))) (fun q hq e => ra_ne AB.out UB.out (by decide) q hq e)); have BC' := hid (BB.out.trans (kC.below BB.out.size (fun j hj e => by have e' : j = o2 := e; have := ho2w.out; omega))); have UC := hid bC; clear hbB bC kC))
      all_goals
        go_simp
        exact key WC AC.out BC'.out UC.out
    intro W9 hA9 hB9 hU9
    have A9 := hid hA9
    have B9 := hid hB9
    have U9 := hid hU9
    clear hA9 hB9 hU9 A7 B7 V7 U7 A8 B8 U8 V8 XC DC l1 l2 x7 f7
    go_wp2_with fail
    have C9 := hid (show ∀ W, RA W g wv (4 * (r + 1)) ws → By.RB W (.slice ad n cap) n (cb f) → Calls Tryd.prog 70 #[.pointer (some ⟨g, 0, none⟩), .slice ad n cap] W fun e w' => e = .returned (bv (chn ws r f B)) ∧ Below W.heap.size W w' from fun W h1 h2 => by have := rchain g r wv ws (.slice ad n cap) n f W h1 hr14 h2 hn; rwa [hB] at this)
    have hch : B16 (chn ws r f B) := chn_b A9.out.lt HF.out _ _
    have hls : B16 (lstb ws r f n) := lstb_b A9.out.lt HF.out _ _
    have HX := hid (xr_b hch hls)
    have X9 := hid (show ∀ W, Calls Tryd.prog 69 #[bv (chn ws r f B), .agg (bl 16 (cb (lstb ws r f n))).toArray] W fun e w' => e = .returned (bv (xr (chn ws r f B) (lstb ws r f n))) ∧ Below W.heap.size W w' from fun W => rxored1 _ _ hch hls W)
    have E9 := hid (show ∀ W, RA W g wv (4 * (r + 1)) ws → Calls Tryd.prog 67 #[.pointer (some ⟨g, 0, none⟩), bv (xr (chn ws r f B) (lstb ws r f n))] W fun e w' => e = .returned (.agg (bl 16 (cb (tgn ws r f n))).toArray) ∧ Below W.heap.size W w' from fun W hW => by have := renc g r wv ws _ HX.out W hW hr14; rw [← hB] at this ⊢; exact this)
    clear hch hls
    obtain ⟨TG, hTG⟩ : ∃ x, tgn ws r f n = x := ⟨_, rfl⟩
    have HTG := hid (show ∀ i, 0 ≤ cb (upto 16 TG) i ∧ cb (upto 16 TG) i < 256 from fun i => ⟨Int.natCast_nonneg _, Int.ofNat_lt.2 (by rw [← hTG]; exact upto_lt (tgn_b A9.out.lt HF.out _ _) i)⟩)
    rw [hTG] at E9
    have hl := z_ld (U9.out.drewN 1)
    rw [show W9.drewN 1 = W9.drew from rfl] at hl
    have hl' := z_ld ((U9.out.below (below_alloc W9 (.cells z16.toArray 82))).drewN 1)
    rw [show (W9.alloc (.cells z16.toArray 82)).drewN 1 = (W9.alloc (.cells z16.toArray 82)).drew from rfl] at hl'
    go_region_law (first
      | (go_simp; go_at_call 70; refine (C9.out W9.drew (A9.out.below (below_drewN W9 1)) (HR.out.below (below_dr B9.out))).mono ?_; rintro e wA ⟨rfl, hbA⟩; have AA := hid ((A9.out.below (below_drewN W9 1)).below hbA); have BA := hid (below_next (below_dr B9.out) hbA); have UA := hid ((U9.out.drewN 1).below hbA); have lA := z_ld UA.out; have lA' := z_ld (UA.out.below (below_alloc wA (.cells z16.toArray 82))); clear hbA)
      | (go_simp; go_at_call 70; refine (C9.out (W9.drew.alloc (.cells z16.toArray 82)) ((A9.out.below (below_drewN W9 1)).below (below_alloc _ _)) (HR.out.below (below_next (below_dr B9.out) (below_alloc _ _)))).mono ?_; rintro e wA ⟨rfl, hbA⟩; have AA := hid (((A9.out.below (below_drewN W9 1)).below (below_alloc _ _)).below hbA); have BA := hid (below_next (below_next (below_dr B9.out) (below_alloc _ _)) hbA); have UA := hid (((U9.out.drewN 1).below (below_alloc _ _)).below hbA); have lA := z_ld UA.out; have lA' := z_ld (UA.out.below (below_alloc wA (.cells z16.toArray 82))); have PX := hid (show Blk wA W9.heap.size z16 82 from (z_new W9.drew).below hbA); have QX := hid (show w.heap.size ≤ W9.heap.size from B9.out.size); clear hbA; obtain ⟨q, hq⟩ : ∃ q, W9.heap.size = q := ⟨_, rfl⟩; rw [hq] at PX QX)
      | (go_simp; go_at_call 69; refine (X9.out wA).mono ?_; rintro e wB ⟨rfl, hbB⟩; have AB := hid (AA.out.below hbB); have BB := hid (below_next BA.out hbB); (try (have PX := hid (PX.out.below hbB))); clear hbB)
      | (go_simp; go_at_call 69; refine (X9.out (wA.alloc (.cells z16.toArray 82))).mono ?_; rintro e wB ⟨rfl, hbB⟩; have AB := hid ((AA.out.below (below_alloc _ _)).below hbB); have BB := hid (below_next (below_next BA.out (below_alloc _ _)) hbB); have PX := hid ((z_new wA).below hbB); have QX := hid (show w.heap.size ≤ wA.heap.size from BA.out.size); clear hbB; obtain ⟨q, hq⟩ : ∃ q, wA.heap.size = q := ⟨_, rfl⟩; rw [hq] at PX QX)
      | (go_simp; go_at_call 67; refine (E9.out wB AB.out).mono ?_; rintro e wC ⟨rfl, hbC⟩; have BCC := hid (below_next BB.out hbC); have PX := hid (PX.out.below hbC); obtain ⟨WD, sD, bD, kD⟩ := z_stE TG PX.out z16_len; have BD := hid (BCC.out.trans (kD.below BCC.out.size (fun j hj e => by have := QX.out; omega))); have XD := hid bD; clear hbC bD kD BCC)
      | (go_simp; go_at_call 67; refine (E9.out wB AB.out).mono ?_; rintro e wC ⟨rfl, hbC⟩; have BCC := hid (below_next BB.out hbC); obtain ⟨WD, sD, bD, kD⟩ := z_var wC TG; have BD := hid (below_next BCC.out kD); have XD := hid bD; have QX := hid (show w.heap.size ≤ wC.heap.size from BCC.out.size); clear hbC bD kD BCC; obtain ⟨q, hq⟩ : ∃ q, wC.heap.size = q := ⟨_, rfl⟩; rw [hq] at XD QX sD)
      | (go_simp; go_at_call 67; refine (E9.out (wB.alloc (.cells z16.toArray 82)) (AB.out.below (below_alloc _ _))).mono ?_; rintro e wC ⟨rfl, hbC⟩; have BCC := hid (below_next (below_next BB.out (below_alloc _ _)) hbC); have PX := hid ((z_new wB).below hbC); obtain ⟨q, hq⟩ : ∃ q, wB.heap.size = q := ⟨_, rfl⟩; have QX := hid (show w.heap.size ≤ wB.heap.size from BB.out.size); rw [hq] at PX QX; obtain ⟨WD, sD, bD, kD⟩ := z_stE TG PX.out z16_len; have BD := hid (BCC.out.trans (kD.below BCC.out.size (fun j hj e => by have := QX.out; omega))); have XD := hid bD; clear hbC bD kD BCC))
    all_goals
      clear lA lA' hl hl' X9 C9 E9 sD
      go_simp
      go_wp2_with fail
      go_loopw [10, 11] (fun v i wr => ∃ j : Nat, j ≤ 16 ∧ i = .int .i64 j ∧ By.Own wr w.heap.size v j (cb (upto 16 TG)) ∧ Blk wr q (bl 16 (cb TG)) 82 ∧ Below w.heap.size w wr) (fun _ i _ => 16 - (intOf i).toNat)
      case atStart => exact ⟨0, by omega, rfl, own_nil _ _ _ HTG.out, XD.out, BD.out⟩
      case round =>
        obtain ⟨j, hj, rfl, hov, hbq, hbr⟩ := hrel
        have OV := hid hov
        have BQ := hid hbq
        have BR := hid hbr
        clear hov hbq hbr
        by_cases hlt : j < 16
        · have x1 := BQ.out.cell j _ (bl_get 16 _ j hlt)
          have hd : decide ((j : Int) < 16) = true := decide_eq_true (by omega)
          have hd2 : (j : Int) < 16 := by omega
          obtain ⟨y, hy⟩ : ∃ y, TG j = y := ⟨_, rfl⟩
          have HY := hid (show cb (upto 16 TG) j = (y : Int) from by show ((upto 16 TG j : Nat) : Int) = _; rw [upto_get _ _ _ hlt, hy])
          have HY2 := hid (show y < 256 from by have := (HTG.out j).2; rw [HY.out] at this; omega)
          rw [show cb TG j = (y : Int) from by show ((TG j : Nat) : Int) = _; rw [hy]] at x1
          have RB1 := hid (ap_rb wr y HY2.out)
          have OA := hid (own_below OV.out (below_alloc wr (.cells #[.int .u8 (y : Int)] 5)))
          have BA' := hid (below_next BR.out (below_alloc wr (.cells #[.int .u8 (y : Int)] 5)))
          clear hy
          go_wp2_with (at_builtin; go_must (refine wpList_cat rfl _ _ rfl w.heap.size j 1 _ _ (cb (upto 16 TG)) (fun _ => (y : Int)) rfl OA.out rfl RB1.out (by omega) BA'.out.size ?_))
          intro v' w1 hown hgrow
          have O1 := hid (ap_own hown HTG.out HY.out)
          have B1 := hid (below_grow BA'.out BA'.out.size OA.out hgrow)
          have Q1 := hid (ap_kn OV.out hgrow _ _ _ (by decide) BQ.out)
          clear hown hgrow
          go_wp2_with fail
          exact ⟨⟨j + 1, by omega, by go_num, O1.out, Q1.out, B1.out⟩, by simp [intOf]; omega⟩
        · obtain rfl : j = 16 := by omega
          have hd : decide (((16 : Nat) : Int) < 16) = false := decide_eq_false (by omega)
          go_wp2_with fail
          go_ret
          exact ⟨_, rfl, by rw [hws, hr6, hTG]; exact OV.out, BR.out⟩
end Go.Proofs.YtbgdjjfonmoemaaDoor.Vm
