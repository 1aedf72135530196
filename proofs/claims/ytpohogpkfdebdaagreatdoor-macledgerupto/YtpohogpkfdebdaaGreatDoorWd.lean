/- The program's mac: New. The program's mac: Reset, Clone. The program's mac: Write. -/
import Derived.Test.YtpohogpkfdebdaaGreatDoorWc
import Derived.Test.YtpohogpkfdebdaaGreatDoorYr
import Derived.Test.YtpohogpkfdebdaaGreatDoorWe
namespace Go.Proofs.YtpohogpkfdebdaaGreatDoor.Vm
open Go.ChangeShapes Go.WideShapes Go.ChangeAt Go.RowKit
open Go.Proofs.YtpohogpkfdebdaaGreatDoor.By Go.Proofs.YtpohogpkfdebdaaGreatDoor.Gf Go.Proofs.YtpohogpkfdebdaaGreatDoor.Ae
theorem put_a (cv : Value) (a b c d a' : Nat → Nat) (n : Nat) : put (mcl cv a b c d n) 1 (bl 16 (cb a')) = mcl cv a' b c d n := mcl_put cv n 0 16 a' (by omega) (fun i hi => by
  unfold four
  by_cases h : i < 16
  · rw [if_pos (by omega), if_pos h]; rfl
  · rw [if_neg (by omega), if_neg h, if_neg h])
theorem put_b (cv : Value) (a b c d b' : Nat → Nat) (n : Nat) : put (mcl cv a b c d n) 17 (bl 16 (cb b')) = mcl cv a b' c d n := mcl_put cv n 16 16 b' (by omega) (fun i hi => by
  unfold four
  by_cases h : i < 16
  · rw [if_neg (by omega), if_pos h, if_pos h]
  · by_cases h2 : i < 32
    · rw [if_pos (by omega), if_neg h, if_pos h2]
    · rw [if_neg (by omega), if_neg h, if_neg h, if_neg h2, if_neg h2])
theorem built1 (cv : Value) (a : Nat → Nat) : List.foldl (fun (cs : Array Value) (x : Value × Nat) => cs.setIfInBounds (1 + x.2) x.1) (Tryz.zeroCells201.setIfInBounds 0 cv) (bl 16 (cb a)).zipIdx = (mcl cv a nought nought nought 0).toArray := by
  rw [zero_mc, List.setIfInBounds_toArray, foldl_put, mcl_set0, put_a]
theorem built2 (cv : Value) (a b : Nat → Nat) : List.foldl (fun (cs : Array Value) (x : Value × Nat) => cs.setIfInBounds (17 + x.2) x.1) (mcl cv a nought nought nought 0).toArray (bl 16 (cb b)).zipIdx = (mcl cv a b nought nought 0).toArray := by
  rw [foldl_put, put_b]
theorem mcl_size (cv : Value) (a b c d : Nat → Nat) (n : Nat) : (mcl cv a b c d n).toArray.size = 66 := by rw [List.size_toArray, mcl_len]
set_option maxRecDepth 8000 in
set_option maxHeartbeats 4000000 in
theorem cnew_ok (S : Nat → Prop) (w0 w : World) (lo : Option Nat) (L : List Rn) (k : Nat) (hkk : k = 4 ∨ k = 6 ∨ k = 8) (key : Nat → Nat) (hkey : ∀ i, key i < 256) (kb ko cap : Nat) (hc : 4 * k ≤ cap) (h : LG S w0 w lo L) (h0 : Kp S w0 w) (hr : Big L) (hp : Pos L) (hk : KM w0) (s0 : ¬ S 0)
    (hcell : ∀ W, Kp S w0 W → Kt w W → ∀ i, i < 4 * k → W.cell? ⟨kb, ko + i, none⟩ = some (.int .u8 (key i : Nat))) :
    Calls Tryz.prog 117 #[lpv lo, .slice (some ⟨kb, ko, none⟩) (4 * k) cap] w fun e w' => ∃ g gc, e = .returned (.tuple #[.pointer (some ⟨g, 0, none⟩), .int .i64 0]) ∧ Mc w' g gc k (rk k key) 0 nought ∧ w.heap.size ≤ g ∧ w.heap.size ≤ gc ∧ LG S w0 w' lo (evb k (putL L ⟨4, ((4 * k : Nat) : Int), 1⟩) 1) ∧ Kp S w0 w' ∧ Kt w w' := by
  have NC := hid (new_ok S w0 w lo L k hkk key hkey kb ko cap hc h h0 ⟨by have := hr.1; omega, by have := hr.2; omega⟩ hcell)
  have hr2 : Room (putL L ⟨4, ((4 * k : Nat) : Int), 1⟩) := ⟨by rw [putL_tot hp rfl (by have := hr.1; omega)]; have := hr.1; omega, by have := (putL_len (L := L) (r := ⟨4, ((4 * k : Nat) : Int), 1⟩)).1; have := hr.2; omega⟩
  have HR2 := hid hr2
  have HK := hid hk
  have HS0 := hid s0
  have HWL := hid (rk_lt k key hkey)
  clear h h0 hr hp hk s0 hcell hr2 hkey
  obtain ⟨ws, hws⟩ : ∃ ws, rk k key = ws := ⟨_, rfl⟩
  rw [hws] at NC HWL ⊢
  clear hws
  go_enter Tryz.func117, Tryz.ntmps117
  go_wp2_with (go_at_call 149; refine NC.out.mono ?_; rintro e w2 ⟨gc, rfl, hc2, hg2, hl2, hk2, ht2⟩)
  refine (enc_ci S w0 w2 lo _ gc k ws nought nought_b hc2 hl2 hk2 HR2.out HK.out HS0.out).mono ?_
  rintro e w3 ⟨rfl, hl3, hk3, ht3⟩
  have hE : B16 (enc ws (k + 6) nought) := enc_b HWL.out _ nought_b
  have hE2 : B16 (sk1 ws (k + 6)) := sk1_b HWL.out _
  have C3 := hid (show Ci w3 gc k ws from ⟨ht3.2 _ _ _ hc2.here (by decide) (by decide), hc2.kk, hc2.lt⟩)
  have L3 := hid hl3
  have K3 := hid hk3
  have T3 := hid (ht2.trans ht3)
  have HG := hid hg2
  clear hc2 hl2 hk2 ht2 hl3 hk3 ht3 hg2 NC
  obtain ⟨s4, b4⟩ := z_st (f := enc ws (k + 6) nought) (z_new w3) z16_len
  have k4 := (below_alloc w3 (.cells z16.toArray 175)).trans ((Kp.setCells w3.heap.size 0 (bl 16 (cb (enc ws (k + 6) nought)))).below (by simp) (fun j hj e => by omega))
  obtain ⟨W4, hW4⟩ : ∃ x, (w3.alloc (.cells z16.toArray 175)).setCells w3.heap.size 0 (bl 16 (cb (enc ws (k + 6) nought))) = x := ⟨_, rfl⟩
  rw [hW4] at s4 b4 k4
  have l4 := z_ld b4
  have B4 := hid b4
  have K4 := hid k4
  clear b4 k4
  unfold bv
  go_wp2_with fail
  refine (dbl1 (enc ws (k + 6) nought) hE W4).mono ?_
  rintro e w5 ⟨rfl, hb5⟩
  have K5 := hid (below_next K4.out hb5)
  clear hb5
  obtain ⟨s6, b6⟩ := z_st (f := sk1 ws (k + 6)) (z_new w5) z16_len
  have k6 := (below_alloc w5 (.cells z16.toArray 175)).trans ((Kp.setCells w5.heap.size 0 (bl 16 (cb (sk1 ws (k + 6))))).below (by simp) (fun j hj e => by omega))
  obtain ⟨W6, hW6⟩ : ∃ x, (w5.alloc (.cells z16.toArray 175)).setCells w5.heap.size 0 (bl 16 (cb (sk1 ws (k + 6)))) = x := ⟨_, rfl⟩
  rw [hW6] at s6 b6 k6
  have l6 := z_ld b6
  have K6 := hid (below_next K5.out k6)
  have l6' := z_ld (b6.drewN 1)
  rw [show W6.drewN 1 = W6.drew from rfl] at l6'
  have B6 := hid (b6.drewN 1)
  have h1 := bl_length 16 (cb (sk1 ws (k + 6)))
  have h2 := bl_length 16 (cb (sk2 ws (k + 6)))
  have h3 := built1 (.pointer (some ⟨gc, 0, none⟩)) (sk1 ws (k + 6))
  have h4 := built2 (.pointer (some ⟨gc, 0, none⟩)) (sk1 ws (k + 6)) (sk2 ws (k + 6))
  have h5 := mcl_size (.pointer (some ⟨gc, 0, none⟩)) (sk1 ws (k + 6)) nought nought nought 0
  have DC := hid (show Calls Tryz.prog 151 #[.agg (bl 16 (cb (sk1 ws (k + 6)))).toArray] W6.drew fun e w' => e = .returned (.agg (bl 16 (cb (sk2 ws (k + 6)))).toArray) ∧ Below W6.drew.heap.size W6.drew w' from dbl1 (sk1 ws (k + 6)) hE2 W6.drew)
  clear b6 k6
  unfold bv
  rw [show dbl (enc ws (k + 6) nought) = sk1 ws (k + 6) from rfl]
  go_wp2_with fail
  go_region_law (go_simp; go_at_call 151; refine DC.out.mono ?_; rintro e w7 ⟨rfl, hb7⟩; have K7 := hid (below_next (below_dr K6.out) hb7); have l7 := z_ld (B6.out.below hb7); clear hb7)
  all_goals
    go_simp
    go_wp2_with fail
    go_ret2
    have k8 := below_next K7.out (below_alloc w7 (.cells (mcl (.pointer (some ⟨gc, 0, none⟩)) (sk1 ws (k + 6)) (sk2 ws (k + 6)) nought nought 0).toArray 201))
    have t3 := T3.out.1
    have t7 := K7.out.size
    refine ⟨w7.heap.size, gc, rfl, ⟨Blk.newAt w7 _ _ _ _ rfl (congrArg List.toArray (mcl_e _ _ (E16.refl _) (E16.refl _) (E16.refl _) (fun i _ => ?_))), C3.out.below k8, fun _ => Nat.zero_lt_succ _⟩, by omega, HG.out, L3.out.below k8, K3.out.trans (Kp.of_below _ k8) (fun _ _ e => e), T3.out.trans (Kt.of_below k8)⟩
    show 0 = wtn nought 0 i
    unfold wtn nought
    split <;> rfl
end Go.Proofs.YtpohogpkfdebdaaGreatDoor.Vm
namespace Go.Proofs.YtpohogpkfdebdaaGreatDoor.Vm
open Go.ChangeShapes Go.WideShapes Go.ChangeAt Go.RowKit
open Go.Proofs.YtpohogpkfdebdaaGreatDoor.By Go.Proofs.YtpohogpkfdebdaaGreatDoor.Gf Go.Proofs.YtpohogpkfdebdaaGreatDoor.Ae
set_option maxRecDepth 8000 in
set_option maxHeartbeats 4000000 in
theorem clone_mc (g gc k n : Nat) (ws m : Nat → Nat) (w : World) (h : Mc w g gc k ws n m) : Calls Tryz.prog 155 #[.pointer (some ⟨g, 0, none⟩)] w fun e w' => ∃ g' gc', e = .returned (.tuple #[.pointer (some ⟨g', 0, none⟩), .int .i64 0]) ∧ Mc w' g' gc' k ws n m ∧ w.heap.size ≤ g' ∧ w.heap.size ≤ gc' ∧ Below w.heap.size w w' := by
  have H := hid h
  have c0 := h.c0
  clear h
  go_enter Tryz.func155, Tryz.ntmps155
  go_wp2_with (first | (go_at_call 202; refine (isNone_mc g gc _ c0).mono ?_; rintro e w' ⟨rfl, hw'⟩; subst w') | (go_at_call 205; refine (clone_ci gc k ws _ H.out.ci).mono ?_; rintro e w2 ⟨rfl, hc2, hb2⟩; have H2 := hid (H.out.below hb2); have C2 := hid hc2; have B2 := hid hb2; have l2 := LDm_run (range0 H2.out.here) (mcl_len _ _ _ _ _ _); have N2 := hid (Blk.newAt w2 _ _ 201 _ rfl zero_mc); clear hc2 hb2))
  have s3 := SVm_run (cs := mcl (.pointer (some ⟨gc, 0, none⟩)) (sk1 ws (k + 6)) (sk2 ws (k + 6)) (chn ws (k + 6) m (nbl n)) (wtn m n) (ctn n)) (N2.out.there 0 66 (by rw [mcl_len]; omega)) (mcl_len _ _ _ _ _ _) (mcl_one _ _ _ _ _ _ rfl)
  have b3 := N2.out.put 0 (mcl (.pointer (some ⟨gc, 0, none⟩)) (sk1 ws (k + 6)) (sk2 ws (k + 6)) (chn ws (k + 6) m (nbl n)) (wtn m n) (ctn n))
  rw [put_all _ _ (by rw [mcl_len, mcl_len])] at b3
  have k3 := (below_alloc w2 (.cells Tryz.zeroCells201 201)).trans ((Kp.setCells w2.heap.size 0 (mcl (.pointer (some ⟨gc, 0, none⟩)) (sk1 ws (k + 6)) (sk2 ws (k + 6)) (chn ws (k + 6) m (nbl n)) (wtn m n) (ctn n))).below (by simp) (fun j hj e => by omega))
  obtain ⟨W3, hW3⟩ : ∃ x, (w2.alloc (.cells Tryz.zeroCells201 201)).setCells w2.heap.size 0 (mcl (.pointer (some ⟨gc, 0, none⟩)) (sk1 ws (k + 6)) (sk2 ws (k + 6)) (chn ws (k + 6) m (nbl n)) (wtn m n) (ctn n)) = x := ⟨_, rfl⟩
  rw [hW3] at s3 b3 k3
  have x3 := b3.cell 0 _ rfl
  have f3 := b3.frozen 0
  have B4 := hid (b3.set 0 (.pointer (some ⟨w.heap.size, 0, none⟩)))
  have K4 := hid (k3.trans ((Kp.setCell w2.heap.size 0 (.pointer (some ⟨w.heap.size, 0, none⟩))).below (w := W3) (by have := b3.lt; omega) (fun j hj e => by omega)))
  clear b3 k3
  go_simp
  go_wp2_with fail
  go_ret2
  have t2 := B2.out.size
  exact ⟨_, _, rfl, ⟨by rw [mcl_set0] at B4; exact B4.out, C2.out.below K4.out, H.out.lt⟩, t2, Nat.le_refl _, below_next B2.out K4.out⟩
end Go.Proofs.YtpohogpkfdebdaaGreatDoor.Vm
namespace Go.Proofs.YtpohogpkfdebdaaGreatDoor.Vm
open Go.ChangeShapes Go.WideShapes Go.ChangeAt Go.RowKit
open Go.Proofs.YtpohogpkfdebdaaGreatDoor.By Go.Proofs.YtpohogpkfdebdaaGreatDoor.Gf Go.Proofs.YtpohogpkfdebdaaGreatDoor.Ae
theorem evb_next {L : List Rn} (hp : Pos L) (k a : Nat) (ht : tot L + a + 1 ≤ 9000000000000000000) : putL (evb k L a) ⟨5, ((4 * k : Nat) : Int), 1⟩ = evb k L (a + 1) := evb_add hp k a 1 (by omega)
theorem Kx.refl (g : Nat) (w : World) : Kx g w w := ⟨Nat.le_refl _, fun _ _ _ _ h _ _ => h⟩
set_option maxRecDepth 8000 in
set_option maxHeartbeats 4000000 in
theorem write_mc (S : Nat → Prop) (w0 w : World) (lo : Option Nat) (L : List Rn) (g gc k n : Nat) (ws m : Nat → Nat) (hm : Mc w g gc k ws n m) (h : LG S w0 w lo L) (h0 : Kp S w0 w) (hp : Pos L) (hr : tot L ≤ 2305843009213693952 ∧ L.length ≤ 10000000) (hk : KM w0) (s0 : ¬ S 0) (hS : g < w0.heap.size → S g)
    (q : Nat) (f : Nat → Nat) (hf : ∀ i, f i < 256) (hq : q ≤ 140737488355328) (a : Option Addr) (cap : Nat) (hrb : ∀ V, Kp S w0 V → Kx g w V → By.RB V (.slice a q cap) q (cb f)) :
    Calls Tryz.prog 152 #[.pointer (some ⟨g, 0, none⟩), lpv lo, .slice a q cap] w fun e w' => e = .returned (.int .i64 0) ∧ Mc w' g gc k ws (n + q) (ct2 n m f) ∧ LG S w0 w' lo (evb k L (nbl (n + q) - nbl n)) ∧ Kp S w0 w' ∧ Kx g w w' := by
  have c0 := hm.c0
  have hcap : q ≤ cap := by
    obtain ⟨_, a', cap', he, h1, _⟩ := hrb w h0 (Kx.refl _ _)
    simp at he; omega
  have HS := hid hS
  have HRB := hid hrb
  have HM0 := hid (show Mc w g gc k ws n (ct2 n m f) from ⟨by
    rw [show mcl (.pointer (some ⟨gc, 0, none⟩)) (sk1 ws (k + 6)) (sk2 ws (k + 6)) (chn ws (k + 6) (ct2 n m f) (nbl n)) (wtn (ct2 n m f) n) (ctn n) = mcl (.pointer (some ⟨gc, 0, none⟩)) (sk1 ws (k + 6)) (sk2 ws (k + 6)) (chn ws (k + 6) m (nbl n)) (wtn m n) (ctn n) from
      mcl_e _ _ (E16.refl _) (E16.refl _) (chn_e ws _ _ (fun i hi => by unfold ct2; rw [if_pos (by have := nbl_le n; omega)])) (fun i _ => wtn_e (fun i hi => by unfold ct2; rw [if_pos hi]) i)]
    exact hm.here, hm.ci, ct2_lt hm.lt hf n⟩)
  have HL := hid h
  have H0 := hid h0
  have HP := hid hp
  have HR := hid hr
  have HK := hid hk
  have HS0 := hid s0
  have hM : ∀ i, ct2 n m f (n + i) = f i := fun i => by unfold ct2; rw [if_neg (by omega)]; congr 1; omega
  have HMf := hid hM
  clear hm h h0 hp hr hk s0 hS hrb hf hM
  obtain ⟨M, hMe⟩ : ∃ M, ct2 n m f = M := ⟨_, rfl⟩
  rw [hMe] at HM0 HMf ⊢
  clear hMe
  go_enter Tryz.func152, Tryz.ntmps152
  go_wp2_with (go_at_call 202; refine (isNone_mc g gc _ c0).mono ?_; rintro e w' ⟨rfl, hw'⟩; subst w')
  go_loopw [2] (fun p wr => ∃ j A, j ≤ q ∧ p = .slice A (q - j) (cap - j) ∧ (j < q → ∃ pb po, a = some ⟨pb, po, none⟩ ∧ A = some ⟨pb, po + j, none⟩) ∧ Mc wr g gc k ws (n + j) M ∧ LG S w0 wr lo (evb k L (nbl (n + j) - nbl n)) ∧ Kp S w0 wr ∧ Kx g w wr) (fun p _ => slLen p)
  case atStart =>
    refine ⟨0, a, by omega, rfl, fun h => ?_, HM0.out, ?_, H0.out, Kx.refl _ _⟩
    · obtain ⟨_, a', cap', he, _, _, h1 | ⟨b, off, h1, _⟩⟩ := HRB.out w H0.out (Kx.refl _ _)
      · omega
      · simp at he; exact ⟨b, off, by rw [he.1, h1], by rw [he.1, h1]; rfl⟩
    · rw [Nat.add_zero, Nat.sub_self, evb_zero]; exact HL.out
  case round =>
    clear c0
    obtain ⟨j, A, hj, rfl, hA, hmc, hlg, hkp, hkx⟩ := hrel
    have R1 := hid (Rw.of hmc hlg hkp hkx)
    have HMl := hid hmc.lt
    have HC := hid hmc
    have HLG := hid hlg
    have HKP := hid hkp
    have HKX := hid hkx
    have cn := hmc.cn
    clear hmc hlg hkp hkx
    by_cases hlt : j < q
    · obtain ⟨pb, po, rfl, rfl⟩ := hA hlt
      clear hA
      have hlen : 0 < q - j := by omega
      have hle := ctn_le (n + j)
      by_cases hc : ctn (n + j) = 16
      · rw [hc, show ((16 : Nat) : Int) = 16 from rfl] at cn
        have HCC := hid hc
        have D1 := hid R1.out.dr
        have c0d := D1.out.c0
        have lc := LDb_run (mcl_c D1.out.here) (bl_length _ _)
        have ld := LDb_run (mcl_d D1.out.here) (bl_length _ _)
        have hch : B16 (chn ws (k + 6) M (nbl (n + j))) := chn_b HC.out.ci.lt HC.out.lt _ _
        have hwt : B16 (wtn M (n + j)) := wtn_b HC.out.lt _
        have HX := hid (xr_b hch hwt)
        have XC := hid (show Calls Tryz.prog 203 #[.agg (bl 16 (cb (chn ws (k + 6) M (nbl (n + j))))).toArray, .agg (bl 16 (cb (wtn M (n + j)))).toArray] wr.drew fun e w' => e = .returned (bv (xr (chn ws (k + 6) M (nbl (n + j))) (wtn M (n + j)))) ∧ Below wr.drew.heap.size wr.drew w' from xored1 _ _ hch hwt wr.drew)
        have RM := hid (show Room (evb k L (nbl (n + j) - nbl n)) from by
          have h1 := HR.out
          have h2 := evb_tot HP.out k (nbl (n + j) - nbl n) (by unfold nbl; omega)
          have h3 := evb_len k L (nbl (n + j) - nbl n)
          exact ⟨by rw [h2]; unfold nbl; omega, by omega⟩)
        have RN := hid (show putL (evb k L (nbl (n + j) - nbl n)) ⟨5, ((4 * k : Nat) : Int), 1⟩ = evb k L (nbl (n + j) - nbl n + 1) from evb_next HP.out k _ (by have h1 := HR.out; unfold nbl; omega))
        have EC := hid (fun (V : World) (hV : Rw S w0 w lo (evb k L (nbl (n + j) - nbl n)) g gc k (nbl (n + j)) (ctn (n + j)) ws M (chn ws (k + 6) M (nbl (n + j))) (wtn M (n + j)) V) => enc_ci S w0 V lo _ gc k ws _ HX.out hV.ci hV.lg hV.kp RM.out HK.out HS0.out)
        clear hch hwt
        go_wp2_with fail
        rename_i KK aK
        refine' once (T := ∀ w3, Rw S w0 w lo (evb k L (nbl (n + j) - nbl n + 1)) g gc k (nbl (n + j)) (ctn (n + j)) ws M (chn ws (k + 6) M (nbl (n + j))) (wtn M (n + j)) w3 → KK _ (w3.setCells g 33 (bl 16 (cb (enc ws (k + 6) (xr (chn ws (k + 6) M (nbl (n + j))) (wtn M (n + j)))))))) _ _
        rotate_left
        · intro key
          go_region_law (first | (go_simp; go_at_call 203; refine XC.out.mono ?_; rintro e w2 ⟨rfl, hb2⟩; have D2 := hid (D1.out.below hb2); have c2 := D2.out.c0; clear hb2) | (go_simp; go_at_call 150; refine (EC.out w2 D2.out).mono ?_; rintro e w3 ⟨rfl, hl3, hk3, ht3⟩; rw [RN.out] at hl3; have D3 := hid (D2.out.kt hl3 hk3 ht3); have s3 := SVb_run (cs := bl 16 (cb (enc ws (k + 6) (xr (chn ws (k + 6) M (nbl (n + j))) (wtn M (n + j)))))) (D3.out.here.there 33 16 (by rw [mcl_len]; omega)) (bl_length _ _) (bl_one _ _); clear hl3 hk3 ht3; unfold bv))
          all_goals
            go_simp
            exact key w3 D3.out
        · intro w3 hD3
          have D3 := hid hD3
          clear hD3
          obtain ⟨s4, f5, x5⟩ := D3.out.fullx (enc ws (k + 6) (xr (chn ws (k + 6) M (nbl (n + j))) (wtn M (n + j))))
          have R5 := hid (D3.out.full HCC.out HS.out)
          obtain ⟨W6, hW6⟩ : ∃ x, ((w3.setCells g 33 (bl 16 (cb (enc ws (k + 6) (xr (chn ws (k + 6) M (nbl (n + j))) (wtn M (n + j))))))).setCells g 49 z16).setCell ⟨g, 65, none⟩ (.int .i64 0) = x := ⟨_, rfl⟩
          rw [hW6] at R5
          obtain ⟨cc, hcc⟩ : ∃ c : Nat, c = 0 := ⟨0, rfl⟩
          rw [← hcc] at R5
          have hcc16 : cc < 16 := by rw [hcc]; decide
          obtain ⟨t, htt⟩ : ∃ t, Nat.min (q - j) (16 - cc) = t := ⟨_, rfl⟩
          obtain ⟨ht0, ht1, ht2, htc⟩ := min_pure hlen hcc16 htt
          obtain ⟨hN, hNE⟩ := full_pure (n := n) (j := j) (t := t) HCC.out hcc ht0 (Nat.le_trans ht2 (Nat.sub_le _ _))
          have HE := hid (show evb k L (nbl (n + j + t) - nbl n) = evb k L (nbl (n + j) - nbl n + 1) from by rw [hNE])
          clear hNE
          clear hcc
          have hcp := fun ty => R5.out.dr.copy q j t cap pb po f (HRB.out W6.drew R5.out.dr.kp R5.out.dr.kx) hcc16 htt hlt ty
          have DN := hid (R5.out.dr.done HS.out (f := f) (j := j) (t := t) hN ht0 htc (fun i hi => by rw [← HMf.out, Nat.add_assoc]) HMl.out)
          have hsw := sliceW g cc (by omega)
          have cn5 := R5.out.dr.cn
          obtain ⟨x6, f6⟩ := R5.out.dr.donex t (fun i => f (j + i)) htc
          have HT := hid htt
          have HN := hid hN
          clear htt hN
          have ht1' : (t : Int) ≤ ((q - j : Nat) : Int) := by omega
          obtain ⟨V7, hV7⟩ : ∃ x, W6.drew.setCells g (49 + cc) (bl t (cb (fun i => f (j + i)))) = x := ⟨_, rfl⟩
          rw [hV7] at DN x6 f6 hcp
          obtain ⟨A2, eA, hA2⟩ := sub_next pb (po + j) (q - j) (cap - j) t (by omega)
          have s1 : (cc : Int) ≤ 16 := by omega
          have s2 : ¬ 16 = cc := by omega
          go_wp2_with fail
          go_region
          go_wp2_with fail
          refine ⟨⟨j + t, A2, by omega, by rw [Nat.sub_sub, Nat.sub_sub], fun h => ⟨pb, po, rfl, by rw [hA2 (by omega), Nat.add_assoc]⟩, ?_⟩, by simp [slLen]; omega⟩
          rw [show (cc : Int) + (t : Int) = ((cc + t : Nat) : Int) from by omega, ← Nat.add_assoc, HE.out]
          exact DN.out
      · have hcn : ((ctn (n + j) : Int) == 16) = false := by rw [beq_eq_false_iff_ne]; omega
        have hcn2 : ¬ (ctn (n + j) : Int) = 16 := by omega
        obtain ⟨cc, hcc⟩ : ∃ c, ctn (n + j) = c := ⟨_, rfl⟩
        have hcc16 : cc < 16 := by omega
        obtain ⟨t, htt⟩ : ∃ t, Nat.min (q - j) (16 - cc) = t := ⟨_, rfl⟩
        have hN : 16 * nbl (n + j) + cc = n + j := by rw [← hcc]; exact nbl_ct _
        have R5 := hid R1.out
        rw [hcc] at R5 cn hcn hcn2
        have ht0 : 0 < t := by rw [← htt]; exact Nat.lt_min.2 ⟨by omega, by omega⟩
        have ht1 : t ≤ q - j := by rw [← htt]; exact Nat.min_le_left _ _
        have ht2 : t ≤ 16 - cc := by rw [← htt]; exact Nat.min_le_right _ _
        have HE := hid (show evb k L (nbl (n + j + t) - nbl n) = evb k L (nbl (n + j) - nbl n) from by rw [(nbl_at hN ht0 (by omega)).1])
        have hcp := fun ty => R5.out.dr.copy q j t cap pb po f (HRB.out wr.drew R5.out.dr.kp R5.out.dr.kx) hcc16 htt hlt ty
        have DN := hid (R5.out.dr.done HS.out (f := f) (j := j) (t := t) hN ht0 (by omega) (fun i hi => by rw [← HMf.out]; congr 1; omega) HMl.out)
        have hsw := sliceW g cc (by omega)
        have cn5 := R5.out.dr.cn
        obtain ⟨x6, f6⟩ := R5.out.dr.donex t (fun i => f (j + i)) (by omega)
        have HT := hid htt
        have HN := hid hN
        clear htt hN
        have ht1' : (t : Int) ≤ ((q - j : Nat) : Int) := by omega
        obtain ⟨V2, hV2⟩ : ∃ x, wr.drew.setCells g (49 + cc) (bl t (cb (fun i => f (j + i)))) = x := ⟨_, rfl⟩
        rw [hV2] at DN x6 f6 hcp
        obtain ⟨A2, eA, hA2⟩ := sub_next pb (po + j) (q - j) (cap - j) t (by omega)
        have s1 : (cc : Int) ≤ 16 := by omega
        have s2 : ¬ 16 = cc := by omega
        go_wp2_with fail
        go_region
        go_wp2_with fail
        refine ⟨⟨j + t, A2, by omega, by rw [Nat.sub_sub, Nat.sub_sub], fun h => ⟨pb, po, rfl, by rw [hA2 (by omega), Nat.add_assoc]⟩, ?_⟩, by simp [slLen]; omega⟩
        rw [show (cc : Int) + (t : Int) = ((cc + t : Nat) : Int) from by omega, ← Nat.add_assoc, HE.out]
        exact DN.out
    · have ej : j = q := by omega
      subst ej
      have hz : j - j = 0 := by omega
      rw [hz]
      go_wp2_with fail
      go_ret
      exact ⟨rfl, HC.out, HLG.out, HKP.out, HKX.out⟩
end Go.Proofs.YtpohogpkfdebdaaGreatDoor.Vm
