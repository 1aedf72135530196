/- The program's mac: New. The program's mac: Reset, Clone. A mac that is none: what its calls answer. -/
import Derived.Test.YtbgdjjfonmoemaaDoorWc
import Derived.Test.YtbgdjjfonmoemaaDoorYr
namespace Go.Proofs.YtbgdjjfonmoemaaDoor.Vm
open Go.ChangeShapes Go.WideShapes Go.ChangeAt Go.RowKit
open Go.Proofs.YtbgdjjfonmoemaaDoor.By Go.Proofs.YtbgdjjfonmoemaaDoor.Gf Go.Proofs.YtbgdjjfonmoemaaDoor.Ae
theorem put_a (cv : Value) (a b c d a' : Nat → Nat) (n : Nat) : put (mcl cv a b c d n) 1 (bl 16 (cb a')) = mcl cv a' b c d n := mcl_put cv n 0 16 a' (by omega) (fun i hi => by
  unfold four
  by_cases h : i < 16
  · rw [if_pos (by omega), if_pos h]; rfl
  · rw [if_neg (by omega), if_neg h, if_neg h])
theorem put_b (cv : Value) (a b c d b' : Nat → Nat) (n : Nat) : put (mcl cv a b c d n) 17 (bl 16 (cb b')) = mcl cv a b' c d n := mcl_put cv n 16 16 b' (by omega) (fun i hi => by
  unfold four
  by_cases h : i < 16
  · rw [if_neg (by omega), if_pos h, if_pos h]
  · by_cases h2 : i < 32
    · rw [if_pos (by omega), if_neg h, if_pos h2]
    · rw [if_neg (by omega), if_neg h, if_neg h, if_neg h2, if_neg h2])
theorem built1 (cv : Value) (a : Nat → Nat) : List.foldl (fun (cs : Array Value) (x : Value × Nat) => cs.setIfInBounds (1 + x.2) x.1) (Tryd.zeroCells87.setIfInBounds 0 cv) (bl 16 (cb a)).zipIdx = (mcl cv a nought nought nought 0).toArray := by
  rw [zero_mc, List.setIfInBounds_toArray, foldl_put, mcl_set0, put_a]
theorem built2 (cv : Value) (a b : Nat → Nat) : List.foldl (fun (cs : Array Value) (x : Value × Nat) => cs.setIfInBounds (17 + x.2) x.1) (mcl cv a nought nought nought 0).toArray (bl 16 (cb b)).zipIdx = (mcl cv a b nought nought 0).toArray := by
  rw [foldl_put, put_b]
theorem mcl_size (cv : Value) (a b c d : Nat → Nat) (n : Nat) : (mcl cv a b c d n).toArray.size = 66 := by rw [List.size_toArray, mcl_len]
theorem cnew_bad (lv : Value) (a : Option Addr) (n cap : Nat) (w : World) (h1 : n ≠ 16) (h2 : n ≠ 24) (h3 : n ≠ 32) : Calls Tryd.prog 15 #[lv, .slice a n cap] w fun e w' => e = .returned (.tuple #[.pointer none, .int .i64 7]) ∧ Below w.heap.size w w' := by
  go_enter Tryd.func15, Tryd.ntmps15
  go_wp2_with (go_at_call 38; refine (new_bad lv a n cap _ h1 h2 h3).mono ?_; rintro e w' ⟨rfl, hw'⟩; subst w')
  go_ret2
  exact ⟨rfl, Below.refl _ _⟩
set_option maxRecDepth 8000 in
set_option maxHeartbeats 4000000 in
theorem cnew_ok (S : Nat → Prop) (w0 w : World) (lo : Option Nat) (L : List Rn) (k : Nat) (hkk : k = 4 ∨ k = 6 ∨ k = 8) (key : Nat → Nat) (hkey : ∀ i, key i < 256) (kb ko cap : Nat) (hc : 4 * k ≤ cap) (h : LG S w0 w lo L) (h0 : Kp S w0 w) (hr : Big L) (hp : Pos L) (hk : KM w0) (s0 : ¬ S 0)
    (hcell : ∀ W, Kp S w0 W → Kt w W → ∀ i, i < 4 * k → W.cell? ⟨kb, ko + i, none⟩ = some (.int .u8 (key i : Nat))) :
    Calls Tryd.prog 15 #[lpv lo, .slice (some ⟨kb, ko, none⟩) (4 * k) cap] w fun e w' => ∃ g gc, e = .returned (.tuple #[.pointer (some ⟨g, 0, none⟩), .int .i64 0]) ∧ Mc w' g gc k (rk k key) 0 nought ∧ w.heap.size ≤ g ∧ w.heap.size ≤ gc ∧ LG S w0 w' lo (evb k (putL L ⟨4, ((4 * k : Nat) : Int), 1⟩) 1) ∧ Kp S w0 w' ∧ Kt w w' := by
  have NC := hid (new_ok S w0 w lo L k hkk key hkey kb ko cap hc h h0 ⟨by have := hr.1; omega, by have := hr.2; omega⟩ hcell)
  have hr2 : Room (putL L ⟨4, ((4 * k : Nat) : Int), 1⟩) := ⟨by rw [putL_tot hp rfl (by have := hr.1; omega)]; have := hr.1; omega, by have := (putL_len (L := L) (r := ⟨4, ((4 * k : Nat) : Int), 1⟩)).1; have := hr.2; omega⟩
  have HR2 := hid hr2
  have HK := hid hk
  have HS0 := hid s0
  have HWL := hid (rk_lt k key hkey)
  clear h h0 hr hp hk s0 hcell hr2 hkey
  obtain ⟨ws, hws⟩ : ∃ ws, rk k key = ws := ⟨_, rfl⟩
  rw [hws] at NC HWL ⊢
  clear hws
  go_enter Tryd.func15, Tryd.ntmps15
  go_wp2_with (go_at_call 38; refine NC.out.mono ?_; rintro e w2 ⟨gc, rfl, hc2, hg2, hl2, hk2, ht2⟩)
  refine (enc_ci S w0 w2 lo _ gc k ws nought nought_b hc2 hl2 hk2 HR2.out HK.out HS0.out).mono ?_
  rintro e w3 ⟨rfl, hl3, hk3, ht3⟩
  have hE : B16 (enc ws (k + 6) nought) := enc_b HWL.out _ nought_b
  have hE2 : B16 (sk1 ws (k + 6)) := sk1_b HWL.out _
  have C3 := hid (show Ci w3 gc k ws from ⟨ht3.2 _ _ _ hc2.here (by decide) (by decide), hc2.kk, hc2.lt⟩)
  have L3 := hid hl3
  have K3 := hid hk3
  have T3 := hid (ht2.trans ht3)
  have HG := hid hg2
  clear hc2 hl2 hk2 ht2 hl3 hk3 ht3 hg2 NC
  obtain ⟨s4, b4⟩ := z_st (f := enc ws (k + 6) nought) (z_new w3) z16_len
  have k4 := (below_alloc w3 (.cells z16.toArray 82)).trans ((Kp.setCells w3.heap.size 0 (bl 16 (cb (enc ws (k + 6) nought)))).below (by simp) (fun j hj e => by omega))
  obtain ⟨W4, hW4⟩ : ∃ x, (w3.alloc (.cells z16.toArray 82)).setCells w3.heap.size 0 (bl 16 (cb (enc ws (k + 6) nought))) = x := ⟨_, rfl⟩
  rw [hW4] at s4 b4 k4
  have l4 := z_ld b4
  have B4 := hid b4
  have K4 := hid k4
  clear b4 k4
  unfold bv
  go_wp2_with fail
  refine (dbl1 (enc ws (k + 6) nought) hE W4).mono ?_
  rintro e w5 ⟨rfl, hb5⟩
  have K5 := hid (below_next K4.out hb5)
  clear hb5
  obtain ⟨s6, b6⟩ := z_st (f := sk1 ws (k + 6)) (z_new w5) z16_len
  have k6 := (below_alloc w5 (.cells z16.toArray 82)).trans ((Kp.setCells w5.heap.size 0 (bl 16 (cb (sk1 ws (k + 6))))).below (by simp) (fun j hj e => by omega))
  obtain ⟨W6, hW6⟩ : ∃ x, (w5.alloc (.cells z16.toArray 82)).setCells w5.heap.size 0 (bl 16 (cb (sk1 ws (k + 6)))) = x := ⟨_, rfl⟩
  rw [hW6] at s6 b6 k6
  have l6 := z_ld b6
  have K6 := hid (below_next K5.out k6)
  have l6' := z_ld (b6.drewN 1)
  rw [show W6.drewN 1 = W6.drew from rfl] at l6'
  have B6 := hid (b6.drewN 1)
  have h1 := bl_length 16 (cb (sk1 ws (k + 6)))
  have h2 := bl_length 16 (cb (sk2 ws (k + 6)))
  have h3 := built1 (.pointer (some ⟨gc, 0, none⟩)) (sk1 ws (k + 6))
  have h4 := built2 (.pointer (some ⟨gc, 0, none⟩)) (sk1 ws (k + 6)) (sk2 ws (k + 6))
  have h5 := mcl_size (.pointer (some ⟨gc, 0, none⟩)) (sk1 ws (k + 6)) nought nought nought 0
  have DC := hid (show Calls Tryd.prog 40 #[.agg (bl 16 (cb (sk1 ws (k + 6)))).toArray] W6.drew fun e w' => e = .returned (.agg (bl 16 (cb (sk2 ws (k + 6)))).toArray) ∧ Below W6.drew.heap.size W6.drew w' from dbl1 (sk1 ws (k + 6)) hE2 W6.drew)
  clear b6 k6
  unfold bv
  rw [show dbl (enc ws (k + 6) nought) = sk1 ws (k + 6) from rfl]
  go_wp2_with fail
  go_region_law (go_simp; go_at_call 40; refine DC.out.mono ?_; rintro e w7 ⟨rfl, hb7⟩; have K7 := hid (below_next (below_dr K6.out) hb7); have l7 := z_ld (B6.out.below hb7); clear hb7)
  all_goals
    go_simp
    go_wp2_with fail
    go_ret2
    have k8 := below_next K7.out (below_alloc w7 (.cells (mcl (.pointer (some ⟨gc, 0, none⟩)) (sk1 ws (k + 6)) (sk2 ws (k + 6)) nought nought 0).toArray 87))
    have t3 := T3.out.1
    have t7 := K7.out.size
    refine ⟨w7.heap.size, gc, rfl, ⟨Blk.newAt w7 _ _ _ _ rfl (congrArg List.toArray (mcl_e _ _ (E16.refl _) (E16.refl _) (E16.refl _) (fun i _ => ?_))), C3.out.below k8, fun _ => Nat.zero_lt_succ _⟩, by omega, HG.out, L3.out.below k8, K3.out.trans (Kp.of_below _ k8) (fun _ _ e => e), T3.out.trans (Kt.of_below k8)⟩
    show 0 = wtn nought 0 i
    unfold wtn nought
    split <;> rfl
end Go.Proofs.YtbgdjjfonmoemaaDoor.Vm
namespace Go.Proofs.YtbgdjjfonmoemaaDoor.Vm
open Go.ChangeShapes Go.WideShapes Go.ChangeAt Go.RowKit
open Go.Proofs.YtbgdjjfonmoemaaDoor.By Go.Proofs.YtbgdjjfonmoemaaDoor.Gf Go.Proofs.YtbgdjjfonmoemaaDoor.Ae
theorem mcl_fresh (cv : Value) (ws : Nat → Nat) (r : Nat) : mcl cv (sk1 ws r) (sk2 ws r) (chn ws r nought (nbl 0)) (wtn nought 0) (ctn 0) = mcl cv (sk1 ws r) (sk2 ws r) nought nought 0 :=
  mcl_e _ _ (E16.refl _) (E16.refl _) (E16.refl _) (fun i _ => show wtn nought 0 i = 0 by unfold wtn nought; split <;> rfl)
set_option maxRecDepth 8000 in
set_option maxHeartbeats 4000000 in
theorem reset_mc (g gc k n : Nat) (ws m : Nat → Nat) (w : World) (h : Mc w g gc k ws n m) : Calls Tryd.prog 25 #[.pointer (some ⟨g, 0, none⟩)] w fun e w' => e = .returned (.int .i64 0) ∧ Mc w' g gc k ws 0 nought ∧ Kp (fun j => j = g) w w' := by
  have H := hid h
  have c0 := h.c0
  have s1 := SVb_run (cs := z16) (h.here.there 33 16 (by rw [mcl_len]; omega)) z16_len (bl_one _ _)
  have b1 := h.here.put 33 z16
  have k1 : Kp (fun j => j = g) w (w.setCells g 33 z16) := Kp.setCells g 33 z16
  unfold z16 at b1
  rw [put_c] at b1
  obtain ⟨W1, hW1⟩ : ∃ x, w.setCells g 33 z16 = x := ⟨_, rfl⟩
  rw [show w.setCells g 33 (bl 16 (cb nought)) = W1 from hW1] at b1
  rw [hW1] at s1 k1
  have s2 := SVb_run (cs := z16) (b1.there 49 16 (by rw [mcl_len]; omega)) z16_len (bl_one _ _)
  have b2 := b1.put 49 z16
  have k2 : Kp (fun j => j = g) w (W1.setCells g 49 z16) := k1.trans (Kp.setCells g 49 z16) (fun _ _ e => e)
  unfold z16 at b2
  rw [put_d _ _ _ _ _ nought _ 0 16 nought (by omega) (fun i hi => by rw [if_pos (by omega)]; rfl)] at b2
  obtain ⟨W2, hW2⟩ : ∃ x, W1.setCells g 49 z16 = x := ⟨_, rfl⟩
  rw [show W1.setCells g 49 (bl 16 (cb nought)) = W2 from hW2] at b2
  rw [hW2] at s2 k2
  have x2 := b2.cell 65 _ (mcl_n _ _ _ _ _ _)
  have f2 := b2.frozen 65
  have b3 := b2.set 65 (.int .i64 0)
  have e := mcl_set (.pointer (some ⟨gc, 0, none⟩)) (sk1 ws (k + 6)) (sk2 ws (k + 6)) nought nought (ctn n) 0
  rw [show ((0 : Nat) : Int) = 0 from rfl] at e
  rw [e] at b3
  have B3 := hid b3
  have K3 := hid (k2.trans (Kp.setCell g 65 (.int .i64 0)) (fun _ _ e => e))
  clear h b1 b2 b3 k1 k2 e
  go_enter Tryd.func25, Tryd.ntmps25
  go_wp2_with (go_at_call 44; refine (isNone_mc g gc _ c0).mono ?_; rintro e w' ⟨rfl, hw'⟩; subst w')
  go_ret
  refine ⟨rfl, ⟨?_, H.out.ci.kept K3.out (fun e => H.out.ne e), fun _ => Nat.zero_lt_succ _⟩, K3.out⟩
  rw [mcl_fresh]
  exact B3.out
set_option maxRecDepth 8000 in
set_option maxHeartbeats 4000000 in
theorem clone_mc (g gc k n : Nat) (ws m : Nat → Nat) (w : World) (h : Mc w g gc k ws n m) : Calls Tryd.prog 27 #[.pointer (some ⟨g, 0, none⟩)] w fun e w' => ∃ g' gc', e = .returned (.tuple #[.pointer (some ⟨g', 0, none⟩), .int .i64 0]) ∧ Mc w' g' gc' k ws n m ∧ w.heap.size ≤ g' ∧ w.heap.size ≤ gc' ∧ Below w.heap.size w w' := by
  have H := hid h
  have c0 := h.c0
  clear h
  go_enter Tryd.func27, Tryd.ntmps27
  go_wp2_with (first | (go_at_call 44; refine (isNone_mc g gc _ c0).mono ?_; rintro e w' ⟨rfl, hw'⟩; subst w') | (go_at_call 50; refine (clone_ci gc k ws _ H.out.ci).mono ?_; rintro e w2 ⟨rfl, hc2, hb2⟩; have H2 := hid (H.out.below hb2); have C2 := hid hc2; have B2 := hid hb2; have l2 := LDm_run (range0 H2.out.here) (mcl_len _ _ _ _ _ _); have N2 := hid (Blk.newAt w2 _ _ 87 _ rfl zero_mc); clear hc2 hb2))
  have s3 := SVm_run (cs := mcl (.pointer (some ⟨gc, 0, none⟩)) (sk1 ws (k + 6)) (sk2 ws (k + 6)) (chn ws (k + 6) m (nbl n)) (wtn m n) (ctn n)) (N2.out.there 0 66 (by rw [mcl_len]; omega)) (mcl_len _ _ _ _ _ _) (mcl_one _ _ _ _ _ _ rfl)
  have b3 := N2.out.put 0 (mcl (.pointer (some ⟨gc, 0, none⟩)) (sk1 ws (k + 6)) (sk2 ws (k + 6)) (chn ws (k + 6) m (nbl n)) (wtn m n) (ctn n))
  rw [put_all _ _ (by rw [mcl_len, mcl_len])] at b3
  have k3 := (below_alloc w2 (.cells Tryd.zeroCells87 87)).trans ((Kp.setCells w2.heap.size 0 (mcl (.pointer (some ⟨gc, 0, none⟩)) (sk1 ws (k + 6)) (sk2 ws (k + 6)) (chn ws (k + 6) m (nbl n)) (wtn m n) (ctn n))).below (by simp) (fun j hj e => by omega))
  obtain ⟨W3, hW3⟩ : ∃ x, (w2.alloc (.cells Tryd.zeroCells87 87)).setCells w2.heap.size 0 (mcl (.pointer (some ⟨gc, 0, none⟩)) (sk1 ws (k + 6)) (sk2 ws (k + 6)) (chn ws (k + 6) m (nbl n)) (wtn m n) (ctn n)) = x := ⟨_, rfl⟩
  rw [hW3] at s3 b3 k3
  have x3 := b3.cell 0 _ rfl
  have f3 := b3.frozen 0
  have B4 := hid (b3.set 0 (.pointer (some ⟨w.heap.size, 0, none⟩)))
  have K4 := hid (k3.trans ((Kp.setCell w2.heap.size 0 (.pointer (some ⟨w.heap.size, 0, none⟩))).below (w := W3) (by have := b3.lt; omega) (fun j hj e => by omega)))
  clear b3 k3
  go_simp
  go_wp2_with fail
  go_ret2
  have t2 := B2.out.size
  exact ⟨_, _, rfl, ⟨by rw [mcl_set0] at B4; exact B4.out, C2.out.below K4.out, H.out.lt⟩, t2, Nat.le_refl _, below_next B2.out K4.out⟩
end Go.Proofs.YtbgdjjfonmoemaaDoor.Vm
namespace Go.Proofs.YtbgdjjfonmoemaaDoor.Vm
open Go.ChangeShapes Go.WideShapes Go.ChangeAt Go.RowKit
open Go.Proofs.YtbgdjjfonmoemaaDoor.By Go.Proofs.YtbgdjjfonmoemaaDoor.Gf Go.Proofs.YtbgdjjfonmoemaaDoor.Ae
def Nm (w : World) (v : Value) : Prop := v = .pointer none ∨ ∃ g, v = .pointer (some ⟨g, 0, none⟩) ∧ NoMc w g
theorem Nm.kt {w w' : World} {v : Value} (h : Nm w v) (hk : Kt w w') : Nm w' v := by
  rcases h with h | ⟨g, e, h⟩
  · exact .inl h
  · exact .inr ⟨g, e, h.kt hk⟩
theorem Nm.below {w w' : World} {v : Value} (h : Nm w v) (hb : Below w.heap.size w w') : Nm w' v := h.kt (Kt.of_below hb)
theorem isNone_nm (v : Value) (w : World) (h : Nm w v) : Calls Tryd.prog 44 #[v] w fun e w' => e = .returned (.bool true) ∧ w' = w := by
  rcases h with rfl | ⟨g, rfl, h⟩
  · exact isNone_mz w
  · exact isNone_mn g w h.c0
theorem sum_nm (v lv : Value) (w : World) (h : Nm w v) : Calls Tryd.prog 22 #[v, lv] w fun e w' => e = .returned (.tuple #[.slice none 0 0, .int .i64 1]) ∧ w' = w := by
  go_enter Tryd.func22, Tryd.ntmps22
  go_wp2_with (go_at_call 44; refine (isNone_nm v _ h).mono ?_; rintro e w' ⟨rfl, hw'⟩; subst w')
  go_ret2
  exact ⟨rfl, rfl⟩
theorem write_nm (v lv pv : Value) (w : World) (h : Nm w v) : Calls Tryd.prog 20 #[v, lv, pv] w fun e w' => e = .returned (.int .i64 1) ∧ w' = w := by
  go_enter Tryd.func20, Tryd.ntmps20
  go_wp2_with (go_at_call 44; refine (isNone_nm v _ h).mono ?_; rintro e w' ⟨rfl, hw'⟩; subst w')
  go_ret
  exact ⟨rfl, rfl⟩
theorem reset_nm (v : Value) (w : World) (h : Nm w v) : Calls Tryd.prog 25 #[v] w fun e w' => e = .returned (.int .i64 1) ∧ w' = w := by
  go_enter Tryd.func25, Tryd.ntmps25
  go_wp2_with (go_at_call 44; refine (isNone_nm v _ h).mono ?_; rintro e w' ⟨rfl, hw'⟩; subst w')
  go_ret
  exact ⟨rfl, rfl⟩
theorem clone_nm (v : Value) (w : World) (h : Nm w v) : Calls Tryd.prog 27 #[v] w fun e w' => e = .returned (.tuple #[.pointer none, .int .i64 1]) ∧ w' = w := by
  go_enter Tryd.func27, Tryd.ntmps27
  go_wp2_with (go_at_call 44; refine (isNone_nm v _ h).mono ?_; rintro e w' ⟨rfl, hw'⟩; subst w')
  go_ret2
  exact ⟨rfl, rfl⟩
theorem wipe_nm (v lv : Value) (w : World) (h : Nm w v) : Calls Tryd.prog 29 #[v, lv] w fun e w' => e = .returned (.int .i64 1) ∧ w' = w := by
  go_enter Tryd.func29, Tryd.ntmps29
  go_wp2_with (go_at_call 44; refine (isNone_nm v _ h).mono ?_; rintro e w' ⟨rfl, hw'⟩; subst w')
  go_ret
  exact ⟨rfl, rfl⟩
theorem form_nm (v : Value) (w : World) (h : Nm w v) : Calls Tryd.prog 31 #[v] w fun e w' => e = .returned (.slice none 0 0) ∧ w' = w := by
  go_enter Tryd.func31, Tryd.ntmps31
  go_wp2_with (go_at_call 44; refine (isNone_nm v _ h).mono ?_; rintro e w' ⟨rfl, hw'⟩; subst w')
  go_ret
  exact ⟨rfl, rfl⟩
end Go.Proofs.YtbgdjjfonmoemaaDoor.Vm
