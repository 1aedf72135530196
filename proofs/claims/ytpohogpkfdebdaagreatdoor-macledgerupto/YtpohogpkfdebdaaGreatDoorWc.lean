/- The program's mac: isNone, last. The program's mac: Sum. The program's mac gone on with: bytes copied into what waits; no function of the program in it. -/
import Derived.Test.YtpohogpkfdebdaaGreatDoorWb
import Derived.Test.YtpohogpkfdebdaaGreatDoorWa
import Derived.Deep.RegionHeld3
namespace Go.Proofs.YtpohogpkfdebdaaGreatDoor.Vm
open Go.ChangeShapes Go.WideShapes Go.ChangeAt Go.RowKit
open Go.Proofs.YtpohogpkfdebdaaGreatDoor.By Go.Proofs.YtpohogpkfdebdaaGreatDoor.Gf Go.Proofs.YtpohogpkfdebdaaGreatDoor.Ae
theorem isNone_mc (g gc : Nat) (w : World) (h : w.cell? ⟨g, 0, none⟩ = some (.pointer (some ⟨gc, 0, none⟩))) : Calls Tryz.prog 202 #[.pointer (some ⟨g, 0, none⟩)] w fun e w' => e = .returned (.bool false) ∧ w' = w := by
  go_enter Tryz.func202, Tryz.ntmps202
  go_wp2
  go_ret
  exact ⟨rfl, rfl⟩
set_option maxRecDepth 8000 in
set_option maxHeartbeats 4000000 in
theorem last_mc (g gc k n : Nat) (ws m : Nat → Nat) (w : World) (h : Mc w g gc k ws n m) : Calls Tryz.prog 204 #[.pointer (some ⟨g, 0, none⟩)] w fun e w' => e = .returned (bv (lstb ws (k + 6) m n)) ∧ Below w.heap.size w w' := by
  have hB := below_alloc w (.cells z16.toArray 175)
  have H1 := hid (h.below hB)
  have R1 := hid (z_new w)
  have HB := hid hB
  have hg := h.glt
  clear h hB
  have cn := H1.out.cn
  have hle := ctn_le n
  obtain ⟨W1, hW1⟩ : ∃ x, w.alloc (.cells z16.toArray 175) = x := ⟨_, rfl⟩
  rw [hW1] at H1 R1 HB cn
  have r1 := LDb_run (mcl_d (H1.out.here.drewN 1)) (bl_length _ _)
  have r2 := LDb_run (mcl_a (H1.out.here.drewN 1)) (bl_length _ _)
  rw [show W1.drewN 1 = W1.drew from rfl] at r1 r2
  by_cases hc : ctn n = 16
  · rw [hc, show ((16 : Nat) : Int) = 16 from rfl] at cn
    have el := hid (show lstb ws (k + 6) m n = xr (wtn m n) (sk1 ws (k + 6)) from if_pos hc)
    clear hle
    have XC := hid (xored1 (wtn m n) (sk1 ws (k + 6)) (wtn_b H1.out.lt n) (sk1_b H1.out.ci.lt _) W1.drew)
    unfold bv at XC
    go_enter Tryz.func204, Tryz.ntmps204
    go_wp2_with fail
    go_region_law (go_simp; go_at_call 203; refine XC.out.mono ?_; rintro e w2 ⟨rfl, hb2⟩; have R2 := hid ((R1.out.drewN 1).below hb2); have HB2 := hid (below_next (below_dr HB.out) hb2); obtain ⟨s1, b3⟩ := z_st (f := xr (wtn m n) (sk1 ws (k + 6))) R2.out z16_len; have L2 := hid (z_ld b3); clear hb2 b3)
    all_goals
      go_simp
      go_wp2_with fail
      refine bodyPost_ret ?_ rfl ⟨by rw [el.out], below_cells HB2.out _ _ _ (Nat.le_refl _) HB2.out.size⟩
      exact results_cell1 Tryz.results204 rfl L2.out
  · have r0 := LDb_run (mcl_d H1.out.here) (bl_length _ _)
    have hcn : ((ctn n : Int) == 16) = false := by rw [beq_eq_false_iff_ne]; omega
    have hcn2 : ¬ (ctn n : Int) = 16 := by omega
    have hlt : ctn n < 16 := by omega
    have hlt2 : (ctn n : Int) < 16 := by omega
    have el := hid (show lstb ws (k + 6) m n = xr (mrk m n) (sk2 ws (k + 6)) from if_neg hc)
    have hsz := R1.out.lt
    obtain ⟨q, hq⟩ : ∃ q, W1.heap.size = q := ⟨_, rfl⟩
    obtain ⟨s2, b2⟩ := z_st (f := wtn m n) (z_new W1) z16_len
    rw [hq] at s2 b2
    have k2 := (below_alloc W1 (.cells z16.toArray 175)).trans ((Kp.setCells q 0 (bl 16 (cb (wtn m n)))).below (by simp) (fun j hj e => by omega))
    obtain ⟨W2, hW2⟩ : ∃ x, (W1.alloc (.cells z16.toArray 175)).setCells q 0 (bl 16 (cb (wtn m n))) = x := ⟨_, rfl⟩
    rw [hW2] at s2 b2 k2
    have f2 := b2.frozen (ctn n)
    have x2 := b2.cell (ctn n) _ (bl_get 16 _ _ hlt)
    have b3 := b2.set (ctn n) (.int .u8 128)
    rw [show (bl 16 (cb (wtn m n))).set (ctn n) (.int .u8 128) = bl 16 (cb (mrk m n)) from by
      rw [show (128 : Int) = ((128 : Nat) : Int) from rfl, bl_set]
      refine bl_congr _ _ _ (fun i _ => ?_)
      show (if i = ctn n then ((128 : Nat) : Int) else ((wtn m n i : Nat) : Int)) = ((mrk m n i : Nat) : Int)
      unfold mrk
      split <;> rfl] at b3
    have k3 := k2.trans ((Kp.setCell q (ctn n) (.int .u8 128)).below (w := W2) (by have := k2.size; omega) (fun j hj e => by omega))
    have H2 := hid (H1.out.below k2)
    have cn2 := H2.out.cn
    obtain ⟨W3, hW3⟩ : ∃ x, W2.setCell ⟨q, ctn n, none⟩ (.int .u8 128) = x := ⟨_, rfl⟩
    rw [hW3] at b3 k3
    have H3 := hid (H1.out.below k3)
    have R3 := hid (R1.out.below k3)
    have HB3 := hid (below_next HB.out k3)
    have B3 := hid b3
    have r5 := z_ld (b3.drewN 1)
    have r6 := LDb_run (mcl_b (H3.out.here.drewN 1)) (bl_length _ _)
    rw [show W3.drewN 1 = W3.drew from rfl] at r5 r6
    have XC := hid (xored1 (mrk m n) (sk2 ws (k + 6)) (mrk_b H3.out.lt n) (sk2_b H3.out.ci.lt _) W3.drew)
    unfold bv at XC
    clear b2 k2 b3 k3 r1 r2 hc
    go_enter Tryz.func204, Tryz.ntmps204
    go_wp2_with fail
    go_region_law (go_simp; go_at_call 203; refine XC.out.mono ?_; rintro e w2 ⟨rfl, hb2⟩; have R5 := hid ((R3.out.drewN 1).below hb2); have HB5 := hid (below_next (below_dr HB3.out) hb2); obtain ⟨s1, b5⟩ := z_st (f := xr (mrk m n) (sk2 ws (k + 6))) R5.out z16_len; have L5 := hid (z_ld b5); clear hb2 b5)
    all_goals
      go_simp
      go_wp2_with fail
      refine bodyPost_ret ?_ rfl ⟨by rw [el.out], below_cells HB5.out _ _ _ (Nat.le_refl _) HB5.out.size⟩
      exact results_cell1 Tryz.results204 rfl L5.out
end Go.Proofs.YtpohogpkfdebdaaGreatDoor.Vm
namespace Go.Proofs.YtpohogpkfdebdaaGreatDoor.Vm
open Go.ChangeShapes Go.WideShapes Go.ChangeAt Go.RowKit
open Go.Proofs.YtpohogpkfdebdaaGreatDoor.By Go.Proofs.YtpohogpkfdebdaaGreatDoor.Gf Go.Proofs.YtpohogpkfdebdaaGreatDoor.Ae
/-- On the way from w to V: the mac and the ledger. -/
structure Sg (S : Nat → Prop) (w0 w : World) (lo : Option Nat) (L : List Rn) (g gc k n : Nat) (ws m : Nat → Nat) (V : World) : Prop where
  mc : Mc V g gc k ws n m
  lg : LG S w0 V lo L
  kp : Kp S w0 V
  kt : Kt w V
section
variable {S : Nat → Prop} {w0 w V V' : World} {lo : Option Nat} {L : List Rn} {g gc k n : Nat} {ws m : Nat → Nat}
theorem Sg.below (h : Sg S w0 w lo L g gc k n ws m V) (hb : Below V.heap.size V V') : Sg S w0 w lo L g gc k n ws m V' :=
  ⟨h.mc.below hb, h.lg.below hb, h.kp.trans (Kp.of_below S hb) (fun _ _ e => e), h.kt.trans (Kt.of_below hb)⟩
theorem Sg.z (h : Sg S w0 w lo L g gc k n ws m V) : Sg S w0 w lo L g gc k n ws m (V.alloc (.cells z16.toArray 175)) := h.below (below_alloc _ _)
theorem Sg.dr (h : Sg S w0 w lo L g gc k n ws m V) : Sg S w0 w lo L g gc k n ws m V.drew := h.below (below_drewN V 1)
theorem Sg.rd (h : Sg S w0 w lo L g gc k n ws m V) : V.cell? ⟨g, 0, none⟩ = some (.pointer (some ⟨gc, 0, none⟩)) ∧ V.rangeAt g 33 (bl 16 (cb (chn ws (k + 6) m (nbl n)))) := ⟨h.mc.c0, mcl_c h.mc.here⟩
theorem z_dr (V : World) : Blk (V.alloc (.cells z16.toArray 175)).drew V.heap.size z16 175 := z_new V
theorem z_th {W : World} {q : Nat} (h : Blk W q z16 175) (f : Nat → Nat) : W.there q 0 (bl 16 (cb f)).toArray.size := h.there 0 _ (by rw [List.size_toArray, bl_length, z16_len]; omega)
theorem Sg.sz (h : Sg S w0 w lo L g gc k n ws m V) : w.heap.size ≤ V.heap.size := h.kt.1
theorem Sg.st (h : Sg S w0 w lo L g gc k n ws m V) {q : Nat} {zs : List Value} (hz : Blk V q zs 175) (hq : w.heap.size ≤ q) (h0 : w0.heap.size ≤ w.heap.size) (f : Nat → Nat) : Sg S w0 w lo L g gc k n ws m (V.setCells q 0 (bl 16 (cb f))) := by
  have hk : Kp (fun j => j = q) V (V.setCells q 0 (bl 16 (cb f))) := Kp.setCells q 0 _
  have ne : ∀ {x cs t}, Blk V x cs t → t ≠ 175 → ¬ x = q := fun hx ht e => by subst e; exact hx.ne hz ht rfl
  refine ⟨⟨h.mc.here.kept hk (ne h.mc.here (by decide)), ⟨h.mc.ci.here.kept hk (ne h.mc.ci.here (by decide)), h.mc.ci.kk, h.mc.ci.lt⟩, h.mc.lt⟩, h.lg.kept hk (fun x e => by have e' : x = q := e; subst e'; exact ⟨_, _, hz, by decide, by decide⟩), h.kp.trans hk (fun i hi e => by have e' : i = q := e; omega), Nat.le_trans h.kt.1 hk.size, fun x cs t hx h1 h2 => (h.kt.2 x cs t hx h1 h2).kept hk (fun e => by have e' : x = q := e; have := hx.lt; omega)⟩
end
set_option maxRecDepth 8000 in
set_option maxHeartbeats 4000000 in
theorem sum_mc (S : Nat → Prop) (w0 w : World) (lo : Option Nat) (L : List Rn) (g gc k n : Nat) (ws m : Nat → Nat) (hm : Mc w g gc k ws n m) (h : LG S w0 w lo L) (h0 : Kp S w0 w) (hr : Room L) (hk : KM w0) (s0 : ¬ S 0) :
    Calls Tryz.prog 153 #[.pointer (some ⟨g, 0, none⟩), lpv lo] w fun e w' => ∃ q, e = .returned (.tuple #[.slice (some ⟨q, 0, none⟩) 16 16, .int .i64 0]) ∧ Blk w' q (bl 16 (cb (tgn ws (k + 6) m n))) 175 ∧ w.heap.size ≤ q ∧ LG S w0 w' lo (evb k L 1) ∧ Kp S w0 w' ∧ Kt w w' := by
  have S1 := hid (show Sg S w0 w lo L g gc k n ws m w from ⟨hm, h, h0, Kt.refl _⟩)
  have HR := hid hr
  have HM := hid hk
  have HS := hid s0
  have c0 := hm.c0
  have hg := hm.glt
  have SD := hid S1.out.dr
  have SA := hid S1.out.z.dr
  have ZA := hid (z_dr w)
  have hch : B16 (chn ws (k + 6) m (nbl n)) := chn_b hm.ci.lt hm.lt _ _
  have hls : B16 (lstb ws (k + 6) m n) := lstb_b hm.ci.lt hm.lt _ _
  have H0 := hid h0.size
  have HX := hid (xr_b hch hls)
  have XC := hid (show ∀ W, Calls Tryz.prog 203 #[.agg (bl 16 (cb (chn ws (k + 6) m (nbl n)))).toArray, bv (lstb ws (k + 6) m n)] W fun e w' => e = .returned (bv (xr (chn ws (k + 6) m (nbl n)) (lstb ws (k + 6) m n))) ∧ Below W.heap.size W w' from fun W => xored1 _ _ hch hls W)
  have EC := hid (show ∀ W, Sg S w0 w lo L g gc k n ws m W → Calls Tryz.prog 150 #[.pointer (some ⟨gc, 0, none⟩), lpv lo, bv (xr (chn ws (k + 6) m (nbl n)) (lstb ws (k + 6) m n))] W fun e w' => e = .returned (.tuple #[.agg (bl 16 (cb (tgn ws (k + 6) m n))).toArray, .int .i64 0]) ∧ Sg S w0 w lo (evb k L 1) g gc k n ws m w' ∧ Kt W w' from fun W hW => (enc_ci S w0 W lo L gc k ws _ HX.out hW.mc.ci hW.lg hW.kp hr hk s0).mono (by rintro e w' ⟨rfl, h1, h2, h3⟩; exact ⟨rfl, ⟨hW.mc.kt h3, h1, h2, hW.kt.trans h3⟩, h3⟩))
  have hu := Tryz.underlying175
  have hi1 : (Tryz.prog.info? 175).map (·.size) = some (bl 16 (cb (chn ws (k + 6) m (nbl n)))).length := by rw [bl_length]; exact infob
  have hi2 : (Tryz.prog.info? 175).map (·.size) = some (bl 16 (cb (tgn ws (k + 6) m n))).toArray.size := by rw [List.size_toArray, bl_length]; exact infob
  have ho2 : ∀ v ∈ bl 16 (cb (tgn ws (k + 6) m n)), v.oneCell' = true := bl_one _ _
  clear hm h h0 hr hk s0 hch hls
  go_enter Tryz.func153, Tryz.ntmps153
  go_wp2_with (go_at_call 202; refine (isNone_mc g gc _ c0).mono ?_; rintro e w' ⟨rfl, hw'⟩; subst w')
  go_region_held3 (fun V => V.cell? ⟨g, 0, none⟩ = some (.pointer (some ⟨gc, 0, none⟩)) ∧ V.rangeAt g 33 (bl 16 (cb (chn ws (k + 6) m (nbl n))))) (first | (with_reducible exact (S4.out.z.st (z_new w4) S4.out.sz H0.out _).rd) | (with_reducible exact (S4.out.st Z4.out (Nat.le_refl _) H0.out _).rd) | (with_reducible exact (S4.out.st Z4.out S2.out.sz H0.out _).rd) | (with_reducible exact (S4.out.st Z4.out S3.out.sz H0.out _).rd) | (with_reducible exact S4.out.rd) | (with_reducible exact S4.out.z.rd) | (with_reducible exact S3.out.rd) | (with_reducible exact S3.out.z.rd) | (with_reducible exact S2.out.rd) | (with_reducible exact S2.out.z.rd) | (with_reducible exact SD.out.rd) | (with_reducible exact SA.out.rd)) (first
    | (go_at_call 204; go_must (first
      | ((with_reducible refine (last_mc g gc k n ws m w.drew SD.out.mc).mono ?_); rintro e w2 ⟨rfl, hb2⟩; have S2 := hid (SD.out.below hb2); clear hb2)
      | ((with_reducible refine (last_mc g gc k n ws m (w.alloc (.cells z16.toArray 175)).drew SA.out.mc).mono ?_); rintro e w2 ⟨rfl, hb2⟩; have S2 := hid (SA.out.below hb2); have Z2 := hid (ZA.out.below hb2); clear hb2)))
    | (go_at_call 203; go_must (first
      | ((with_reducible refine (XC.out w2).mono ?_); rintro e w3 ⟨rfl, hb3⟩; have S3 := hid (S2.out.below hb3); (try have Z3 := hid (Z2.out.below hb3)); clear hb3)
      | ((with_reducible refine (XC.out (w2.alloc (.cells z16.toArray 175))).mono ?_); rintro e w3 ⟨rfl, hb3⟩; have S3 := hid (S2.out.z.below hb3); have Z3 := hid ((z_new w2).below hb3); clear hb3)))
    | (go_at_call 150; go_must (first
      | ((with_reducible refine (EC.out w3 S3.out).mono ?_); rintro e w4 ⟨rfl, hs4, hk4⟩; have S4 := hid hs4; (try have Z4 := hid (hk4.2 _ _ _ Z3.out (by decide) (by decide))); clear hs4 hk4)
      | ((with_reducible refine (EC.out (w3.alloc (.cells z16.toArray 175)) S3.out.z).mono ?_); rintro e w4 ⟨rfl, hs4, hk4⟩; have S4 := hid hs4; have Z4 := hid (hk4.2 _ _ _ (z_new w3) (by decide) (by decide)); clear hs4 hk4)); (try have t4 := z_th Z4.out (tgn ws (k + 6) m n)); (try have u4 := z_th (z_new w4) (tgn ws (k + 6) m n))))
  all_goals
    have hsl := sliceB
    first
      | (have BF := hid (z_st (f := tgn ws (k + 6) m n) Z4.out z16_len).2; have SF := hid (S4.out.st Z4.out (by first | exact Nat.le_refl _ | exact S2.out.sz | exact S3.out.sz) H0.out (tgn ws (k + 6) m n)))
      | (have BF := hid (z_st (f := tgn ws (k + 6) m n) (z_new w4) z16_len).2; have SF := hid (S4.out.z.st (z_new w4) S4.out.sz H0.out (tgn ws (k + 6) m n)))
    go_wp2_with fail
    go_ret2
    exact ⟨_, rfl, BF.out, by first | exact Nat.le_refl _ | exact S2.out.sz | exact S3.out.sz | exact S4.out.sz, SF.out.lg, SF.out.kp, SF.out.kt⟩
end Go.Proofs.YtpohogpkfdebdaaGreatDoor.Vm
namespace Go.Proofs.YtpohogpkfdebdaaGreatDoor.Vm
open Go.ChangeShapes Go.WideShapes Go.ChangeAt Go.RowKit
open Go.Proofs.YtpohogpkfdebdaaGreatDoor.By Go.Proofs.YtpohogpkfdebdaaGreatDoor.Gf Go.Proofs.YtpohogpkfdebdaaGreatDoor.Ae
theorem copy_run (W : World) (b o k A C pb po : Nat) (ty : TypeId) (cells : List Value) (f : Nat → Int) (hb : Blk W b cells 201) (hl : cells.length = 66) (ho : o + k ≤ 16) (hk : k = Nat.min A (16 - o)) (hs : ∀ i, i < k → W.cell? ⟨pb, po + i, none⟩ = some (.int .u8 (f i))) :
    (Builtin.copy_ #[23, 23] ty #[.slice (some ⟨b, 49 + o, none⟩) (16 - o) (16 - o), .slice (some ⟨pb, po, none⟩) A C]).run Tryz.prog W = .ok (.int .i64 k) (W.setCells b (49 + o) (bl k f)) := by
  have h := run_copy_cells (P := Tryz.prog) W 23 23 ty 5 b (49 + o) (16 - o) (16 - o) ⟨pb, po, none⟩ A C (bl k f) Tryz.underlying23 (by kernel_rfl) (by rw [bl_length]; exact hk)
    (fun j v hj => by obtain ⟨hj1, rfl⟩ := bl_get_inv _ _ _ _ hj; rw [By.add_plain]; exact hs j hj1)
    (fun j hj => (hb.there (49 + o) k (by omega) j (by rwa [bl_length] at hj)).1) (fun j hj => hb.frozen _) (bl_one k f)
  rw [bl_length] at h
  exact h
theorem sliceW (b o : Nat) (ho : o < 16) (w : World) : (Instr.sliceAt 175 (.pointer (some ⟨b, 49, none⟩)) (some (.int .i64 o)) none none).run Tryz.prog w = .ok (.slice (some ⟨b, 49 + o, none⟩) (16 - o) (16 - o)) w := by
  have h1 : (o : Int) ≤ 16 := by omega
  have h2 : ¬ 16 = o := by omega
  simp [Instr.sliceAt, go_sem, h1, h2]
def sub (a : Option Addr) (cap : Nat) (l h : Int) : Value := .slice (if cap = l.toNat then a else a.map (·.add (l.toNat * 1))) (h.toNat - l.toNat) (cap - l.toNat)
theorem size5 (w : World) : (sizeOf (Tryz.prog.elem 23)).run Tryz.prog w = .ok 1 w := by kernel_rfl
theorem elem22 : Tryz.prog.underlying 23 = some (.slice (Tryz.prog.elem 23)) := by kernel_rfl
@[go_sem high] theorem sub_l (w : World) (a : Option Addr) (n cap : Nat) (l : Int) (h0 : 0 ≤ l) (h1 : l ≤ n) : (Instr.sliceAt 23 (.slice a n cap) (some (.int .i64 l)) none none).run Tryz.prog w = .ok (sub a cap l n) w := by
  rw [run_sliceAt_slice w 23 _ _ _ _ elem22, run_slice_l w 23 a n cap elem22 .i64 l h0 h1, size5]
  rfl
/-- A slice's length. -/
def slLen : Value → Nat
  | .slice _ n _ => n
  | _ => 0
theorem sub_next (pb p n cap k : Nat) (hn : n ≤ cap) : ∃ A, sub (some ⟨pb, p, none⟩) cap k n = .slice A (n - k) (cap - k) ∧ (k < n → A = some ⟨pb, p + k, none⟩) := by
  refine ⟨if cap = ((k : Int)).toNat then some ⟨pb, p, none⟩ else (some (⟨pb, p, none⟩ : Addr)).map (·.add (((k : Int)).toNat * 1)), by unfold sub; rw [Int.toNat_natCast, Int.toNat_natCast], fun h => ?_⟩
  rw [Int.toNat_natCast, if_neg (by omega), Nat.mul_one, Option.map_some, By.add_plain]
theorem nbl_at {N B c t : Nat} (h : 16 * B + c = N) (h1 : 1 ≤ t) (h2 : c + t ≤ 16) : nbl (N + t) = B ∧ ctn (N + t) = c + t := by
  unfold ctn nbl; omega
theorem full_pure {n j c t : Nat} (hc : ctn (n + j) = 16) (h0 : c = 0) (ht0 : 1 ≤ t) (ht : t ≤ 16) : 16 * (nbl (n + j) + 1) + c = n + j ∧ nbl (n + j + t) - nbl n = nbl (n + j) - nbl n + 1 := by
  subst h0
  have h1 := nbl_ct (n + j)
  have h2 := (nbl_at (N := n + j) (B := nbl (n + j) + 1) (c := 0) (t := t) (by omega) ht0 (by omega)).1
  refine ⟨by omega, ?_⟩
  rw [h2]
  have : nbl n ≤ nbl (n + j) := by unfold nbl; omega
  omega
theorem min_pure {a c t : Nat} (ha : 0 < a) (hc : c < 16) (h : Nat.min a (16 - c) = t) : 0 < t ∧ t ≤ a ∧ t ≤ 16 - c ∧ c + t ≤ 16 := by
  have h1 : t ≤ a := by rw [← h]; exact Nat.min_le_left _ _
  have h2 : t ≤ 16 - c := by rw [← h]; exact Nat.min_le_right _ _
  have h3 : 0 < t := by rw [← h]; exact Nat.lt_min.2 ⟨by omega, by omega⟩
  exact ⟨h3, h1, h2, by omega⟩
/-- On the way through Write: B blocks are enciphered, c bytes wait. -/
structure Rw (S : Nat → Prop) (w0 w : World) (lo : Option Nat) (L : List Rn) (g gc k B c : Nat) (ws M C D : Nat → Nat) (V : World) : Prop where
  here : Blk V g (mcl (.pointer (some ⟨gc, 0, none⟩)) (sk1 ws (k + 6)) (sk2 ws (k + 6)) C D c) 201
  ci : Ci V gc k ws
  ch : E16 C (chn ws (k + 6) M B)
  dd : ∀ i, i < 16 → D i = if i < c then M (16 * B + i) else 0
  lg : LG S w0 V lo L
  kp : Kp S w0 V
  kx : Kx g w V
section
variable {S : Nat → Prop} {w0 w V V' : World} {lo : Option Nat} {L : List Rn} {g gc k B c n : Nat} {ws M C D m : Nat → Nat}
theorem Rw.below (h : Rw S w0 w lo L g gc k B c ws M C D V) (hb : Below V.heap.size V V') : Rw S w0 w lo L g gc k B c ws M C D V' :=
  ⟨h.here.below hb, h.ci.below hb, h.ch, h.dd, h.lg.below hb, h.kp.trans (Kp.of_below S hb) (fun _ _ e => e), Nat.le_trans h.kx.1 hb.size, fun x cs t hx hc h1 h2 => (h.kx.2 x cs t hx hc h1 h2).below hb⟩
theorem Rw.dr (h : Rw S w0 w lo L g gc k B c ws M C D V) : Rw S w0 w lo L g gc k B c ws M C D V.drew := h.below (below_drewN V 1)
/-- The mac's own block is stored to. -/
theorem Rw.own (h : Rw S w0 w lo L g gc k B c ws M C D V) (hk : Kp (fun j => j = g) V V') (hS : g < w0.heap.size → S g) : Ci V' gc k ws ∧ LG S w0 V' lo L ∧ Kp S w0 V' ∧ Kx g w V' := by
  have hne : gc ≠ g := h.ci.here.ne h.here (by decide)
  refine ⟨h.ci.kept hk hne, h.lg.kept hk (fun x e => by have e' : x = g := e; subst e'; exact ⟨_, _, h.here, by decide, by decide⟩), h.kp.trans hk (fun i hi e => by have e' : i = g := e; subst e'; exact hS hi), Nat.le_trans h.kx.1 hk.size, fun x cs t hx hc h1 h2 => (h.kx.2 x cs t hx hc h1 h2).kept hk hx⟩
theorem Rw.of (hm : Mc V g gc k ws n M) (hl : LG S w0 V lo L) (h0 : Kp S w0 V) (hx : Kx g w V) : Rw S w0 w lo L g gc k (nbl n) (ctn n) ws M (chn ws (k + 6) M (nbl n)) (wtn M n) V :=
  ⟨hm.here, hm.ci, E16.refl _, fun _ _ => rfl, hl, h0, hx⟩
theorem Rw.c0 (h : Rw S w0 w lo L g gc k B c ws M C D V) : V.cell? ⟨g, 0, none⟩ = some (.pointer (some ⟨gc, 0, none⟩)) := h.here.cell 0 _ rfl
theorem Rw.cn (h : Rw S w0 w lo L g gc k B c ws M C D V) : V.cell? ⟨g, 65, none⟩ = some (.int .i64 (c : Int)) := h.here.cell 65 _ (mcl_n _ _ _ _ _ _)
theorem Rw.kt (h : Rw S w0 w lo L g gc k B c ws M C D V) {L' : List Rn} (hl : LG S w0 V' lo L') (h0 : Kp S w0 V') (ht : Kt V V') : Rw S w0 w lo L' g gc k B c ws M C D V' :=
  ⟨ht.2 _ _ _ h.here (by decide) (by decide), ⟨ht.2 _ _ _ h.ci.here (by decide) (by decide), h.ci.kk, h.ci.lt⟩, h.ch, h.dd, hl, h0, Nat.le_trans h.kx.1 ht.1, fun x cs t hx hc h1 h2 => ht.2 _ _ _ (h.kx.2 x cs t hx hc h1 h2) h1 h2⟩
theorem Rw.fullx (h : Rw S w0 w lo L g gc k B c ws M C D V) (E : Nat → Nat) :
    (SVb ⟨g, 49, none⟩ (.agg z16.toArray)).run Tryz.prog (V.setCells g 33 (bl 16 (cb E))) = .ok () ((V.setCells g 33 (bl 16 (cb E))).setCells g 49 z16) ∧ ((V.setCells g 33 (bl 16 (cb E))).setCells g 49 z16).frozen? ⟨g, 65, none⟩ = false ∧ ((V.setCells g 33 (bl 16 (cb E))).setCells g 49 z16).cell? ⟨g, 65, none⟩ = some (.int .i64 (c : Int)) := by
  have b1 := h.here.put 33 (bl 16 (cb E))
  rw [put_c] at b1
  have b2 := b1.put 49 z16
  unfold z16 at b2
  rw [put_d _ _ _ _ _ nought _ 0 16 nought (by omega) (fun i hi => by rw [if_pos (by omega)]; rfl)] at b2
  exact ⟨SVb_run (cs := z16) (b1.there 49 16 (by rw [mcl_len]; omega)) z16_len (bl_one _ _), b2.frozen 65, b2.cell 65 _ (mcl_n _ _ _ _ _ _)⟩
theorem Rw.donex (h : Rw S w0 w lo L g gc k B c ws M C D V) (t : Nat) (f : Nat → Nat) (ht : c + t ≤ 16) :
    (V.setCells g (49 + c) (bl t (cb f))).cell? ⟨g, 65, none⟩ = some (.int .i64 (c : Int)) ∧ (V.setCells g (49 + c) (bl t (cb f))).frozen? ⟨g, 65, none⟩ = false := by
  have b6 := h.here.put (49 + c) (bl t (cb f))
  refine ⟨b6.cell 65 _ ?_, b6.frozen 65⟩
  rw [put_get _ _ _ _ (by rw [mcl_len, bl_length]; omega), bl_length, if_neg (by omega), mcl_n]
/-- The copy of a piece. -/
theorem Rw.copy (h : Rw S w0 w lo L g gc k B c ws M C D V) (q j t cap pb po : Nat) (f : Nat → Nat) (hrb : By.RB V (.slice (some ⟨pb, po, none⟩) q cap) q (cb f)) (hc : c < 16) (ht : Nat.min (q - j) (16 - c) = t) (hj : j < q) (ty : TypeId) :
    (Builtin.copy_ #[23, 23] ty #[.slice (some ⟨g, 49 + c, none⟩) (16 - c) (16 - c), .slice (some ⟨pb, po + j, none⟩) (q - j) (cap - j)]).run Tryz.prog V = .ok (.int .i64 t) (V.setCells g (49 + c) (bl t (cb (fun i => f (j + i))))) := by
  have ht1 : t ≤ q - j := by rw [← ht]; exact Nat.min_le_left _ _
  have ht2 : t ≤ 16 - c := by rw [← ht]; exact Nat.min_le_right _ _
  refine copy_run V g c t (q - j) (cap - j) pb (po + j) ty _ (cb (fun i => f (j + i))) h.here (mcl_len _ _ _ _ _ _) (by omega) ht.symm (fun i hi => ?_)
  obtain ⟨_, a', cap', he, _, _, h1 | ⟨b, off, h1, hcell⟩⟩ := hrb
  · omega
  · simp at he
    rw [h1] at he
    simp at he
    obtain ⟨⟨rfl, rfl⟩, rfl⟩ := he
    rw [Nat.add_assoc]; exact hcell (j + i) (by omega)
/-- The full block is enciphered, and what waits is empty. -/
theorem Rw.full (h : Rw S w0 w lo L g gc k B c ws M C D V) (hc : c = 16) (hS : g < w0.heap.size → S g) :
    Rw S w0 w lo L g gc k (B + 1) 0 ws M (enc ws (k + 6) (xr C D)) nought (((V.setCells g 33 (bl 16 (cb (enc ws (k + 6) (xr C D))))).setCells g 49 z16).setCell ⟨g, 65, none⟩ (.int .i64 0)) := by
  have hk : Kp (fun j => j = g) V (((V.setCells g 33 (bl 16 (cb (enc ws (k + 6) (xr C D))))).setCells g 49 z16).setCell ⟨g, 65, none⟩ (.int .i64 0)) := ((Kp.setCells g _ _).trans (Kp.setCells g _ _) (fun _ _ e => e)).trans (Kp.setCell g 65 _) (fun _ _ e => e)
  obtain ⟨a1, a2, a3, a4⟩ := h.own hk hS
  have b1 := ((h.here.put 33 (bl 16 (cb (enc ws (k + 6) (xr C D))))).put 49 z16).set 65 (.int .i64 0)
  rw [put_c] at b1
  unfold z16 at b1
  rw [put_d _ _ _ _ _ nought _ 0 16 nought (by omega) (fun i hi => by rw [if_pos (by omega)]; rfl)] at b1
  have e := mcl_set (.pointer (some ⟨gc, 0, none⟩)) (sk1 ws (k + 6)) (sk2 ws (k + 6)) (enc ws (k + 6) (xr C D)) nought c 0
  rw [show ((0 : Nat) : Int) = 0 from rfl] at e
  rw [e] at b1
  refine ⟨b1, a1, ?_, fun i _ => by rw [if_neg (by omega)]; rfl, a2, a3, a4⟩
  refine enc_e _ _ (xr_e h.ch (fun i hi => ?_))
  rw [h.dd i hi, if_pos (by omega)]; rfl
/-- Bytes are copied, the count is stored. -/
theorem Rw.done (h : Rw S w0 w lo L g gc k B c ws M C D V) (hS : g < w0.heap.size → S g) {N t j : Nat} {f : Nat → Nat} (hN : 16 * B + c = N) (h1 : 1 ≤ t) (h2 : c + t ≤ 16) (hf : ∀ i, i < t → f (j + i) = M (N + i)) (hM : ∀ i, M i < 256) :
    Mc ((V.setCells g (49 + c) (bl t (cb (fun i => f (j + i))))).setCell ⟨g, 65, none⟩ (.int .i64 ((c + t : Nat) : Int))) g gc k ws (N + t) M ∧ LG S w0 ((V.setCells g (49 + c) (bl t (cb (fun i => f (j + i))))).setCell ⟨g, 65, none⟩ (.int .i64 ((c + t : Nat) : Int))) lo L ∧ Kp S w0 ((V.setCells g (49 + c) (bl t (cb (fun i => f (j + i))))).setCell ⟨g, 65, none⟩ (.int .i64 ((c + t : Nat) : Int))) ∧ Kx g w ((V.setCells g (49 + c) (bl t (cb (fun i => f (j + i))))).setCell ⟨g, 65, none⟩ (.int .i64 ((c + t : Nat) : Int))) := by
  obtain ⟨e1, e2⟩ := nbl_at hN h1 h2
  have hk : Kp (fun j => j = g) V ((V.setCells g (49 + c) (bl t (cb (fun i => f (j + i))))).setCell ⟨g, 65, none⟩ (.int .i64 ((c + t : Nat) : Int))) := (Kp.setCells g _ _).trans (Kp.setCell g 65 _) (fun _ _ e => e)
  obtain ⟨a1, a2, a3, a4⟩ := h.own hk hS
  refine ⟨⟨?_, a1, hM⟩, a2, a3, a4⟩
  have b1 := (h.here.put (49 + c) (bl t (cb (fun i => f (j + i))))).set 65 (.int .i64 ((c + t : Nat) : Int))
  rw [put_d _ _ _ _ _ (wtn M (N + t)) _ c t (fun i => f (j + i)) h2 (fun i hi => by
    unfold wtn
    rw [e1, e2]
    by_cases hc : c ≤ i ∧ i < c + t
    · rw [if_pos hc, if_pos hc.2]
      show f (j + (i - c)) = _
      rw [hf _ (by omega), ← hN]
      congr 1; omega
    · rw [if_neg hc, h.dd i hi]
      by_cases hi2 : i < c
      · rw [if_pos hi2, if_pos (by omega)]
      · rw [if_neg hi2, if_neg (by omega)]), mcl_set, mcl_e _ _ (E16.refl _) (E16.refl _) h.ch (E16.refl _)] at b1
  rw [e1, e2]
  exact b1
end
end Go.Proofs.YtpohogpkfdebdaaGreatDoor.Vm
