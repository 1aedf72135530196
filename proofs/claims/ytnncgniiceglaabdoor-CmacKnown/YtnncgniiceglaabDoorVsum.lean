/- The program's mac: Sum. -/
import Derived.Test.YtnncgniiceglaabDoorVsm
import Derived.Deep.RegionHeld3
namespace Go.Proofs.YtnncgniiceglaabDoor.Vm
open Go.ChangeShapes Go.WideShapes Go.ChangeAt Go.RowKit
open Go.Proofs.YtnncgniiceglaabDoor.By Go.Proofs.YtnncgniiceglaabDoor.Gf Go.Proofs.YtnncgniiceglaabDoor.Ae
/-- On the way from w to V: the mac and the ledger. -/
structure Sg (S : Nat → Prop) (w0 w : World) (lo : Option Nat) (L : List Rn) (g gc k n : Nat) (ws m : Nat → Nat) (V : World) : Prop where
  mc : Mc V g gc k ws n m
  lg : LG S w0 V lo L
  kp : Kp S w0 V
  kt : Kt w V
section
variable {S : Nat → Prop} {w0 w V V' : World} {lo : Option Nat} {L : List Rn} {g gc k n : Nat} {ws m : Nat → Nat}
theorem Sg.below (h : Sg S w0 w lo L g gc k n ws m V) (hb : Below V.heap.size V V') : Sg S w0 w lo L g gc k n ws m V' :=
  ⟨h.mc.below hb, h.lg.below hb, h.kp.trans (Kp.of_below S hb) (fun _ _ e => e), h.kt.trans (Kt.of_below hb)⟩
theorem Sg.z (h : Sg S w0 w lo L g gc k n ws m V) : Sg S w0 w lo L g gc k n ws m (V.alloc (.cells z16.toArray 34)) := h.below (below_alloc _ _)
theorem Sg.dr (h : Sg S w0 w lo L g gc k n ws m V) : Sg S w0 w lo L g gc k n ws m V.drew := h.below (below_drewN V 1)
theorem Sg.rd (h : Sg S w0 w lo L g gc k n ws m V) : V.cell? ⟨g, 0, none⟩ = some (.pointer (some ⟨gc, 0, none⟩)) ∧ V.rangeAt g 33 (bl 16 (cb (chn ws (k + 6) m (nbl n)))) := ⟨h.mc.c0, mcl_c h.mc.here⟩
theorem z_dr (V : World) : Blk (V.alloc (.cells z16.toArray 34)).drew V.heap.size z16 34 := z_new V
theorem z_th {W : World} {q : Nat} (h : Blk W q z16 34) (f : Nat → Nat) : W.there q 0 (bl 16 (cb f)).toArray.size := h.there 0 _ (by rw [List.size_toArray, bl_length, z16_len]; omega)
theorem Sg.sz (h : Sg S w0 w lo L g gc k n ws m V) : w.heap.size ≤ V.heap.size := h.kt.1
theorem Sg.st (h : Sg S w0 w lo L g gc k n ws m V) {q : Nat} {zs : List Value} (hz : Blk V q zs 34) (hq : w.heap.size ≤ q) (h0 : w0.heap.size ≤ w.heap.size) (f : Nat → Nat) : Sg S w0 w lo L g gc k n ws m (V.setCells q 0 (bl 16 (cb f))) := by
  have hk : Kp (fun j => j = q) V (V.setCells q 0 (bl 16 (cb f))) := Kp.setCells q 0 _
  have ne : ∀ {x cs t}, Blk V x cs t → t ≠ 34 → ¬ x = q := fun hx ht e => by subst e; exact hx.ne hz ht rfl
  refine ⟨⟨h.mc.here.kept hk (ne h.mc.here (by decide)), ⟨h.mc.ci.here.kept hk (ne h.mc.ci.here (by decide)), h.mc.ci.kk, h.mc.ci.lt⟩, h.mc.lt⟩, h.lg.kept hk (fun x e => by have e' : x = q := e; subst e'; exact ⟨_, _, hz, by decide, by decide⟩), h.kp.trans hk (fun i hi e => by have e' : i = q := e; omega), Nat.le_trans h.kt.1 hk.size, fun x cs t hx h1 h2 => (h.kt.2 x cs t hx h1 h2).kept hk (fun e => by have e' : x = q := e; have := hx.lt; omega)⟩
end
set_option maxRecDepth 8000 in
set_option maxHeartbeats 4000000 in
theorem sum_mc (S : Nat → Prop) (w0 w : World) (lo : Option Nat) (L : List Rn) (g gc k n : Nat) (ws m : Nat → Nat) (hm : Mc w g gc k ws n m) (h : LG S w0 w lo L) (h0 : Kp S w0 w) (hr : Room L) (hk : KM w0) (s0 : ¬ S 0) :
    Calls Tryd.prog 11 #[.pointer (some ⟨g, 0, none⟩), lpv lo] w fun e w' => ∃ q, e = .returned (.tuple #[.slice (some ⟨q, 0, none⟩) 16 16, .int .i64 0]) ∧ Blk w' q (bl 16 (cb (tgn ws (k + 6) m n))) 34 ∧ w.heap.size ≤ q ∧ LG S w0 w' lo (evb k L 1) ∧ Kp S w0 w' ∧ Kt w w' := by
  have S1 := hid (show Sg S w0 w lo L g gc k n ws m w from ⟨hm, h, h0, Kt.refl _⟩)
  have HR := hid hr
  have HM := hid hk
  have HS := hid s0
  have c0 := hm.c0
  have hg := hm.glt
  have SD := hid S1.out.dr
  have SA := hid S1.out.z.dr
  have ZA := hid (z_dr w)
  have hch : B16 (chn ws (k + 6) m (nbl n)) := chn_b hm.ci.lt hm.lt _ _
  have hls : B16 (lstb ws (k + 6) m n) := lstb_b hm.ci.lt hm.lt _ _
  have H0 := hid h0.size
  have HX := hid (xr_b hch hls)
  have XC := hid (show ∀ W, Calls Tryd.prog 20 #[.agg (bl 16 (cb (chn ws (k + 6) m (nbl n)))).toArray, bv (lstb ws (k + 6) m n)] W fun e w' => e = .returned (bv (xr (chn ws (k + 6) m (nbl n)) (lstb ws (k + 6) m n))) ∧ Below W.heap.size W w' from fun W => xored1 _ _ hch hls W)
  have EC := hid (show ∀ W, Sg S w0 w lo L g gc k n ws m W → Calls Tryd.prog 17 #[.pointer (some ⟨gc, 0, none⟩), lpv lo, bv (xr (chn ws (k + 6) m (nbl n)) (lstb ws (k + 6) m n))] W fun e w' => e = .returned (.tuple #[.agg (bl 16 (cb (tgn ws (k + 6) m n))).toArray, .int .i64 0]) ∧ Sg S w0 w lo (evb k L 1) g gc k n ws m w' ∧ Kt W w' from fun W hW => (enc_ci S w0 W lo L gc k ws _ HX.out hW.mc.ci hW.lg hW.kp hr hk s0).mono (by rintro e w' ⟨rfl, h1, h2, h3⟩; exact ⟨rfl, ⟨hW.mc.kt h3, h1, h2, hW.kt.trans h3⟩, h3⟩))
  have hu := Tryd.underlying34
  have hi1 : (Tryd.prog.info? 34).map (·.size) = some (bl 16 (cb (chn ws (k + 6) m (nbl n)))).length := by rw [bl_length]; exact infob
  have hi2 : (Tryd.prog.info? 34).map (·.size) = some (bl 16 (cb (tgn ws (k + 6) m n))).toArray.size := by rw [List.size_toArray, bl_length]; exact infob
  have ho2 : ∀ v ∈ bl 16 (cb (tgn ws (k + 6) m n)), v.oneCell' = true := bl_one _ _
  clear hm h h0 hr hk s0 hch hls
  go_enter Tryd.func11, Tryd.ntmps11
  go_wp2_with (go_at_call 18; refine (isNone_mc g gc _ c0).mono ?_; rintro e w' ⟨rfl, hw'⟩; subst w')
  go_region_held3 (fun V => V.cell? ⟨g, 0, none⟩ = some (.pointer (some ⟨gc, 0, none⟩)) ∧ V.rangeAt g 33 (bl 16 (cb (chn ws (k + 6) m (nbl n))))) (first | (with_reducible exact (S4.out.z.st (z_new w4) S4.out.sz H0.out _).rd) | (with_reducible exact (S4.out.st Z4.out (Nat.le_refl _) H0.out _).rd) | (with_reducible exact (S4.out.st Z4.out S2.out.sz H0.out _).rd) | (with_reducible exact (S4.out.st Z4.out S3.out.sz H0.out _).rd) | (with_reducible exact S4.out.rd) | (with_reducible exact S4.out.z.rd) | (with_reducible exact S3.out.rd) | (with_reducible exact S3.out.z.rd) | (with_reducible exact S2.out.rd) | (with_reducible exact S2.out.z.rd) | (with_reducible exact SD.out.rd) | (with_reducible exact SA.out.rd)) (first
    | (go_at_call 21; go_must (first
      | ((with_reducible refine (last_mc g gc k n ws m w.drew SD.out.mc).mono ?_); rintro e w2 ⟨rfl, hb2⟩; have S2 := hid (SD.out.below hb2); clear hb2)
      | ((with_reducible refine (last_mc g gc k n ws m (w.alloc (.cells z16.toArray 34)).drew SA.out.mc).mono ?_); rintro e w2 ⟨rfl, hb2⟩; have S2 := hid (SA.out.below hb2); have Z2 := hid (ZA.out.below hb2); clear hb2)))
    | (go_at_call 20; go_must (first
      | ((with_reducible refine (XC.out w2).mono ?_); rintro e w3 ⟨rfl, hb3⟩; have S3 := hid (S2.out.below hb3); (try have Z3 := hid (Z2.out.below hb3)); clear hb3)
      | ((with_reducible refine (XC.out (w2.alloc (.cells z16.toArray 34))).mono ?_); rintro e w3 ⟨rfl, hb3⟩; have S3 := hid (S2.out.z.below hb3); have Z3 := hid ((z_new w2).below hb3); clear hb3)))
    | (go_at_call 17; go_must (first
      | ((with_reducible refine (EC.out w3 S3.out).mono ?_); rintro e w4 ⟨rfl, hs4, hk4⟩; have S4 := hid hs4; (try have Z4 := hid (hk4.2 _ _ _ Z3.out (by decide) (by decide))); clear hs4 hk4)
      | ((with_reducible refine (EC.out (w3.alloc (.cells z16.toArray 34)) S3.out.z).mono ?_); rintro e w4 ⟨rfl, hs4, hk4⟩; have S4 := hid hs4; have Z4 := hid (hk4.2 _ _ _ (z_new w3) (by decide) (by decide)); clear hs4 hk4)); (try have t4 := z_th Z4.out (tgn ws (k + 6) m n)); (try have u4 := z_th (z_new w4) (tgn ws (k + 6) m n))))
  all_goals
    have hsl := sliceB
    first
      | (have BF := hid (z_st (f := tgn ws (k + 6) m n) Z4.out z16_len).2; have SF := hid (S4.out.st Z4.out (by first | exact Nat.le_refl _ | exact S2.out.sz | exact S3.out.sz) H0.out (tgn ws (k + 6) m n)))
      | (have BF := hid (z_st (f := tgn ws (k + 6) m n) (z_new w4) z16_len).2; have SF := hid (S4.out.z.st (z_new w4) S4.out.sz H0.out (tgn ws (k + 6) m n)))
    go_wp2_with fail
    go_ret2
    exact ⟨_, rfl, BF.out, by first | exact Nat.le_refl _ | exact S2.out.sz | exact S3.out.sz | exact S4.out.sz, SF.out.lg, SF.out.kp, SF.out.kt⟩
end Go.Proofs.YtnncgniiceglaabDoor.Vm
