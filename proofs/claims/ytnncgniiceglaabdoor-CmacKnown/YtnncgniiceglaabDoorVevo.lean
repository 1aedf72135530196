/- CMAC's examples: the subkeys, the tags. -/
import Derived.Test.YtnncgniiceglaabDoorVevm
import Derived.Test.YtnncgniiceglaabDoorVevn
namespace Go.Proofs.YtnncgniiceglaabDoor.Vm
open Go.Proofs.YtnncgniiceglaabDoor.Gf Go.Proofs.YtnncgniiceglaabDoor.Ae
def XK : List Nat := [43, 126, 21, 22, 40, 174, 210, 166, 171, 247, 21, 136, 9, 207, 79, 60]
def XT : List Nat := [107, 193, 190, 226, 46, 64, 159, 150, 233, 61, 126, 17, 115, 147, 23, 42, 174, 45, 138, 87, 30, 3, 172, 156, 158, 183, 111, 172, 69, 175, 142, 81, 48, 200, 28, 70, 163, 92, 228, 17]
set_option maxRecDepth 100000 in
theorem kx_key : ∀ p, p < 16 → ofl KX p = ofl XK p := by decide +kernel
/-- The example key's round keys. -/
theorem xk_wds (key : Nat → Nat) (hk : ∀ p, p < 16 → key p = ofl XK p) : ∀ p, p < 176 → wds 4 key 40 p = ofl KX p := fun p hp => wds_lit 4 40 (by decide) key KX (fun p hp => by rw [kx_key p (by omega), hk p (by omega)]) kx_nxt p (by omega)
set_option maxRecDepth 100000 in
theorem k1_e : ∀ i, i < 16 → dbl (ofl [125, 247, 107, 12, 26, 184, 153, 179, 62, 66, 240, 71, 185, 27, 84, 111]) i = ofl [251, 238, 214, 24, 53, 113, 51, 102, 124, 133, 224, 143, 114, 54, 168, 222] i := by decide +kernel
set_option maxRecDepth 100000 in
theorem k2_e : ∀ i, i < 16 → dbl (ofl [251, 238, 214, 24, 53, 113, 51, 102, 124, 133, 224, 143, 114, 54, 168, 222]) i = ofl [247, 221, 172, 48, 106, 226, 102, 204, 249, 11, 193, 30, 228, 109, 81, 59] i := by decide +kernel
theorem bl_z : ∀ i, i < 16 → nought i = ofl Bl i := by decide +kernel
theorem x1 : E16 (sk1 (ofl KX) 10) (ofl [251, 238, 214, 24, 53, 113, 51, 102, 124, 133, 224, 143, 114, 54, 168, 222]) := (dbl_e ((enc_e _ _ bl_z).trans enl)).trans k1_e
theorem x2 : E16 (sk2 (ofl KX) 10) (ofl [247, 221, 172, 48, 106, 226, 102, 204, 249, 11, 193, 30, 228, 109, 81, 59]) := (dbl_e x1).trans k2_e
set_option maxRecDepth 100000 in
theorem ta_b : ∀ i, i < 16 → xr (xr nought (fun i => if i = 0 then 128 else 0)) (ofl [247, 221, 172, 48, 106, 226, 102, 204, 249, 11, 193, 30, 228, 109, 81, 59]) i = ofl Ba i := by decide +kernel
set_option maxRecDepth 100000 in
theorem tb_b : ∀ i, i < 16 → xr (ofl XT) (ofl [251, 238, 214, 24, 53, 113, 51, 102, 124, 133, 224, 143, 114, 54, 168, 222]) i = ofl Bb i := by decide +kernel
set_option maxRecDepth 100000 in
theorem tc_b : ∀ i, i < 16 → ofl XT i = ofl Bc i := by decide +kernel
set_option maxRecDepth 100000 in
theorem td_b : ∀ i, i < 16 → xr (ofl [58, 215, 123, 180, 13, 122, 54, 96, 168, 158, 202, 243, 36, 102, 239, 151]) (mbk (ofl XT) 1) i = ofl Bd i := by decide +kernel
set_option maxRecDepth 100000 in
theorem te_b : ∀ i, i < 16 → xr (ofl [177, 72, 193, 127, 48, 158, 230, 146, 40, 122, 229, 124, 241, 42, 221, 73]) (xr (mrk (ofl XT) 40) (ofl [247, 221, 172, 48, 106, 226, 102, 204, 249, 11, 193, 30, 228, 109, 81, 59])) i = ofl Be i := by decide +kernel
def TA : List Nat := [187, 29, 105, 41, 233, 89, 55, 40, 127, 163, 125, 18, 155, 117, 103, 70]
def TB : List Nat := [7, 10, 22, 180, 107, 77, 65, 68, 247, 155, 221, 157, 208, 74, 40, 124]
def TC : List Nat := [223, 166, 103, 71, 222, 154, 230, 48, 48, 202, 50, 97, 20, 151, 200, 39]
theorem xr_nought (b : Nat → Nat) : xr nought b = b := by funext i; unfold xr nought; rw [Nat.zero_xor]
theorem mrk0 (f : Nat → Nat) (i : Nat) : mrk f 0 i = if i = 0 then 128 else 0 := by
  show (if i = ctn 0 then 128 else wtn f 0 i) = _
  rw [show ctn 0 = 0 from rfl]
  split
  · rfl
  · unfold wtn; rw [show ctn 0 = 0 from rfl, if_neg (by omega)]
theorem tag0 (f : Nat → Nat) : E16 (tgn (ofl KX) 10 f 0) (ofl TA) := by
  have e : E16 (xr (chn (ofl KX) 10 f (nbl 0)) (lstb (ofl KX) 10 f 0)) (ofl Ba) := by
    show E16 (xr nought (lstb (ofl KX) 10 f 0)) _
    rw [xr_nought, show lstb (ofl KX) 10 f 0 = xr (mrk f 0) (sk2 (ofl KX) 10) from if_neg (by decide)]
    refine (xr_e (fun i _ => ?_) x2).trans ta_b
    rw [xr_nought, mrk0]
  exact (enc_e _ _ e).trans ena
theorem tag16 : E16 (tgn (ofl KX) 10 (ofl XT) 16) (ofl TB) := by
  have e : E16 (xr (chn (ofl KX) 10 (ofl XT) (nbl 16)) (lstb (ofl KX) 10 (ofl XT) 16)) (ofl Bb) := by
    show E16 (xr nought (lstb (ofl KX) 10 (ofl XT) 16)) _
    rw [xr_nought, show lstb (ofl KX) 10 (ofl XT) 16 = xr (wtn (ofl XT) 16) (sk1 (ofl KX) 10) from if_pos (by decide)]
    refine (xr_e (fun i hi => ?_) x1).trans tb_b
    show (if i < ctn 16 then ofl XT (16 * nbl 16 + i) else 0) = _
    rw [show ctn 16 = 16 from rfl, if_pos hi, show nbl 16 = 0 from rfl, Nat.mul_zero, Nat.zero_add]
  exact (enc_e _ _ e).trans enb
theorem ch1 : E16 (chn (ofl KX) 10 (ofl XT) 1) (ofl [58, 215, 123, 180, 13, 122, 54, 96, 168, 158, 202, 243, 36, 102, 239, 151]) := by
  show E16 (enc (ofl KX) 10 (xr nought (mbk (ofl XT) 0))) _
  rw [xr_nought]
  refine (enc_e _ _ (fun i hi => ?_)).trans enc_c
  show ofl XT (16 * 0 + i) = _
  rw [Nat.mul_zero, Nat.zero_add]; exact tc_b i hi
theorem ch2 : E16 (chn (ofl KX) 10 (ofl XT) 2) (ofl [177, 72, 193, 127, 48, 158, 230, 146, 40, 122, 229, 124, 241, 42, 221, 73]) := (enc_e _ _ ((xr_e ch1 (E16.refl _)).trans td_b)).trans end_d
theorem tag40 : E16 (tgn (ofl KX) 10 (ofl XT) 40) (ofl TC) := by
  have e : E16 (xr (chn (ofl KX) 10 (ofl XT) (nbl 40)) (lstb (ofl KX) 10 (ofl XT) 40)) (ofl Be) := by
    show E16 (xr (chn (ofl KX) 10 (ofl XT) 2) (lstb (ofl KX) 10 (ofl XT) 40)) _
    rw [show lstb (ofl KX) 10 (ofl XT) 40 = xr (mrk (ofl XT) 40) (sk2 (ofl KX) 10) from if_neg (by decide)]
    exact (xr_e ch2 (xr_e (E16.refl _) x2)).trans te_b
  exact (enc_e _ _ e).trans ene
/-- Tags under round keys that agree with these. -/
theorem tgn_k {ws ws' : Nat → Nat} {r : Nat} (h : ∀ p, p < 16 * (r + 1) → ws p = ws' p) (f : Nat → Nat) (n : Nat) : E16 (tgn ws r f n) (tgn ws' r f n) := by
  have e1 : E16 (sk1 ws r) (sk1 ws' r) := dbl_e (enc_k h nought)
  have e2 : E16 (sk2 ws r) (sk2 ws' r) := dbl_e e1
  have ec : ∀ j, E16 (chn ws r f j) (chn ws' r f j) := fun j => by
    induction j with
    | zero => exact E16.refl _
    | succ j ih => exact (enc_e ws r (xr_e ih (E16.refl _))).trans (enc_k h _)
  have el : E16 (lstb ws r f n) (lstb ws' r f n) := by
    unfold lstb
    split
    · exact xr_e (E16.refl _) e1
    · exact xr_e (E16.refl _) e2
  exact (enc_e ws r (xr_e (ec _) el)).trans (enc_k h _)
end Go.Proofs.YtnncgniiceglaabDoor.Vm
