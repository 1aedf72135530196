/- HMAC's second example, reckoned by the kernel. -/
import Derived.Test.YtkmkbofokoimkaaDoorNnum
import Derived.Test.YtkmkbofokoimkaaDoorZgb
namespace Go.Proofs.YtkmkbofokoimkaaDoor.Dg
open Go.Proofs.YtkmkbofokoimkaaDoor.By Go.Proofs.YtkmkbofokoimkaaDoor.Wd
def kje : Nat → Int := lst [74, 101, 102, 101]
def kmg : Nat → Int := lst [119, 104, 97, 116, 32, 100, 111, 32, 121, 97, 32, 119, 97, 110, 116, 32, 102, 111, 114, 32, 110, 111, 116, 104, 105, 110, 103, 63]
theorem kje_b : BB kje := lst_bound _ (by decide)
theorem kmg_b : BB kmg := lst_bound _ (by decide)
def wi_jf : List Int := [2732885382, 1026030040, 1689030016, 607298029, 1199410252, 1865719062, 3571968279, 3324627671]
def wo_jf : List Int := [1541194054, 3210769742, 1778656294, 144012743, 1509965576, 2636593539, 2649512121, 1693202499]
set_option maxRecDepth 100000 in
theorem in_jf : Sh.l8 (Sh.hw (Sh.cat (64 + 28) (inr false (kb false 4 kje) (kmg)) (Sh.endf (64 + 28))) 2) = wi_jf := by
  rw [Sh.hw_two, Sh.hw_one]
  decide +kernel
set_option maxRecDepth 100000 in
theorem out_jf : Sh.l8 (Sh.hw (Sh.cat (64 + 32) (cat 64 (msk 92 (kb false 4 kje)) (Sh.lf (wof wi_jf))) (Sh.endf (64 + 32))) 2) = wo_jf := by
  rw [Sh.hw_two, Sh.hw_one]
  decide +kernel
theorem hm_jf (i : Nat) (hi : i < 32) : hm false (kb false 4 kje) 28 (kmg) i = Sh.lf (wof wo_jf) i := by
  have h1 : ∀ j, j < 64 + 32 → cat (bk false) (msk 92 (kb false 4 kje)) (dig false (bk false + 28) (inr false (kb false 4 kje) (kmg))) j = cat 64 (msk 92 (kb false 4 kje)) (Sh.lf (wof wi_jf)) j := by
    intro j hj
    show (if j < 64 then _ else _) = (if j < 64 then _ else _)
    split
    · rfl
    · exact lf_l8256 _ _ (in_jf.trans (by rfl)) _ (by show j - 64 < 32; omega)
  exact (congrFun (dig_congr false (64 + 32) _ _ h1) i).trans (lf_l8256 _ _ (out_jf.trans (by rfl)) i hi)
def ktg : Nat → Int := lst [91, 220, 193, 70, 191, 96, 117, 78, 106, 4, 36, 38, 8, 149, 117, 199, 90, 0, 63, 8, 157, 39, 57, 131, 157, 236, 88, 185, 100, 236, 56, 67]
theorem tg_jf (i : Nat) (hi : i < 32) : hm false (kb false 4 kje) 28 kmg i = ktg i := by
  refine (hm_jf i hi).trans ?_
  revert i
  decide +kernel
end Go.Proofs.YtkmkbofokoimkaaDoor.Dg
