/- HMAC's examples, reckoned by the kernel. -/
import Derived.Test.YtpgkalgnlkfmaaaDoorZma
import Derived.Test.YtpgkalgnlkfmaaaDoorZgb
namespace Go.Proofs.YtpgkalgnlkfmaaaDoor.Dg
open Go.Proofs.YtpgkalgnlkfmaaaDoor.By Go.Proofs.YtpgkalgnlkfmaaaDoor.Wd
def kkey : Nat → Int := lst [107, 101, 121]
def kfox : Nat → Int := lst [84, 104, 101, 32, 113, 117, 105, 99, 107, 32, 98, 114, 111, 119, 110, 32, 102, 111, 120, 32, 106, 117, 109, 112, 115, 32, 111, 118, 101, 114, 32, 116, 104, 101, 32, 108, 97, 122, 121, 32, 100, 111, 103]
def knul : Nat → Int := fun _ => 0
theorem kkey_b : BB kkey := lst_bound _ (by decide)
theorem kfox_b : BB kfox := lst_bound _ (by decide)
theorem knul_b : BB knul := fun _ => by unfold knul; decide
def wi_nn : List Int := [3878403405, 1117440276, 2829501885, 1231237110, 2953662447, 1118811203, 4038591613, 4033643986]
def wo_nn : List Int := [3054725018, 135584236, 1999607255, 2026069957, 4279670724, 2473678419, 3334935060, 1116915117]
set_option maxRecDepth 100000 in
theorem in_nn : Sh.l8 (Sh.hw (Sh.cat (64 + 0) (inr false (kb false 0 knul) knul) (Sh.endf (64 + 0))) 2) = wi_nn := by
  rw [Sh.hw_two, Sh.hw_one]
  decide +kernel
set_option maxRecDepth 100000 in
theorem out_nn : Sh.l8 (Sh.hw (Sh.cat (64 + 32) (cat 64 (msk 92 (kb false 0 knul)) (Sh.lf (wof wi_nn))) (Sh.endf (64 + 32))) 2) = wo_nn := by
  rw [Sh.hw_two, Sh.hw_one]
  decide +kernel
theorem hm_nn (i : Nat) (hi : i < 32) : hm false (kb false 0 knul) 0 knul i = Sh.lf (wof wo_nn) i := by
  have h1 : ∀ j, j < 64 + 32 → cat (bk false) (msk 92 (kb false 0 knul)) (dig false (bk false + 0) (inr false (kb false 0 knul) knul)) j = cat 64 (msk 92 (kb false 0 knul)) (Sh.lf (wof wi_nn)) j := by
    intro j hj
    show (if j < 64 then _ else _) = (if j < 64 then _ else _)
    split
    · rfl
    · exact lf_l8256 _ _ (in_nn.trans (by rfl)) _ (by show j - 64 < 32; omega)
  exact (congrFun (dig_congr false (64 + 32) _ _ h1) i).trans (lf_l8256 _ _ (out_nn.trans (by rfl)) i hi)
def wi_fx : List Int := [2060471898, 2711547506, 405576309, 2893134355, 2201768956, 1305004053, 3468137581, 1445869105]
def wo_fx : List Int := [4156326900, 810779684, 2972883174, 2859446595, 4014823841, 1229330265, 2538053052, 756694232]
set_option maxRecDepth 100000 in
theorem in_fx : Sh.l8 (Sh.hw (Sh.cat (64 + 43) (inr false (kb false 3 kkey) kfox) (Sh.endf (64 + 43))) 2) = wi_fx := by
  rw [Sh.hw_two, Sh.hw_one]
  decide +kernel
set_option maxRecDepth 100000 in
theorem out_fx : Sh.l8 (Sh.hw (Sh.cat (64 + 32) (cat 64 (msk 92 (kb false 3 kkey)) (Sh.lf (wof wi_fx))) (Sh.endf (64 + 32))) 2) = wo_fx := by
  rw [Sh.hw_two, Sh.hw_one]
  decide +kernel
theorem hm_fx (i : Nat) (hi : i < 32) : hm false (kb false 3 kkey) 43 kfox i = Sh.lf (wof wo_fx) i := by
  have h1 : ∀ j, j < 64 + 32 → cat (bk false) (msk 92 (kb false 3 kkey)) (dig false (bk false + 43) (inr false (kb false 3 kkey) kfox)) j = cat 64 (msk 92 (kb false 3 kkey)) (Sh.lf (wof wi_fx)) j := by
    intro j hj
    show (if j < 64 then _ else _) = (if j < 64 then _ else _)
    split
    · rfl
    · exact lf_l8256 _ _ (in_fx.trans (by rfl)) _ (by show j - 64 < 32; omega)
  exact (congrFun (dig_congr false (64 + 32) _ _ h1) i).trans (lf_l8256 _ _ (out_fx.trans (by rfl)) i hi)
def wi_ab : List Int := [18011909148732097355, 8432835311280716770, 8990958032898677779, 15753033549486910662, 13791817298463687584, 10232537041048482759, 9868249966179795710, 7636844522189874136]
def wo_ab : List Int := [4118157063593667340, 4717851275949644458, 17723813353168973308, 10636457267827630176, 44010915393467221, 12907720124571052463, 12084928350365266134, 3537345542887442554]
set_option maxRecDepth 100000 in
theorem in_ab : Sg.l8 (Sg.hw (Sg.cat (128 + 3) (inr true (kb true 3 kkey) Sh.abc) (Sg.endf (128 + 3))) 2) = wi_ab := by
  rw [Sg.hw_two, Sg.hw_one]
  decide +kernel
set_option maxRecDepth 100000 in
theorem out_ab : Sg.l8 (Sg.hw (Sg.cat (128 + 64) (cat 128 (msk 92 (kb true 3 kkey)) (Sg.lf (wof wi_ab))) (Sg.endf (128 + 64))) 2) = wo_ab := by
  rw [Sg.hw_two, Sg.hw_one]
  decide +kernel
theorem hm_ab (i : Nat) (hi : i < 64) : hm true (kb true 3 kkey) 3 Sh.abc i = Sg.lf (wof wo_ab) i := by
  have h1 : ∀ j, j < 128 + 64 → cat (bk true) (msk 92 (kb true 3 kkey)) (dig true (bk true + 3) (inr true (kb true 3 kkey) Sh.abc)) j = cat 128 (msk 92 (kb true 3 kkey)) (Sg.lf (wof wi_ab)) j := by
    intro j hj
    show (if j < 128 then _ else _) = (if j < 128 then _ else _)
    split
    · rfl
    · exact lf_l8512 _ _ (in_ab.trans (by rfl)) _ (by show j - 128 < 64; omega)
  exact (congrFun (dig_congr true (128 + 64) _ _ h1) i).trans (lf_l8512 _ _ (out_ab.trans (by rfl)) i hi)
theorem hm_none (i : Nat) (hi : i < 32) : hm false (kb false 0 knul) 0 knul i = Sh.lf (wof wo_nn) i := hm_nn i hi
end Go.Proofs.YtpgkalgnlkfmaaaDoor.Dg
