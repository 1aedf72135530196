/- PBKDF2's examples by SHA-256, reckoned by the kernel. -/
import Derived.Test.YtjhhnajgfngbhaaDoorNnum
import Derived.Test.YtjhhnajgfngbhaaDoorZgb
namespace Go.Proofs.YtjhhnajgfngbhaaDoor.Dg
open Go.Proofs.YtjhhnajgfngbhaaDoor.By Go.Proofs.YtjhhnajgfngbhaaDoor.Wd
def kpw : Nat → Int := lst [112, 97, 115, 115, 119, 111, 114, 100]
def kst : Nat → Int := lst [115, 97, 108, 116]
theorem kpw_b : BB kpw := lst_bound _ (by decide)
theorem kst_b : BB kst := lst_bound _ (by decide)
def wi_a1 : List Int := [869708662, 4063967449, 328328447, 2355588523, 3534106833, 2896126951, 2963223970, 2532591214]
def wo_a1 : List Int := [303019727, 4244157228, 1139221074, 1455749175, 2825210057, 751580488, 134584444, 3071009147]
set_option maxRecDepth 100000 in
theorem in_a1 : Sh.l8 (Sh.hw (Sh.cat (64 + 8) (inr false (kb false 8 kpw) (sm 4 kst 1)) (Sh.endf (64 + 8))) 2) = wi_a1 := by
  rw [Sh.hw_two, Sh.hw_one]
  decide +kernel
set_option maxRecDepth 100000 in
theorem out_a1 : Sh.l8 (Sh.hw (Sh.cat (64 + 32) (cat 64 (msk 92 (kb false 8 kpw)) (Sh.lf (wof wi_a1))) (Sh.endf (64 + 32))) 2) = wo_a1 := by
  rw [Sh.hw_two, Sh.hw_one]
  decide +kernel
theorem hm_a1 (i : Nat) (hi : i < 32) : hm false (kb false 8 kpw) 8 (sm 4 kst 1) i = Sh.lf (wof wo_a1) i := by
  have h1 : ∀ j, j < 64 + 32 → cat (bk false) (msk 92 (kb false 8 kpw)) (dig false (bk false + 8) (inr false (kb false 8 kpw) (sm 4 kst 1))) j = cat 64 (msk 92 (kb false 8 kpw)) (Sh.lf (wof wi_a1)) j := by
    intro j hj
    show (if j < 64 then _ else _) = (if j < 64 then _ else _)
    split
    · rfl
    · exact lf_l8256 _ _ (in_a1.trans (by rfl)) _ (by show j - 64 < 32; omega)
  exact (congrFun (dig_congr false (64 + 32) _ _ h1) i).trans (lf_l8256 _ _ (out_a1.trans (by rfl)) i hi)
def wi_a2 : List Int := [3038575419, 176431306, 846101321, 2373565982, 50336817, 3883790823, 2021051664, 2586613216]
def wo_a2 : List Int := [3158489690, 1402205695, 1861090731, 2117375463, 2186639175, 3742262423, 3739697190, 575450424]
set_option maxRecDepth 100000 in
theorem in_a2 : Sh.l8 (Sh.hw (Sh.cat (64 + 32) (inr false (kb false 8 kpw) (Sh.lf (wof wo_a1))) (Sh.endf (64 + 32))) 2) = wi_a2 := by
  rw [Sh.hw_two, Sh.hw_one]
  decide +kernel
set_option maxRecDepth 100000 in
theorem out_a2 : Sh.l8 (Sh.hw (Sh.cat (64 + 32) (cat 64 (msk 92 (kb false 8 kpw)) (Sh.lf (wof wi_a2))) (Sh.endf (64 + 32))) 2) = wo_a2 := by
  rw [Sh.hw_two, Sh.hw_one]
  decide +kernel
theorem hm_a2 (i : Nat) (hi : i < 32) : hm false (kb false 8 kpw) 32 (Sh.lf (wof wo_a1)) i = Sh.lf (wof wo_a2) i := by
  have h1 : ∀ j, j < 64 + 32 → cat (bk false) (msk 92 (kb false 8 kpw)) (dig false (bk false + 32) (inr false (kb false 8 kpw) (Sh.lf (wof wo_a1)))) j = cat 64 (msk 92 (kb false 8 kpw)) (Sh.lf (wof wi_a2)) j := by
    intro j hj
    show (if j < 64 then _ else _) = (if j < 64 then _ else _)
    split
    · rfl
    · exact lf_l8256 _ _ (in_a2.trans (by rfl)) _ (by show j - 64 < 32; omega)
  exact (congrFun (dig_congr false (64 + 32) _ _ h1) i).trans (lf_l8256 _ _ (out_a2.trans (by rfl)) i hi)
def wi_a3 : List Int := [413747618, 3276838598, 4181056619, 1395282410, 908933912, 3690499389, 576766273, 1377706213]
def wo_a3 : List Int := [1304377903, 1034761079, 642496440, 3895659854, 4235481409, 2249710270, 4135809875, 1640874380]
set_option maxRecDepth 100000 in
theorem in_a3 : Sh.l8 (Sh.hw (Sh.cat (64 + 8) (inr false (kb false 8 kpw) (sm 4 kst 2)) (Sh.endf (64 + 8))) 2) = wi_a3 := by
  rw [Sh.hw_two, Sh.hw_one]
  decide +kernel
set_option maxRecDepth 100000 in
theorem out_a3 : Sh.l8 (Sh.hw (Sh.cat (64 + 32) (cat 64 (msk 92 (kb false 8 kpw)) (Sh.lf (wof wi_a3))) (Sh.endf (64 + 32))) 2) = wo_a3 := by
  rw [Sh.hw_two, Sh.hw_one]
  decide +kernel
theorem hm_a3 (i : Nat) (hi : i < 32) : hm false (kb false 8 kpw) 8 (sm 4 kst 2) i = Sh.lf (wof wo_a3) i := by
  have h1 : ∀ j, j < 64 + 32 → cat (bk false) (msk 92 (kb false 8 kpw)) (dig false (bk false + 8) (inr false (kb false 8 kpw) (sm 4 kst 2))) j = cat 64 (msk 92 (kb false 8 kpw)) (Sh.lf (wof wi_a3)) j := by
    intro j hj
    show (if j < 64 then _ else _) = (if j < 64 then _ else _)
    split
    · rfl
    · exact lf_l8256 _ _ (in_a3.trans (by rfl)) _ (by show j - 64 < 32; omega)
  exact (congrFun (dig_congr false (64 + 32) _ _ h1) i).trans (lf_l8256 _ _ (out_a3.trans (by rfl)) i hi)
theorem uu_a (i : Nat) (hi : i < 32) : uu false (kb false 8 kpw) 4 kst 1 0 i = Sh.lf (wof wo_a1) i := hm_a1 i hi
theorem uu_a2 (i : Nat) (hi : i < 32) : uu false (kb false 8 kpw) 4 kst 1 1 i = Sh.lf (wof wo_a2) i := by
  have h : hm false (kb false 8 kpw) 32 (uu false (kb false 8 kpw) 4 kst 1 0) = hm false (kb false 8 kpw) 32 (Sh.lf (wof wo_a1)) := hm_congr false _ 32 _ _ uu_a
  exact (congrFun h i).trans (hm_a2 i hi)
theorem dk_a (i : Nat) (hi : i < 8) : dk false (kb false 8 kpw) 4 kst 1 i = lst [18, 15, 182, 207, 252, 248, 179, 44] i := by
  have e := dk_at false (kb false 8 kpw) 4 kst 1 0 i (by show i < 32; omega)
  rw [Nat.zero_mul, Nat.zero_add] at e
  rw [e]
  refine (uu_a i (by omega)).trans ?_
  clear e
  revert i
  decide +kernel
theorem dk_b2 (i : Nat) (hi : i < 8) : dk false (kb false 8 kpw) 4 kst 2 i = lst [174, 77, 12, 149, 175, 107, 70, 211] i := by
  have e := dk_at false (kb false 8 kpw) 4 kst 2 0 i (by show i < 32; omega)
  rw [Nat.zero_mul, Nat.zero_add] at e
  rw [e]
  show bx (uu false (kb false 8 kpw) 4 kst 1 0 i) (uu false (kb false 8 kpw) 4 kst 1 1 i) = _
  rw [uu_a i (by omega), uu_a2 i (by omega)]
  clear e
  revert i
  decide +kernel
theorem dk_c (i : Nat) (hi : i < 8) : dk false (kb false 8 kpw) 4 kst 1 (32 + i) = lst [77, 191, 58, 47, 61, 173, 51, 119] i := by
  have e := dk_at false (kb false 8 kpw) 4 kst 1 1 i (by show i < 32; omega)
  rw [show 1 * sz false + i = 32 + i from rfl] at e
  rw [e]
  show uu false (kb false 8 kpw) 4 kst 2 0 i = _
  refine (hm_a3 i (by omega)).trans ?_
  clear e
  revert i
  decide +kernel
end Go.Proofs.YtjhhnajgfngbhaaDoor.Dg
