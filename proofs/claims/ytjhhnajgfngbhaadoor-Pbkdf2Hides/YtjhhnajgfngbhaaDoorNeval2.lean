/- PBKDF2's examples by SHA-512, reckoned by the kernel. -/
import Derived.Test.YtjhhnajgfngbhaaDoorNnum
import Derived.Test.YtjhhnajgfngbhaaDoorZgb
import Derived.Test.YtjhhnajgfngbhaaDoorNeval
namespace Go.Proofs.YtjhhnajgfngbhaaDoor.Dg
open Go.Proofs.YtjhhnajgfngbhaaDoor.By Go.Proofs.YtjhhnajgfngbhaaDoor.Wd
def wi_b1 : List Int := [9382281807811256035, 17166929334658114922, 5380064901729825617, 846486242621595372, 15063167380255948534, 9507784488298786935, 12749389711476271820, 9714564453582237972]
def wo_b1 : List Int := [9691588957935895247, 17542969265297374660, 12624935172974926565, 15353709348610962002, 13847802538186376449, 13463961610532143247, 360910121276743077, 6801551696656170958]
set_option maxRecDepth 100000 in
theorem in_b1 : Sg.l8 (Sg.hw (Sg.cat (128 + 8) (inr true (kb true 8 kpw) (sm 4 kst 1)) (Sg.endf (128 + 8))) 2) = wi_b1 := by
  rw [Sg.hw_two, Sg.hw_one]
  decide +kernel
set_option maxRecDepth 100000 in
theorem out_b1 : Sg.l8 (Sg.hw (Sg.cat (128 + 64) (cat 128 (msk 92 (kb true 8 kpw)) (Sg.lf (wof wi_b1))) (Sg.endf (128 + 64))) 2) = wo_b1 := by
  rw [Sg.hw_two, Sg.hw_one]
  decide +kernel
theorem hm_b1 (i : Nat) (hi : i < 64) : hm true (kb true 8 kpw) 8 (sm 4 kst 1) i = Sg.lf (wof wo_b1) i := by
  have h1 : ∀ j, j < 128 + 64 → cat (bk true) (msk 92 (kb true 8 kpw)) (dig true (bk true + 8) (inr true (kb true 8 kpw) (sm 4 kst 1))) j = cat 128 (msk 92 (kb true 8 kpw)) (Sg.lf (wof wi_b1)) j := by
    intro j hj
    show (if j < 128 then _ else _) = (if j < 128 then _ else _)
    split
    · rfl
    · exact lf_l8512 _ _ (in_b1.trans (by rfl)) _ (by show j - 128 < 64; omega)
  exact (congrFun (dig_congr true (128 + 64) _ _ h1) i).trans (lf_l8512 _ _ (out_b1.trans (by rfl)) i hi)
def wi_c1 : List Int := [2643527856015972073, 8657988573336006170, 17039726785504144751, 5959043404815653691, 11202736166439873265, 3439303612623945611, 2413391285596698681, 3480026308708804640]
def wo_c1 : List Int := [7867449607296282061, 8094933330541846638, 12563146929260212857, 12015366177818838548, 4229101700264010934, 7487592282789942068, 1092177307329947123, 2157662726696045719]
set_option maxRecDepth 100000 in
theorem in_c1 : Sg.l8 (Sg.hw (Sg.cat (128 + 4) (inr true (kb true 0 nof) (sm 0 nof 1)) (Sg.endf (128 + 4))) 2) = wi_c1 := by
  rw [Sg.hw_two, Sg.hw_one]
  decide +kernel
set_option maxRecDepth 100000 in
theorem out_c1 : Sg.l8 (Sg.hw (Sg.cat (128 + 64) (cat 128 (msk 92 (kb true 0 nof)) (Sg.lf (wof wi_c1))) (Sg.endf (128 + 64))) 2) = wo_c1 := by
  rw [Sg.hw_two, Sg.hw_one]
  decide +kernel
theorem hm_c1 (i : Nat) (hi : i < 64) : hm true (kb true 0 nof) 4 (sm 0 nof 1) i = Sg.lf (wof wo_c1) i := by
  have h1 : ∀ j, j < 128 + 64 → cat (bk true) (msk 92 (kb true 0 nof)) (dig true (bk true + 4) (inr true (kb true 0 nof) (sm 0 nof 1))) j = cat 128 (msk 92 (kb true 0 nof)) (Sg.lf (wof wi_c1)) j := by
    intro j hj
    show (if j < 128 then _ else _) = (if j < 128 then _ else _)
    split
    · rfl
    · exact lf_l8512 _ _ (in_c1.trans (by rfl)) _ (by show j - 128 < 64; omega)
  exact (congrFun (dig_congr true (128 + 64) _ _ h1) i).trans (lf_l8512 _ _ (out_c1.trans (by rfl)) i hi)
def wi_c2 : List Int := [15090414339210192033, 12552846079999793182, 986995543508054870, 183429306382172881, 9644059088437104130, 7486724842193825235, 3641836778824470450, 12694432188732178882]
def wo_c2 : List Int := [14487144884356015212, 10568727514221006230, 2933286981256969815, 12757537129903203622, 6648133700935357426, 7853016727615713299, 10448804125650806690, 2171635018686711364]
set_option maxRecDepth 100000 in
theorem in_c2 : Sg.l8 (Sg.hw (Sg.cat (128 + 64) (inr true (kb true 0 nof) (Sg.lf (wof wo_c1))) (Sg.endf (128 + 64))) 2) = wi_c2 := by
  rw [Sg.hw_two, Sg.hw_one]
  decide +kernel
set_option maxRecDepth 100000 in
theorem out_c2 : Sg.l8 (Sg.hw (Sg.cat (128 + 64) (cat 128 (msk 92 (kb true 0 nof)) (Sg.lf (wof wi_c2))) (Sg.endf (128 + 64))) 2) = wo_c2 := by
  rw [Sg.hw_two, Sg.hw_one]
  decide +kernel
theorem hm_c2 (i : Nat) (hi : i < 64) : hm true (kb true 0 nof) 64 (Sg.lf (wof wo_c1)) i = Sg.lf (wof wo_c2) i := by
  have h1 : ∀ j, j < 128 + 64 → cat (bk true) (msk 92 (kb true 0 nof)) (dig true (bk true + 64) (inr true (kb true 0 nof) (Sg.lf (wof wo_c1)))) j = cat 128 (msk 92 (kb true 0 nof)) (Sg.lf (wof wi_c2)) j := by
    intro j hj
    show (if j < 128 then _ else _) = (if j < 128 then _ else _)
    split
    · rfl
    · exact lf_l8512 _ _ (in_c2.trans (by rfl)) _ (by show j - 128 < 64; omega)
  exact (congrFun (dig_congr true (128 + 64) _ _ h1) i).trans (lf_l8512 _ _ (out_c2.trans (by rfl)) i hi)
def wi_c3 : List Int := [11078336859914748660, 9229806761557970557, 11426192047731731214, 16815849606220157533, 1188687942855601520, 17847627307684810786, 9701047605270476881, 8834654601751456220]
def wo_c3 : List Int := [2187277165675412078, 2114145000235165700, 12881064911076986801, 9599565277839805174, 6599802805176764533, 15180168947522422263, 16781965551802310348, 7501018583445227150]
set_option maxRecDepth 100000 in
theorem in_c3 : Sg.l8 (Sg.hw (Sg.cat (128 + 64) (inr true (kb true 0 nof) (Sg.lf (wof wo_c2))) (Sg.endf (128 + 64))) 2) = wi_c3 := by
  rw [Sg.hw_two, Sg.hw_one]
  decide +kernel
set_option maxRecDepth 100000 in
theorem out_c3 : Sg.l8 (Sg.hw (Sg.cat (128 + 64) (cat 128 (msk 92 (kb true 0 nof)) (Sg.lf (wof wi_c3))) (Sg.endf (128 + 64))) 2) = wo_c3 := by
  rw [Sg.hw_two, Sg.hw_one]
  decide +kernel
theorem hm_c3 (i : Nat) (hi : i < 64) : hm true (kb true 0 nof) 64 (Sg.lf (wof wo_c2)) i = Sg.lf (wof wo_c3) i := by
  have h1 : ∀ j, j < 128 + 64 → cat (bk true) (msk 92 (kb true 0 nof)) (dig true (bk true + 64) (inr true (kb true 0 nof) (Sg.lf (wof wo_c2)))) j = cat 128 (msk 92 (kb true 0 nof)) (Sg.lf (wof wi_c3)) j := by
    intro j hj
    show (if j < 128 then _ else _) = (if j < 128 then _ else _)
    split
    · rfl
    · exact lf_l8512 _ _ (in_c3.trans (by rfl)) _ (by show j - 128 < 64; omega)
  exact (congrFun (dig_congr true (128 + 64) _ _ h1) i).trans (lf_l8512 _ _ (out_c3.trans (by rfl)) i hi)
theorem dk_d (i : Nat) (hi : i < 8) : dk true (kb true 8 kpw) 4 kst 1 i = lst [134, 127, 112, 207, 26, 222, 2, 207] i := by
  have e := dk_at true (kb true 8 kpw) 4 kst 1 0 i (by show i < 64; omega)
  rw [Nat.zero_mul, Nat.zero_add] at e
  rw [e]
  refine (show uu true (kb true 8 kpw) 4 kst 1 0 i = Sg.lf (wof wo_b1) i from hm_b1 i (by omega)).trans ?_
  clear e
  revert i
  decide +kernel
theorem uu_c1 (i : Nat) (hi : i < 64) : uu true (kb true 0 nof) 0 nof 1 0 i = Sg.lf (wof wo_c1) i := hm_c1 i hi
theorem uu_c2 (i : Nat) (hi : i < 64) : uu true (kb true 0 nof) 0 nof 1 1 i = Sg.lf (wof wo_c2) i := by
  have h : hm true (kb true 0 nof) 64 (uu true (kb true 0 nof) 0 nof 1 0) = hm true (kb true 0 nof) 64 (Sg.lf (wof wo_c1)) := hm_congr true _ 64 _ _ uu_c1
  exact (congrFun h i).trans (hm_c2 i hi)
theorem uu_c3 (i : Nat) (hi : i < 64) : uu true (kb true 0 nof) 0 nof 1 2 i = Sg.lf (wof wo_c3) i := by
  have h : hm true (kb true 0 nof) 64 (uu true (kb true 0 nof) 0 nof 1 1) = hm true (kb true 0 nof) 64 (Sg.lf (wof wo_c2)) := hm_congr true _ 64 _ _ uu_c2
  exact (congrFun h i).trans (hm_c3 i hi)
theorem dk_e (i : Nat) (hi : i < 10) : dk true (kb true 0 nof) 0 nof 3 i = lst [186, 120, 162, 193, 143, 225, 243, 207, 255, 171] i := by
  have e := dk_at true (kb true 0 nof) 0 nof 3 0 i (by show i < 64; omega)
  rw [Nat.zero_mul, Nat.zero_add] at e
  rw [e]
  show bx (bx (uu true (kb true 0 nof) 0 nof 1 0 i) (uu true (kb true 0 nof) 0 nof 1 1 i)) (uu true (kb true 0 nof) 0 nof 1 2 i) = _
  rw [uu_c1 i (by omega), uu_c2 i (by omega), uu_c3 i (by omega)]
  clear e
  revert i
  decide +kernel
end Go.Proofs.YtjhhnajgfngbhaaDoor.Dg
