/- HKDF's example, reckoned by the kernel. -/
import Derived.Test.YtmbcccmidfpgeaaDoorInum
import Derived.Test.YtmbcccmidfpgeaaDoorZgb
namespace Go.Proofs.YtmbcccmidfpgeaaDoor.Dg
open Go.Proofs.YtmbcccmidfpgeaaDoor.By Go.Proofs.YtmbcccmidfpgeaaDoor.Wd
def ksal : Nat → Int := lst [0, 1, 2, 3, 4, 5, 6, 7, 8, 9, 10, 11, 12]
def kel : Nat → Int := fun _ => 11
def kinf : Nat → Int := lst [240, 241, 242, 243, 244, 245, 246, 247, 248, 249]
theorem ksal_b : BB ksal := lst_bound _ (by decide)
theorem kel_b : BB kel := fun _ => by unfold kel; decide
theorem kinf_b : BB kinf := lst_bound _ (by decide)
def wi_e : List Int := [4096779594, 235279805, 3390916088, 2846254001, 863980144, 1509551393, 3631672609, 713664059]
def wo_e : List Int := [125241654, 741225183, 232537869, 3296442979, 2427897659, 3037699121, 585925706, 3619861477]
set_option maxRecDepth 100000 in
theorem in_e : Sh.l8 (Sh.hw (Sh.cat (64 + 22) (inr false (kb false 13 ksal) (kel)) (Sh.endf (64 + 22))) 2) = wi_e := by
  rw [Sh.hw_two, Sh.hw_one]
  decide +kernel
set_option maxRecDepth 100000 in
theorem out_e : Sh.l8 (Sh.hw (Sh.cat (64 + 32) (cat 64 (msk 92 (kb false 13 ksal)) (Sh.lf (wof wi_e))) (Sh.endf (64 + 32))) 2) = wo_e := by
  rw [Sh.hw_two, Sh.hw_one]
  decide +kernel
theorem hm_e (i : Nat) (hi : i < 32) : hm false (kb false 13 ksal) 22 (kel) i = Sh.lf (wof wo_e) i := by
  have h1 : ∀ j, j < 64 + 32 → cat (bk false) (msk 92 (kb false 13 ksal)) (dig false (bk false + 22) (inr false (kb false 13 ksal) (kel))) j = cat 64 (msk 92 (kb false 13 ksal)) (Sh.lf (wof wi_e)) j := by
    intro j hj
    show (if j < 64 then _ else _) = (if j < 64 then _ else _)
    split
    · rfl
    · exact lf_l8256 _ _ (in_e.trans (by rfl)) _ (by show j - 64 < 32; omega)
  exact (congrFun (dig_congr false (64 + 32) _ _ h1) i).trans (lf_l8256 _ _ (out_e.trans (by rfl)) i hi)
def wi_t1 : List Int := [3868559890, 2521607390, 1150162983, 2662202585, 2070949233, 1785851573, 2041541868, 2226943006]
def wo_t1 : List Int := [1018322725, 4205630842, 2420330340, 3493211946, 757926544, 3474610764, 1571827030, 3972318655]
set_option maxRecDepth 100000 in
theorem in_t1 : Sh.l8 (Sh.hw (Sh.cat (64 + 11) (inr false (kb false 32 (Sh.lf (wof wo_e))) (msgf false 10 kinf nof 0)) (Sh.endf (64 + 11))) 2) = wi_t1 := by
  rw [Sh.hw_two, Sh.hw_one]
  decide +kernel
set_option maxRecDepth 100000 in
theorem out_t1 : Sh.l8 (Sh.hw (Sh.cat (64 + 32) (cat 64 (msk 92 (kb false 32 (Sh.lf (wof wo_e)))) (Sh.lf (wof wi_t1))) (Sh.endf (64 + 32))) 2) = wo_t1 := by
  rw [Sh.hw_two, Sh.hw_one]
  decide +kernel
theorem hm_t1 (i : Nat) (hi : i < 32) : hm false (kb false 32 (Sh.lf (wof wo_e))) 11 (msgf false 10 kinf nof 0) i = Sh.lf (wof wo_t1) i := by
  have h1 : ∀ j, j < 64 + 32 → cat (bk false) (msk 92 (kb false 32 (Sh.lf (wof wo_e)))) (dig false (bk false + 11) (inr false (kb false 32 (Sh.lf (wof wo_e))) (msgf false 10 kinf nof 0))) j = cat 64 (msk 92 (kb false 32 (Sh.lf (wof wo_e)))) (Sh.lf (wof wi_t1)) j := by
    intro j hj
    show (if j < 64 then _ else _) = (if j < 64 then _ else _)
    split
    · rfl
    · exact lf_l8256 _ _ (in_t1.trans (by rfl)) _ (by show j - 64 < 32; omega)
  exact (congrFun (dig_congr false (64 + 32) _ _ h1) i).trans (lf_l8256 _ _ (out_t1.trans (by rfl)) i hi)
def wi_t2 : List Int := [766239850, 2622750729, 550760275, 2585969544, 811012804, 654802551, 2732647054, 3409480559]
def wo_t2 : List Int := [872444424, 3585640216, 1483060400, 2824509755, 2310649430, 2211843841, 114462719, 60623727]
set_option maxRecDepth 100000 in
theorem in_t2 : Sh.l8 (Sh.hw (Sh.cat (64 + 43) (inr false (kb false 32 (Sh.lf (wof wo_e))) (msgf false 10 kinf (Sh.lf (wof wo_t1)) 1)) (Sh.endf (64 + 43))) 2) = wi_t2 := by
  rw [Sh.hw_two, Sh.hw_one]
  decide +kernel
set_option maxRecDepth 100000 in
theorem out_t2 : Sh.l8 (Sh.hw (Sh.cat (64 + 32) (cat 64 (msk 92 (kb false 32 (Sh.lf (wof wo_e)))) (Sh.lf (wof wi_t2))) (Sh.endf (64 + 32))) 2) = wo_t2 := by
  rw [Sh.hw_two, Sh.hw_one]
  decide +kernel
theorem hm_t2 (i : Nat) (hi : i < 32) : hm false (kb false 32 (Sh.lf (wof wo_e))) 43 (msgf false 10 kinf (Sh.lf (wof wo_t1)) 1) i = Sh.lf (wof wo_t2) i := by
  have h1 : ∀ j, j < 64 + 32 → cat (bk false) (msk 92 (kb false 32 (Sh.lf (wof wo_e)))) (dig false (bk false + 43) (inr false (kb false 32 (Sh.lf (wof wo_e))) (msgf false 10 kinf (Sh.lf (wof wo_t1)) 1))) j = cat 64 (msk 92 (kb false 32 (Sh.lf (wof wo_e)))) (Sh.lf (wof wi_t2)) j := by
    intro j hj
    show (if j < 64 then _ else _) = (if j < 64 then _ else _)
    split
    · rfl
    · exact lf_l8256 _ _ (in_t2.trans (by rfl)) _ (by show j - 64 < 32; omega)
  exact (congrFun (dig_congr false (64 + 32) _ _ h1) i).trans (lf_l8256 _ _ (out_t2.trans (by rfl)) i hi)
/-- The pseudorandom key; what is told. -/
theorem prk_e : kb false 32 (hm false (kb false 13 ksal) 22 kel) = kb false 32 (Sh.lf (wof wo_e)) := kb_congr false 32 _ _ hm_e
theorem tp_one (i : Nat) (hi : i < 32) : tp false (kb false 32 (Sh.lf (wof wo_e))) 10 kinf 1 i = Sh.lf (wof wo_t1) i := hm_t1 i hi
theorem tp_two (i : Nat) (hi : i < 32) : tp false (kb false 32 (Sh.lf (wof wo_e))) 10 kinf 2 i = Sh.lf (wof wo_t2) i := by
  have h : hm false (kb false 32 (Sh.lf (wof wo_e))) 43 (msgf false 10 kinf (tp false (kb false 32 (Sh.lf (wof wo_e))) 10 kinf 1) 1) = hm false (kb false 32 (Sh.lf (wof wo_e))) 43 (msgf false 10 kinf (Sh.lf (wof wo_t1)) 1) :=
    hm_congr false _ 43 _ _ (fun j hj => cat_congr1 (32 + 10) (f := cat 32 (tp false (kb false 32 (Sh.lf (wof wo_e))) 10 kinf 1) kinf) (f' := cat 32 (Sh.lf (wof wo_t1)) kinf) (g := fun _ => ((1 + 1 : Nat) : Int)) (g' := fun _ => ((1 + 1 : Nat) : Int)) 43 (fun j hj => cat_congr1 32 (32 + 10) (fun i hi => tp_one i hi) (fun _ _ => rfl) j hj) (fun _ _ => rfl) j hj)
  exact (congrFun h i).trans (hm_t2 i hi)
theorem okm_e (i : Nat) (hi : i < 42) : okm false (kb false 32 (hm false (kb false 13 ksal) 22 kel)) 10 kinf i = if i < 32 then Sh.lf (wof wo_t1) i else Sh.lf (wof wo_t2) (i - 32) := by
  rw [prk_e]
  split
  · rename_i h
    have e := okm_at false (kb false 32 (Sh.lf (wof wo_e))) 10 kinf 0 i h
    rw [Nat.zero_mul, Nat.zero_add] at e
    rw [e]
    exact tp_one i h
  · have e := okm_at false (kb false 32 (Sh.lf (wof wo_e))) 10 kinf 1 (i - 32) (by show i - 32 < 32; omega)
    rw [show 1 * sz false + (i - 32) = i from by show 1 * 32 + (i - 32) = i; omega] at e
    rw [e]
    exact tp_two _ (by omega)
end Go.Proofs.YtmbcccmidfpgeaaDoor.Dg
