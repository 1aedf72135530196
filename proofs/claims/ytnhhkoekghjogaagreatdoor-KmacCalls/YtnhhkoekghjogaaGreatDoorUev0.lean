/- KMAC's samples, reckoned by the kernel. -/
import Derived.Test.YtnhhkoekghjogaaGreatDoorKh
namespace Go.Proofs.YtnhhkoekghjogaaGreatDoor.Kc
open Go.Proofs.YtnhhkoekghjogaaGreatDoor.By Go.Proofs.YtnhhkoekghjogaaGreatDoor.Wd
theorem bytes_of (a : Nat → Int) (l : List Int) (k : Nat) (h : (tb 25 a).take k = l) (hk : k ≤ 25) (i : Nat) (hi : i < 8 * k) : bf a i = leByte (l.getD (i / 8) 0) (i % 8) := by
  unfold bf
  rw [← h, take_getD _ k _ (by omega), tb_get 25 a _ (by omega)]
theorem fl_congr {f g : Nat → Int} (h : ∀ j, j < 200 → f j = g j) (j : Nat) (hj : j < 25) : fl f j = fl g j := by
  unfold fl
  exact LE_congr _ _ 8 (fun i hi => h _ (by omega))
theorem mx_congr {F G : Nat → Int} (h : ∀ j, j < 200 → F j = G j) (i : Nat) (hi : i < 200) (x : Int) (j : Nat) (hj : j < 200) : mx F i x j = mx G i x j := by
  unfold mx; split
  · rw [h i hi]
  · exact h j hj
theorem mxs_congr {F G : Nat → Int} (h : ∀ j, j < 200 → F j = G j) (p : Nat) (g : Nat → Int) (n j : Nat) (hj : j < 200) : mxs F p g n j = mxs G p g n j := by
  unfold mxs; split
  · rw [h j hj]
  · exact h j hj
theorem psp_of (F : Nat → Int) (l : List Int) (h : tb 25 (perm (fl F)) = l) (j : Nat) (hj : j < 200) : psp F j = bf (fun i => l.getD i 0) j := by
  show bf (perm (fl F)) j = _
  exact bf_congr (fun i hi => by rw [← h, tb_get 25 _ i hi]) j hj
theorem lanes_to {F G : Nat → Int} {l : List Int} (h : ∀ j, j < 200 → F j = G j) (e : tb 25 (fl G) = l) : tb 25 (fl F) = l := by
  rw [← e]
  exact tb_congr 25 _ _ (fun i hi => fl_congr h i hi)
def eK : List Int := [64, 65, 66, 67, 68, 69, 70, 71, 72, 73, 74, 75, 76, 77, 78, 79, 80, 81, 82, 83, 84, 85, 86, 87, 88, 89, 90, 91, 92, 93, 94, 95]
def e4 : List Int := [0, 1, 2, 3]
theorem eK_b (i : Nat) : 0 ≤ lst eK i ∧ lst eK i < 256 := lst_bound eK (by decide) i
theorem e4_b (i : Nat) : 0 ≤ lst e4 i ∧ lst e4 i < 256 := lst_bound e4 (by decide) i
def gPN : Nat → Int := pg (tn 4 0) (tg 4 kmc 0 no0) 168
theorem pNPN : pN (tn 4 0) 168 = 168 := by decide +kernel
def gKN : Nat → Int := pg (sn 32) (sg 32 (lst eK)) 168
theorem pNKN : pN (sn 32) 168 = 168 := by decide +kernel
def f1N : Nat → Int := mxs (fun _ => 0) 0 gPN 168
def l1N : List Int := [18419984454328890219, 18356874865905641402, 3830560571352950990, 12139869521024602400, 2333134787838022056, 11422492280958275571, 1885211759416372962, 14142024206840753731, 9176304129596873501, 2929551537045694029, 4906573133757158768, 16976876220871644240, 13212587334936111570, 8793889434171837511, 10714796012078158535, 9940722554835403604, 13455958293005419336, 8797281030385782331, 12998541761428915027, 10211075969825855026, 2749057619585167465, 10345332918259350440, 103616590555897332, 17855203409008017793, 2449541427479565643]
theorem lanes1N : tb 25 (fl f1N) = [4846239659082229761, 1, 0, 0, 0, 0, 0, 0, 0, 0, 0, 0, 0, 0, 0, 0, 0, 0, 0, 0, 0, 0, 0, 0, 0] := by decide +kernel
theorem perm1N : tb 25 (perm (fl f1N)) = l1N := by
  rw [← perm_L, lanes1N]
  decide +kernel
def f2N (F : Nat → Int) : Nat → Int := mxs F 0 gKN 168
def l2N : List Int := [4727389638207439767, 3932305275678842755, 14858153073607826105, 14850366341162149824, 18396871056771373966, 10689141800122780344, 3093836000619686141, 17763315014401527569, 6093815767000946911, 13847159444887887344, 10158944619169975501, 1970228104071103896, 666240961318664072, 9846161097541214192, 4182563135000641758, 6008938785882788451, 8591918015587532960, 9813007749352901280, 11422029929403853082, 17483075162753052674, 4250466757946807577, 7411676993201541194, 11742377495587458033, 4615366043776255869, 5539770532250503560]
theorem lanes2N : tb 25 (fl (f2N (bf (fun i => l1N.getD i 0)))) = [13682408752584530794, 13009193060857242617, 7456187213715432581, 17446983804984362355, 2333134971887963635, 11422492280958275571, 1885211759416372962, 14142024206840753731, 9176304129596873501, 2929551537045694029, 4906573133757158768, 16976876220871644240, 13212587334936111570, 8793889434171837511, 10714796012078158535, 9940722554835403604, 13455958293005419336, 8797281030385782331, 12998541761428915027, 10211075969825855026, 2749057619585167465, 10345332918259350440, 103616590555897332, 17855203409008017793, 2449541427479565643] := by decide +kernel
theorem perm2N : tb 25 (perm (fl (f2N (psp f1N)))) = l2N := by
  rw [← perm_L, lanes_to (F := f2N (psp f1N)) (fun j hj => mxs_congr (psp_of f1N l1N perm1N) 0 gKN 168 j hj) lanes2N]
  decide +kernel
theorem kzN : kz 168 32 (lst eK) 0 no0 = ⟨psp (f2N (psp f1N)), 0, 2⟩ := by
  have e : bz 168 4 kmc 0 no0 = Z.ins 168 zz gPN (pN (tn 4 0) 168) := if_neg (by decide)
  show Z.ins 168 (bz 168 4 kmc 0 no0) gKN (pN (sn 32) 168) = _
  rw [e, pNPN, pNKN, ins_full 168 zz gPN 168 rfl (by omega), ins_full 168 _ gKN 168 rfl (by omega)]
  rfl
def eA : List Int := [229, 120, 11, 13, 62, 166, 247, 211, 164, 41, 197, 112, 106, 164, 58, 0, 250, 219, 215, 212, 150, 40, 131, 158, 49, 135, 36, 63, 69, 110, 225, 78]
theorem eA_b (i : Nat) : 0 ≤ lst eA i ∧ lst eA i < 256 := lst_bound eA (by decide) i
theorem nbA : nb (ku 32 false) + 1 = 3 := by decide +kernel
def f3A (F : Nat → Int) : Nat → Int := mx (mx (mxs (mxs F 0 (lst e4) 4) 4 (rt (ku 32 false)) 3) 7 4) 167 128
theorem lanes3A : tb 25 (fl (f3A (bf (fun i => l2N.getD i 0)))) = [5015057068750897815, 3932305275678842755, 14858153073607826105, 14850366341162149824, 18396871056771373966, 10689141800122780344, 3093836000619686141, 17763315014401527569, 6093815767000946911, 13847159444887887344, 10158944619169975501, 1970228104071103896, 666240961318664072, 9846161097541214192, 4182563135000641758, 6008938785882788451, 8591918015587532960, 9813007749352901280, 11422029929403853082, 17483075162753052674, 13473838794801583385, 7411676993201541194, 11742377495587458033, 4615366043776255869, 5539770532250503560] := by decide +kernel
theorem f3cA {F G : Nat → Int} (h : ∀ j, j < 200 → F j = G j) (j : Nat) (hj : j < 200) : f3A F j = f3A G j :=
  mx_congr (mx_congr (mxs_congr (mxs_congr h 0 (lst e4) 4) 4 (rt (ku 32 false)) 3) 7 (by omega) 4) 167 (by omega) 128 j hj
theorem perm3A : (tb 25 (perm (fl (f3A (psp (f2N (psp f1N))))))).take 4 = [15273859446687365349, 16506325714676132, 11422017708222831610, 5683945448409433905] := by
  rw [← perm_L, lanes_to (F := f3A (psp (f2N (psp f1N)))) (fun j hj => f3cA (psp_of _ l2N perm2N) j hj) lanes3A]
  decide +kernel
theorem chkA : ∀ i, i < 32 → leByte ([15273859446687365349, 16506325714676132, 11422017708222831610, 5683945448409433905].getD (i / 8) 0) (i % 8) = lst eA i := by decide +kernel
theorem saykA (i : Nat) (h : i < 32) : Z.say 168 (ky 168 (kt 168 32 (lst eK) 0 no0 4 (lst e4)) 32 false) i = lst eA i := by
  have e : ky 168 (kt 168 32 (lst eK) 0 no0 4 (lst e4)) 32 false = ⟨psp (f3A (psp (f2N (psp f1N)))), 0, 3⟩ := by
    show Z.fin 168 4 (Z.ins 168 (Z.ins 168 (kz 168 32 (lst eK) 0 no0) (lst e4) 4) (rt (ku 32 false)) (nb (ku 32 false) + 1)) = _
    rw [kzN, nbA, ins_part 168 _ _ 4 (by show 0 + 4 < 168; omega), ins_part 168 _ _ 3 (by show 0 + 4 + 3 < 168; omega)]
    rfl
  rw [e, say_part _ _ _ (by show 0 + i < 168; omega)]
  show psp (f3A (psp (f2N (psp f1N)))) (0 + i) = _
  rw [Nat.zero_add]
  show bf (perm (fl (f3A (psp (f2N (psp f1N)))))) i = _
  rw [bytes_of _ _ 4 perm3A (by omega) i (by omega)]
  exact chkA i h
end Go.Proofs.YtnhhkoekghjogaaGreatDoor.Kc
