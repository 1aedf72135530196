/- KMAC's samples, reckoned by the kernel: the XOF one and the customized one. -/
import Derived.Test.YtnhhkoekghjogaaDoorUev0
namespace Go.Proofs.YtnhhkoekghjogaaDoor.Kc
open Go.Proofs.YtnhhkoekghjogaaDoor.By Go.Proofs.YtnhhkoekghjogaaDoor.Wd
def eD : List Int := [205, 131, 116, 11, 189, 146, 204, 200, 207, 3, 43, 20, 129, 160, 244, 70, 14, 124, 169, 221, 18, 176, 138, 12, 64, 49, 23, 139, 172, 214, 236, 53]
theorem eD_b (i : Nat) : 0 ≤ lst eD i ∧ lst eD i < 256 := lst_bound eD (by decide) i
theorem nbD : nb (ku 32 true) + 1 = 2 := by decide +kernel
def f3D (F : Nat → Int) : Nat → Int := mx (mx (mxs (mxs F 0 (lst e4) 4) 4 (rt (ku 32 true)) 2) 6 4) 167 128
theorem lanes3D : tb 25 (fl (f3D (bf (fun i => l2N.getD i 0)))) = [4728514438652854935, 3932305275678842755, 14858153073607826105, 14850366341162149824, 18396871056771373966, 10689141800122780344, 3093836000619686141, 17763315014401527569, 6093815767000946911, 13847159444887887344, 10158944619169975501, 1970228104071103896, 666240961318664072, 9846161097541214192, 4182563135000641758, 6008938785882788451, 8591918015587532960, 9813007749352901280, 11422029929403853082, 17483075162753052674, 13473838794801583385, 7411676993201541194, 11742377495587458033, 4615366043776255869, 5539770532250503560] := by decide +kernel
theorem f3cD {F G : Nat → Int} (h : ∀ j, j < 200 → F j = G j) (j : Nat) (hj : j < 200) : f3D F j = f3D G j :=
  mx_congr (mx_congr (mxs_congr (mxs_congr h 0 (lst e4) 4) 4 (rt (ku 32 true)) 2) 6 (by omega) 4) 167 (by omega) 128 j hj
theorem perm3D : (tb 25 (perm (fl (f3D (psp (f2N (psp f1N))))))).take 4 = [14469101043473220557, 5112887953221944271, 903728270315977742, 3885716615070167360] := by
  rw [← perm_L, lanes_to (F := f3D (psp (f2N (psp f1N)))) (fun j hj => f3cD (psp_of _ l2N perm2N) j hj) lanes3D]
  decide +kernel
theorem chkD : ∀ i, i < 32 → leByte ([14469101043473220557, 5112887953221944271, 903728270315977742, 3885716615070167360].getD (i / 8) 0) (i % 8) = lst eD i := by decide +kernel
theorem saykD (i : Nat) (h : i < 32) : Z.say 168 (ky 168 (kt 168 32 (lst eK) 0 no0 4 (lst e4)) 32 true) i = lst eD i := by
  have e : ky 168 (kt 168 32 (lst eK) 0 no0 4 (lst e4)) 32 true = ⟨psp (f3D (psp (f2N (psp f1N)))), 0, 3⟩ := by
    show Z.fin 168 4 (Z.ins 168 (Z.ins 168 (kz 168 32 (lst eK) 0 no0) (lst e4) 4) (rt (ku 32 true)) (nb (ku 32 true) + 1)) = _
    rw [kzN, nbD, ins_part 168 _ _ 4 (by show 0 + 4 < 168; omega), ins_part 168 _ _ 2 (by show 0 + 4 + 2 < 168; omega)]
    rfl
  rw [e, say_part _ _ _ (by show 0 + i < 168; omega)]
  show psp (f3D (psp (f2N (psp f1N)))) (0 + i) = _
  rw [Nat.zero_add]
  show bf (perm (fl (f3D (psp (f2N (psp f1N)))))) i = _
  rw [bytes_of _ _ 4 perm3D (by omega) i (by omega)]
  exact chkD i h
def eT : List Int := [77, 121, 32, 84, 97, 103, 103, 101, 100, 32, 65, 112, 112, 108, 105, 99, 97, 116, 105, 111, 110]
theorem eT_b (i : Nat) : 0 ≤ lst eT i ∧ lst eT i < 256 := lst_bound eT (by decide) i
def gPC : Nat → Int := pg (tn 4 21) (tg 4 kmc 21 (lst eT)) 168
theorem pNPC : pN (tn 4 21) 168 = 168 := by decide +kernel
def gKC : Nat → Int := pg (sn 32) (sg 32 (lst eK)) 168
theorem pNKC : pN (sn 32) 168 = 168 := by decide +kernel
def f1C : Nat → Int := mxs (fun _ => 0) 0 gPC 168
def l1C : List Int := [8377801826234193932, 12973920123685595803, 8725800186681457558, 4739731540084260600, 8604400760347051495, 3483368270135093991, 12230914046535586933, 13187328232916995538, 15972560290091656101, 15582152460264775523, 6134703297949299630, 8630015520653177016, 9040412845081089459, 9278739069002783912, 3161982348593909645, 17953501195219602375, 7340738403284980912, 10752308987066040385, 9679467904334840111, 16835665260259506183, 15240572999856923856, 10450928241376080431, 12030005788078933803, 15718343554184739239, 13739983945775709137]
theorem lanes1C : tb 25 (fl f1C) = [4846239659082229761, 7449327757098330113, 7813868778506446183, 31084746152960873, 0, 0, 0, 0, 0, 0, 0, 0, 0, 0, 0, 0, 0, 0, 0, 0, 0, 0, 0, 0, 0] := by decide +kernel
theorem perm1C : tb 25 (perm (fl f1C)) = l1C := by
  rw [← perm_L, lanes1C]
  decide +kernel
def f2C (F : Nat → Int) : Nat → Int := mxs F 0 gKC 168
def l2C : List Int := [8214967067099874762, 15525444617791840758, 15850730978982894484, 2188508870956766854, 16910579365151751336, 9938214462743388306, 6937022285149593524, 13406603632707671825, 8872522488820748979, 14222250641235944180, 15884617417383240222, 5581310240289015260, 3084482524595064488, 16394961843880915177, 597864825289502479, 16824273450045985314, 4686357683581669111, 6354083778131784003, 166704476338785670, 15075846250989177176, 5051478166479203442, 6502360006427419009, 9933675899318784903, 18151957345376015835, 13248895430299926025]
theorem lanes2C : tb 25 (fl (f2C (bf (fun i => l1C.getD i 0)))) = [3891864753635356685, 18322287991853625048, 3119047609778583517, 1990504098435869355, 8604400557648189884, 3483368270135093991, 12230914046535586933, 13187328232916995538, 15972560290091656101, 15582152460264775523, 6134703297949299630, 8630015520653177016, 9040412845081089459, 9278739069002783912, 3161982348593909645, 17953501195219602375, 7340738403284980912, 10752308987066040385, 9679467904334840111, 16835665260259506183, 15240572999856923856, 10450928241376080431, 12030005788078933803, 15718343554184739239, 13739983945775709137] := by decide +kernel
theorem perm2C : tb 25 (perm (fl (f2C (psp f1C)))) = l2C := by
  rw [← perm_L, lanes_to (F := f2C (psp f1C)) (fun j hj => mxs_congr (psp_of f1C l1C perm1C) 0 gKC 168 j hj) lanes2C]
  decide +kernel
theorem kzC : kz 168 32 (lst eK) 21 (lst eT) = ⟨psp (f2C (psp f1C)), 0, 2⟩ := by
  have e : bz 168 4 kmc 21 (lst eT) = Z.ins 168 zz gPC (pN (tn 4 21) 168) := if_neg (by decide)
  show Z.ins 168 (bz 168 4 kmc 21 (lst eT)) gKC (pN (sn 32) 168) = _
  rw [e, pNPC, pNKC, ins_full 168 zz gPC 168 rfl (by omega), ins_full 168 _ gKC 168 rfl (by omega)]
  rfl
def eB : List Int := [59, 31, 186, 150, 60, 216, 176, 181, 158, 140, 26, 109, 113, 136, 139, 113, 67, 101, 26, 248, 186, 10, 112, 112, 192, 151, 158, 40, 17, 50, 74, 165]
theorem eB_b (i : Nat) : 0 ≤ lst eB i ∧ lst eB i < 256 := lst_bound eB (by decide) i
theorem nbB : nb (ku 32 false) + 1 = 3 := by decide +kernel
def f3B (F : Nat → Int) : Nat → Int := mx (mx (mxs (mxs F 0 (lst e4) 4) 4 (rt (ku 32 false)) 3) 7 4) 167 128
theorem lanes3B : tb 25 (fl (f3B (bf (fun i => l2C.getD i 0)))) = [8503760388960502986, 15525444617791840758, 15850730978982894484, 2188508870956766854, 16910579365151751336, 9938214462743388306, 6937022285149593524, 13406603632707671825, 8872522488820748979, 14222250641235944180, 15884617417383240222, 5581310240289015260, 3084482524595064488, 16394961843880915177, 597864825289502479, 16824273450045985314, 4686357683581669111, 6354083778131784003, 166704476338785670, 15075846250989177176, 14274850203333979250, 6502360006427419009, 9933675899318784903, 18151957345376015835, 13248895430299926025] := by decide +kernel
theorem f3cB {F G : Nat → Int} (h : ∀ j, j < 200 → F j = G j) (j : Nat) (hj : j < 200) : f3B F j = f3B G j :=
  mx_congr (mx_congr (mxs_congr (mxs_congr h 0 (lst e4) 4) 4 (rt (ku 32 false)) 3) 7 (by omega) 4) 167 (by omega) 128 j hj
theorem perm3B : (tb 25 (perm (fl (f3B (psp (f2C (psp f1C))))))).take 4 = [13092201871504449339, 8181783168791776414, 8101987527782196547, 11910387213812012992] := by
  rw [← perm_L, lanes_to (F := f3B (psp (f2C (psp f1C)))) (fun j hj => f3cB (psp_of _ l2C perm2C) j hj) lanes3B]
  decide +kernel
theorem chkB : ∀ i, i < 32 → leByte ([13092201871504449339, 8181783168791776414, 8101987527782196547, 11910387213812012992].getD (i / 8) 0) (i % 8) = lst eB i := by decide +kernel
theorem saykB (i : Nat) (h : i < 32) : Z.say 168 (ky 168 (kt 168 32 (lst eK) 21 (lst eT) 4 (lst e4)) 32 false) i = lst eB i := by
  have e : ky 168 (kt 168 32 (lst eK) 21 (lst eT) 4 (lst e4)) 32 false = ⟨psp (f3B (psp (f2C (psp f1C)))), 0, 3⟩ := by
    show Z.fin 168 4 (Z.ins 168 (Z.ins 168 (kz 168 32 (lst eK) 21 (lst eT)) (lst e4) 4) (rt (ku 32 false)) (nb (ku 32 false) + 1)) = _
    rw [kzC, nbB, ins_part 168 _ _ 4 (by show 0 + 4 < 168; omega), ins_part 168 _ _ 3 (by show 0 + 4 + 3 < 168; omega)]
    rfl
  rw [e, say_part _ _ _ (by show 0 + i < 168; omega)]
  show psp (f3B (psp (f2C (psp f1C)))) (0 + i) = _
  rw [Nat.zero_add]
  show bf (perm (fl (f3B (psp (f2C (psp f1C)))))) i = _
  rw [bytes_of _ _ 4 perm3B (by omega) i (by omega)]
  exact chkB i h
end Go.Proofs.YtnhhkoekghjogaaDoor.Kc
