/- SHAKE's examples, reckoned by the kernel. -/
import Derived.Test.YtjfjjhjajgodiaaDoorXtold
namespace Go.Proofs.YtjfjjhjajgodiaaDoor.Kc
open Go.Proofs.YtjfjjhjajgodiaaDoor.By Go.Proofs.YtjfjjhjajgodiaaDoor.Wd
def e128 : List Int := [127, 156, 43, 164, 232, 143, 130, 125, 97, 96, 69, 80, 118, 5, 133, 62, 215, 59, 128, 147, 246, 239, 188, 136, 235, 26, 110, 172, 250, 102, 239, 38]
def e256 : List Int := [70, 185, 221, 43, 11, 168, 141, 19]
def eC : List Int := [193, 195, 105, 37, 182, 64, 154, 4, 241, 181, 4, 252, 188, 169, 216, 43, 64, 23, 39, 124, 181, 237, 43, 32, 101, 252, 29, 56, 20, 213, 170, 245]
def eM : List Int := [69, 109, 97, 105, 108, 32, 83, 105, 103, 110, 97, 116, 117, 114, 101]
def e4 : List Int := [0, 1, 2, 3]
theorem e128_b (i : Nat) : 0 ≤ lst e128 i ∧ lst e128 i < 256 := lst_bound e128 (by decide) i
theorem e256_b (i : Nat) : 0 ≤ lst e256 i ∧ lst e256 i < 256 := lst_bound e256 (by decide) i
theorem eC_b (i : Nat) : 0 ≤ lst eC i ∧ lst eC i < 256 := lst_bound eC (by decide) i
theorem eM_b (i : Nat) : 0 ≤ lst eM i ∧ lst eM i < 256 := lst_bound eM (by decide) i
theorem e4_b (i : Nat) : 0 ≤ lst e4 i ∧ lst e4 i < 256 := lst_bound e4 (by decide) i
theorem perm4A : (tb 25 (perm (fl fA))).take 4 = [9043949231062883455, 4505013007965053025, 9853013927095450583, 2805574319695862507] := by
  rw [← perm_L, lanesA]
  decide +kernel
theorem bytes_of (a : Nat → Int) (l : List Int) (k : Nat) (h : (tb 25 a).take k = l) (hk : k ≤ 25) (i : Nat) (hi : i < 8 * k) : bf a i = leByte (l.getD (i / 8) 0) (i % 8) := by
  unfold bf
  rw [← h, take_getD _ k _ (by omega), tb_get 25 a _ (by omega)]
theorem chk128 : ∀ i, i < 32 → leByte ([9043949231062883455, 4505013007965053025, 9853013927095450583, 2805574319695862507].getD (i / 8) 0) (i % 8) = lst e128 i := by decide +kernel
theorem say128 (g : Nat → Int) (i : Nat) (h : i < 32) : Z.say 168 (tY 168 0 no0 0 no0 0 g) i = lst e128 i := by
  show Z.say 168 (Z.fin 168 31 zz) i = _
  rw [say_part _ _ _ (by show 0 + i < 168; omega)]
  show psp fA (0 + i) = _
  rw [Nat.zero_add]
  show bf (perm (fl fA)) i = _
  rw [bytes_of _ _ 4 perm4A (by omega) i (by omega)]
  exact chk128 i h
def fD : Nat → Int := mx (mx (fun _ => 0) 0 31) 135 128
theorem lanesD : tb 25 (fl fD) = [31, 0, 0, 0, 0, 0, 0, 0, 0, 0, 0, 0, 0, 0, 0, 0, 9223372036854775808, 0, 0, 0, 0, 0, 0, 0, 0] := by decide +kernel
theorem permD : (tb 25 (perm (fl fD))).take 1 = [1408967024370891078] := by
  rw [← perm_L, lanesD]
  decide +kernel
theorem chk256 : ∀ i, i < 8 → leByte ([1408967024370891078].getD (i / 8) 0) (i % 8) = lst e256 i := by decide +kernel
theorem say256 (g : Nat → Int) (i : Nat) (h : i < 8) : Z.say 136 (tY 136 0 no0 0 no0 0 g) i = lst e256 i := by
  show Z.say 136 (Z.fin 136 31 zz) i = _
  rw [say_part _ _ _ (by show 0 + i < 136; omega)]
  show psp fD (0 + i) = _
  rw [Nat.zero_add]
  show bf (perm (fl fD)) i = _
  rw [bytes_of _ _ 1 permD (by omega) i (by omega)]
  exact chk256 i h
/-- The prefix of Email Signature. -/
def gP : Nat → Int := pg (tn 0 15) (tg 0 no0 15 (lst eM)) 168
theorem pN_P : pN (tn 0 15) 168 = 168 := by decide +kernel
def fP : Nat → Int := mxs (fun _ => 0) 0 gP 168
theorem lanesP : tb 25 (fl fP) = [7873831469217589249, 7955443072520448353, 435711997025, 0, 0, 0, 0, 0, 0, 0, 0, 0, 0, 0, 0, 0, 0, 0, 0, 0, 0, 0, 0, 0, 0] := by decide +kernel
def lP : List Int := [15457245122651835417, 1535676364598552834, 2283951447698532747, 9546442413678459780, 16283029276878368557, 9522396167475434685, 455154154319465314, 2194339108317133185, 16412971837844510999, 17939337698325551708, 18192424588527429157, 11994793268469087671, 8226013832438551805, 18445981972609851542, 14332003849423286145, 16341437283563963115, 9504470865399019665, 7525901944319598226, 5100464480905705507, 1000058813723612180, 9371555936383671947, 14249500824700418113, 14322431623599260876, 4250930254914774797, 2905950596613604336]
theorem permP : tb 25 (perm (fl fP)) = lP := by
  rw [← perm_L, lanesP]
  decide +kernel
theorem insP : bz 168 0 no0 15 (lst eM) = ⟨psp fP, 0, 1⟩ := by
  have e : bz 168 0 no0 15 (lst eM) = Z.ins 168 zz gP (pN (tn 0 15) 168) := if_neg (by decide)
  rw [e, pN_P, ins_full 168 zz gP 168 rfl (by omega)]
  rfl
def fQ (F : Nat → Int) : Nat → Int := mx (mx (mxs F 0 (lst e4) 4) 4 4) 167 128
theorem fl_congr {f g : Nat → Int} (h : ∀ j, j < 200 → f j = g j) (j : Nat) (hj : j < 25) : fl f j = fl g j := by
  unfold fl
  exact LE_congr _ _ 8 (fun i hi => h _ (by omega))
theorem mx_congr {F G : Nat → Int} (h : ∀ j, j < 200 → F j = G j) (i : Nat) (hi : i < 200) (x : Int) (j : Nat) (hj : j < 200) : mx F i x j = mx G i x j := by
  unfold mx; split
  · rw [h i hi]
  · exact h j hj
theorem mxs_congr {F G : Nat → Int} (h : ∀ j, j < 200 → F j = G j) (p : Nat) (g : Nat → Int) (n j : Nat) (hj : j < 200) : mxs F p g n j = mxs G p g n j := by
  unfold mxs; split
  · rw [h j hj]
  · exact h j hj
theorem fQ_congr {F G : Nat → Int} (h : ∀ j, j < 200 → F j = G j) (j : Nat) (hj : j < 200) : fQ F j = fQ G j :=
  mx_congr (mx_congr (mxs_congr h 0 (lst e4) 4) 4 (by omega) 4) 167 (by omega) 128 j hj
theorem pspP (j : Nat) (hj : j < 200) : psp fP j = bf (fun i => lP.getD i 0) j := by
  show bf (perm (fl fP)) j = _
  exact bf_congr (fun i hi => by rw [← permP, tb_get 25 _ i hi]) j hj
theorem lanesQ : tb 25 (fl (fQ (bf (fun i => lP.getD i 0)))) = [15457245139848613145, 1535676364598552834, 2283951447698532747, 9546442413678459780, 16283029276878368557, 9522396167475434685, 455154154319465314, 2194339108317133185, 16412971837844510999, 17939337698325551708, 18192424588527429157, 11994793268469087671, 8226013832438551805, 18445981972609851542, 14332003849423286145, 16341437283563963115, 9504470865399019665, 7525901944319598226, 5100464480905705507, 1000058813723612180, 148183899528896139, 14249500824700418113, 14322431623599260876, 4250930254914774797, 2905950596613604336] := by decide +kernel
theorem lanesQ' : tb 25 (fl (fQ (psp fP))) = [15457245139848613145, 1535676364598552834, 2283951447698532747, 9546442413678459780, 16283029276878368557, 9522396167475434685, 455154154319465314, 2194339108317133185, 16412971837844510999, 17939337698325551708, 18192424588527429157, 11994793268469087671, 8226013832438551805, 18445981972609851542, 14332003849423286145, 16341437283563963115, 9504470865399019665, 7525901944319598226, 5100464480905705507, 1000058813723612180, 148183899528896139, 14249500824700418113, 14322431623599260876, 4250930254914774797, 2905950596613604336] := by
  rw [← lanesQ]
  exact tb_congr 25 _ _ (fun i hi => fl_congr (fun j hj => fQ_congr pspP j hj) i hi)
theorem permQ : (tb 25 (perm (fl (fQ (psp fP))))).take 4 = [331648673621066689, 3159461767747515889, 2318207796940052288, 17702195568150707301] := by
  rw [← perm_L, lanesQ']
  decide +kernel
theorem chkC : ∀ i, i < 32 → leByte ([331648673621066689, 3159461767747515889, 2318207796940052288, 17702195568150707301].getD (i / 8) 0) (i % 8) = lst eC i := by decide +kernel
theorem sayC (i : Nat) (h : i < 32) : Z.say 168 (tY 168 0 no0 15 (lst eM) 4 (lst e4)) i = lst eC i := by
  have e : tY 168 0 no0 15 (lst eM) 4 (lst e4) = ⟨psp (fQ (psp fP)), 0, 2⟩ := by
    show Z.fin 168 4 (Z.ins 168 (bz 168 0 no0 15 (lst eM)) (lst e4) 4) = _
    rw [insP, ins_part 168 _ _ 4 (by show 0 + 4 < 168; omega)]
    rfl
  rw [e, say_part _ _ _ (by show 0 + i < 168; omega)]
  show psp (fQ (psp fP)) (0 + i) = _
  rw [Nat.zero_add]
  show bf (perm (fl (fQ (psp fP)))) i = _
  rw [bytes_of _ _ 4 permQ (by omega) i (by omega)]
  exact chkC i h
end Go.Proofs.YtjfjjhjajgodiaaDoor.Kc
