/- CMAC's examples, reckoned by the kernel out of literals: the example key's round keys, what stands behind each round of six blocks. CMAC's examples: two blocks more. CMAC's examples: two blocks more. CMAC's examples: the subkeys, the tags. -/
import Derived.Test.YtbgdjjfonmoemaaDoorWa
import Derived.Test.YtbgdjjfonmoemaaDoorYc
namespace Go.Proofs.YtbgdjjfonmoemaaDoor.Vm
open Go.Proofs.YtbgdjjfonmoemaaDoor.Gf Go.Proofs.YtbgdjjfonmoemaaDoor.Ae
def KX : List Nat := [43, 126, 21, 22, 40, 174, 210, 166, 171, 247, 21, 136, 9, 207, 79, 60, 160, 250, 254, 23, 136, 84, 44, 177, 35, 163, 57, 57, 42, 108, 118, 5, 242, 194, 149, 242, 122, 150, 185, 67, 89, 53, 128, 122, 115, 89, 246, 127, 61, 128, 71, 125, 71, 22, 254, 62, 30, 35, 126, 68, 109, 122, 136, 59, 239, 68, 165, 65, 168, 82, 91, 127, 182, 113, 37, 59, 219, 11, 173, 0, 212, 209, 198, 248, 124, 131, 157, 135, 202, 242, 184, 188, 17, 249, 21, 188, 109, 136, 163, 122, 17, 11, 62, 253, 219, 249, 134, 65, 202, 0, 147, 253, 78, 84, 247, 14, 95, 95, 201, 243, 132, 166, 79, 178, 78, 166, 220, 79, 234, 210, 115, 33, 181, 141, 186, 210, 49, 43, 245, 96, 127, 141, 41, 47, 172, 119, 102, 243, 25, 250, 220, 33, 40, 209, 41, 65, 87, 92, 0, 110, 208, 20, 249, 168, 201, 238, 37, 137, 225, 63, 12, 200, 182, 99, 12, 166]
set_option maxRecDepth 100000 in
theorem kx_b : ∀ p, ofl KX p < 256 := ofl_lt KX (by decide +kernel)
set_option maxRecDepth 100000 in
theorem kx_nx : ∀ i, i < 40 → ∀ j, j < 4 → ofl KX (4 * (4 + i) + j) = nxtT 4 (4 + i) (ofl KX) j := by decide +kernel
theorem kx_nxt (i : Nat) (hi : i < 40) (j : Nat) (hj : j < 4) : ofl KX (4 * (4 + i) + j) = nxt 4 (4 + i) (ofl KX) j := by
  rw [nxt_T _ _ _ _ kx_b (by have := Nat.div_le_div_right (c := 4) (show 4 + i ≤ 43 by omega); omega)]
  exact kx_nx i hi j hj
def Sl : List (List Nat) := [[43, 126, 21, 22, 40, 174, 210, 166, 171, 247, 21, 136, 9, 207, 79, 60], [220, 216, 127, 111, 155, 96, 170, 143, 31, 1, 15, 4, 87, 144, 162, 211], [158, 3, 133, 9, 68, 156, 70, 114, 195, 43, 10, 117, 56, 221, 130, 160], [213, 101, 103, 2, 107, 192, 49, 243, 205, 118, 100, 224, 41, 248, 252, 50], [92, 206, 255, 251, 217, 225, 254, 152, 156, 215, 223, 57, 123, 135, 232, 167], [145, 149, 183, 248, 144, 19, 154, 83, 4, 126, 151, 72, 124, 17, 228, 203], [100, 111, 117, 41, 247, 108, 188, 69, 253, 25, 147, 166, 126, 197, 52, 251], [235, 199, 86, 89, 85, 9, 177, 214, 46, 119, 46, 169, 17, 149, 33, 196], [13, 118, 221, 9, 100, 87, 20, 72, 106, 112, 150, 95, 42, 8, 136, 1], [24, 193, 85, 162, 169, 77, 94, 115, 239, 185, 116, 18, 251, 19, 120, 29], [125, 247, 107, 12, 26, 184, 153, 179, 62, 66, 240, 71, 185, 27, 84, 111]]
def Cl : List (List Nat) := [[241, 243, 89, 71, 52, 228, 181, 36, 98, 104, 89, 196, 1, 138, 132, 235], [134, 97, 210, 168, 20, 208, 172, 115, 192, 124, 118, 242, 91, 96, 58, 102], [11, 123, 151, 1, 27, 222, 90, 64, 46, 241, 103, 157, 7, 193, 19, 224], [3, 77, 133, 119, 127, 186, 199, 13, 189, 56, 67, 225, 165, 65, 176, 35], [74, 139, 22, 15, 53, 248, 187, 70, 222, 14, 158, 18, 33, 23, 155, 92], [129, 42, 169, 65, 96, 125, 184, 237, 242, 243, 136, 82, 16, 130, 105, 31], [67, 168, 157, 165, 104, 80, 101, 110, 84, 212, 220, 36, 243, 166, 24, 15], [233, 198, 177, 203, 252, 1, 200, 246, 49, 245, 49, 211, 130, 42, 253, 28], [215, 56, 193, 1, 67, 91, 250, 82, 2, 81, 144, 207, 229, 48, 196, 124], [173, 120, 252, 58, 211, 227, 88, 143, 223, 86, 146, 201, 15, 125, 188, 164]]
def Bl : List Nat := [0, 0, 0, 0, 0, 0, 0, 0, 0, 0, 0, 0, 0, 0, 0, 0]
set_option maxRecDepth 100000 in
theorem sl_0 : ∀ i, i < 16 → ofl (Sl.getD 0 []) i = adk (ofl KX) 0 (ofl Bl) i := by decide +kernel
set_option maxRecDepth 100000 in
theorem sl_b : ∀ r, r < 10 → ∀ i, i < 16 → ofl (Sl.getD r []) i < 256 := by decide +kernel
set_option maxRecDepth 100000 in
theorem cl_r : ∀ r, r < 10 → ∀ i, i < 16 → ofl (Cl.getD r []) i = bx (ofl (Sl.getD r []) i) := by decide +kernel
set_option maxRecDepth 100000 in
theorem sl_1r : ∀ i, i < 16 → ofl [220, 216, 127, 111, 155, 96, 170, 143, 31, 1, 15, 4, 87, 144, 162, 211] i = adk (ofl KX) 1 (mix m1 (trn 1 (ofl [241, 243, 89, 71, 52, 228, 181, 36, 98, 104, 89, 196, 1, 138, 132, 235]))) i := by decide +kernel
set_option maxRecDepth 100000 in
theorem sl_2r : ∀ i, i < 16 → ofl [158, 3, 133, 9, 68, 156, 70, 114, 195, 43, 10, 117, 56, 221, 130, 160] i = adk (ofl KX) 2 (mix m1 (trn 1 (ofl [134, 97, 210, 168, 20, 208, 172, 115, 192, 124, 118, 242, 91, 96, 58, 102]))) i := by decide +kernel
set_option maxRecDepth 100000 in
theorem sl_3r : ∀ i, i < 16 → ofl [213, 101, 103, 2, 107, 192, 49, 243, 205, 118, 100, 224, 41, 248, 252, 50] i = adk (ofl KX) 3 (mix m1 (trn 1 (ofl [11, 123, 151, 1, 27, 222, 90, 64, 46, 241, 103, 157, 7, 193, 19, 224]))) i := by decide +kernel
set_option maxRecDepth 100000 in
theorem sl_4r : ∀ i, i < 16 → ofl [92, 206, 255, 251, 217, 225, 254, 152, 156, 215, 223, 57, 123, 135, 232, 167] i = adk (ofl KX) 4 (mix m1 (trn 1 (ofl [3, 77, 133, 119, 127, 186, 199, 13, 189, 56, 67, 225, 165, 65, 176, 35]))) i := by decide +kernel
set_option maxRecDepth 100000 in
theorem sl_5r : ∀ i, i < 16 → ofl [145, 149, 183, 248, 144, 19, 154, 83, 4, 126, 151, 72, 124, 17, 228, 203] i = adk (ofl KX) 5 (mix m1 (trn 1 (ofl [74, 139, 22, 15, 53, 248, 187, 70, 222, 14, 158, 18, 33, 23, 155, 92]))) i := by decide +kernel
set_option maxRecDepth 100000 in
theorem sl_6r : ∀ i, i < 16 → ofl [100, 111, 117, 41, 247, 108, 188, 69, 253, 25, 147, 166, 126, 197, 52, 251] i = adk (ofl KX) 6 (mix m1 (trn 1 (ofl [129, 42, 169, 65, 96, 125, 184, 237, 242, 243, 136, 82, 16, 130, 105, 31]))) i := by decide +kernel
set_option maxRecDepth 100000 in
theorem sl_7r : ∀ i, i < 16 → ofl [235, 199, 86, 89, 85, 9, 177, 214, 46, 119, 46, 169, 17, 149, 33, 196] i = adk (ofl KX) 7 (mix m1 (trn 1 (ofl [67, 168, 157, 165, 104, 80, 101, 110, 84, 212, 220, 36, 243, 166, 24, 15]))) i := by decide +kernel
set_option maxRecDepth 100000 in
theorem sl_8r : ∀ i, i < 16 → ofl [13, 118, 221, 9, 100, 87, 20, 72, 106, 112, 150, 95, 42, 8, 136, 1] i = adk (ofl KX) 8 (mix m1 (trn 1 (ofl [233, 198, 177, 203, 252, 1, 200, 246, 49, 245, 49, 211, 130, 42, 253, 28]))) i := by decide +kernel
set_option maxRecDepth 100000 in
theorem sl_9r : ∀ i, i < 16 → ofl [24, 193, 85, 162, 169, 77, 94, 115, 239, 185, 116, 18, 251, 19, 120, 29] i = adk (ofl KX) 9 (mix m1 (trn 1 (ofl [215, 56, 193, 1, 67, 91, 250, 82, 2, 81, 144, 207, 229, 48, 196, 124]))) i := by decide +kernel
set_option maxRecDepth 100000 in
theorem sl_10r : ∀ i, i < 16 → ofl [125, 247, 107, 12, 26, 184, 153, 179, 62, 66, 240, 71, 185, 27, 84, 111] i = adk (ofl KX) 10 (trn 1 (ofl [173, 120, 252, 58, 211, 227, 88, 143, 223, 86, 146, 201, 15, 125, 188, 164])) i := by decide +kernel
theorem sl_r (r : Nat) (hr : r < 10) (i : Nat) (hi : i < 16) : ofl (Sl.getD (r + 1) []) i = rnd (ofl KX) 10 (r + 1) (ofl (Sl.getD r [])) i := by
  rw [rnd_c _ _ _ _ (ofl (Cl.getD r [])) (fun i hi => by rw [box_bx _ (sl_b r hr i hi)]; exact cl_r r hr i hi) i hi]
  match r, hr with
  | 0, _ => exact sl_1r i hi
  | 1, _ => exact sl_2r i hi
  | 2, _ => exact sl_3r i hi
  | 3, _ => exact sl_4r i hi
  | 4, _ => exact sl_5r i hi
  | 5, _ => exact sl_6r i hi
  | 6, _ => exact sl_7r i hi
  | 7, _ => exact sl_8r i hi
  | 8, _ => exact sl_9r i hi
  | 9, _ => exact sl_10r i hi
theorem enl : E16 (enc (ofl KX) 10 (ofl Bl)) (ofl [125, 247, 107, 12, 26, 184, 153, 179, 62, 66, 240, 71, 185, 27, 84, 111]) := enc_lit (ofl KX) 10 (ofl Bl) Sl sl_0 sl_r
def Sa : List (List Nat) := [[92, 163, 185, 38, 66, 76, 180, 106, 82, 252, 212, 150, 237, 162, 30, 7], [194, 255, 89, 57, 158, 98, 86, 242, 57, 47, 169, 81, 131, 49, 131, 70], [212, 156, 73, 80, 173, 138, 82, 131, 109, 125, 88, 73, 234, 128, 29, 78], [106, 165, 212, 239, 155, 194, 50, 103, 253, 63, 214, 53, 58, 97, 156, 1], [14, 113, 241, 108, 30, 10, 231, 77, 249, 189, 154, 113, 127, 116, 204, 137], [47, 192, 147, 148, 13, 136, 243, 128, 12, 79, 212, 226, 103, 114, 169, 187], [178, 60, 199, 6, 194, 131, 182, 140, 237, 53, 215, 69, 155, 101, 5, 245], [231, 84, 1, 98, 176, 159, 29, 191, 91, 92, 108, 14, 96, 195, 13, 10], [152, 124, 53, 195, 195, 54, 71, 50, 69, 194, 2, 105, 171, 65, 108, 141], [5, 255, 44, 241, 84, 64, 5, 122, 223, 32, 150, 160, 250, 28, 57, 145], [187, 29, 105, 41, 233, 89, 55, 40, 127, 163, 125, 18, 155, 117, 103, 70]]
def Ca : List (List Nat) := [[74, 10, 86, 247, 44, 41, 141, 2, 0, 176, 72, 144, 85, 58, 114, 197], [37, 22, 203, 18, 11, 170, 177, 137, 18, 21, 211, 209, 236, 199, 236, 90], [72, 222, 59, 83, 149, 126, 0, 236, 60, 255, 106, 59, 135, 205, 164, 47], [2, 6, 72, 223, 20, 37, 35, 133, 84, 117, 246, 150, 128, 239, 222, 124], [171, 163, 161, 80, 114, 103, 148, 227, 153, 122, 184, 163, 210, 146, 75, 167], [21, 186, 220, 34, 215, 196, 13, 205, 254, 132, 72, 152, 133, 64, 211, 234], [55, 235, 198, 111, 37, 236, 78, 100, 85, 150, 14, 110, 20, 77, 107, 230], [148, 32, 124, 170, 231, 219, 164, 8, 57, 74, 80, 171, 208, 46, 215, 103], [70, 16, 150, 46, 46, 5, 160, 35, 110, 37, 119, 249, 98, 131, 80, 93], [107, 22, 113, 161, 32, 9, 107, 218, 158, 183, 144, 224, 45, 156, 18, 129]]
def Ba : List Nat := [119, 221, 172, 48, 106, 226, 102, 204, 249, 11, 193, 30, 228, 109, 81, 59]
set_option maxRecDepth 100000 in
theorem sa_0 : ∀ i, i < 16 → ofl (Sa.getD 0 []) i = adk (ofl KX) 0 (ofl Ba) i := by decide +kernel
set_option maxRecDepth 100000 in
theorem sa_b : ∀ r, r < 10 → ∀ i, i < 16 → ofl (Sa.getD r []) i < 256 := by decide +kernel
set_option maxRecDepth 100000 in
theorem ca_r : ∀ r, r < 10 → ∀ i, i < 16 → ofl (Ca.getD r []) i = bx (ofl (Sa.getD r []) i) := by decide +kernel
set_option maxRecDepth 100000 in
theorem sa_1r : ∀ i, i < 16 → ofl [194, 255, 89, 57, 158, 98, 86, 242, 57, 47, 169, 81, 131, 49, 131, 70] i = adk (ofl KX) 1 (mix m1 (trn 1 (ofl [74, 10, 86, 247, 44, 41, 141, 2, 0, 176, 72, 144, 85, 58, 114, 197]))) i := by decide +kernel
set_option maxRecDepth 100000 in
theorem sa_2r : ∀ i, i < 16 → ofl [212, 156, 73, 80, 173, 138, 82, 131, 109, 125, 88, 73, 234, 128, 29, 78] i = adk (ofl KX) 2 (mix m1 (trn 1 (ofl [37, 22, 203, 18, 11, 170, 177, 137, 18, 21, 211, 209, 236, 199, 236, 90]))) i := by decide +kernel
set_option maxRecDepth 100000 in
theorem sa_3r : ∀ i, i < 16 → ofl [106, 165, 212, 239, 155, 194, 50, 103, 253, 63, 214, 53, 58, 97, 156, 1] i = adk (ofl KX) 3 (mix m1 (trn 1 (ofl [72, 222, 59, 83, 149, 126, 0, 236, 60, 255, 106, 59, 135, 205, 164, 47]))) i := by decide +kernel
set_option maxRecDepth 100000 in
theorem sa_4r : ∀ i, i < 16 → ofl [14, 113, 241, 108, 30, 10, 231, 77, 249, 189, 154, 113, 127, 116, 204, 137] i = adk (ofl KX) 4 (mix m1 (trn 1 (ofl [2, 6, 72, 223, 20, 37, 35, 133, 84, 117, 246, 150, 128, 239, 222, 124]))) i := by decide +kernel
set_option maxRecDepth 100000 in
theorem sa_5r : ∀ i, i < 16 → ofl [47, 192, 147, 148, 13, 136, 243, 128, 12, 79, 212, 226, 103, 114, 169, 187] i = adk (ofl KX) 5 (mix m1 (trn 1 (ofl [171, 163, 161, 80, 114, 103, 148, 227, 153, 122, 184, 163, 210, 146, 75, 167]))) i := by decide +kernel
set_option maxRecDepth 100000 in
theorem sa_6r : ∀ i, i < 16 → ofl [178, 60, 199, 6, 194, 131, 182, 140, 237, 53, 215, 69, 155, 101, 5, 245] i = adk (ofl KX) 6 (mix m1 (trn 1 (ofl [21, 186, 220, 34, 215, 196, 13, 205, 254, 132, 72, 152, 133, 64, 211, 234]))) i := by decide +kernel
set_option maxRecDepth 100000 in
theorem sa_7r : ∀ i, i < 16 → ofl [231, 84, 1, 98, 176, 159, 29, 191, 91, 92, 108, 14, 96, 195, 13, 10] i = adk (ofl KX) 7 (mix m1 (trn 1 (ofl [55, 235, 198, 111, 37, 236, 78, 100, 85, 150, 14, 110, 20, 77, 107, 230]))) i := by decide +kernel
set_option maxRecDepth 100000 in
theorem sa_8r : ∀ i, i < 16 → ofl [152, 124, 53, 195, 195, 54, 71, 50, 69, 194, 2, 105, 171, 65, 108, 141] i = adk (ofl KX) 8 (mix m1 (trn 1 (ofl [148, 32, 124, 170, 231, 219, 164, 8, 57, 74, 80, 171, 208, 46, 215, 103]))) i := by decide +kernel
set_option maxRecDepth 100000 in
theorem sa_9r : ∀ i, i < 16 → ofl [5, 255, 44, 241, 84, 64, 5, 122, 223, 32, 150, 160, 250, 28, 57, 145] i = adk (ofl KX) 9 (mix m1 (trn 1 (ofl [70, 16, 150, 46, 46, 5, 160, 35, 110, 37, 119, 249, 98, 131, 80, 93]))) i := by decide +kernel
set_option maxRecDepth 100000 in
theorem sa_10r : ∀ i, i < 16 → ofl [187, 29, 105, 41, 233, 89, 55, 40, 127, 163, 125, 18, 155, 117, 103, 70] i = adk (ofl KX) 10 (trn 1 (ofl [107, 22, 113, 161, 32, 9, 107, 218, 158, 183, 144, 224, 45, 156, 18, 129])) i := by decide +kernel
theorem sa_r (r : Nat) (hr : r < 10) (i : Nat) (hi : i < 16) : ofl (Sa.getD (r + 1) []) i = rnd (ofl KX) 10 (r + 1) (ofl (Sa.getD r [])) i := by
  rw [rnd_c _ _ _ _ (ofl (Ca.getD r [])) (fun i hi => by rw [box_bx _ (sa_b r hr i hi)]; exact ca_r r hr i hi) i hi]
  match r, hr with
  | 0, _ => exact sa_1r i hi
  | 1, _ => exact sa_2r i hi
  | 2, _ => exact sa_3r i hi
  | 3, _ => exact sa_4r i hi
  | 4, _ => exact sa_5r i hi
  | 5, _ => exact sa_6r i hi
  | 6, _ => exact sa_7r i hi
  | 7, _ => exact sa_8r i hi
  | 8, _ => exact sa_9r i hi
  | 9, _ => exact sa_10r i hi
theorem ena : E16 (enc (ofl KX) 10 (ofl Ba)) (ofl [187, 29, 105, 41, 233, 89, 55, 40, 127, 163, 125, 18, 155, 117, 103, 70]) := enc_lit (ofl KX) 10 (ofl Ba) Sa sa_0 sa_r
end Go.Proofs.YtbgdjjfonmoemaaDoor.Vm
namespace Go.Proofs.YtbgdjjfonmoemaaDoor.Vm
open Go.Proofs.YtbgdjjfonmoemaaDoor.Gf Go.Proofs.YtbgdjjfonmoemaaDoor.Ae
def Sb : List (List Nat) := [[187, 81, 125, 236, 51, 159, 126, 86, 62, 79, 139, 22, 8, 106, 240, 200], [204, 18, 150, 31, 192, 197, 33, 96, 20, 190, 164, 112, 150, 172, 163, 249], [69, 156, 90, 233, 54, 181, 226, 169, 94, 141, 187, 213, 164, 13, 189, 66], [67, 86, 71, 168, 206, 57, 112, 42, 161, 196, 248, 120, 29, 36, 49, 160], [76, 89, 20, 231, 132, 113, 4, 189, 205, 49, 78, 42, 173, 153, 197, 116], [197, 70, 191, 48, 162, 44, 245, 52, 2, 231, 138, 128, 113, 9, 128, 240], [91, 194, 7, 135, 11, 74, 29, 226, 38, 140, 200, 225, 82, 235, 241, 62], [7, 75, 30, 4, 19, 83, 230, 101, 12, 84, 115, 183, 125, 227, 185, 37], [231, 99, 31, 105, 139, 184, 70, 220, 218, 44, 41, 128, 115, 47, 130, 65], [13, 76, 81, 128, 26, 233, 166, 237, 255, 113, 97, 122, 211, 29, 140, 196], [7, 10, 22, 180, 107, 77, 65, 68, 247, 155, 221, 157, 208, 74, 40, 124]]
def Cb : List (List Nat) := [[234, 209, 255, 206, 195, 219, 243, 177, 178, 132, 61, 71, 48, 2, 140, 232], [75, 201, 144, 192, 186, 166, 253, 208, 250, 174, 73, 81, 144, 145, 10, 153], [110, 222, 190, 30, 5, 213, 152, 211, 88, 93, 234, 3, 73, 215, 122, 44], [26, 177, 160, 194, 139, 18, 81, 229, 50, 28, 65, 188, 164, 54, 199, 224], [41, 203, 250, 148, 95, 163, 242, 122, 189, 199, 47, 229, 149, 238, 166, 146], [166, 90, 8, 4, 58, 113, 230, 24, 119, 148, 126, 205, 163, 1, 205, 140], [57, 37, 197, 23, 43, 214, 164, 152, 247, 100, 232, 248, 0, 233, 161, 178], [197, 179, 114, 242, 125, 237, 142, 77, 254, 32, 143, 169, 255, 17, 86, 63], [148, 251, 192, 249, 61, 108, 90, 134, 87, 113, 165, 205, 143, 21, 19, 131], [215, 41, 209, 205, 162, 30, 36, 85, 22, 163, 239, 218, 102, 164, 100, 28]]
def Bb : List Nat := [144, 47, 104, 250, 27, 49, 172, 240, 149, 184, 158, 158, 1, 165, 191, 244]
set_option maxRecDepth 100000 in
theorem sb_0 : ∀ i, i < 16 → ofl (Sb.getD 0 []) i = adk (ofl KX) 0 (ofl Bb) i := by decide +kernel
set_option maxRecDepth 100000 in
theorem sb_b : ∀ r, r < 10 → ∀ i, i < 16 → ofl (Sb.getD r []) i < 256 := by decide +kernel
set_option maxRecDepth 100000 in
theorem cb_r : ∀ r, r < 10 → ∀ i, i < 16 → ofl (Cb.getD r []) i = bx (ofl (Sb.getD r []) i) := by decide +kernel
set_option maxRecDepth 100000 in
theorem sb_1r : ∀ i, i < 16 → ofl [204, 18, 150, 31, 192, 197, 33, 96, 20, 190, 164, 112, 150, 172, 163, 249] i = adk (ofl KX) 1 (mix m1 (trn 1 (ofl [234, 209, 255, 206, 195, 219, 243, 177, 178, 132, 61, 71, 48, 2, 140, 232]))) i := by decide +kernel
set_option maxRecDepth 100000 in
theorem sb_2r : ∀ i, i < 16 → ofl [69, 156, 90, 233, 54, 181, 226, 169, 94, 141, 187, 213, 164, 13, 189, 66] i = adk (ofl KX) 2 (mix m1 (trn 1 (ofl [75, 201, 144, 192, 186, 166, 253, 208, 250, 174, 73, 81, 144, 145, 10, 153]))) i := by decide +kernel
set_option maxRecDepth 100000 in
theorem sb_3r : ∀ i, i < 16 → ofl [67, 86, 71, 168, 206, 57, 112, 42, 161, 196, 248, 120, 29, 36, 49, 160] i = adk (ofl KX) 3 (mix m1 (trn 1 (ofl [110, 222, 190, 30, 5, 213, 152, 211, 88, 93, 234, 3, 73, 215, 122, 44]))) i := by decide +kernel
set_option maxRecDepth 100000 in
theorem sb_4r : ∀ i, i < 16 → ofl [76, 89, 20, 231, 132, 113, 4, 189, 205, 49, 78, 42, 173, 153, 197, 116] i = adk (ofl KX) 4 (mix m1 (trn 1 (ofl [26, 177, 160, 194, 139, 18, 81, 229, 50, 28, 65, 188, 164, 54, 199, 224]))) i := by decide +kernel
set_option maxRecDepth 100000 in
theorem sb_5r : ∀ i, i < 16 → ofl [197, 70, 191, 48, 162, 44, 245, 52, 2, 231, 138, 128, 113, 9, 128, 240] i = adk (ofl KX) 5 (mix m1 (trn 1 (ofl [41, 203, 250, 148, 95, 163, 242, 122, 189, 199, 47, 229, 149, 238, 166, 146]))) i := by decide +kernel
set_option maxRecDepth 100000 in
theorem sb_6r : ∀ i, i < 16 → ofl [91, 194, 7, 135, 11, 74, 29, 226, 38, 140, 200, 225, 82, 235, 241, 62] i = adk (ofl KX) 6 (mix m1 (trn 1 (ofl [166, 90, 8, 4, 58, 113, 230, 24, 119, 148, 126, 205, 163, 1, 205, 140]))) i := by decide +kernel
set_option maxRecDepth 100000 in
theorem sb_7r : ∀ i, i < 16 → ofl [7, 75, 30, 4, 19, 83, 230, 101, 12, 84, 115, 183, 125, 227, 185, 37] i = adk (ofl KX) 7 (mix m1 (trn 1 (ofl [57, 37, 197, 23, 43, 214, 164, 152, 247, 100, 232, 248, 0, 233, 161, 178]))) i := by decide +kernel
set_option maxRecDepth 100000 in
theorem sb_8r : ∀ i, i < 16 → ofl [231, 99, 31, 105, 139, 184, 70, 220, 218, 44, 41, 128, 115, 47, 130, 65] i = adk (ofl KX) 8 (mix m1 (trn 1 (ofl [197, 179, 114, 242, 125, 237, 142, 77, 254, 32, 143, 169, 255, 17, 86, 63]))) i := by decide +kernel
set_option maxRecDepth 100000 in
theorem sb_9r : ∀ i, i < 16 → ofl [13, 76, 81, 128, 26, 233, 166, 237, 255, 113, 97, 122, 211, 29, 140, 196] i = adk (ofl KX) 9 (mix m1 (trn 1 (ofl [148, 251, 192, 249, 61, 108, 90, 134, 87, 113, 165, 205, 143, 21, 19, 131]))) i := by decide +kernel
set_option maxRecDepth 100000 in
theorem sb_10r : ∀ i, i < 16 → ofl [7, 10, 22, 180, 107, 77, 65, 68, 247, 155, 221, 157, 208, 74, 40, 124] i = adk (ofl KX) 10 (trn 1 (ofl [215, 41, 209, 205, 162, 30, 36, 85, 22, 163, 239, 218, 102, 164, 100, 28])) i := by decide +kernel
theorem sb_r (r : Nat) (hr : r < 10) (i : Nat) (hi : i < 16) : ofl (Sb.getD (r + 1) []) i = rnd (ofl KX) 10 (r + 1) (ofl (Sb.getD r [])) i := by
  rw [rnd_c _ _ _ _ (ofl (Cb.getD r [])) (fun i hi => by rw [box_bx _ (sb_b r hr i hi)]; exact cb_r r hr i hi) i hi]
  match r, hr with
  | 0, _ => exact sb_1r i hi
  | 1, _ => exact sb_2r i hi
  | 2, _ => exact sb_3r i hi
  | 3, _ => exact sb_4r i hi
  | 4, _ => exact sb_5r i hi
  | 5, _ => exact sb_6r i hi
  | 6, _ => exact sb_7r i hi
  | 7, _ => exact sb_8r i hi
  | 8, _ => exact sb_9r i hi
  | 9, _ => exact sb_10r i hi
theorem enb : E16 (enc (ofl KX) 10 (ofl Bb)) (ofl [7, 10, 22, 180, 107, 77, 65, 68, 247, 155, 221, 157, 208, 74, 40, 124]) := enc_lit (ofl KX) 10 (ofl Bb) Sb sb_0 sb_r
def Sc : List (List Nat) := [[64, 191, 171, 244, 6, 238, 77, 48, 66, 202, 107, 153, 122, 92, 88, 22], [242, 101, 232, 213, 31, 210, 57, 123, 195, 185, 151, 109, 144, 118, 80, 92], [253, 243, 124, 219, 75, 12, 140, 27, 247, 252, 216, 233, 74, 169, 187, 248], [172, 209, 236, 156, 162, 66, 226, 195, 31, 105, 15, 122, 183, 4, 185, 15], [162, 97, 110, 95, 68, 165, 77, 57, 192, 41, 226, 0, 146, 183, 100, 233], [44, 74, 243, 20, 50, 195, 239, 201, 200, 169, 184, 123, 37, 46, 205, 167], [205, 77, 192, 19, 126, 179, 186, 25, 147, 185, 57, 255, 43, 211, 188, 247], [226, 109, 187, 125, 64, 210, 33, 52, 227, 183, 253, 162, 107, 155, 7, 124], [65, 215, 198, 83, 125, 102, 145, 64, 221, 47, 23, 157, 2, 172, 197, 27], [187, 54, 199, 235, 136, 51, 77, 73, 164, 231, 17, 46, 116, 241, 130, 196], [58, 215, 123, 180, 13, 122, 54, 96, 168, 158, 202, 243, 36, 102, 239, 151]]
def Cc : List (List Nat) := [[9, 8, 98, 191, 111, 40, 227, 4, 44, 116, 127, 238, 218, 74, 106, 71], [137, 77, 155, 3, 192, 181, 18, 33, 46, 86, 136, 60, 96, 56, 83, 74], [84, 13, 16, 185, 179, 254, 100, 175, 104, 176, 97, 30, 214, 211, 234, 65], [145, 62, 206, 222, 58, 44, 152, 46, 192, 249, 118, 218, 169, 242, 86, 118], [58, 239, 159, 207, 27, 6, 227, 18, 186, 165, 152, 99, 79, 169, 67, 30], [113, 214, 13, 250, 35, 46, 223, 221, 232, 211, 108, 33, 63, 49, 189, 92], [189, 227, 186, 125, 243, 109, 244, 212, 220, 86, 18, 22, 241, 102, 101, 104], [152, 60, 234, 255, 9, 181, 253, 24, 17, 169, 84, 58, 127, 20, 197, 16], [131, 14, 180, 237, 255, 51, 129, 9, 193, 21, 240, 94, 119, 145, 166, 175], [234, 5, 198, 233, 196, 195, 227, 59, 73, 148, 130, 49, 146, 161, 19, 28]]
def Bc : List Nat := [107, 193, 190, 226, 46, 64, 159, 150, 233, 61, 126, 17, 115, 147, 23, 42]
set_option maxRecDepth 100000 in
theorem sc_0 : ∀ i, i < 16 → ofl (Sc.getD 0 []) i = adk (ofl KX) 0 (ofl Bc) i := by decide +kernel
set_option maxRecDepth 100000 in
theorem sc_b : ∀ r, r < 10 → ∀ i, i < 16 → ofl (Sc.getD r []) i < 256 := by decide +kernel
set_option maxRecDepth 100000 in
theorem cc_r : ∀ r, r < 10 → ∀ i, i < 16 → ofl (Cc.getD r []) i = bx (ofl (Sc.getD r []) i) := by decide +kernel
set_option maxRecDepth 100000 in
theorem sc_1r : ∀ i, i < 16 → ofl [242, 101, 232, 213, 31, 210, 57, 123, 195, 185, 151, 109, 144, 118, 80, 92] i = adk (ofl KX) 1 (mix m1 (trn 1 (ofl [9, 8, 98, 191, 111, 40, 227, 4, 44, 116, 127, 238, 218, 74, 106, 71]))) i := by decide +kernel
set_option maxRecDepth 100000 in
theorem sc_2r : ∀ i, i < 16 → ofl [253, 243, 124, 219, 75, 12, 140, 27, 247, 252, 216, 233, 74, 169, 187, 248] i = adk (ofl KX) 2 (mix m1 (trn 1 (ofl [137, 77, 155, 3, 192, 181, 18, 33, 46, 86, 136, 60, 96, 56, 83, 74]))) i := by decide +kernel
set_option maxRecDepth 100000 in
theorem sc_3r : ∀ i, i < 16 → ofl [172, 209, 236, 156, 162, 66, 226, 195, 31, 105, 15, 122, 183, 4, 185, 15] i = adk (ofl KX) 3 (mix m1 (trn 1 (ofl [84, 13, 16, 185, 179, 254, 100, 175, 104, 176, 97, 30, 214, 211, 234, 65]))) i := by decide +kernel
set_option maxRecDepth 100000 in
theorem sc_4r : ∀ i, i < 16 → ofl [162, 97, 110, 95, 68, 165, 77, 57, 192, 41, 226, 0, 146, 183, 100, 233] i = adk (ofl KX) 4 (mix m1 (trn 1 (ofl [145, 62, 206, 222, 58, 44, 152, 46, 192, 249, 118, 218, 169, 242, 86, 118]))) i := by decide +kernel
set_option maxRecDepth 100000 in
theorem sc_5r : ∀ i, i < 16 → ofl [44, 74, 243, 20, 50, 195, 239, 201, 200, 169, 184, 123, 37, 46, 205, 167] i = adk (ofl KX) 5 (mix m1 (trn 1 (ofl [58, 239, 159, 207, 27, 6, 227, 18, 186, 165, 152, 99, 79, 169, 67, 30]))) i := by decide +kernel
set_option maxRecDepth 100000 in
theorem sc_6r : ∀ i, i < 16 → ofl [205, 77, 192, 19, 126, 179, 186, 25, 147, 185, 57, 255, 43, 211, 188, 247] i = adk (ofl KX) 6 (mix m1 (trn 1 (ofl [113, 214, 13, 250, 35, 46, 223, 221, 232, 211, 108, 33, 63, 49, 189, 92]))) i := by decide +kernel
set_option maxRecDepth 100000 in
theorem sc_7r : ∀ i, i < 16 → ofl [226, 109, 187, 125, 64, 210, 33, 52, 227, 183, 253, 162, 107, 155, 7, 124] i = adk (ofl KX) 7 (mix m1 (trn 1 (ofl [189, 227, 186, 125, 243, 109, 244, 212, 220, 86, 18, 22, 241, 102, 101, 104]))) i := by decide +kernel
set_option maxRecDepth 100000 in
theorem sc_8r : ∀ i, i < 16 → ofl [65, 215, 198, 83, 125, 102, 145, 64, 221, 47, 23, 157, 2, 172, 197, 27] i = adk (ofl KX) 8 (mix m1 (trn 1 (ofl [152, 60, 234, 255, 9, 181, 253, 24, 17, 169, 84, 58, 127, 20, 197, 16]))) i := by decide +kernel
set_option maxRecDepth 100000 in
theorem sc_9r : ∀ i, i < 16 → ofl [187, 54, 199, 235, 136, 51, 77, 73, 164, 231, 17, 46, 116, 241, 130, 196] i = adk (ofl KX) 9 (mix m1 (trn 1 (ofl [131, 14, 180, 237, 255, 51, 129, 9, 193, 21, 240, 94, 119, 145, 166, 175]))) i := by decide +kernel
set_option maxRecDepth 100000 in
theorem sc_10r : ∀ i, i < 16 → ofl [58, 215, 123, 180, 13, 122, 54, 96, 168, 158, 202, 243, 36, 102, 239, 151] i = adk (ofl KX) 10 (trn 1 (ofl [234, 5, 198, 233, 196, 195, 227, 59, 73, 148, 130, 49, 146, 161, 19, 28])) i := by decide +kernel
theorem sc_r (r : Nat) (hr : r < 10) (i : Nat) (hi : i < 16) : ofl (Sc.getD (r + 1) []) i = rnd (ofl KX) 10 (r + 1) (ofl (Sc.getD r [])) i := by
  rw [rnd_c _ _ _ _ (ofl (Cc.getD r [])) (fun i hi => by rw [box_bx _ (sc_b r hr i hi)]; exact cc_r r hr i hi) i hi]
  match r, hr with
  | 0, _ => exact sc_1r i hi
  | 1, _ => exact sc_2r i hi
  | 2, _ => exact sc_3r i hi
  | 3, _ => exact sc_4r i hi
  | 4, _ => exact sc_5r i hi
  | 5, _ => exact sc_6r i hi
  | 6, _ => exact sc_7r i hi
  | 7, _ => exact sc_8r i hi
  | 8, _ => exact sc_9r i hi
  | 9, _ => exact sc_10r i hi
theorem enc_c : E16 (enc (ofl KX) 10 (ofl Bc)) (ofl [58, 215, 123, 180, 13, 122, 54, 96, 168, 158, 202, 243, 36, 102, 239, 151]) := enc_lit (ofl KX) 10 (ofl Bc) Sc sc_0 sc_r
end Go.Proofs.YtbgdjjfonmoemaaDoor.Vm
namespace Go.Proofs.YtbgdjjfonmoemaaDoor.Vm
open Go.Proofs.YtbgdjjfonmoemaaDoor.Gf Go.Proofs.YtbgdjjfonmoemaaDoor.Ae
def Sd : List (List Nat) := [[191, 132, 228, 245, 59, 215, 72, 90, 157, 222, 176, 215, 104, 6, 46, 250], [104, 241, 90, 188, 167, 57, 128, 119, 249, 38, 3, 186, 29, 111, 218, 219], [140, 151, 228, 61, 242, 163, 19, 205, 216, 203, 210, 45, 225, 28, 117, 23], [174, 196, 83, 149, 213, 58, 32, 114, 183, 103, 141, 115, 160, 214, 113, 118], [194, 100, 51, 219, 179, 148, 254, 8, 83, 67, 123, 64, 28, 158, 174, 149], [243, 249, 253, 192, 213, 84, 233, 167, 229, 103, 147, 56, 69, 60, 188, 233], [213, 164, 15, 173, 92, 12, 167, 119, 92, 77, 248, 54, 191, 98, 81, 198], [164, 199, 79, 199, 177, 53, 125, 46, 118, 204, 71, 65, 220, 221, 42, 72], [43, 5, 1, 104, 192, 33, 185, 168, 172, 44, 76, 15, 69, 5, 18, 154], [216, 164, 235, 68, 105, 167, 81, 198, 18, 208, 118, 97, 22, 104, 51, 13], [177, 72, 193, 127, 48, 158, 230, 146, 40, 122, 229, 124, 241, 42, 221, 73]]
def Cd : List (List Nat) := [[8, 95, 105, 230, 226, 14, 82, 190, 94, 29, 231, 14, 69, 111, 49, 45], [69, 161, 190, 101, 92, 18, 205, 245, 153, 247, 123, 244, 164, 168, 87, 185], [100, 136, 105, 39, 137, 10, 125, 189, 97, 31, 181, 216, 248, 156, 157, 240], [228, 28, 237, 42, 3, 128, 183, 64, 169, 133, 93, 143, 224, 246, 163, 56], [37, 67, 195, 185, 109, 34, 187, 48, 237, 26, 33, 9, 156, 11, 228, 42], [13, 153, 84, 186, 3, 32, 30, 92, 217, 133, 220, 7, 110, 235, 101, 30], [3, 73, 118, 149, 74, 254, 92, 245, 74, 227, 65, 5, 8, 170, 209, 180], [73, 198, 132, 198, 200, 150, 255, 49, 56, 75, 160, 131, 134, 193, 229, 82], [241, 107, 124, 69, 186, 253, 86, 194, 145, 113, 41, 118, 110, 107, 201, 184], [97, 73, 233, 27, 249, 92, 209, 180, 201, 112, 56, 239, 71, 69, 195, 215]]
def Bd : List Nat := [148, 250, 241, 227, 19, 121, 154, 252, 54, 41, 165, 95, 97, 201, 97, 198]
set_option maxRecDepth 100000 in
theorem sd_0 : ∀ i, i < 16 → ofl (Sd.getD 0 []) i = adk (ofl KX) 0 (ofl Bd) i := by decide +kernel
set_option maxRecDepth 100000 in
theorem sd_b : ∀ r, r < 10 → ∀ i, i < 16 → ofl (Sd.getD r []) i < 256 := by decide +kernel
set_option maxRecDepth 100000 in
theorem cd_r : ∀ r, r < 10 → ∀ i, i < 16 → ofl (Cd.getD r []) i = bx (ofl (Sd.getD r []) i) := by decide +kernel
set_option maxRecDepth 100000 in
theorem sd_1r : ∀ i, i < 16 → ofl [104, 241, 90, 188, 167, 57, 128, 119, 249, 38, 3, 186, 29, 111, 218, 219] i = adk (ofl KX) 1 (mix m1 (trn 1 (ofl [8, 95, 105, 230, 226, 14, 82, 190, 94, 29, 231, 14, 69, 111, 49, 45]))) i := by decide +kernel
set_option maxRecDepth 100000 in
theorem sd_2r : ∀ i, i < 16 → ofl [140, 151, 228, 61, 242, 163, 19, 205, 216, 203, 210, 45, 225, 28, 117, 23] i = adk (ofl KX) 2 (mix m1 (trn 1 (ofl [69, 161, 190, 101, 92, 18, 205, 245, 153, 247, 123, 244, 164, 168, 87, 185]))) i := by decide +kernel
set_option maxRecDepth 100000 in
theorem sd_3r : ∀ i, i < 16 → ofl [174, 196, 83, 149, 213, 58, 32, 114, 183, 103, 141, 115, 160, 214, 113, 118] i = adk (ofl KX) 3 (mix m1 (trn 1 (ofl [100, 136, 105, 39, 137, 10, 125, 189, 97, 31, 181, 216, 248, 156, 157, 240]))) i := by decide +kernel
set_option maxRecDepth 100000 in
theorem sd_4r : ∀ i, i < 16 → ofl [194, 100, 51, 219, 179, 148, 254, 8, 83, 67, 123, 64, 28, 158, 174, 149] i = adk (ofl KX) 4 (mix m1 (trn 1 (ofl [228, 28, 237, 42, 3, 128, 183, 64, 169, 133, 93, 143, 224, 246, 163, 56]))) i := by decide +kernel
set_option maxRecDepth 100000 in
theorem sd_5r : ∀ i, i < 16 → ofl [243, 249, 253, 192, 213, 84, 233, 167, 229, 103, 147, 56, 69, 60, 188, 233] i = adk (ofl KX) 5 (mix m1 (trn 1 (ofl [37, 67, 195, 185, 109, 34, 187, 48, 237, 26, 33, 9, 156, 11, 228, 42]))) i := by decide +kernel
set_option maxRecDepth 100000 in
theorem sd_6r : ∀ i, i < 16 → ofl [213, 164, 15, 173, 92, 12, 167, 119, 92, 77, 248, 54, 191, 98, 81, 198] i = adk (ofl KX) 6 (mix m1 (trn 1 (ofl [13, 153, 84, 186, 3, 32, 30, 92, 217, 133, 220, 7, 110, 235, 101, 30]))) i := by decide +kernel
set_option maxRecDepth 100000 in
theorem sd_7r : ∀ i, i < 16 → ofl [164, 199, 79, 199, 177, 53, 125, 46, 118, 204, 71, 65, 220, 221, 42, 72] i = adk (ofl KX) 7 (mix m1 (trn 1 (ofl [3, 73, 118, 149, 74, 254, 92, 245, 74, 227, 65, 5, 8, 170, 209, 180]))) i := by decide +kernel
set_option maxRecDepth 100000 in
theorem sd_8r : ∀ i, i < 16 → ofl [43, 5, 1, 104, 192, 33, 185, 168, 172, 44, 76, 15, 69, 5, 18, 154] i = adk (ofl KX) 8 (mix m1 (trn 1 (ofl [73, 198, 132, 198, 200, 150, 255, 49, 56, 75, 160, 131, 134, 193, 229, 82]))) i := by decide +kernel
set_option maxRecDepth 100000 in
theorem sd_9r : ∀ i, i < 16 → ofl [216, 164, 235, 68, 105, 167, 81, 198, 18, 208, 118, 97, 22, 104, 51, 13] i = adk (ofl KX) 9 (mix m1 (trn 1 (ofl [241, 107, 124, 69, 186, 253, 86, 194, 145, 113, 41, 118, 110, 107, 201, 184]))) i := by decide +kernel
set_option maxRecDepth 100000 in
theorem sd_10r : ∀ i, i < 16 → ofl [177, 72, 193, 127, 48, 158, 230, 146, 40, 122, 229, 124, 241, 42, 221, 73] i = adk (ofl KX) 10 (trn 1 (ofl [97, 73, 233, 27, 249, 92, 209, 180, 201, 112, 56, 239, 71, 69, 195, 215])) i := by decide +kernel
theorem sd_r (r : Nat) (hr : r < 10) (i : Nat) (hi : i < 16) : ofl (Sd.getD (r + 1) []) i = rnd (ofl KX) 10 (r + 1) (ofl (Sd.getD r [])) i := by
  rw [rnd_c _ _ _ _ (ofl (Cd.getD r [])) (fun i hi => by rw [box_bx _ (sd_b r hr i hi)]; exact cd_r r hr i hi) i hi]
  match r, hr with
  | 0, _ => exact sd_1r i hi
  | 1, _ => exact sd_2r i hi
  | 2, _ => exact sd_3r i hi
  | 3, _ => exact sd_4r i hi
  | 4, _ => exact sd_5r i hi
  | 5, _ => exact sd_6r i hi
  | 6, _ => exact sd_7r i hi
  | 7, _ => exact sd_8r i hi
  | 8, _ => exact sd_9r i hi
  | 9, _ => exact sd_10r i hi
theorem end_d : E16 (enc (ofl KX) 10 (ofl Bd)) (ofl [177, 72, 193, 127, 48, 158, 230, 146, 40, 122, 229, 124, 241, 42, 221, 73]) := enc_lit (ofl KX) 10 (ofl Bd) Sd sd_0 sd_r
def Se : List (List Nat) := [[93, 35, 100, 31, 209, 142, 182, 233, 250, 134, 49, 234, 28, 136, 195, 78], [251, 249, 79, 67, 214, 80, 81, 2, 115, 198, 116, 245, 170, 233, 194, 199], [77, 0, 167, 181, 117, 102, 159, 231, 141, 102, 155, 132, 183, 82, 75, 15], [215, 79, 37, 136, 85, 246, 73, 179, 108, 14, 60, 204, 5, 60, 14, 221], [31, 41, 124, 99, 194, 193, 22, 243, 98, 192, 87, 197, 234, 117, 233, 148], [190, 46, 174, 196, 6, 16, 40, 161, 36, 68, 184, 206, 17, 64, 72, 155], [23, 9, 35, 29, 172, 184, 202, 61, 122, 216, 60, 146, 57, 55, 206, 104], [175, 31, 105, 8, 234, 46, 195, 226, 159, 30, 42, 53, 82, 101, 246, 146], [225, 178, 59, 224, 68, 24, 155, 16, 42, 226, 57, 137, 156, 242, 20, 246], [251, 186, 209, 219, 135, 62, 136, 183, 81, 202, 223, 145, 26, 119, 51, 97], [223, 166, 103, 71, 222, 154, 230, 48, 48, 202, 50, 97, 20, 151, 200, 39]]
def Ce : List (List Nat) := [[76, 38, 67, 192, 62, 25, 78, 30, 45, 68, 199, 135, 156, 196, 46, 47], [15, 153, 132, 26, 246, 83, 209, 119, 143, 180, 146, 230, 172, 30, 37, 198], [227, 99, 92, 213, 157, 51, 219, 148, 93, 51, 20, 95, 169, 0, 179, 118], [14, 132, 63, 196, 252, 66, 59, 109, 80, 171, 235, 75, 107, 235, 171, 193], [192, 165, 16, 251, 37, 120, 71, 13, 170, 186, 91, 166, 135, 157, 30, 34], [174, 49, 228, 28, 111, 202, 52, 50, 54, 27, 108, 139, 130, 9, 82, 20], [240, 1, 38, 164, 145, 108, 116, 39, 218, 97, 235, 79, 18, 154, 139, 69], [121, 192, 249, 48, 135, 49, 46, 152, 219, 114, 229, 150, 0, 77, 66, 79], [248, 55, 226, 225, 27, 173, 20, 202, 229, 152, 18, 167, 222, 137, 250, 66], [15, 244, 62, 185, 23, 178, 196, 169, 209, 116, 158, 129, 162, 245, 195, 239]]
def Be : List Nat := [118, 93, 113, 9, 249, 32, 100, 79, 81, 113, 36, 98, 21, 71, 140, 114]
set_option maxRecDepth 100000 in
theorem se_0 : ∀ i, i < 16 → ofl (Se.getD 0 []) i = adk (ofl KX) 0 (ofl Be) i := by decide +kernel
set_option maxRecDepth 100000 in
theorem se_b : ∀ r, r < 10 → ∀ i, i < 16 → ofl (Se.getD r []) i < 256 := by decide +kernel
set_option maxRecDepth 100000 in
theorem ce_r : ∀ r, r < 10 → ∀ i, i < 16 → ofl (Ce.getD r []) i = bx (ofl (Se.getD r []) i) := by decide +kernel
set_option maxRecDepth 100000 in
theorem se_1r : ∀ i, i < 16 → ofl [251, 249, 79, 67, 214, 80, 81, 2, 115, 198, 116, 245, 170, 233, 194, 199] i = adk (ofl KX) 1 (mix m1 (trn 1 (ofl [76, 38, 67, 192, 62, 25, 78, 30, 45, 68, 199, 135, 156, 196, 46, 47]))) i := by decide +kernel
set_option maxRecDepth 100000 in
theorem se_2r : ∀ i, i < 16 → ofl [77, 0, 167, 181, 117, 102, 159, 231, 141, 102, 155, 132, 183, 82, 75, 15] i = adk (ofl KX) 2 (mix m1 (trn 1 (ofl [15, 153, 132, 26, 246, 83, 209, 119, 143, 180, 146, 230, 172, 30, 37, 198]))) i := by decide +kernel
set_option maxRecDepth 100000 in
theorem se_3r : ∀ i, i < 16 → ofl [215, 79, 37, 136, 85, 246, 73, 179, 108, 14, 60, 204, 5, 60, 14, 221] i = adk (ofl KX) 3 (mix m1 (trn 1 (ofl [227, 99, 92, 213, 157, 51, 219, 148, 93, 51, 20, 95, 169, 0, 179, 118]))) i := by decide +kernel
set_option maxRecDepth 100000 in
theorem se_4r : ∀ i, i < 16 → ofl [31, 41, 124, 99, 194, 193, 22, 243, 98, 192, 87, 197, 234, 117, 233, 148] i = adk (ofl KX) 4 (mix m1 (trn 1 (ofl [14, 132, 63, 196, 252, 66, 59, 109, 80, 171, 235, 75, 107, 235, 171, 193]))) i := by decide +kernel
set_option maxRecDepth 100000 in
theorem se_5r : ∀ i, i < 16 → ofl [190, 46, 174, 196, 6, 16, 40, 161, 36, 68, 184, 206, 17, 64, 72, 155] i = adk (ofl KX) 5 (mix m1 (trn 1 (ofl [192, 165, 16, 251, 37, 120, 71, 13, 170, 186, 91, 166, 135, 157, 30, 34]))) i := by decide +kernel
set_option maxRecDepth 100000 in
theorem se_6r : ∀ i, i < 16 → ofl [23, 9, 35, 29, 172, 184, 202, 61, 122, 216, 60, 146, 57, 55, 206, 104] i = adk (ofl KX) 6 (mix m1 (trn 1 (ofl [174, 49, 228, 28, 111, 202, 52, 50, 54, 27, 108, 139, 130, 9, 82, 20]))) i := by decide +kernel
set_option maxRecDepth 100000 in
theorem se_7r : ∀ i, i < 16 → ofl [175, 31, 105, 8, 234, 46, 195, 226, 159, 30, 42, 53, 82, 101, 246, 146] i = adk (ofl KX) 7 (mix m1 (trn 1 (ofl [240, 1, 38, 164, 145, 108, 116, 39, 218, 97, 235, 79, 18, 154, 139, 69]))) i := by decide +kernel
set_option maxRecDepth 100000 in
theorem se_8r : ∀ i, i < 16 → ofl [225, 178, 59, 224, 68, 24, 155, 16, 42, 226, 57, 137, 156, 242, 20, 246] i = adk (ofl KX) 8 (mix m1 (trn 1 (ofl [121, 192, 249, 48, 135, 49, 46, 152, 219, 114, 229, 150, 0, 77, 66, 79]))) i := by decide +kernel
set_option maxRecDepth 100000 in
theorem se_9r : ∀ i, i < 16 → ofl [251, 186, 209, 219, 135, 62, 136, 183, 81, 202, 223, 145, 26, 119, 51, 97] i = adk (ofl KX) 9 (mix m1 (trn 1 (ofl [248, 55, 226, 225, 27, 173, 20, 202, 229, 152, 18, 167, 222, 137, 250, 66]))) i := by decide +kernel
set_option maxRecDepth 100000 in
theorem se_10r : ∀ i, i < 16 → ofl [223, 166, 103, 71, 222, 154, 230, 48, 48, 202, 50, 97, 20, 151, 200, 39] i = adk (ofl KX) 10 (trn 1 (ofl [15, 244, 62, 185, 23, 178, 196, 169, 209, 116, 158, 129, 162, 245, 195, 239])) i := by decide +kernel
theorem se_r (r : Nat) (hr : r < 10) (i : Nat) (hi : i < 16) : ofl (Se.getD (r + 1) []) i = rnd (ofl KX) 10 (r + 1) (ofl (Se.getD r [])) i := by
  rw [rnd_c _ _ _ _ (ofl (Ce.getD r [])) (fun i hi => by rw [box_bx _ (se_b r hr i hi)]; exact ce_r r hr i hi) i hi]
  match r, hr with
  | 0, _ => exact se_1r i hi
  | 1, _ => exact se_2r i hi
  | 2, _ => exact se_3r i hi
  | 3, _ => exact se_4r i hi
  | 4, _ => exact se_5r i hi
  | 5, _ => exact se_6r i hi
  | 6, _ => exact se_7r i hi
  | 7, _ => exact se_8r i hi
  | 8, _ => exact se_9r i hi
  | 9, _ => exact se_10r i hi
theorem ene : E16 (enc (ofl KX) 10 (ofl Be)) (ofl [223, 166, 103, 71, 222, 154, 230, 48, 48, 202, 50, 97, 20, 151, 200, 39]) := enc_lit (ofl KX) 10 (ofl Be) Se se_0 se_r
end Go.Proofs.YtbgdjjfonmoemaaDoor.Vm
namespace Go.Proofs.YtbgdjjfonmoemaaDoor.Vm
open Go.Proofs.YtbgdjjfonmoemaaDoor.Gf Go.Proofs.YtbgdjjfonmoemaaDoor.Ae
def XK : List Nat := [43, 126, 21, 22, 40, 174, 210, 166, 171, 247, 21, 136, 9, 207, 79, 60]
def XT : List Nat := [107, 193, 190, 226, 46, 64, 159, 150, 233, 61, 126, 17, 115, 147, 23, 42, 174, 45, 138, 87, 30, 3, 172, 156, 158, 183, 111, 172, 69, 175, 142, 81, 48, 200, 28, 70, 163, 92, 228, 17]
set_option maxRecDepth 100000 in
theorem kx_key : ∀ p, p < 16 → ofl KX p = ofl XK p := by decide +kernel
/-- The example key's round keys. -/
theorem xk_wds (key : Nat → Nat) (hk : ∀ p, p < 16 → key p = ofl XK p) : ∀ p, p < 176 → wds 4 key 40 p = ofl KX p := fun p hp => wds_lit 4 40 (by decide) key KX (fun p hp => by rw [kx_key p (by omega), hk p (by omega)]) kx_nxt p (by omega)
set_option maxRecDepth 100000 in
theorem k1_e : ∀ i, i < 16 → dbl (ofl [125, 247, 107, 12, 26, 184, 153, 179, 62, 66, 240, 71, 185, 27, 84, 111]) i = ofl [251, 238, 214, 24, 53, 113, 51, 102, 124, 133, 224, 143, 114, 54, 168, 222] i := by decide +kernel
set_option maxRecDepth 100000 in
theorem k2_e : ∀ i, i < 16 → dbl (ofl [251, 238, 214, 24, 53, 113, 51, 102, 124, 133, 224, 143, 114, 54, 168, 222]) i = ofl [247, 221, 172, 48, 106, 226, 102, 204, 249, 11, 193, 30, 228, 109, 81, 59] i := by decide +kernel
theorem bl_z : ∀ i, i < 16 → nought i = ofl Bl i := by decide +kernel
theorem x1 : E16 (sk1 (ofl KX) 10) (ofl [251, 238, 214, 24, 53, 113, 51, 102, 124, 133, 224, 143, 114, 54, 168, 222]) := (dbl_e ((enc_e _ _ bl_z).trans enl)).trans k1_e
theorem x2 : E16 (sk2 (ofl KX) 10) (ofl [247, 221, 172, 48, 106, 226, 102, 204, 249, 11, 193, 30, 228, 109, 81, 59]) := (dbl_e x1).trans k2_e
set_option maxRecDepth 100000 in
theorem ta_b : ∀ i, i < 16 → xr (xr nought (fun i => if i = 0 then 128 else 0)) (ofl [247, 221, 172, 48, 106, 226, 102, 204, 249, 11, 193, 30, 228, 109, 81, 59]) i = ofl Ba i := by decide +kernel
set_option maxRecDepth 100000 in
theorem tb_b : ∀ i, i < 16 → xr (ofl XT) (ofl [251, 238, 214, 24, 53, 113, 51, 102, 124, 133, 224, 143, 114, 54, 168, 222]) i = ofl Bb i := by decide +kernel
set_option maxRecDepth 100000 in
theorem tc_b : ∀ i, i < 16 → ofl XT i = ofl Bc i := by decide +kernel
set_option maxRecDepth 100000 in
theorem td_b : ∀ i, i < 16 → xr (ofl [58, 215, 123, 180, 13, 122, 54, 96, 168, 158, 202, 243, 36, 102, 239, 151]) (mbk (ofl XT) 1) i = ofl Bd i := by decide +kernel
set_option maxRecDepth 100000 in
theorem te_b : ∀ i, i < 16 → xr (ofl [177, 72, 193, 127, 48, 158, 230, 146, 40, 122, 229, 124, 241, 42, 221, 73]) (xr (mrk (ofl XT) 40) (ofl [247, 221, 172, 48, 106, 226, 102, 204, 249, 11, 193, 30, 228, 109, 81, 59])) i = ofl Be i := by decide +kernel
def TA : List Nat := [187, 29, 105, 41, 233, 89, 55, 40, 127, 163, 125, 18, 155, 117, 103, 70]
def TB : List Nat := [7, 10, 22, 180, 107, 77, 65, 68, 247, 155, 221, 157, 208, 74, 40, 124]
def TC : List Nat := [223, 166, 103, 71, 222, 154, 230, 48, 48, 202, 50, 97, 20, 151, 200, 39]
theorem xr_nought (b : Nat → Nat) : xr nought b = b := by funext i; unfold xr nought; rw [Nat.zero_xor]
theorem mrk0 (f : Nat → Nat) (i : Nat) : mrk f 0 i = if i = 0 then 128 else 0 := by
  show (if i = ctn 0 then 128 else wtn f 0 i) = _
  rw [show ctn 0 = 0 from rfl]
  split
  · rfl
  · unfold wtn; rw [show ctn 0 = 0 from rfl, if_neg (by omega)]
theorem tag0 (f : Nat → Nat) : E16 (tgn (ofl KX) 10 f 0) (ofl TA) := by
  have e : E16 (xr (chn (ofl KX) 10 f (nbl 0)) (lstb (ofl KX) 10 f 0)) (ofl Ba) := by
    show E16 (xr nought (lstb (ofl KX) 10 f 0)) _
    rw [xr_nought, show lstb (ofl KX) 10 f 0 = xr (mrk f 0) (sk2 (ofl KX) 10) from if_neg (by decide)]
    refine (xr_e (fun i _ => ?_) x2).trans ta_b
    rw [xr_nought, mrk0]
  exact (enc_e _ _ e).trans ena
theorem tag16 : E16 (tgn (ofl KX) 10 (ofl XT) 16) (ofl TB) := by
  have e : E16 (xr (chn (ofl KX) 10 (ofl XT) (nbl 16)) (lstb (ofl KX) 10 (ofl XT) 16)) (ofl Bb) := by
    show E16 (xr nought (lstb (ofl KX) 10 (ofl XT) 16)) _
    rw [xr_nought, show lstb (ofl KX) 10 (ofl XT) 16 = xr (wtn (ofl XT) 16) (sk1 (ofl KX) 10) from if_pos (by decide)]
    refine (xr_e (fun i hi => ?_) x1).trans tb_b
    show (if i < ctn 16 then ofl XT (16 * nbl 16 + i) else 0) = _
    rw [show ctn 16 = 16 from rfl, if_pos hi, show nbl 16 = 0 from rfl, Nat.mul_zero, Nat.zero_add]
  exact (enc_e _ _ e).trans enb
theorem ch1 : E16 (chn (ofl KX) 10 (ofl XT) 1) (ofl [58, 215, 123, 180, 13, 122, 54, 96, 168, 158, 202, 243, 36, 102, 239, 151]) := by
  show E16 (enc (ofl KX) 10 (xr nought (mbk (ofl XT) 0))) _
  rw [xr_nought]
  refine (enc_e _ _ (fun i hi => ?_)).trans enc_c
  show ofl XT (16 * 0 + i) = _
  rw [Nat.mul_zero, Nat.zero_add]; exact tc_b i hi
theorem ch2 : E16 (chn (ofl KX) 10 (ofl XT) 2) (ofl [177, 72, 193, 127, 48, 158, 230, 146, 40, 122, 229, 124, 241, 42, 221, 73]) := (enc_e _ _ ((xr_e ch1 (E16.refl _)).trans td_b)).trans end_d
theorem tag40 : E16 (tgn (ofl KX) 10 (ofl XT) 40) (ofl TC) := by
  have e : E16 (xr (chn (ofl KX) 10 (ofl XT) (nbl 40)) (lstb (ofl KX) 10 (ofl XT) 40)) (ofl Be) := by
    show E16 (xr (chn (ofl KX) 10 (ofl XT) 2) (lstb (ofl KX) 10 (ofl XT) 40)) _
    rw [show lstb (ofl KX) 10 (ofl XT) 40 = xr (mrk (ofl XT) 40) (sk2 (ofl KX) 10) from if_neg (by decide)]
    exact (xr_e ch2 (xr_e (E16.refl _) x2)).trans te_b
  exact (enc_e _ _ e).trans ene
/-- Tags under round keys that agree with these. -/
theorem tgn_k {ws ws' : Nat → Nat} {r : Nat} (h : ∀ p, p < 16 * (r + 1) → ws p = ws' p) (f : Nat → Nat) (n : Nat) : E16 (tgn ws r f n) (tgn ws' r f n) := by
  have e1 : E16 (sk1 ws r) (sk1 ws' r) := dbl_e (enc_k h nought)
  have e2 : E16 (sk2 ws r) (sk2 ws' r) := dbl_e e1
  have ec : ∀ j, E16 (chn ws r f j) (chn ws' r f j) := fun j => by
    induction j with
    | zero => exact E16.refl _
    | succ j ih => exact (enc_e ws r (xr_e ih (E16.refl _))).trans (enc_k h _)
  have el : E16 (lstb ws r f n) (lstb ws' r f n) := by
    unfold lstb
    split
    · exact xr_e (E16.refl _) e1
    · exact xr_e (E16.refl _) e2
  exact (enc_e ws r (xr_e (ec _) el)).trans (enc_k h _)
end Go.Proofs.YtbgdjjfonmoemaaDoor.Vm
