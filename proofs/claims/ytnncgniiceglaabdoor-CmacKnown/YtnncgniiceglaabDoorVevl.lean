/- CMAC's examples, reckoned by the kernel out of literals: the example key's round keys, what stands behind each round of six blocks. -/
import Derived.Test.YtnncgniiceglaabDoorVnum
import Derived.Test.YtnncgniiceglaabDoorYc
namespace Go.Proofs.YtnncgniiceglaabDoor.Vm
open Go.Proofs.YtnncgniiceglaabDoor.Gf Go.Proofs.YtnncgniiceglaabDoor.Ae
def KX : List Nat := [43, 126, 21, 22, 40, 174, 210, 166, 171, 247, 21, 136, 9, 207, 79, 60, 160, 250, 254, 23, 136, 84, 44, 177, 35, 163, 57, 57, 42, 108, 118, 5, 242, 194, 149, 242, 122, 150, 185, 67, 89, 53, 128, 122, 115, 89, 246, 127, 61, 128, 71, 125, 71, 22, 254, 62, 30, 35, 126, 68, 109, 122, 136, 59, 239, 68, 165, 65, 168, 82, 91, 127, 182, 113, 37, 59, 219, 11, 173, 0, 212, 209, 198, 248, 124, 131, 157, 135, 202, 242, 184, 188, 17, 249, 21, 188, 109, 136, 163, 122, 17, 11, 62, 253, 219, 249, 134, 65, 202, 0, 147, 253, 78, 84, 247, 14, 95, 95, 201, 243, 132, 166, 79, 178, 78, 166, 220, 79, 234, 210, 115, 33, 181, 141, 186, 210, 49, 43, 245, 96, 127, 141, 41, 47, 172, 119, 102, 243, 25, 250, 220, 33, 40, 209, 41, 65, 87, 92, 0, 110, 208, 20, 249, 168, 201, 238, 37, 137, 225, 63, 12, 200, 182, 99, 12, 166]
set_option maxRecDepth 100000 in
theorem kx_b : ∀ p, ofl KX p < 256 := ofl_lt KX (by decide +kernel)
set_option maxRecDepth 100000 in
theorem kx_nx : ∀ i, i < 40 → ∀ j, j < 4 → ofl KX (4 * (4 + i) + j) = nxtT 4 (4 + i) (ofl KX) j := by decide +kernel
theorem kx_nxt (i : Nat) (hi : i < 40) (j : Nat) (hj : j < 4) : ofl KX (4 * (4 + i) + j) = nxt 4 (4 + i) (ofl KX) j := by
  rw [nxt_T _ _ _ _ kx_b (by have := Nat.div_le_div_right (c := 4) (show 4 + i ≤ 43 by omega); omega)]
  exact kx_nx i hi j hj
def Sl : List (List Nat) := [[43, 126, 21, 22, 40, 174, 210, 166, 171, 247, 21, 136, 9, 207, 79, 60], [220, 216, 127, 111, 155, 96, 170, 143, 31, 1, 15, 4, 87, 144, 162, 211], [158, 3, 133, 9, 68, 156, 70, 114, 195, 43, 10, 117, 56, 221, 130, 160], [213, 101, 103, 2, 107, 192, 49, 243, 205, 118, 100, 224, 41, 248, 252, 50], [92, 206, 255, 251, 217, 225, 254, 152, 156, 215, 223, 57, 123, 135, 232, 167], [145, 149, 183, 248, 144, 19, 154, 83, 4, 126, 151, 72, 124, 17, 228, 203], [100, 111, 117, 41, 247, 108, 188, 69, 253, 25, 147, 166, 126, 197, 52, 251], [235, 199, 86, 89, 85, 9, 177, 214, 46, 119, 46, 169, 17, 149, 33, 196], [13, 118, 221, 9, 100, 87, 20, 72, 106, 112, 150, 95, 42, 8, 136, 1], [24, 193, 85, 162, 169, 77, 94, 115, 239, 185, 116, 18, 251, 19, 120, 29], [125, 247, 107, 12, 26, 184, 153, 179, 62, 66, 240, 71, 185, 27, 84, 111]]
def Cl : List (List Nat) := [[241, 243, 89, 71, 52, 228, 181, 36, 98, 104, 89, 196, 1, 138, 132, 235], [134, 97, 210, 168, 20, 208, 172, 115, 192, 124, 118, 242, 91, 96, 58, 102], [11, 123, 151, 1, 27, 222, 90, 64, 46, 241, 103, 157, 7, 193, 19, 224], [3, 77, 133, 119, 127, 186, 199, 13, 189, 56, 67, 225, 165, 65, 176, 35], [74, 139, 22, 15, 53, 248, 187, 70, 222, 14, 158, 18, 33, 23, 155, 92], [129, 42, 169, 65, 96, 125, 184, 237, 242, 243, 136, 82, 16, 130, 105, 31], [67, 168, 157, 165, 104, 80, 101, 110, 84, 212, 220, 36, 243, 166, 24, 15], [233, 198, 177, 203, 252, 1, 200, 246, 49, 245, 49, 211, 130, 42, 253, 28], [215, 56, 193, 1, 67, 91, 250, 82, 2, 81, 144, 207, 229, 48, 196, 124], [173, 120, 252, 58, 211, 227, 88, 143, 223, 86, 146, 201, 15, 125, 188, 164]]
def Bl : List Nat := [0, 0, 0, 0, 0, 0, 0, 0, 0, 0, 0, 0, 0, 0, 0, 0]
set_option maxRecDepth 100000 in
theorem sl_0 : ∀ i, i < 16 → ofl (Sl.getD 0 []) i = adk (ofl KX) 0 (ofl Bl) i := by decide +kernel
set_option maxRecDepth 100000 in
theorem sl_b : ∀ r, r < 10 → ∀ i, i < 16 → ofl (Sl.getD r []) i < 256 := by decide +kernel
set_option maxRecDepth 100000 in
theorem cl_r : ∀ r, r < 10 → ∀ i, i < 16 → ofl (Cl.getD r []) i = bx (ofl (Sl.getD r []) i) := by decide +kernel
set_option maxRecDepth 100000 in
theorem sl_1r : ∀ i, i < 16 → ofl [220, 216, 127, 111, 155, 96, 170, 143, 31, 1, 15, 4, 87, 144, 162, 211] i = adk (ofl KX) 1 (mix m1 (trn 1 (ofl [241, 243, 89, 71, 52, 228, 181, 36, 98, 104, 89, 196, 1, 138, 132, 235]))) i := by decide +kernel
set_option maxRecDepth 100000 in
theorem sl_2r : ∀ i, i < 16 → ofl [158, 3, 133, 9, 68, 156, 70, 114, 195, 43, 10, 117, 56, 221, 130, 160] i = adk (ofl KX) 2 (mix m1 (trn 1 (ofl [134, 97, 210, 168, 20, 208, 172, 115, 192, 124, 118, 242, 91, 96, 58, 102]))) i := by decide +kernel
set_option maxRecDepth 100000 in
theorem sl_3r : ∀ i, i < 16 → ofl [213, 101, 103, 2, 107, 192, 49, 243, 205, 118, 100, 224, 41, 248, 252, 50] i = adk (ofl KX) 3 (mix m1 (trn 1 (ofl [11, 123, 151, 1, 27, 222, 90, 64, 46, 241, 103, 157, 7, 193, 19, 224]))) i := by decide +kernel
set_option maxRecDepth 100000 in
theorem sl_4r : ∀ i, i < 16 → ofl [92, 206, 255, 251, 217, 225, 254, 152, 156, 215, 223, 57, 123, 135, 232, 167] i = adk (ofl KX) 4 (mix m1 (trn 1 (ofl [3, 77, 133, 119, 127, 186, 199, 13, 189, 56, 67, 225, 165, 65, 176, 35]))) i := by decide +kernel
set_option maxRecDepth 100000 in
theorem sl_5r : ∀ i, i < 16 → ofl [145, 149, 183, 248, 144, 19, 154, 83, 4, 126, 151, 72, 124, 17, 228, 203] i = adk (ofl KX) 5 (mix m1 (trn 1 (ofl [74, 139, 22, 15, 53, 248, 187, 70, 222, 14, 158, 18, 33, 23, 155, 92]))) i := by decide +kernel
set_option maxRecDepth 100000 in
theorem sl_6r : ∀ i, i < 16 → ofl [100, 111, 117, 41, 247, 108, 188, 69, 253, 25, 147, 166, 126, 197, 52, 251] i = adk (ofl KX) 6 (mix m1 (trn 1 (ofl [129, 42, 169, 65, 96, 125, 184, 237, 242, 243, 136, 82, 16, 130, 105, 31]))) i := by decide +kernel
set_option maxRecDepth 100000 in
theorem sl_7r : ∀ i, i < 16 → ofl [235, 199, 86, 89, 85, 9, 177, 214, 46, 119, 46, 169, 17, 149, 33, 196] i = adk (ofl KX) 7 (mix m1 (trn 1 (ofl [67, 168, 157, 165, 104, 80, 101, 110, 84, 212, 220, 36, 243, 166, 24, 15]))) i := by decide +kernel
set_option maxRecDepth 100000 in
theorem sl_8r : ∀ i, i < 16 → ofl [13, 118, 221, 9, 100, 87, 20, 72, 106, 112, 150, 95, 42, 8, 136, 1] i = adk (ofl KX) 8 (mix m1 (trn 1 (ofl [233, 198, 177, 203, 252, 1, 200, 246, 49, 245, 49, 211, 130, 42, 253, 28]))) i := by decide +kernel
set_option maxRecDepth 100000 in
theorem sl_9r : ∀ i, i < 16 → ofl [24, 193, 85, 162, 169, 77, 94, 115, 239, 185, 116, 18, 251, 19, 120, 29] i = adk (ofl KX) 9 (mix m1 (trn 1 (ofl [215, 56, 193, 1, 67, 91, 250, 82, 2, 81, 144, 207, 229, 48, 196, 124]))) i := by decide +kernel
set_option maxRecDepth 100000 in
theorem sl_10r : ∀ i, i < 16 → ofl [125, 247, 107, 12, 26, 184, 153, 179, 62, 66, 240, 71, 185, 27, 84, 111] i = adk (ofl KX) 10 (trn 1 (ofl [173, 120, 252, 58, 211, 227, 88, 143, 223, 86, 146, 201, 15, 125, 188, 164])) i := by decide +kernel
theorem sl_r (r : Nat) (hr : r < 10) (i : Nat) (hi : i < 16) : ofl (Sl.getD (r + 1) []) i = rnd (ofl KX) 10 (r + 1) (ofl (Sl.getD r [])) i := by
  rw [rnd_c _ _ _ _ (ofl (Cl.getD r [])) (fun i hi => by rw [box_bx _ (sl_b r hr i hi)]; exact cl_r r hr i hi) i hi]
  match r, hr with
  | 0, _ => exact sl_1r i hi
  | 1, _ => exact sl_2r i hi
  | 2, _ => exact sl_3r i hi
  | 3, _ => exact sl_4r i hi
  | 4, _ => exact sl_5r i hi
  | 5, _ => exact sl_6r i hi
  | 6, _ => exact sl_7r i hi
  | 7, _ => exact sl_8r i hi
  | 8, _ => exact sl_9r i hi
  | 9, _ => exact sl_10r i hi
theorem enl : E16 (enc (ofl KX) 10 (ofl Bl)) (ofl [125, 247, 107, 12, 26, 184, 153, 179, 62, 66, 240, 71, 185, 27, 84, 111]) := enc_lit (ofl KX) 10 (ofl Bl) Sl sl_0 sl_r
def Sa : List (List Nat) := [[92, 163, 185, 38, 66, 76, 180, 106, 82, 252, 212, 150, 237, 162, 30, 7], [194, 255, 89, 57, 158, 98, 86, 242, 57, 47, 169, 81, 131, 49, 131, 70], [212, 156, 73, 80, 173, 138, 82, 131, 109, 125, 88, 73, 234, 128, 29, 78], [106, 165, 212, 239, 155, 194, 50, 103, 253, 63, 214, 53, 58, 97, 156, 1], [14, 113, 241, 108, 30, 10, 231, 77, 249, 189, 154, 113, 127, 116, 204, 137], [47, 192, 147, 148, 13, 136, 243, 128, 12, 79, 212, 226, 103, 114, 169, 187], [178, 60, 199, 6, 194, 131, 182, 140, 237, 53, 215, 69, 155, 101, 5, 245], [231, 84, 1, 98, 176, 159, 29, 191, 91, 92, 108, 14, 96, 195, 13, 10], [152, 124, 53, 195, 195, 54, 71, 50, 69, 194, 2, 105, 171, 65, 108, 141], [5, 255, 44, 241, 84, 64, 5, 122, 223, 32, 150, 160, 250, 28, 57, 145], [187, 29, 105, 41, 233, 89, 55, 40, 127, 163, 125, 18, 155, 117, 103, 70]]
def Ca : List (List Nat) := [[74, 10, 86, 247, 44, 41, 141, 2, 0, 176, 72, 144, 85, 58, 114, 197], [37, 22, 203, 18, 11, 170, 177, 137, 18, 21, 211, 209, 236, 199, 236, 90], [72, 222, 59, 83, 149, 126, 0, 236, 60, 255, 106, 59, 135, 205, 164, 47], [2, 6, 72, 223, 20, 37, 35, 133, 84, 117, 246, 150, 128, 239, 222, 124], [171, 163, 161, 80, 114, 103, 148, 227, 153, 122, 184, 163, 210, 146, 75, 167], [21, 186, 220, 34, 215, 196, 13, 205, 254, 132, 72, 152, 133, 64, 211, 234], [55, 235, 198, 111, 37, 236, 78, 100, 85, 150, 14, 110, 20, 77, 107, 230], [148, 32, 124, 170, 231, 219, 164, 8, 57, 74, 80, 171, 208, 46, 215, 103], [70, 16, 150, 46, 46, 5, 160, 35, 110, 37, 119, 249, 98, 131, 80, 93], [107, 22, 113, 161, 32, 9, 107, 218, 158, 183, 144, 224, 45, 156, 18, 129]]
def Ba : List Nat := [119, 221, 172, 48, 106, 226, 102, 204, 249, 11, 193, 30, 228, 109, 81, 59]
set_option maxRecDepth 100000 in
theorem sa_0 : ∀ i, i < 16 → ofl (Sa.getD 0 []) i = adk (ofl KX) 0 (ofl Ba) i := by decide +kernel
set_option maxRecDepth 100000 in
theorem sa_b : ∀ r, r < 10 → ∀ i, i < 16 → ofl (Sa.getD r []) i < 256 := by decide +kernel
set_option maxRecDepth 100000 in
theorem ca_r : ∀ r, r < 10 → ∀ i, i < 16 → ofl (Ca.getD r []) i = bx (ofl (Sa.getD r []) i) := by decide +kernel
set_option maxRecDepth 100000 in
theorem sa_1r : ∀ i, i < 16 → ofl [194, 255, 89, 57, 158, 98, 86, 242, 57, 47, 169, 81, 131, 49, 131, 70] i = adk (ofl KX) 1 (mix m1 (trn 1 (ofl [74, 10, 86, 247, 44, 41, 141, 2, 0, 176, 72, 144, 85, 58, 114, 197]))) i := by decide +kernel
set_option maxRecDepth 100000 in
theorem sa_2r : ∀ i, i < 16 → ofl [212, 156, 73, 80, 173, 138, 82, 131, 109, 125, 88, 73, 234, 128, 29, 78] i = adk (ofl KX) 2 (mix m1 (trn 1 (ofl [37, 22, 203, 18, 11, 170, 177, 137, 18, 21, 211, 209, 236, 199, 236, 90]))) i := by decide +kernel
set_option maxRecDepth 100000 in
theorem sa_3r : ∀ i, i < 16 → ofl [106, 165, 212, 239, 155, 194, 50, 103, 253, 63, 214, 53, 58, 97, 156, 1] i = adk (ofl KX) 3 (mix m1 (trn 1 (ofl [72, 222, 59, 83, 149, 126, 0, 236, 60, 255, 106, 59, 135, 205, 164, 47]))) i := by decide +kernel
set_option maxRecDepth 100000 in
theorem sa_4r : ∀ i, i < 16 → ofl [14, 113, 241, 108, 30, 10, 231, 77, 249, 189, 154, 113, 127, 116, 204, 137] i = adk (ofl KX) 4 (mix m1 (trn 1 (ofl [2, 6, 72, 223, 20, 37, 35, 133, 84, 117, 246, 150, 128, 239, 222, 124]))) i := by decide +kernel
set_option maxRecDepth 100000 in
theorem sa_5r : ∀ i, i < 16 → ofl [47, 192, 147, 148, 13, 136, 243, 128, 12, 79, 212, 226, 103, 114, 169, 187] i = adk (ofl KX) 5 (mix m1 (trn 1 (ofl [171, 163, 161, 80, 114, 103, 148, 227, 153, 122, 184, 163, 210, 146, 75, 167]))) i := by decide +kernel
set_option maxRecDepth 100000 in
theorem sa_6r : ∀ i, i < 16 → ofl [178, 60, 199, 6, 194, 131, 182, 140, 237, 53, 215, 69, 155, 101, 5, 245] i = adk (ofl KX) 6 (mix m1 (trn 1 (ofl [21, 186, 220, 34, 215, 196, 13, 205, 254, 132, 72, 152, 133, 64, 211, 234]))) i := by decide +kernel
set_option maxRecDepth 100000 in
theorem sa_7r : ∀ i, i < 16 → ofl [231, 84, 1, 98, 176, 159, 29, 191, 91, 92, 108, 14, 96, 195, 13, 10] i = adk (ofl KX) 7 (mix m1 (trn 1 (ofl [55, 235, 198, 111, 37, 236, 78, 100, 85, 150, 14, 110, 20, 77, 107, 230]))) i := by decide +kernel
set_option maxRecDepth 100000 in
theorem sa_8r : ∀ i, i < 16 → ofl [152, 124, 53, 195, 195, 54, 71, 50, 69, 194, 2, 105, 171, 65, 108, 141] i = adk (ofl KX) 8 (mix m1 (trn 1 (ofl [148, 32, 124, 170, 231, 219, 164, 8, 57, 74, 80, 171, 208, 46, 215, 103]))) i := by decide +kernel
set_option maxRecDepth 100000 in
theorem sa_9r : ∀ i, i < 16 → ofl [5, 255, 44, 241, 84, 64, 5, 122, 223, 32, 150, 160, 250, 28, 57, 145] i = adk (ofl KX) 9 (mix m1 (trn 1 (ofl [70, 16, 150, 46, 46, 5, 160, 35, 110, 37, 119, 249, 98, 131, 80, 93]))) i := by decide +kernel
set_option maxRecDepth 100000 in
theorem sa_10r : ∀ i, i < 16 → ofl [187, 29, 105, 41, 233, 89, 55, 40, 127, 163, 125, 18, 155, 117, 103, 70] i = adk (ofl KX) 10 (trn 1 (ofl [107, 22, 113, 161, 32, 9, 107, 218, 158, 183, 144, 224, 45, 156, 18, 129])) i := by decide +kernel
theorem sa_r (r : Nat) (hr : r < 10) (i : Nat) (hi : i < 16) : ofl (Sa.getD (r + 1) []) i = rnd (ofl KX) 10 (r + 1) (ofl (Sa.getD r [])) i := by
  rw [rnd_c _ _ _ _ (ofl (Ca.getD r [])) (fun i hi => by rw [box_bx _ (sa_b r hr i hi)]; exact ca_r r hr i hi) i hi]
  match r, hr with
  | 0, _ => exact sa_1r i hi
  | 1, _ => exact sa_2r i hi
  | 2, _ => exact sa_3r i hi
  | 3, _ => exact sa_4r i hi
  | 4, _ => exact sa_5r i hi
  | 5, _ => exact sa_6r i hi
  | 6, _ => exact sa_7r i hi
  | 7, _ => exact sa_8r i hi
  | 8, _ => exact sa_9r i hi
  | 9, _ => exact sa_10r i hi
theorem ena : E16 (enc (ofl KX) 10 (ofl Ba)) (ofl [187, 29, 105, 41, 233, 89, 55, 40, 127, 163, 125, 18, 155, 117, 103, 70]) := enc_lit (ofl KX) 10 (ofl Ba) Sa sa_0 sa_r
end Go.Proofs.YtnncgniiceglaabDoor.Vm
