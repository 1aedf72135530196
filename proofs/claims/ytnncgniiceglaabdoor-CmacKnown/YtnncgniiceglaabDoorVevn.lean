/- CMAC's examples: two blocks more. -/
import Derived.Test.YtnncgniiceglaabDoorVevl
namespace Go.Proofs.YtnncgniiceglaabDoor.Vm
open Go.Proofs.YtnncgniiceglaabDoor.Gf Go.Proofs.YtnncgniiceglaabDoor.Ae
def Sd : List (List Nat) := [[191, 132, 228, 245, 59, 215, 72, 90, 157, 222, 176, 215, 104, 6, 46, 250], [104, 241, 90, 188, 167, 57, 128, 119, 249, 38, 3, 186, 29, 111, 218, 219], [140, 151, 228, 61, 242, 163, 19, 205, 216, 203, 210, 45, 225, 28, 117, 23], [174, 196, 83, 149, 213, 58, 32, 114, 183, 103, 141, 115, 160, 214, 113, 118], [194, 100, 51, 219, 179, 148, 254, 8, 83, 67, 123, 64, 28, 158, 174, 149], [243, 249, 253, 192, 213, 84, 233, 167, 229, 103, 147, 56, 69, 60, 188, 233], [213, 164, 15, 173, 92, 12, 167, 119, 92, 77, 248, 54, 191, 98, 81, 198], [164, 199, 79, 199, 177, 53, 125, 46, 118, 204, 71, 65, 220, 221, 42, 72], [43, 5, 1, 104, 192, 33, 185, 168, 172, 44, 76, 15, 69, 5, 18, 154], [216, 164, 235, 68, 105, 167, 81, 198, 18, 208, 118, 97, 22, 104, 51, 13], [177, 72, 193, 127, 48, 158, 230, 146, 40, 122, 229, 124, 241, 42, 221, 73]]
def Cd : List (List Nat) := [[8, 95, 105, 230, 226, 14, 82, 190, 94, 29, 231, 14, 69, 111, 49, 45], [69, 161, 190, 101, 92, 18, 205, 245, 153, 247, 123, 244, 164, 168, 87, 185], [100, 136, 105, 39, 137, 10, 125, 189, 97, 31, 181, 216, 248, 156, 157, 240], [228, 28, 237, 42, 3, 128, 183, 64, 169, 133, 93, 143, 224, 246, 163, 56], [37, 67, 195, 185, 109, 34, 187, 48, 237, 26, 33, 9, 156, 11, 228, 42], [13, 153, 84, 186, 3, 32, 30, 92, 217, 133, 220, 7, 110, 235, 101, 30], [3, 73, 118, 149, 74, 254, 92, 245, 74, 227, 65, 5, 8, 170, 209, 180], [73, 198, 132, 198, 200, 150, 255, 49, 56, 75, 160, 131, 134, 193, 229, 82], [241, 107, 124, 69, 186, 253, 86, 194, 145, 113, 41, 118, 110, 107, 201, 184], [97, 73, 233, 27, 249, 92, 209, 180, 201, 112, 56, 239, 71, 69, 195, 215]]
def Bd : List Nat := [148, 250, 241, 227, 19, 121, 154, 252, 54, 41, 165, 95, 97, 201, 97, 198]
set_option maxRecDepth 100000 in
theorem sd_0 : ∀ i, i < 16 → ofl (Sd.getD 0 []) i = adk (ofl KX) 0 (ofl Bd) i := by decide +kernel
set_option maxRecDepth 100000 in
theorem sd_b : ∀ r, r < 10 → ∀ i, i < 16 → ofl (Sd.getD r []) i < 256 := by decide +kernel
set_option maxRecDepth 100000 in
theorem cd_r : ∀ r, r < 10 → ∀ i, i < 16 → ofl (Cd.getD r []) i = bx (ofl (Sd.getD r []) i) := by decide +kernel
set_option maxRecDepth 100000 in
theorem sd_1r : ∀ i, i < 16 → ofl [104, 241, 90, 188, 167, 57, 128, 119, 249, 38, 3, 186, 29, 111, 218, 219] i = adk (ofl KX) 1 (mix m1 (trn 1 (ofl [8, 95, 105, 230, 226, 14, 82, 190, 94, 29, 231, 14, 69, 111, 49, 45]))) i := by decide +kernel
set_option maxRecDepth 100000 in
theorem sd_2r : ∀ i, i < 16 → ofl [140, 151, 228, 61, 242, 163, 19, 205, 216, 203, 210, 45, 225, 28, 117, 23] i = adk (ofl KX) 2 (mix m1 (trn 1 (ofl [69, 161, 190, 101, 92, 18, 205, 245, 153, 247, 123, 244, 164, 168, 87, 185]))) i := by decide +kernel
set_option maxRecDepth 100000 in
theorem sd_3r : ∀ i, i < 16 → ofl [174, 196, 83, 149, 213, 58, 32, 114, 183, 103, 141, 115, 160, 214, 113, 118] i = adk (ofl KX) 3 (mix m1 (trn 1 (ofl [100, 136, 105, 39, 137, 10, 125, 189, 97, 31, 181, 216, 248, 156, 157, 240]))) i := by decide +kernel
set_option maxRecDepth 100000 in
theorem sd_4r : ∀ i, i < 16 → ofl [194, 100, 51, 219, 179, 148, 254, 8, 83, 67, 123, 64, 28, 158, 174, 149] i = adk (ofl KX) 4 (mix m1 (trn 1 (ofl [228, 28, 237, 42, 3, 128, 183, 64, 169, 133, 93, 143, 224, 246, 163, 56]))) i := by decide +kernel
set_option maxRecDepth 100000 in
theorem sd_5r : ∀ i, i < 16 → ofl [243, 249, 253, 192, 213, 84, 233, 167, 229, 103, 147, 56, 69, 60, 188, 233] i = adk (ofl KX) 5 (mix m1 (trn 1 (ofl [37, 67, 195, 185, 109, 34, 187, 48, 237, 26, 33, 9, 156, 11, 228, 42]))) i := by decide +kernel
set_option maxRecDepth 100000 in
theorem sd_6r : ∀ i, i < 16 → ofl [213, 164, 15, 173, 92, 12, 167, 119, 92, 77, 248, 54, 191, 98, 81, 198] i = adk (ofl KX) 6 (mix m1 (trn 1 (ofl [13, 153, 84, 186, 3, 32, 30, 92, 217, 133, 220, 7, 110, 235, 101, 30]))) i := by decide +kernel
set_option maxRecDepth 100000 in
theorem sd_7r : ∀ i, i < 16 → ofl [164, 199, 79, 199, 177, 53, 125, 46, 118, 204, 71, 65, 220, 221, 42, 72] i = adk (ofl KX) 7 (mix m1 (trn 1 (ofl [3, 73, 118, 149, 74, 254, 92, 245, 74, 227, 65, 5, 8, 170, 209, 180]))) i := by decide +kernel
set_option maxRecDepth 100000 in
theorem sd_8r : ∀ i, i < 16 → ofl [43, 5, 1, 104, 192, 33, 185, 168, 172, 44, 76, 15, 69, 5, 18, 154] i = adk (ofl KX) 8 (mix m1 (trn 1 (ofl [73, 198, 132, 198, 200, 150, 255, 49, 56, 75, 160, 131, 134, 193, 229, 82]))) i := by decide +kernel
set_option maxRecDepth 100000 in
theorem sd_9r : ∀ i, i < 16 → ofl [216, 164, 235, 68, 105, 167, 81, 198, 18, 208, 118, 97, 22, 104, 51, 13] i = adk (ofl KX) 9 (mix m1 (trn 1 (ofl [241, 107, 124, 69, 186, 253, 86, 194, 145, 113, 41, 118, 110, 107, 201, 184]))) i := by decide +kernel
set_option maxRecDepth 100000 in
theorem sd_10r : ∀ i, i < 16 → ofl [177, 72, 193, 127, 48, 158, 230, 146, 40, 122, 229, 124, 241, 42, 221, 73] i = adk (ofl KX) 10 (trn 1 (ofl [97, 73, 233, 27, 249, 92, 209, 180, 201, 112, 56, 239, 71, 69, 195, 215])) i := by decide +kernel
theorem sd_r (r : Nat) (hr : r < 10) (i : Nat) (hi : i < 16) : ofl (Sd.getD (r + 1) []) i = rnd (ofl KX) 10 (r + 1) (ofl (Sd.getD r [])) i := by
  rw [rnd_c _ _ _ _ (ofl (Cd.getD r [])) (fun i hi => by rw [box_bx _ (sd_b r hr i hi)]; exact cd_r r hr i hi) i hi]
  match r, hr with
  | 0, _ => exact sd_1r i hi
  | 1, _ => exact sd_2r i hi
  | 2, _ => exact sd_3r i hi
  | 3, _ => exact sd_4r i hi
  | 4, _ => exact sd_5r i hi
  | 5, _ => exact sd_6r i hi
  | 6, _ => exact sd_7r i hi
  | 7, _ => exact sd_8r i hi
  | 8, _ => exact sd_9r i hi
  | 9, _ => exact sd_10r i hi
theorem end_d : E16 (enc (ofl KX) 10 (ofl Bd)) (ofl [177, 72, 193, 127, 48, 158, 230, 146, 40, 122, 229, 124, 241, 42, 221, 73]) := enc_lit (ofl KX) 10 (ofl Bd) Sd sd_0 sd_r
def Se : List (List Nat) := [[93, 35, 100, 31, 209, 142, 182, 233, 250, 134, 49, 234, 28, 136, 195, 78], [251, 249, 79, 67, 214, 80, 81, 2, 115, 198, 116, 245, 170, 233, 194, 199], [77, 0, 167, 181, 117, 102, 159, 231, 141, 102, 155, 132, 183, 82, 75, 15], [215, 79, 37, 136, 85, 246, 73, 179, 108, 14, 60, 204, 5, 60, 14, 221], [31, 41, 124, 99, 194, 193, 22, 243, 98, 192, 87, 197, 234, 117, 233, 148], [190, 46, 174, 196, 6, 16, 40, 161, 36, 68, 184, 206, 17, 64, 72, 155], [23, 9, 35, 29, 172, 184, 202, 61, 122, 216, 60, 146, 57, 55, 206, 104], [175, 31, 105, 8, 234, 46, 195, 226, 159, 30, 42, 53, 82, 101, 246, 146], [225, 178, 59, 224, 68, 24, 155, 16, 42, 226, 57, 137, 156, 242, 20, 246], [251, 186, 209, 219, 135, 62, 136, 183, 81, 202, 223, 145, 26, 119, 51, 97], [223, 166, 103, 71, 222, 154, 230, 48, 48, 202, 50, 97, 20, 151, 200, 39]]
def Ce : List (List Nat) := [[76, 38, 67, 192, 62, 25, 78, 30, 45, 68, 199, 135, 156, 196, 46, 47], [15, 153, 132, 26, 246, 83, 209, 119, 143, 180, 146, 230, 172, 30, 37, 198], [227, 99, 92, 213, 157, 51, 219, 148, 93, 51, 20, 95, 169, 0, 179, 118], [14, 132, 63, 196, 252, 66, 59, 109, 80, 171, 235, 75, 107, 235, 171, 193], [192, 165, 16, 251, 37, 120, 71, 13, 170, 186, 91, 166, 135, 157, 30, 34], [174, 49, 228, 28, 111, 202, 52, 50, 54, 27, 108, 139, 130, 9, 82, 20], [240, 1, 38, 164, 145, 108, 116, 39, 218, 97, 235, 79, 18, 154, 139, 69], [121, 192, 249, 48, 135, 49, 46, 152, 219, 114, 229, 150, 0, 77, 66, 79], [248, 55, 226, 225, 27, 173, 20, 202, 229, 152, 18, 167, 222, 137, 250, 66], [15, 244, 62, 185, 23, 178, 196, 169, 209, 116, 158, 129, 162, 245, 195, 239]]
def Be : List Nat := [118, 93, 113, 9, 249, 32, 100, 79, 81, 113, 36, 98, 21, 71, 140, 114]
set_option maxRecDepth 100000 in
theorem se_0 : ∀ i, i < 16 → ofl (Se.getD 0 []) i = adk (ofl KX) 0 (ofl Be) i := by decide +kernel
set_option maxRecDepth 100000 in
theorem se_b : ∀ r, r < 10 → ∀ i, i < 16 → ofl (Se.getD r []) i < 256 := by decide +kernel
set_option maxRecDepth 100000 in
theorem ce_r : ∀ r, r < 10 → ∀ i, i < 16 → ofl (Ce.getD r []) i = bx (ofl (Se.getD r []) i) := by decide +kernel
set_option maxRecDepth 100000 in
theorem se_1r : ∀ i, i < 16 → ofl [251, 249, 79, 67, 214, 80, 81, 2, 115, 198, 116, 245, 170, 233, 194, 199] i = adk (ofl KX) 1 (mix m1 (trn 1 (ofl [76, 38, 67, 192, 62, 25, 78, 30, 45, 68, 199, 135, 156, 196, 46, 47]))) i := by decide +kernel
set_option maxRecDepth 100000 in
theorem se_2r : ∀ i, i < 16 → ofl [77, 0, 167, 181, 117, 102, 159, 231, 141, 102, 155, 132, 183, 82, 75, 15] i = adk (ofl KX) 2 (mix m1 (trn 1 (ofl [15, 153, 132, 26, 246, 83, 209, 119, 143, 180, 146, 230, 172, 30, 37, 198]))) i := by decide +kernel
set_option maxRecDepth 100000 in
theorem se_3r : ∀ i, i < 16 → ofl [215, 79, 37, 136, 85, 246, 73, 179, 108, 14, 60, 204, 5, 60, 14, 221] i = adk (ofl KX) 3 (mix m1 (trn 1 (ofl [227, 99, 92, 213, 157, 51, 219, 148, 93, 51, 20, 95, 169, 0, 179, 118]))) i := by decide +kernel
set_option maxRecDepth 100000 in
theorem se_4r : ∀ i, i < 16 → ofl [31, 41, 124, 99, 194, 193, 22, 243, 98, 192, 87, 197, 234, 117, 233, 148] i = adk (ofl KX) 4 (mix m1 (trn 1 (ofl [14, 132, 63, 196, 252, 66, 59, 109, 80, 171, 235, 75, 107, 235, 171, 193]))) i := by decide +kernel
set_option maxRecDepth 100000 in
theorem se_5r : ∀ i, i < 16 → ofl [190, 46, 174, 196, 6, 16, 40, 161, 36, 68, 184, 206, 17, 64, 72, 155] i = adk (ofl KX) 5 (mix m1 (trn 1 (ofl [192, 165, 16, 251, 37, 120, 71, 13, 170, 186, 91, 166, 135, 157, 30, 34]))) i := by decide +kernel
set_option maxRecDepth 100000 in
theorem se_6r : ∀ i, i < 16 → ofl [23, 9, 35, 29, 172, 184, 202, 61, 122, 216, 60, 146, 57, 55, 206, 104] i = adk (ofl KX) 6 (mix m1 (trn 1 (ofl [174, 49, 228, 28, 111, 202, 52, 50, 54, 27, 108, 139, 130, 9, 82, 20]))) i := by decide +kernel
set_option maxRecDepth 100000 in
theorem se_7r : ∀ i, i < 16 → ofl [175, 31, 105, 8, 234, 46, 195, 226, 159, 30, 42, 53, 82, 101, 246, 146] i = adk (ofl KX) 7 (mix m1 (trn 1 (ofl [240, 1, 38, 164, 145, 108, 116, 39, 218, 97, 235, 79, 18, 154, 139, 69]))) i := by decide +kernel
set_option maxRecDepth 100000 in
theorem se_8r : ∀ i, i < 16 → ofl [225, 178, 59, 224, 68, 24, 155, 16, 42, 226, 57, 137, 156, 242, 20, 246] i = adk (ofl KX) 8 (mix m1 (trn 1 (ofl [121, 192, 249, 48, 135, 49, 46, 152, 219, 114, 229, 150, 0, 77, 66, 79]))) i := by decide +kernel
set_option maxRecDepth 100000 in
theorem se_9r : ∀ i, i < 16 → ofl [251, 186, 209, 219, 135, 62, 136, 183, 81, 202, 223, 145, 26, 119, 51, 97] i = adk (ofl KX) 9 (mix m1 (trn 1 (ofl [248, 55, 226, 225, 27, 173, 20, 202, 229, 152, 18, 167, 222, 137, 250, 66]))) i := by decide +kernel
set_option maxRecDepth 100000 in
theorem se_10r : ∀ i, i < 16 → ofl [223, 166, 103, 71, 222, 154, 230, 48, 48, 202, 50, 97, 20, 151, 200, 39] i = adk (ofl KX) 10 (trn 1 (ofl [15, 244, 62, 185, 23, 178, 196, 169, 209, 116, 158, 129, 162, 245, 195, 239])) i := by decide +kernel
theorem se_r (r : Nat) (hr : r < 10) (i : Nat) (hi : i < 16) : ofl (Se.getD (r + 1) []) i = rnd (ofl KX) 10 (r + 1) (ofl (Se.getD r [])) i := by
  rw [rnd_c _ _ _ _ (ofl (Ce.getD r [])) (fun i hi => by rw [box_bx _ (se_b r hr i hi)]; exact ce_r r hr i hi) i hi]
  match r, hr with
  | 0, _ => exact se_1r i hi
  | 1, _ => exact se_2r i hi
  | 2, _ => exact se_3r i hi
  | 3, _ => exact se_4r i hi
  | 4, _ => exact se_5r i hi
  | 5, _ => exact se_6r i hi
  | 6, _ => exact se_7r i hi
  | 7, _ => exact se_8r i hi
  | 8, _ => exact se_9r i hi
  | 9, _ => exact se_10r i hi
theorem ene : E16 (enc (ofl KX) 10 (ofl Be)) (ofl [223, 166, 103, 71, 222, 154, 230, 48, 48, 202, 50, 97, 20, 151, 200, 39]) := enc_lit (ofl KX) 10 (ofl Be) Se se_0 se_r
end Go.Proofs.YtnncgniiceglaabDoor.Vm
