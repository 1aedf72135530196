/- AES's examples, reckoned by the kernel out of literals: the round keys, what stands behind each round. AES: an example of a key of 32 bytes. AES: an example of a key of 24 bytes. -/
import Derived.Test.YtpohogpkfdebdaaGreatDoorYb
namespace Go.Proofs.YtpohogpkfdebdaaGreatDoor.Gf
def ofl (l : List Nat) (p : Nat) : Nat := l.getD p 0
theorem wds_lit (k n : Nat) (hk : 0 < k) (key : Nat → Nat) (l : List Nat) (h0 : ∀ p, p < 4 * k → ofl l p = key p) (h : ∀ i, i < n → ∀ j, j < 4 → ofl l (4 * (k + i) + j) = nxt k (k + i) (ofl l) j) : ∀ p, p < 4 * (k + n) → wds k key n p = ofl l p := by
  induction n with
  | zero => exact fun p hp => (h0 p (by omega)).symm
  | succ n ih =>
    intro p hp
    have ih := ih (fun i hi => h i (by omega))
    by_cases e : p / 4 = k + n
    · show (if p / 4 = k + n then _ else _) = _
      rw [if_pos e, nxt_e k (k + n) hk (by omega) ih (p % 4) (Nat.mod_lt _ (by decide)), ← h n (by omega) (p % 4) (Nat.mod_lt _ (by decide))]
      congr 1
      omega
    · rw [wds_old k key n p (by omega)]
      exact ih p (by omega)
theorem adk_k {k k' : Nat → Nat} {n r : Nat} (h : ∀ p, p < 16 * (n + 1) → k p = k' p) (hr : r ≤ n) (b : Nat → Nat) : E16 (adk k r b) (adk k' r b) := fun i hi => by
  unfold adk
  rw [h (16 * r + i) (by omega)]
theorem rnd_k {k k' : Nat → Nat} {n r : Nat} (h : ∀ p, p < 16 * (n + 1) → k p = k' p) (hr : r ≤ n) (b : Nat → Nat) : E16 (rnd k n r b) (rnd k' n r b) := by
  unfold rnd
  exact adk_k h hr _
theorem dnr_k {k k' : Nat → Nat} {n r : Nat} (h : ∀ p, p < 16 * (n + 1) → k p = k' p) (hr : r ≤ n) (b : Nat → Nat) : E16 (dnr k n r b) (dnr k' n r b) := by
  unfold dnr
  split
  · exact bak16_e (trn_e 3 (mix_e m2 (adk_k h hr b)))
  · exact bak16_e (trn_e 3 (adk_k h hr b))
theorem encTo_k {k k' : Nat → Nat} {n : Nat} (h : ∀ p, p < 16 * (n + 1) → k p = k' p) (b : Nat → Nat) (r : Nat) (hr : r ≤ n) : E16 (encTo k n b r) (encTo k' n b r) := by
  induction r with
  | zero => exact adk_k h hr b
  | succ r ih => exact (rnd_k h hr _).trans (rnd_e k' n (r + 1) (ih (by omega)))
theorem enc_k {k k' : Nat → Nat} {n : Nat} (h : ∀ p, p < 16 * (n + 1) → k p = k' p) (b : Nat → Nat) : E16 (enc k n b) (enc k' n b) := encTo_k h b n (Nat.le_refl _)
theorem decFrom_k {k k' : Nat → Nat} {n : Nat} (h : ∀ p, p < 16 * (n + 1) → k p = k' p) (r : Nat) (hr : r ≤ n) (b : Nat → Nat) : E16 (decFrom k n r b) (decFrom k' n r b) := by
  induction r generalizing b with
  | zero => exact adk_k h hr b
  | succ r ih => exact (ih (by omega) _).trans (decFrom_e k' n r (dnr_k h hr b))
theorem dec_k {k k' : Nat → Nat} {n : Nat} (h : ∀ p, p < 16 * (n + 1) → k p = k' p) (b : Nat → Nat) : E16 (dec k n b) (dec k' n b) := decFrom_k h n (Nat.le_refl _) b
theorem enc_lit (k : Nat → Nat) (n : Nat) (b : Nat → Nat) (s : List (List Nat)) (h0 : ∀ i, i < 16 → ofl (s.getD 0 []) i = adk k 0 b i) (h : ∀ r, r < n → ∀ i, i < 16 → ofl (s.getD (r + 1) []) i = rnd k n (r + 1) (ofl (s.getD r [])) i) : E16 (enc k n b) (ofl (s.getD n [])) := by
  have key : ∀ r, r ≤ n → E16 (encTo k n b r) (ofl (s.getD r [])) := fun r => by
    induction r with
    | zero => exact fun _ i hi => (h0 i hi).symm
    | succ r ih => exact fun hr => (rnd_e k n (r + 1) (ih (by omega))).trans (fun i hi => (h r (by omega) i hi).symm)
  exact key n (Nat.le_refl _)
def BT : List Nat := [99, 124, 119, 123, 242, 107, 111, 197, 48, 1, 103, 43, 254, 215, 171, 118, 202, 130, 201, 125, 250, 89, 71, 240, 173, 212, 162, 175, 156, 164, 114, 192, 183, 253, 147, 38, 54, 63, 247, 204, 52, 165, 229, 241, 113, 216, 49, 21, 4, 199, 35, 195, 24, 150, 5, 154, 7, 18, 128, 226, 235, 39, 178, 117, 9, 131, 44, 26, 27, 110, 90, 160, 82, 59, 214, 179, 41, 227, 47, 132, 83, 209, 0, 237, 32, 252, 177, 91, 106, 203, 190, 57, 74, 76, 88, 207, 208, 239, 170, 251, 67, 77, 51, 133, 69, 249, 2, 127, 80, 60, 159, 168, 81, 163, 64, 143, 146, 157, 56, 245, 188, 182, 218, 33, 16, 255, 243, 210, 205, 12, 19, 236, 95, 151, 68, 23, 196, 167, 126, 61, 100, 93, 25, 115, 96, 129, 79, 220, 34, 42, 144, 136, 70, 238, 184, 20, 222, 94, 11, 219, 224, 50, 58, 10, 73, 6, 36, 92, 194, 211, 172, 98, 145, 149, 228, 121, 231, 200, 55, 109, 141, 213, 78, 169, 108, 86, 244, 234, 101, 122, 174, 8, 186, 120, 37, 46, 28, 166, 180, 198, 232, 221, 116, 31, 75, 189, 139, 138, 112, 62, 181, 102, 72, 3, 246, 14, 97, 53, 87, 185, 134, 193, 29, 158, 225, 248, 152, 17, 105, 217, 142, 148, 155, 30, 135, 233, 206, 85, 40, 223, 140, 161, 137, 13, 191, 230, 66, 104, 65, 153, 45, 15, 176, 84, 187, 22]
def bx (a : Nat) : Nat := BT.getD a 0
set_option maxRecDepth 100000 in
theorem box_bx : ∀ a, a < 256 → box a = bx a := by decide +kernel
def PT : List Nat := [1, 2, 4, 8, 16, 32, 64, 128, 27, 54, 108, 216]
theorem pw_0 : pw 0 = 1 := rfl
theorem pw_1 : pw 1 = 2 := by rw [show pw 1 = mul (pw 0) 2 from rfl, pw_0]; decide +kernel
theorem pw_2 : pw 2 = 4 := by rw [show pw 2 = mul (pw 1) 2 from rfl, pw_1]; decide +kernel
theorem pw_3 : pw 3 = 8 := by rw [show pw 3 = mul (pw 2) 2 from rfl, pw_2]; decide +kernel
theorem pw_4 : pw 4 = 16 := by rw [show pw 4 = mul (pw 3) 2 from rfl, pw_3]; decide +kernel
theorem pw_5 : pw 5 = 32 := by rw [show pw 5 = mul (pw 4) 2 from rfl, pw_4]; decide +kernel
theorem pw_6 : pw 6 = 64 := by rw [show pw 6 = mul (pw 5) 2 from rfl, pw_5]; decide +kernel
theorem pw_7 : pw 7 = 128 := by rw [show pw 7 = mul (pw 6) 2 from rfl, pw_6]; decide +kernel
theorem pw_8 : pw 8 = 27 := by rw [show pw 8 = mul (pw 7) 2 from rfl, pw_7]; decide +kernel
theorem pw_9 : pw 9 = 54 := by rw [show pw 9 = mul (pw 8) 2 from rfl, pw_8]; decide +kernel
theorem pw_10 : pw 10 = 108 := by rw [show pw 10 = mul (pw 9) 2 from rfl, pw_9]; decide +kernel
theorem pw_11 : pw 11 = 216 := by rw [show pw 11 = mul (pw 10) 2 from rfl, pw_10]; decide +kernel
theorem pw_pt (i : Nat) (h : i < 12) : pw i = PT.getD i 0 := by
  match i, h with
  | 0, _ => exact pw_0
  | 1, _ => exact pw_1
  | 2, _ => exact pw_2
  | 3, _ => exact pw_3
  | 4, _ => exact pw_4
  | 5, _ => exact pw_5
  | 6, _ => exact pw_6
  | 7, _ => exact pw_7
  | 8, _ => exact pw_8
  | 9, _ => exact pw_9
  | 10, _ => exact pw_10
  | 11, _ => exact pw_11
theorem ofl_lt (l : List Nat) (h : l.all (· < 256) = true) (p : Nat) : ofl l p < 256 := by
  unfold ofl
  rw [List.getD_eq_getElem?_getD]
  by_cases hp : p < l.length
  · rw [List.getElem?_eq_getElem hp]
    have := List.all_eq_true.1 h _ (List.getElem_mem hp)
    simpa using this
  · rw [List.getElem?_eq_none (by omega)]
    show 0 < 256
    decide
def nxtT (k i : Nat) (f : Nat → Nat) (j : Nat) : Nat :=
  f (4 * (i - k) + j) ^^^ (if i % k = 0 then bx (f (4 * (i - 1) + (j + 1) % 4)) ^^^ (if j = 0 then PT.getD (i / k - 1) 0 else 0) else if k = 8 ∧ i % 8 = 4 then bx (f (4 * (i - 1) + j)) else f (4 * (i - 1) + j))
theorem nxt_T (k i : Nat) (f : Nat → Nat) (j : Nat) (hf : ∀ p, f p < 256) (h : i / k - 1 < 12) : nxt k i f j = nxtT k i f j := by
  unfold nxt nxtT
  rw [box_bx _ (hf _), box_bx _ (hf _), pw_pt _ h]
theorem rnd_c (k : Nat → Nat) (n r : Nat) (b c : Nat → Nat) (hc : ∀ i, i < 16 → c i = box (b i)) : E16 (rnd k n r b) (adk k r (if r < n then mix m1 (trn 1 c) else trn 1 c)) := by
  have e : E16 (sub16 b) c := fun i hi => (hc i hi).symm
  unfold rnd
  split
  · exact adk_e k r (mix_e m1 (trn_e 1 e))
  · exact adk_e k r (trn_e 1 e)
def K128 : List Nat := [0, 1, 2, 3, 4, 5, 6, 7, 8, 9, 10, 11, 12, 13, 14, 15, 214, 170, 116, 253, 210, 175, 114, 250, 218, 166, 120, 241, 214, 171, 118, 254, 182, 146, 207, 11, 100, 61, 189, 241, 190, 155, 197, 0, 104, 48, 179, 254, 182, 255, 116, 78, 210, 194, 201, 191, 108, 89, 12, 191, 4, 105, 191, 65, 71, 247, 247, 188, 149, 53, 62, 3, 249, 108, 50, 188, 253, 5, 141, 253, 60, 170, 163, 232, 169, 159, 157, 235, 80, 243, 175, 87, 173, 246, 34, 170, 94, 57, 15, 125, 247, 166, 146, 150, 167, 85, 61, 193, 10, 163, 31, 107, 20, 249, 112, 26, 227, 95, 226, 140, 68, 10, 223, 77, 78, 169, 192, 38, 71, 67, 135, 53, 164, 28, 101, 185, 224, 22, 186, 244, 174, 191, 122, 210, 84, 153, 50, 209, 240, 133, 87, 104, 16, 147, 237, 156, 190, 44, 151, 78, 19, 17, 29, 127, 227, 148, 74, 23, 243, 7, 167, 139, 77, 43, 48, 197]
def S128 : List (List Nat) := [[0, 16, 32, 48, 64, 80, 96, 112, 128, 144, 160, 176, 192, 208, 224, 240], [137, 216, 16, 232, 133, 90, 206, 104, 45, 24, 67, 216, 203, 18, 143, 228], [73, 21, 89, 143, 85, 229, 215, 160, 218, 202, 148, 250, 31, 10, 99, 247], [250, 99, 106, 40, 37, 179, 57, 201, 64, 102, 138, 49, 87, 36, 77, 23], [36, 114, 64, 35, 105, 102, 179, 250, 110, 210, 117, 50, 136, 66, 91, 108], [200, 22, 119, 188, 155, 122, 201, 59, 37, 2, 121, 146, 176, 38, 25, 150], [198, 47, 225, 9, 247, 94, 237, 195, 204, 121, 57, 93, 132, 249, 207, 93], [209, 135, 108, 15, 121, 196, 48, 10, 180, 85, 148, 173, 214, 111, 244, 31], [253, 227, 186, 210, 5, 229, 208, 215, 53, 71, 150, 78, 241, 254, 55, 241], [189, 110, 124, 61, 242, 181, 119, 158, 11, 97, 33, 110, 139, 16, 182, 137], [105, 196, 224, 216, 106, 123, 4, 48, 216, 205, 183, 128, 112, 180, 197, 90]]
def C128 : List (List Nat) := [[99, 202, 183, 4, 9, 83, 208, 81, 205, 96, 224, 231, 186, 112, 225, 140], [167, 97, 202, 155, 151, 190, 139, 69, 216, 173, 26, 97, 31, 201, 115, 105], [59, 89, 203, 115, 252, 217, 14, 224, 87, 116, 34, 45, 192, 103, 251, 104], [45, 251, 2, 52, 63, 109, 18, 221, 9, 51, 126, 199, 91, 54, 227, 240], [54, 64, 9, 38, 249, 51, 109, 45, 159, 181, 157, 35, 196, 44, 57, 80], [232, 71, 245, 101, 20, 218, 221, 226, 63, 119, 182, 79, 231, 247, 212, 144], [180, 21, 248, 1, 104, 88, 85, 46, 75, 182, 18, 76, 95, 153, 138, 76], [62, 23, 80, 118, 182, 28, 4, 103, 141, 252, 34, 149, 246, 168, 191, 192], [84, 17, 244, 181, 107, 217, 112, 14, 150, 160, 144, 47, 161, 187, 154, 161], [122, 159, 16, 39, 137, 213, 245, 11, 43, 239, 253, 159, 61, 202, 78, 167]]
set_option maxRecDepth 100000 in
theorem k128_key : ∀ p, p < 16 → ofl K128 p = p := by decide +kernel
set_option maxRecDepth 100000 in
theorem k128_b : ∀ p, ofl K128 p < 256 := ofl_lt K128 (by decide +kernel)
set_option maxRecDepth 100000 in
theorem k128_nx : ∀ i, i < 40 → ∀ j, j < 4 → ofl K128 (4 * (4 + i) + j) = nxtT 4 (4 + i) (ofl K128) j := by decide +kernel
theorem k128_nxt (i : Nat) (hi : i < 40) (j : Nat) (hj : j < 4) : ofl K128 (4 * (4 + i) + j) = nxt 4 (4 + i) (ofl K128) j := by
  rw [nxt_T _ _ _ _ k128_b (by omega)]; exact k128_nx i hi j hj
set_option maxRecDepth 100000 in
theorem s128_0 : ∀ i, i < 16 → ofl (S128.getD 0 []) i = adk (ofl K128) 0 (fun i => 17 * i) i := by decide +kernel
set_option maxRecDepth 100000 in
theorem s128_b : ∀ r, r < 10 → ∀ i, i < 16 → ofl (S128.getD r []) i < 256 := by decide +kernel
set_option maxRecDepth 100000 in
theorem c128_r : ∀ r, r < 10 → ∀ i, i < 16 → ofl (C128.getD r []) i = bx (ofl (S128.getD r []) i) := by decide +kernel
set_option maxRecDepth 100000 in
theorem s128_1r : ∀ i, i < 16 → ofl [137, 216, 16, 232, 133, 90, 206, 104, 45, 24, 67, 216, 203, 18, 143, 228] i = adk (ofl K128) 1 (mix m1 (trn 1 (ofl [99, 202, 183, 4, 9, 83, 208, 81, 205, 96, 224, 231, 186, 112, 225, 140]))) i := by decide +kernel
set_option maxRecDepth 100000 in
theorem s128_2r : ∀ i, i < 16 → ofl [73, 21, 89, 143, 85, 229, 215, 160, 218, 202, 148, 250, 31, 10, 99, 247] i = adk (ofl K128) 2 (mix m1 (trn 1 (ofl [167, 97, 202, 155, 151, 190, 139, 69, 216, 173, 26, 97, 31, 201, 115, 105]))) i := by decide +kernel
set_option maxRecDepth 100000 in
theorem s128_3r : ∀ i, i < 16 → ofl [250, 99, 106, 40, 37, 179, 57, 201, 64, 102, 138, 49, 87, 36, 77, 23] i = adk (ofl K128) 3 (mix m1 (trn 1 (ofl [59, 89, 203, 115, 252, 217, 14, 224, 87, 116, 34, 45, 192, 103, 251, 104]))) i := by decide +kernel
set_option maxRecDepth 100000 in
theorem s128_4r : ∀ i, i < 16 → ofl [36, 114, 64, 35, 105, 102, 179, 250, 110, 210, 117, 50, 136, 66, 91, 108] i = adk (ofl K128) 4 (mix m1 (trn 1 (ofl [45, 251, 2, 52, 63, 109, 18, 221, 9, 51, 126, 199, 91, 54, 227, 240]))) i := by decide +kernel
set_option maxRecDepth 100000 in
theorem s128_5r : ∀ i, i < 16 → ofl [200, 22, 119, 188, 155, 122, 201, 59, 37, 2, 121, 146, 176, 38, 25, 150] i = adk (ofl K128) 5 (mix m1 (trn 1 (ofl [54, 64, 9, 38, 249, 51, 109, 45, 159, 181, 157, 35, 196, 44, 57, 80]))) i := by decide +kernel
set_option maxRecDepth 100000 in
theorem s128_6r : ∀ i, i < 16 → ofl [198, 47, 225, 9, 247, 94, 237, 195, 204, 121, 57, 93, 132, 249, 207, 93] i = adk (ofl K128) 6 (mix m1 (trn 1 (ofl [232, 71, 245, 101, 20, 218, 221, 226, 63, 119, 182, 79, 231, 247, 212, 144]))) i := by decide +kernel
set_option maxRecDepth 100000 in
theorem s128_7r : ∀ i, i < 16 → ofl [209, 135, 108, 15, 121, 196, 48, 10, 180, 85, 148, 173, 214, 111, 244, 31] i = adk (ofl K128) 7 (mix m1 (trn 1 (ofl [180, 21, 248, 1, 104, 88, 85, 46, 75, 182, 18, 76, 95, 153, 138, 76]))) i := by decide +kernel
set_option maxRecDepth 100000 in
theorem s128_8r : ∀ i, i < 16 → ofl [253, 227, 186, 210, 5, 229, 208, 215, 53, 71, 150, 78, 241, 254, 55, 241] i = adk (ofl K128) 8 (mix m1 (trn 1 (ofl [62, 23, 80, 118, 182, 28, 4, 103, 141, 252, 34, 149, 246, 168, 191, 192]))) i := by decide +kernel
set_option maxRecDepth 100000 in
theorem s128_9r : ∀ i, i < 16 → ofl [189, 110, 124, 61, 242, 181, 119, 158, 11, 97, 33, 110, 139, 16, 182, 137] i = adk (ofl K128) 9 (mix m1 (trn 1 (ofl [84, 17, 244, 181, 107, 217, 112, 14, 150, 160, 144, 47, 161, 187, 154, 161]))) i := by decide +kernel
set_option maxRecDepth 100000 in
theorem s128_10r : ∀ i, i < 16 → ofl [105, 196, 224, 216, 106, 123, 4, 48, 216, 205, 183, 128, 112, 180, 197, 90] i = adk (ofl K128) 10 (trn 1 (ofl [122, 159, 16, 39, 137, 213, 245, 11, 43, 239, 253, 159, 61, 202, 78, 167])) i := by decide +kernel
theorem s128_r (r : Nat) (hr : r < 10) (i : Nat) (hi : i < 16) : ofl (S128.getD (r + 1) []) i = rnd (ofl K128) 10 (r + 1) (ofl (S128.getD r [])) i := by
  rw [rnd_c _ _ _ _ (ofl (C128.getD r [])) (fun i hi => by rw [box_bx _ (s128_b r hr i hi)]; exact c128_r r hr i hi) i hi]
  match r, hr with
  | 0, _ => exact s128_1r i hi
  | 1, _ => exact s128_2r i hi
  | 2, _ => exact s128_3r i hi
  | 3, _ => exact s128_4r i hi
  | 4, _ => exact s128_5r i hi
  | 5, _ => exact s128_6r i hi
  | 6, _ => exact s128_7r i hi
  | 7, _ => exact s128_8r i hi
  | 8, _ => exact s128_9r i hi
  | 9, _ => exact s128_10r i hi
theorem aes128 (key b : Nat → Nat) (hk : ∀ p, p < 16 → key p = p) (hb : ∀ i, i < 16 → b i = 17 * i) : E16 (enc (wds 4 key 40) 10 b) (ofl [105, 196, 224, 216, 106, 123, 4, 48, 216, 205, 183, 128, 112, 180, 197, 90]) :=
  ((encTo_e _ 10 10 (fun i hi => hb i hi)).trans (enc_k (fun p hp => wds_lit 4 40 (by decide) key K128 (fun p hp => by rw [k128_key p (by omega), hk p (by omega)]) k128_nxt p (by omega)) (fun i => 17 * i))).trans (enc_lit (ofl K128) 10 (fun i => 17 * i) S128 s128_0 s128_r)
end Go.Proofs.YtpohogpkfdebdaaGreatDoor.Gf
namespace Go.Proofs.YtpohogpkfdebdaaGreatDoor.Gf
def K256 : List Nat := [0, 1, 2, 3, 4, 5, 6, 7, 8, 9, 10, 11, 12, 13, 14, 15, 16, 17, 18, 19, 20, 21, 22, 23, 24, 25, 26, 27, 28, 29, 30, 31, 165, 115, 194, 159, 161, 118, 196, 152, 169, 127, 206, 147, 165, 114, 192, 156, 22, 81, 168, 205, 2, 68, 190, 218, 26, 93, 164, 193, 6, 64, 186, 222, 174, 135, 223, 240, 15, 241, 27, 104, 166, 142, 213, 251, 3, 252, 21, 103, 109, 225, 241, 72, 111, 165, 79, 146, 117, 248, 235, 83, 115, 184, 81, 141, 198, 86, 130, 127, 201, 167, 153, 23, 111, 41, 76, 236, 108, 213, 89, 139, 61, 226, 58, 117, 82, 71, 117, 231, 39, 191, 158, 180, 84, 7, 207, 57, 11, 220, 144, 95, 194, 123, 9, 72, 173, 82, 69, 164, 193, 135, 28, 47, 69, 245, 166, 96, 23, 178, 211, 135, 48, 13, 77, 51, 100, 10, 130, 10, 124, 207, 247, 28, 190, 180, 254, 84, 19, 230, 187, 240, 210, 97, 167, 223, 240, 26, 250, 254, 231, 168, 41, 121, 215, 165, 100, 74, 179, 175, 230, 64, 37, 65, 254, 113, 155, 245, 0, 37, 136, 19, 187, 213, 90, 114, 28, 10, 78, 90, 102, 153, 169, 242, 79, 224, 126, 87, 43, 170, 205, 248, 205, 234, 36, 252, 121, 204, 191, 9, 121, 233, 55, 26, 194, 60, 109, 104, 222, 54]
def S256 : List (List Nat) := [[0, 16, 32, 48, 64, 80, 96, 112, 128, 144, 160, 176, 192, 208, 224, 240], [79, 99, 118, 6, 67, 224, 170, 133, 239, 167, 33, 50, 1, 164, 231, 5], [24, 89, 251, 194, 138, 28, 0, 160, 120, 237, 138, 173, 196, 47, 97, 9], [151, 92, 102, 193, 203, 159, 63, 168, 169, 58, 40, 223, 142, 225, 15, 99], [28, 5, 242, 113, 164, 23, 224, 79, 249, 33, 197, 193, 4, 112, 21, 84], [195, 87, 170, 225, 27, 69, 183, 176, 162, 199, 189, 40, 168, 220, 153, 250], [127, 7, 65, 67, 203, 78, 36, 62, 193, 12, 129, 93, 131, 117, 213, 76], [214, 83, 164, 105, 108, 160, 188, 15, 90, 202, 171, 93, 185, 108, 94, 125], [90, 168, 88, 57, 95, 210, 141, 125, 5, 225, 163, 136, 104, 243, 185, 197], [74, 130, 72, 81, 197, 126, 126, 71, 100, 61, 229, 12, 42, 243, 232, 201], [193, 73, 7, 246, 202, 59, 58, 160, 112, 233, 170, 49, 59, 82, 181, 236], [95, 156, 106, 191, 186, 198, 52, 170, 80, 64, 159, 167, 102, 103, 118, 83], [81, 102, 4, 149, 67, 83, 149, 3, 20, 251, 134, 228, 1, 146, 37, 33], [98, 123, 206, 185, 153, 157, 90, 170, 201, 69, 236, 244, 35, 245, 109, 165], [142, 162, 183, 202, 81, 103, 69, 191, 234, 252, 73, 144, 75, 73, 96, 137]]
def C256 : List (List Nat) := [[99, 202, 183, 4, 9, 83, 208, 81, 205, 96, 224, 231, 186, 112, 225, 140], [132, 251, 56, 111, 26, 225, 172, 151, 223, 92, 253, 35, 124, 73, 148, 107], [173, 203, 15, 37, 126, 156, 99, 224, 188, 85, 126, 149, 28, 21, 239, 1], [136, 74, 51, 120, 31, 219, 117, 194, 211, 128, 52, 158, 25, 248, 118, 251], [156, 107, 137, 163, 73, 240, 225, 132, 153, 253, 166, 120, 242, 81, 89, 32], [46, 91, 172, 248, 175, 110, 169, 231, 58, 198, 122, 52, 194, 134, 238, 45], [210, 197, 131, 26, 31, 47, 54, 178, 120, 254, 12, 76, 236, 157, 3, 41], [246, 237, 73, 249, 80, 224, 101, 118, 190, 116, 98, 76, 86, 80, 88, 255], [190, 194, 106, 18, 207, 181, 93, 255, 107, 248, 10, 196, 69, 13, 86, 166], [214, 19, 82, 209, 166, 243, 243, 160, 67, 39, 217, 254, 229, 13, 155, 221], [120, 59, 197, 66, 116, 226, 128, 224, 81, 30, 172, 199, 226, 0, 213, 206], [207, 222, 2, 8, 244, 180, 24, 172, 83, 9, 219, 92, 51, 133, 56, 237], [209, 51, 242, 42, 26, 237, 42, 123, 250, 15, 68, 105, 124, 79, 63, 253], [170, 33, 139, 86, 238, 94, 190, 172, 221, 110, 206, 191, 38, 230, 60, 6]]
set_option maxRecDepth 100000 in
theorem k256_key : ∀ p, p < 32 → ofl K256 p = p := by decide +kernel
set_option maxRecDepth 100000 in
theorem k256_b : ∀ p, ofl K256 p < 256 := ofl_lt K256 (by decide +kernel)
set_option maxRecDepth 100000 in
theorem k256_nx : ∀ i, i < 52 → ∀ j, j < 4 → ofl K256 (4 * (8 + i) + j) = nxtT 8 (8 + i) (ofl K256) j := by decide +kernel
theorem k256_nxt (i : Nat) (hi : i < 52) (j : Nat) (hj : j < 4) : ofl K256 (4 * (8 + i) + j) = nxt 8 (8 + i) (ofl K256) j := by
  rw [nxt_T _ _ _ _ k256_b (by omega)]; exact k256_nx i hi j hj
set_option maxRecDepth 100000 in
theorem s256_0 : ∀ i, i < 16 → ofl (S256.getD 0 []) i = adk (ofl K256) 0 (fun i => 17 * i) i := by decide +kernel
set_option maxRecDepth 100000 in
theorem s256_b : ∀ r, r < 14 → ∀ i, i < 16 → ofl (S256.getD r []) i < 256 := by decide +kernel
set_option maxRecDepth 100000 in
theorem c256_r : ∀ r, r < 14 → ∀ i, i < 16 → ofl (C256.getD r []) i = bx (ofl (S256.getD r []) i) := by decide +kernel
set_option maxRecDepth 100000 in
theorem s256_1r : ∀ i, i < 16 → ofl [79, 99, 118, 6, 67, 224, 170, 133, 239, 167, 33, 50, 1, 164, 231, 5] i = adk (ofl K256) 1 (mix m1 (trn 1 (ofl [99, 202, 183, 4, 9, 83, 208, 81, 205, 96, 224, 231, 186, 112, 225, 140]))) i := by decide +kernel
set_option maxRecDepth 100000 in
theorem s256_2r : ∀ i, i < 16 → ofl [24, 89, 251, 194, 138, 28, 0, 160, 120, 237, 138, 173, 196, 47, 97, 9] i = adk (ofl K256) 2 (mix m1 (trn 1 (ofl [132, 251, 56, 111, 26, 225, 172, 151, 223, 92, 253, 35, 124, 73, 148, 107]))) i := by decide +kernel
set_option maxRecDepth 100000 in
theorem s256_3r : ∀ i, i < 16 → ofl [151, 92, 102, 193, 203, 159, 63, 168, 169, 58, 40, 223, 142, 225, 15, 99] i = adk (ofl K256) 3 (mix m1 (trn 1 (ofl [173, 203, 15, 37, 126, 156, 99, 224, 188, 85, 126, 149, 28, 21, 239, 1]))) i := by decide +kernel
set_option maxRecDepth 100000 in
theorem s256_4r : ∀ i, i < 16 → ofl [28, 5, 242, 113, 164, 23, 224, 79, 249, 33, 197, 193, 4, 112, 21, 84] i = adk (ofl K256) 4 (mix m1 (trn 1 (ofl [136, 74, 51, 120, 31, 219, 117, 194, 211, 128, 52, 158, 25, 248, 118, 251]))) i := by decide +kernel
set_option maxRecDepth 100000 in
theorem s256_5r : ∀ i, i < 16 → ofl [195, 87, 170, 225, 27, 69, 183, 176, 162, 199, 189, 40, 168, 220, 153, 250] i = adk (ofl K256) 5 (mix m1 (trn 1 (ofl [156, 107, 137, 163, 73, 240, 225, 132, 153, 253, 166, 120, 242, 81, 89, 32]))) i := by decide +kernel
set_option maxRecDepth 100000 in
theorem s256_6r : ∀ i, i < 16 → ofl [127, 7, 65, 67, 203, 78, 36, 62, 193, 12, 129, 93, 131, 117, 213, 76] i = adk (ofl K256) 6 (mix m1 (trn 1 (ofl [46, 91, 172, 248, 175, 110, 169, 231, 58, 198, 122, 52, 194, 134, 238, 45]))) i := by decide +kernel
set_option maxRecDepth 100000 in
theorem s256_7r : ∀ i, i < 16 → ofl [214, 83, 164, 105, 108, 160, 188, 15, 90, 202, 171, 93, 185, 108, 94, 125] i = adk (ofl K256) 7 (mix m1 (trn 1 (ofl [210, 197, 131, 26, 31, 47, 54, 178, 120, 254, 12, 76, 236, 157, 3, 41]))) i := by decide +kernel
set_option maxRecDepth 100000 in
theorem s256_8r : ∀ i, i < 16 → ofl [90, 168, 88, 57, 95, 210, 141, 125, 5, 225, 163, 136, 104, 243, 185, 197] i = adk (ofl K256) 8 (mix m1 (trn 1 (ofl [246, 237, 73, 249, 80, 224, 101, 118, 190, 116, 98, 76, 86, 80, 88, 255]))) i := by decide +kernel
set_option maxRecDepth 100000 in
theorem s256_9r : ∀ i, i < 16 → ofl [74, 130, 72, 81, 197, 126, 126, 71, 100, 61, 229, 12, 42, 243, 232, 201] i = adk (ofl K256) 9 (mix m1 (trn 1 (ofl [190, 194, 106, 18, 207, 181, 93, 255, 107, 248, 10, 196, 69, 13, 86, 166]))) i := by decide +kernel
set_option maxRecDepth 100000 in
theorem s256_10r : ∀ i, i < 16 → ofl [193, 73, 7, 246, 202, 59, 58, 160, 112, 233, 170, 49, 59, 82, 181, 236] i = adk (ofl K256) 10 (mix m1 (trn 1 (ofl [214, 19, 82, 209, 166, 243, 243, 160, 67, 39, 217, 254, 229, 13, 155, 221]))) i := by decide +kernel
set_option maxRecDepth 100000 in
theorem s256_11r : ∀ i, i < 16 → ofl [95, 156, 106, 191, 186, 198, 52, 170, 80, 64, 159, 167, 102, 103, 118, 83] i = adk (ofl K256) 11 (mix m1 (trn 1 (ofl [120, 59, 197, 66, 116, 226, 128, 224, 81, 30, 172, 199, 226, 0, 213, 206]))) i := by decide +kernel
set_option maxRecDepth 100000 in
theorem s256_12r : ∀ i, i < 16 → ofl [81, 102, 4, 149, 67, 83, 149, 3, 20, 251, 134, 228, 1, 146, 37, 33] i = adk (ofl K256) 12 (mix m1 (trn 1 (ofl [207, 222, 2, 8, 244, 180, 24, 172, 83, 9, 219, 92, 51, 133, 56, 237]))) i := by decide +kernel
set_option maxRecDepth 100000 in
theorem s256_13r : ∀ i, i < 16 → ofl [98, 123, 206, 185, 153, 157, 90, 170, 201, 69, 236, 244, 35, 245, 109, 165] i = adk (ofl K256) 13 (mix m1 (trn 1 (ofl [209, 51, 242, 42, 26, 237, 42, 123, 250, 15, 68, 105, 124, 79, 63, 253]))) i := by decide +kernel
set_option maxRecDepth 100000 in
theorem s256_14r : ∀ i, i < 16 → ofl [142, 162, 183, 202, 81, 103, 69, 191, 234, 252, 73, 144, 75, 73, 96, 137] i = adk (ofl K256) 14 (trn 1 (ofl [170, 33, 139, 86, 238, 94, 190, 172, 221, 110, 206, 191, 38, 230, 60, 6])) i := by decide +kernel
theorem s256_r (r : Nat) (hr : r < 14) (i : Nat) (hi : i < 16) : ofl (S256.getD (r + 1) []) i = rnd (ofl K256) 14 (r + 1) (ofl (S256.getD r [])) i := by
  rw [rnd_c _ _ _ _ (ofl (C256.getD r [])) (fun i hi => by rw [box_bx _ (s256_b r hr i hi)]; exact c256_r r hr i hi) i hi]
  match r, hr with
  | 0, _ => exact s256_1r i hi
  | 1, _ => exact s256_2r i hi
  | 2, _ => exact s256_3r i hi
  | 3, _ => exact s256_4r i hi
  | 4, _ => exact s256_5r i hi
  | 5, _ => exact s256_6r i hi
  | 6, _ => exact s256_7r i hi
  | 7, _ => exact s256_8r i hi
  | 8, _ => exact s256_9r i hi
  | 9, _ => exact s256_10r i hi
  | 10, _ => exact s256_11r i hi
  | 11, _ => exact s256_12r i hi
  | 12, _ => exact s256_13r i hi
  | 13, _ => exact s256_14r i hi
theorem aes256 (key b : Nat → Nat) (hk : ∀ p, p < 32 → key p = p) (hb : ∀ i, i < 16 → b i = 17 * i) : E16 (enc (wds 8 key 52) 14 b) (ofl [142, 162, 183, 202, 81, 103, 69, 191, 234, 252, 73, 144, 75, 73, 96, 137]) :=
  ((encTo_e _ 14 14 (fun i hi => hb i hi)).trans (enc_k (fun p hp => wds_lit 8 52 (by decide) key K256 (fun p hp => by rw [k256_key p (by omega), hk p (by omega)]) k256_nxt p (by omega)) (fun i => 17 * i))).trans (enc_lit (ofl K256) 14 (fun i => 17 * i) S256 s256_0 s256_r)
end Go.Proofs.YtpohogpkfdebdaaGreatDoor.Gf
namespace Go.Proofs.YtpohogpkfdebdaaGreatDoor.Gf
def K192 : List Nat := [0, 1, 2, 3, 4, 5, 6, 7, 8, 9, 10, 11, 12, 13, 14, 15, 16, 17, 18, 19, 20, 21, 22, 23, 88, 70, 242, 249, 92, 67, 244, 254, 84, 74, 254, 245, 88, 71, 240, 250, 72, 86, 226, 233, 92, 67, 244, 254, 64, 249, 73, 179, 28, 186, 189, 77, 72, 240, 67, 184, 16, 183, 179, 66, 88, 225, 81, 171, 4, 162, 165, 85, 126, 255, 181, 65, 98, 69, 8, 12, 42, 181, 75, 180, 58, 2, 248, 246, 98, 227, 169, 93, 102, 65, 12, 8, 245, 1, 133, 114, 151, 68, 141, 126, 189, 241, 198, 202, 135, 243, 62, 60, 229, 16, 151, 97, 131, 81, 155, 105, 52, 21, 124, 158, 163, 81, 241, 224, 30, 160, 55, 42, 153, 83, 9, 22, 124, 67, 158, 119, 255, 18, 5, 30, 221, 126, 14, 136, 126, 47, 255, 104, 96, 143, 200, 66, 249, 220, 193, 84, 133, 159, 95, 35, 122, 141, 90, 61, 192, 192, 41, 82, 190, 239, 214, 58, 222, 96, 30, 120, 39, 188, 223, 44, 162, 35, 128, 15, 216, 174, 218, 50, 164, 151, 10, 51, 26, 120, 220, 9, 196, 24, 194, 113, 227, 164, 29, 93]
def S192 : List (List Nat) := [[0, 16, 32, 48, 64, 80, 96, 112, 128, 144, 160, 176, 192, 208, 224, 240], [79, 99, 118, 6, 67, 224, 170, 133, 175, 248, 201, 208, 65, 250, 13, 228], [203, 2, 129, 140, 23, 210, 175, 156, 98, 170, 100, 66, 139, 178, 95, 215], [247, 92, 119, 120, 163, 39, 200, 237, 140, 254, 191, 193, 166, 195, 127, 83], [34, 255, 201, 22, 168, 20, 116, 65, 100, 150, 241, 156, 100, 174, 37, 50], [128, 18, 30, 7, 118, 253, 29, 138, 141, 140, 49, 188, 150, 93, 31, 238], [103, 30, 241, 253, 78, 42, 30, 3, 223, 220, 177, 239, 61, 120, 155, 48], [12, 3, 112, 208, 12, 1, 230, 34, 22, 107, 138, 204, 214, 219, 58, 44], [114, 85, 218, 211, 15, 184, 3, 16, 224, 13, 108, 107, 64, 208, 82, 124], [169, 6, 178, 84, 150, 138, 244, 233, 180, 189, 178, 210, 240, 196, 67, 54], [136, 236, 147, 14, 245, 231, 228, 182, 204, 50, 244, 201, 6, 210, 148, 20], [175, 183, 62, 235, 28, 209, 184, 81, 98, 40, 15, 39, 251, 32, 213, 133], [221, 169, 124, 164, 134, 76, 223, 224, 110, 175, 112, 160, 236, 13, 113, 145]]
def C192 : List (List Nat) := [[99, 202, 183, 4, 9, 83, 208, 81, 205, 96, 224, 231, 186, 112, 225, 140], [132, 251, 56, 111, 26, 225, 172, 151, 121, 65, 221, 112, 131, 45, 215, 105], [31, 119, 12, 100, 240, 181, 121, 222, 170, 172, 67, 44, 61, 55, 207, 14], [104, 74, 245, 188, 10, 204, 232, 85, 100, 187, 8, 120, 36, 46, 210, 237], [147, 22, 221, 71, 194, 250, 146, 131, 67, 144, 161, 222, 67, 228, 63, 35], [205, 201, 114, 197, 56, 84, 164, 126, 93, 100, 199, 101, 144, 76, 192, 40], [133, 114, 161, 84, 47, 229, 114, 123, 158, 134, 200, 223, 39, 188, 20, 4], [254, 123, 81, 112, 254, 124, 142, 147, 71, 127, 126, 75, 246, 185, 128, 113], [64, 252, 87, 102, 118, 108, 123, 202, 225, 215, 80, 127, 9, 112, 0, 16], [211, 111, 55, 32, 144, 126, 191, 30, 141, 122, 55, 181, 140, 28, 26, 5], [196, 206, 220, 171, 230, 148, 105, 78, 75, 35, 191, 221, 111, 181, 34, 250], [121, 169, 178, 233, 156, 62, 108, 209, 170, 52, 118, 204, 15, 183, 3, 151]]
set_option maxRecDepth 100000 in
theorem k192_key : ∀ p, p < 24 → ofl K192 p = p := by decide +kernel
set_option maxRecDepth 100000 in
theorem k192_b : ∀ p, ofl K192 p < 256 := ofl_lt K192 (by decide +kernel)
set_option maxRecDepth 100000 in
theorem k192_nx : ∀ i, i < 46 → ∀ j, j < 4 → ofl K192 (4 * (6 + i) + j) = nxtT 6 (6 + i) (ofl K192) j := by decide +kernel
theorem k192_nxt (i : Nat) (hi : i < 46) (j : Nat) (hj : j < 4) : ofl K192 (4 * (6 + i) + j) = nxt 6 (6 + i) (ofl K192) j := by
  rw [nxt_T _ _ _ _ k192_b (by omega)]; exact k192_nx i hi j hj
set_option maxRecDepth 100000 in
theorem s192_0 : ∀ i, i < 16 → ofl (S192.getD 0 []) i = adk (ofl K192) 0 (fun i => 17 * i) i := by decide +kernel
set_option maxRecDepth 100000 in
theorem s192_b : ∀ r, r < 12 → ∀ i, i < 16 → ofl (S192.getD r []) i < 256 := by decide +kernel
set_option maxRecDepth 100000 in
theorem c192_r : ∀ r, r < 12 → ∀ i, i < 16 → ofl (C192.getD r []) i = bx (ofl (S192.getD r []) i) := by decide +kernel
set_option maxRecDepth 100000 in
theorem s192_1r : ∀ i, i < 16 → ofl [79, 99, 118, 6, 67, 224, 170, 133, 175, 248, 201, 208, 65, 250, 13, 228] i = adk (ofl K192) 1 (mix m1 (trn 1 (ofl [99, 202, 183, 4, 9, 83, 208, 81, 205, 96, 224, 231, 186, 112, 225, 140]))) i := by decide +kernel
set_option maxRecDepth 100000 in
theorem s192_2r : ∀ i, i < 16 → ofl [203, 2, 129, 140, 23, 210, 175, 156, 98, 170, 100, 66, 139, 178, 95, 215] i = adk (ofl K192) 2 (mix m1 (trn 1 (ofl [132, 251, 56, 111, 26, 225, 172, 151, 121, 65, 221, 112, 131, 45, 215, 105]))) i := by decide +kernel
set_option maxRecDepth 100000 in
theorem s192_3r : ∀ i, i < 16 → ofl [247, 92, 119, 120, 163, 39, 200, 237, 140, 254, 191, 193, 166, 195, 127, 83] i = adk (ofl K192) 3 (mix m1 (trn 1 (ofl [31, 119, 12, 100, 240, 181, 121, 222, 170, 172, 67, 44, 61, 55, 207, 14]))) i := by decide +kernel
set_option maxRecDepth 100000 in
theorem s192_4r : ∀ i, i < 16 → ofl [34, 255, 201, 22, 168, 20, 116, 65, 100, 150, 241, 156, 100, 174, 37, 50] i = adk (ofl K192) 4 (mix m1 (trn 1 (ofl [104, 74, 245, 188, 10, 204, 232, 85, 100, 187, 8, 120, 36, 46, 210, 237]))) i := by decide +kernel
set_option maxRecDepth 100000 in
theorem s192_5r : ∀ i, i < 16 → ofl [128, 18, 30, 7, 118, 253, 29, 138, 141, 140, 49, 188, 150, 93, 31, 238] i = adk (ofl K192) 5 (mix m1 (trn 1 (ofl [147, 22, 221, 71, 194, 250, 146, 131, 67, 144, 161, 222, 67, 228, 63, 35]))) i := by decide +kernel
set_option maxRecDepth 100000 in
theorem s192_6r : ∀ i, i < 16 → ofl [103, 30, 241, 253, 78, 42, 30, 3, 223, 220, 177, 239, 61, 120, 155, 48] i = adk (ofl K192) 6 (mix m1 (trn 1 (ofl [205, 201, 114, 197, 56, 84, 164, 126, 93, 100, 199, 101, 144, 76, 192, 40]))) i := by decide +kernel
set_option maxRecDepth 100000 in
theorem s192_7r : ∀ i, i < 16 → ofl [12, 3, 112, 208, 12, 1, 230, 34, 22, 107, 138, 204, 214, 219, 58, 44] i = adk (ofl K192) 7 (mix m1 (trn 1 (ofl [133, 114, 161, 84, 47, 229, 114, 123, 158, 134, 200, 223, 39, 188, 20, 4]))) i := by decide +kernel
set_option maxRecDepth 100000 in
theorem s192_8r : ∀ i, i < 16 → ofl [114, 85, 218, 211, 15, 184, 3, 16, 224, 13, 108, 107, 64, 208, 82, 124] i = adk (ofl K192) 8 (mix m1 (trn 1 (ofl [254, 123, 81, 112, 254, 124, 142, 147, 71, 127, 126, 75, 246, 185, 128, 113]))) i := by decide +kernel
set_option maxRecDepth 100000 in
theorem s192_9r : ∀ i, i < 16 → ofl [169, 6, 178, 84, 150, 138, 244, 233, 180, 189, 178, 210, 240, 196, 67, 54] i = adk (ofl K192) 9 (mix m1 (trn 1 (ofl [64, 252, 87, 102, 118, 108, 123, 202, 225, 215, 80, 127, 9, 112, 0, 16]))) i := by decide +kernel
set_option maxRecDepth 100000 in
theorem s192_10r : ∀ i, i < 16 → ofl [136, 236, 147, 14, 245, 231, 228, 182, 204, 50, 244, 201, 6, 210, 148, 20] i = adk (ofl K192) 10 (mix m1 (trn 1 (ofl [211, 111, 55, 32, 144, 126, 191, 30, 141, 122, 55, 181, 140, 28, 26, 5]))) i := by decide +kernel
set_option maxRecDepth 100000 in
theorem s192_11r : ∀ i, i < 16 → ofl [175, 183, 62, 235, 28, 209, 184, 81, 98, 40, 15, 39, 251, 32, 213, 133] i = adk (ofl K192) 11 (mix m1 (trn 1 (ofl [196, 206, 220, 171, 230, 148, 105, 78, 75, 35, 191, 221, 111, 181, 34, 250]))) i := by decide +kernel
set_option maxRecDepth 100000 in
theorem s192_12r : ∀ i, i < 16 → ofl [221, 169, 124, 164, 134, 76, 223, 224, 110, 175, 112, 160, 236, 13, 113, 145] i = adk (ofl K192) 12 (trn 1 (ofl [121, 169, 178, 233, 156, 62, 108, 209, 170, 52, 118, 204, 15, 183, 3, 151])) i := by decide +kernel
theorem s192_r (r : Nat) (hr : r < 12) (i : Nat) (hi : i < 16) : ofl (S192.getD (r + 1) []) i = rnd (ofl K192) 12 (r + 1) (ofl (S192.getD r [])) i := by
  rw [rnd_c _ _ _ _ (ofl (C192.getD r [])) (fun i hi => by rw [box_bx _ (s192_b r hr i hi)]; exact c192_r r hr i hi) i hi]
  match r, hr with
  | 0, _ => exact s192_1r i hi
  | 1, _ => exact s192_2r i hi
  | 2, _ => exact s192_3r i hi
  | 3, _ => exact s192_4r i hi
  | 4, _ => exact s192_5r i hi
  | 5, _ => exact s192_6r i hi
  | 6, _ => exact s192_7r i hi
  | 7, _ => exact s192_8r i hi
  | 8, _ => exact s192_9r i hi
  | 9, _ => exact s192_10r i hi
  | 10, _ => exact s192_11r i hi
  | 11, _ => exact s192_12r i hi
theorem aes192 (key b : Nat → Nat) (hk : ∀ p, p < 24 → key p = p) (hb : ∀ i, i < 16 → b i = 17 * i) : E16 (enc (wds 6 key 46) 12 b) (ofl [221, 169, 124, 164, 134, 76, 223, 224, 110, 175, 112, 160, 236, 13, 113, 145]) :=
  ((encTo_e _ 12 12 (fun i hi => hb i hi)).trans (enc_k (fun p hp => wds_lit 6 46 (by decide) key K192 (fun p hp => by rw [k192_key p (by omega), hk p (by omega)]) k192_nxt p (by omega)) (fun i => 17 * i))).trans (enc_lit (ofl K192) 12 (fun i => 17 * i) S192 s192_0 s192_r)
end Go.Proofs.YtpohogpkfdebdaaGreatDoor.Gf
