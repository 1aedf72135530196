/- AES's examples, reckoned by the kernel out of literals: the round keys, what stands behind each round. -/
import Derived.Test.YtbgdjjfonmoemaaDoorYb
namespace Go.Proofs.YtbgdjjfonmoemaaDoor.Gf
def ofl (l : List Nat) (p : Nat) : Nat := l.getD p 0
theorem wds_lit (k n : Nat) (hk : 0 < k) (key : Nat → Nat) (l : List Nat) (h0 : ∀ p, p < 4 * k → ofl l p = key p) (h : ∀ i, i < n → ∀ j, j < 4 → ofl l (4 * (k + i) + j) = nxt k (k + i) (ofl l) j) : ∀ p, p < 4 * (k + n) → wds k key n p = ofl l p := by
  induction n with
  | zero => exact fun p hp => (h0 p (by omega)).symm
  | succ n ih =>
    intro p hp
    have ih := ih (fun i hi => h i (by omega))
    by_cases e : p / 4 = k + n
    · show (if p / 4 = k + n then _ else _) = _
      rw [if_pos e, nxt_e k (k + n) hk (by omega) ih (p % 4) (Nat.mod_lt _ (by decide)), ← h n (by omega) (p % 4) (Nat.mod_lt _ (by decide))]
      congr 1
      omega
    · rw [wds_old k key n p (by omega)]
      exact ih p (by omega)
theorem adk_k {k k' : Nat → Nat} {n r : Nat} (h : ∀ p, p < 16 * (n + 1) → k p = k' p) (hr : r ≤ n) (b : Nat → Nat) : E16 (adk k r b) (adk k' r b) := fun i hi => by
  unfold adk
  rw [h (16 * r + i) (by omega)]
theorem rnd_k {k k' : Nat → Nat} {n r : Nat} (h : ∀ p, p < 16 * (n + 1) → k p = k' p) (hr : r ≤ n) (b : Nat → Nat) : E16 (rnd k n r b) (rnd k' n r b) := by
  unfold rnd
  exact adk_k h hr _
theorem dnr_k {k k' : Nat → Nat} {n r : Nat} (h : ∀ p, p < 16 * (n + 1) → k p = k' p) (hr : r ≤ n) (b : Nat → Nat) : E16 (dnr k n r b) (dnr k' n r b) := by
  unfold dnr
  split
  · exact bak16_e (trn_e 3 (mix_e m2 (adk_k h hr b)))
  · exact bak16_e (trn_e 3 (adk_k h hr b))
theorem encTo_k {k k' : Nat → Nat} {n : Nat} (h : ∀ p, p < 16 * (n + 1) → k p = k' p) (b : Nat → Nat) (r : Nat) (hr : r ≤ n) : E16 (encTo k n b r) (encTo k' n b r) := by
  induction r with
  | zero => exact adk_k h hr b
  | succ r ih => exact (rnd_k h hr _).trans (rnd_e k' n (r + 1) (ih (by omega)))
theorem enc_k {k k' : Nat → Nat} {n : Nat} (h : ∀ p, p < 16 * (n + 1) → k p = k' p) (b : Nat → Nat) : E16 (enc k n b) (enc k' n b) := encTo_k h b n (Nat.le_refl _)
theorem decFrom_k {k k' : Nat → Nat} {n : Nat} (h : ∀ p, p < 16 * (n + 1) → k p = k' p) (r : Nat) (hr : r ≤ n) (b : Nat → Nat) : E16 (decFrom k n r b) (decFrom k' n r b) := by
  induction r generalizing b with
  | zero => exact adk_k h hr b
  | succ r ih => exact (ih (by omega) _).trans (decFrom_e k' n r (dnr_k h hr b))
theorem dec_k {k k' : Nat → Nat} {n : Nat} (h : ∀ p, p < 16 * (n + 1) → k p = k' p) (b : Nat → Nat) : E16 (dec k n b) (dec k' n b) := decFrom_k h n (Nat.le_refl _) b
theorem enc_lit (k : Nat → Nat) (n : Nat) (b : Nat → Nat) (s : List (List Nat)) (h0 : ∀ i, i < 16 → ofl (s.getD 0 []) i = adk k 0 b i) (h : ∀ r, r < n → ∀ i, i < 16 → ofl (s.getD (r + 1) []) i = rnd k n (r + 1) (ofl (s.getD r [])) i) : E16 (enc k n b) (ofl (s.getD n [])) := by
  have key : ∀ r, r ≤ n → E16 (encTo k n b r) (ofl (s.getD r [])) := fun r => by
    induction r with
    | zero => exact fun _ i hi => (h0 i hi).symm
    | succ r ih => exact fun hr => (rnd_e k n (r + 1) (ih (by omega))).trans (fun i hi => (h r (by omega) i hi).symm)
  exact key n (Nat.le_refl _)
def BT : List Nat := [99, 124, 119, 123, 242, 107, 111, 197, 48, 1, 103, 43, 254, 215, 171, 118, 202, 130, 201, 125, 250, 89, 71, 240, 173, 212, 162, 175, 156, 164, 114, 192, 183, 253, 147, 38, 54, 63, 247, 204, 52, 165, 229, 241, 113, 216, 49, 21, 4, 199, 35, 195, 24, 150, 5, 154, 7, 18, 128, 226, 235, 39, 178, 117, 9, 131, 44, 26, 27, 110, 90, 160, 82, 59, 214, 179, 41, 227, 47, 132, 83, 209, 0, 237, 32, 252, 177, 91, 106, 203, 190, 57, 74, 76, 88, 207, 208, 239, 170, 251, 67, 77, 51, 133, 69, 249, 2, 127, 80, 60, 159, 168, 81, 163, 64, 143, 146, 157, 56, 245, 188, 182, 218, 33, 16, 255, 243, 210, 205, 12, 19, 236, 95, 151, 68, 23, 196, 167, 126, 61, 100, 93, 25, 115, 96, 129, 79, 220, 34, 42, 144, 136, 70, 238, 184, 20, 222, 94, 11, 219, 224, 50, 58, 10, 73, 6, 36, 92, 194, 211, 172, 98, 145, 149, 228, 121, 231, 200, 55, 109, 141, 213, 78, 169, 108, 86, 244, 234, 101, 122, 174, 8, 186, 120, 37, 46, 28, 166, 180, 198, 232, 221, 116, 31, 75, 189, 139, 138, 112, 62, 181, 102, 72, 3, 246, 14, 97, 53, 87, 185, 134, 193, 29, 158, 225, 248, 152, 17, 105, 217, 142, 148, 155, 30, 135, 233, 206, 85, 40, 223, 140, 161, 137, 13, 191, 230, 66, 104, 65, 153, 45, 15, 176, 84, 187, 22]
def bx (a : Nat) : Nat := BT.getD a 0
set_option maxRecDepth 100000 in
theorem box_bx : ∀ a, a < 256 → box a = bx a := by decide +kernel
def PT : List Nat := [1, 2, 4, 8, 16, 32, 64, 128, 27, 54, 108, 216]
theorem pw_0 : pw 0 = 1 := rfl
theorem pw_1 : pw 1 = 2 := by rw [show pw 1 = mul (pw 0) 2 from rfl, pw_0]; decide +kernel
theorem pw_2 : pw 2 = 4 := by rw [show pw 2 = mul (pw 1) 2 from rfl, pw_1]; decide +kernel
theorem pw_3 : pw 3 = 8 := by rw [show pw 3 = mul (pw 2) 2 from rfl, pw_2]; decide +kernel
theorem pw_4 : pw 4 = 16 := by rw [show pw 4 = mul (pw 3) 2 from rfl, pw_3]; decide +kernel
theorem pw_5 : pw 5 = 32 := by rw [show pw 5 = mul (pw 4) 2 from rfl, pw_4]; decide +kernel
theorem pw_6 : pw 6 = 64 := by rw [show pw 6 = mul (pw 5) 2 from rfl, pw_5]; decide +kernel
theorem pw_7 : pw 7 = 128 := by rw [show pw 7 = mul (pw 6) 2 from rfl, pw_6]; decide +kernel
theorem pw_8 : pw 8 = 27 := by rw [show pw 8 = mul (pw 7) 2 from rfl, pw_7]; decide +kernel
theorem pw_9 : pw 9 = 54 := by rw [show pw 9 = mul (pw 8) 2 from rfl, pw_8]; decide +kernel
theorem pw_10 : pw 10 = 108 := by rw [show pw 10 = mul (pw 9) 2 from rfl, pw_9]; decide +kernel
theorem pw_11 : pw 11 = 216 := by rw [show pw 11 = mul (pw 10) 2 from rfl, pw_10]; decide +kernel
theorem pw_pt (i : Nat) (h : i < 12) : pw i = PT.getD i 0 := by
  match i, h with
  | 0, _ => exact pw_0
  | 1, _ => exact pw_1
  | 2, _ => exact pw_2
  | 3, _ => exact pw_3
  | 4, _ => exact pw_4
  | 5, _ => exact pw_5
  | 6, _ => exact pw_6
  | 7, _ => exact pw_7
  | 8, _ => exact pw_8
  | 9, _ => exact pw_9
  | 10, _ => exact pw_10
  | 11, _ => exact pw_11
theorem ofl_lt (l : List Nat) (h : l.all (· < 256) = true) (p : Nat) : ofl l p < 256 := by
  unfold ofl
  rw [List.getD_eq_getElem?_getD]
  by_cases hp : p < l.length
  · rw [List.getElem?_eq_getElem hp]
    have := List.all_eq_true.1 h _ (List.getElem_mem hp)
    simpa using this
  · rw [List.getElem?_eq_none (by omega)]
    show 0 < 256
    decide
def nxtT (k i : Nat) (f : Nat → Nat) (j : Nat) : Nat :=
  f (4 * (i - k) + j) ^^^ (if i % k = 0 then bx (f (4 * (i - 1) + (j + 1) % 4)) ^^^ (if j = 0 then PT.getD (i / k - 1) 0 else 0) else if k = 8 ∧ i % 8 = 4 then bx (f (4 * (i - 1) + j)) else f (4 * (i - 1) + j))
theorem nxt_T (k i : Nat) (f : Nat → Nat) (j : Nat) (hf : ∀ p, f p < 256) (h : i / k - 1 < 12) : nxt k i f j = nxtT k i f j := by
  unfold nxt nxtT
  rw [box_bx _ (hf _), box_bx _ (hf _), pw_pt _ h]
theorem rnd_c (k : Nat → Nat) (n r : Nat) (b c : Nat → Nat) (hc : ∀ i, i < 16 → c i = box (b i)) : E16 (rnd k n r b) (adk k r (if r < n then mix m1 (trn 1 c) else trn 1 c)) := by
  have e : E16 (sub16 b) c := fun i hi => (hc i hi).symm
  unfold rnd
  split
  · exact adk_e k r (mix_e m1 (trn_e 1 e))
  · exact adk_e k r (trn_e 1 e)
def K128 : List Nat := [0, 1, 2, 3, 4, 5, 6, 7, 8, 9, 10, 11, 12, 13, 14, 15, 214, 170, 116, 253, 210, 175, 114, 250, 218, 166, 120, 241, 214, 171, 118, 254, 182, 146, 207, 11, 100, 61, 189, 241, 190, 155, 197, 0, 104, 48, 179, 254, 182, 255, 116, 78, 210, 194, 201, 191, 108, 89, 12, 191, 4, 105, 191, 65, 71, 247, 247, 188, 149, 53, 62, 3, 249, 108, 50, 188, 253, 5, 141, 253, 60, 170, 163, 232, 169, 159, 157, 235, 80, 243, 175, 87, 173, 246, 34, 170, 94, 57, 15, 125, 247, 166, 146, 150, 167, 85, 61, 193, 10, 163, 31, 107, 20, 249, 112, 26, 227, 95, 226, 140, 68, 10, 223, 77, 78, 169, 192, 38, 71, 67, 135, 53, 164, 28, 101, 185, 224, 22, 186, 244, 174, 191, 122, 210, 84, 153, 50, 209, 240, 133, 87, 104, 16, 147, 237, 156, 190, 44, 151, 78, 19, 17, 29, 127, 227, 148, 74, 23, 243, 7, 167, 139, 77, 43, 48, 197]
def S128 : List (List Nat) := [[0, 16, 32, 48, 64, 80, 96, 112, 128, 144, 160, 176, 192, 208, 224, 240], [137, 216, 16, 232, 133, 90, 206, 104, 45, 24, 67, 216, 203, 18, 143, 228], [73, 21, 89, 143, 85, 229, 215, 160, 218, 202, 148, 250, 31, 10, 99, 247], [250, 99, 106, 40, 37, 179, 57, 201, 64, 102, 138, 49, 87, 36, 77, 23], [36, 114, 64, 35, 105, 102, 179, 250, 110, 210, 117, 50, 136, 66, 91, 108], [200, 22, 119, 188, 155, 122, 201, 59, 37, 2, 121, 146, 176, 38, 25, 150], [198, 47, 225, 9, 247, 94, 237, 195, 204, 121, 57, 93, 132, 249, 207, 93], [209, 135, 108, 15, 121, 196, 48, 10, 180, 85, 148, 173, 214, 111, 244, 31], [253, 227, 186, 210, 5, 229, 208, 215, 53, 71, 150, 78, 241, 254, 55, 241], [189, 110, 124, 61, 242, 181, 119, 158, 11, 97, 33, 110, 139, 16, 182, 137], [105, 196, 224, 216, 106, 123, 4, 48, 216, 205, 183, 128, 112, 180, 197, 90]]
def C128 : List (List Nat) := [[99, 202, 183, 4, 9, 83, 208, 81, 205, 96, 224, 231, 186, 112, 225, 140], [167, 97, 202, 155, 151, 190, 139, 69, 216, 173, 26, 97, 31, 201, 115, 105], [59, 89, 203, 115, 252, 217, 14, 224, 87, 116, 34, 45, 192, 103, 251, 104], [45, 251, 2, 52, 63, 109, 18, 221, 9, 51, 126, 199, 91, 54, 227, 240], [54, 64, 9, 38, 249, 51, 109, 45, 159, 181, 157, 35, 196, 44, 57, 80], [232, 71, 245, 101, 20, 218, 221, 226, 63, 119, 182, 79, 231, 247, 212, 144], [180, 21, 248, 1, 104, 88, 85, 46, 75, 182, 18, 76, 95, 153, 138, 76], [62, 23, 80, 118, 182, 28, 4, 103, 141, 252, 34, 149, 246, 168, 191, 192], [84, 17, 244, 181, 107, 217, 112, 14, 150, 160, 144, 47, 161, 187, 154, 161], [122, 159, 16, 39, 137, 213, 245, 11, 43, 239, 253, 159, 61, 202, 78, 167]]
set_option maxRecDepth 100000 in
theorem k128_key : ∀ p, p < 16 → ofl K128 p = p := by decide +kernel
set_option maxRecDepth 100000 in
theorem k128_b : ∀ p, ofl K128 p < 256 := ofl_lt K128 (by decide +kernel)
set_option maxRecDepth 100000 in
theorem k128_nx : ∀ i, i < 40 → ∀ j, j < 4 → ofl K128 (4 * (4 + i) + j) = nxtT 4 (4 + i) (ofl K128) j := by decide +kernel
theorem k128_nxt (i : Nat) (hi : i < 40) (j : Nat) (hj : j < 4) : ofl K128 (4 * (4 + i) + j) = nxt 4 (4 + i) (ofl K128) j := by
  rw [nxt_T _ _ _ _ k128_b (by omega)]; exact k128_nx i hi j hj
set_option maxRecDepth 100000 in
theorem s128_0 : ∀ i, i < 16 → ofl (S128.getD 0 []) i = adk (ofl K128) 0 (fun i => 17 * i) i := by decide +kernel
set_option maxRecDepth 100000 in
theorem s128_b : ∀ r, r < 10 → ∀ i, i < 16 → ofl (S128.getD r []) i < 256 := by decide +kernel
set_option maxRecDepth 100000 in
theorem c128_r : ∀ r, r < 10 → ∀ i, i < 16 → ofl (C128.getD r []) i = bx (ofl (S128.getD r []) i) := by decide +kernel
set_option maxRecDepth 100000 in
theorem s128_1r : ∀ i, i < 16 → ofl [137, 216, 16, 232, 133, 90, 206, 104, 45, 24, 67, 216, 203, 18, 143, 228] i = adk (ofl K128) 1 (mix m1 (trn 1 (ofl [99, 202, 183, 4, 9, 83, 208, 81, 205, 96, 224, 231, 186, 112, 225, 140]))) i := by decide +kernel
set_option maxRecDepth 100000 in
theorem s128_2r : ∀ i, i < 16 → ofl [73, 21, 89, 143, 85, 229, 215, 160, 218, 202, 148, 250, 31, 10, 99, 247] i = adk (ofl K128) 2 (mix m1 (trn 1 (ofl [167, 97, 202, 155, 151, 190, 139, 69, 216, 173, 26, 97, 31, 201, 115, 105]))) i := by decide +kernel
set_option maxRecDepth 100000 in
theorem s128_3r : ∀ i, i < 16 → ofl [250, 99, 106, 40, 37, 179, 57, 201, 64, 102, 138, 49, 87, 36, 77, 23] i = adk (ofl K128) 3 (mix m1 (trn 1 (ofl [59, 89, 203, 115, 252, 217, 14, 224, 87, 116, 34, 45, 192, 103, 251, 104]))) i := by decide +kernel
set_option maxRecDepth 100000 in
theorem s128_4r : ∀ i, i < 16 → ofl [36, 114, 64, 35, 105, 102, 179, 250, 110, 210, 117, 50, 136, 66, 91, 108] i = adk (ofl K128) 4 (mix m1 (trn 1 (ofl [45, 251, 2, 52, 63, 109, 18, 221, 9, 51, 126, 199, 91, 54, 227, 240]))) i := by decide +kernel
set_option maxRecDepth 100000 in
theorem s128_5r : ∀ i, i < 16 → ofl [200, 22, 119, 188, 155, 122, 201, 59, 37, 2, 121, 146, 176, 38, 25, 150] i = adk (ofl K128) 5 (mix m1 (trn 1 (ofl [54, 64, 9, 38, 249, 51, 109, 45, 159, 181, 157, 35, 196, 44, 57, 80]))) i := by decide +kernel
set_option maxRecDepth 100000 in
theorem s128_6r : ∀ i, i < 16 → ofl [198, 47, 225, 9, 247, 94, 237, 195, 204, 121, 57, 93, 132, 249, 207, 93] i = adk (ofl K128) 6 (mix m1 (trn 1 (ofl [232, 71, 245, 101, 20, 218, 221, 226, 63, 119, 182, 79, 231, 247, 212, 144]))) i := by decide +kernel
set_option maxRecDepth 100000 in
theorem s128_7r : ∀ i, i < 16 → ofl [209, 135, 108, 15, 121, 196, 48, 10, 180, 85, 148, 173, 214, 111, 244, 31] i = adk (ofl K128) 7 (mix m1 (trn 1 (ofl [180, 21, 248, 1, 104, 88, 85, 46, 75, 182, 18, 76, 95, 153, 138, 76]))) i := by decide +kernel
set_option maxRecDepth 100000 in
theorem s128_8r : ∀ i, i < 16 → ofl [253, 227, 186, 210, 5, 229, 208, 215, 53, 71, 150, 78, 241, 254, 55, 241] i = adk (ofl K128) 8 (mix m1 (trn 1 (ofl [62, 23, 80, 118, 182, 28, 4, 103, 141, 252, 34, 149, 246, 168, 191, 192]))) i := by decide +kernel
set_option maxRecDepth 100000 in
theorem s128_9r : ∀ i, i < 16 → ofl [189, 110, 124, 61, 242, 181, 119, 158, 11, 97, 33, 110, 139, 16, 182, 137] i = adk (ofl K128) 9 (mix m1 (trn 1 (ofl [84, 17, 244, 181, 107, 217, 112, 14, 150, 160, 144, 47, 161, 187, 154, 161]))) i := by decide +kernel
set_option maxRecDepth 100000 in
theorem s128_10r : ∀ i, i < 16 → ofl [105, 196, 224, 216, 106, 123, 4, 48, 216, 205, 183, 128, 112, 180, 197, 90] i = adk (ofl K128) 10 (trn 1 (ofl [122, 159, 16, 39, 137, 213, 245, 11, 43, 239, 253, 159, 61, 202, 78, 167])) i := by decide +kernel
theorem s128_r (r : Nat) (hr : r < 10) (i : Nat) (hi : i < 16) : ofl (S128.getD (r + 1) []) i = rnd (ofl K128) 10 (r + 1) (ofl (S128.getD r [])) i := by
  rw [rnd_c _ _ _ _ (ofl (C128.getD r [])) (fun i hi => by rw [box_bx _ (s128_b r hr i hi)]; exact c128_r r hr i hi) i hi]
  match r, hr with
  | 0, _ => exact s128_1r i hi
  | 1, _ => exact s128_2r i hi
  | 2, _ => exact s128_3r i hi
  | 3, _ => exact s128_4r i hi
  | 4, _ => exact s128_5r i hi
  | 5, _ => exact s128_6r i hi
  | 6, _ => exact s128_7r i hi
  | 7, _ => exact s128_8r i hi
  | 8, _ => exact s128_9r i hi
  | 9, _ => exact s128_10r i hi
theorem aes128 (key b : Nat → Nat) (hk : ∀ p, p < 16 → key p = p) (hb : ∀ i, i < 16 → b i = 17 * i) : E16 (enc (wds 4 key 40) 10 b) (ofl [105, 196, 224, 216, 106, 123, 4, 48, 216, 205, 183, 128, 112, 180, 197, 90]) :=
  ((encTo_e _ 10 10 (fun i hi => hb i hi)).trans (enc_k (fun p hp => wds_lit 4 40 (by decide) key K128 (fun p hp => by rw [k128_key p (by omega), hk p (by omega)]) k128_nxt p (by omega)) (fun i => 17 * i))).trans (enc_lit (ofl K128) 10 (fun i => 17 * i) S128 s128_0 s128_r)
end Go.Proofs.YtbgdjjfonmoemaaDoor.Gf
