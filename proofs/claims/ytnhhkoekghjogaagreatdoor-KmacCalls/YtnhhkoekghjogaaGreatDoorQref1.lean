/- What the document's helpers for the permutation answer: lane, turn, c, Constant. -/
import Derived.Test.YtnhhkoekghjogaaGreatDoorKf
namespace Go.Proofs.YtnhhkoekghjogaaGreatDoor.Kc
open Go.ChangeShapes Go.WideShapes Go.ChangeAt Go.RowKit
open Go.Proofs.YtnhhkoekghjogaaGreatDoor.By Go.Proofs.YtnhhkoekghjogaaGreatDoor.Wd
theorem lane1 (x y : Nat) (w : World) (hx : x ≤ 100) (hy : y ≤ 100) :
    Calls Tryz.prog 104 #[.int .i64 x, .int .i64 y] w fun e w' => e = .returned (.int .i64 ((x % 5 + 5 * (y % 5) : Nat) : Int)) ∧ w' = w := by
  have e1 : ((x : Int)).tmod 5 = ((x % 5 : Nat) : Int) := by rw [Int.tmod_eq_emod_of_nonneg (by omega)]; omega
  have e2 : ((y : Int)).tmod 5 = ((y % 5 : Nat) : Int) := by rw [Int.tmod_eq_emod_of_nonneg (by omega)]; omega
  have b1 : x % 5 < 5 := by omega
  have b2 : y % 5 < 5 := by omega
  generalize x % 5 = p at *
  generalize y % 5 = q at *
  go_enter Tryz.func104, Tryz.ntmps104
  go_wp2
  go_ret
  exact ⟨by congr 2, rfl⟩
theorem turn1 (x : Int) (n : Nat) (w : World) (hx : W64 x) (hn : n ≤ 100000) :
    Calls Tryz.prog 105 #[.int .u64 x, .int .i64 n] w fun e w' => e = .returned (.int .u64 (rl x n)) ∧ ∃ k, w' = w.drewN k := by
  have e1 : ((n : Int)).tmod 64 = (n : Int) % 64 := by rw [Int.tmod_eq_emod_of_nonneg (by omega)]
  have hfin := turned64 x n hx.1 hx.2
  have h0 : 0 ≤ (n : Int) % 64 := by omega
  have h1 : (n : Int) % 64 < 64 := by omega
  generalize (n : Int) % 64 = l at *
  have HF : Hid (bits .or .u64 (x * 2 ^ l.toNat % 18446744073709551616) (x / 2 ^ (64 - l).toNat) = Rot 64 x n) := hfin
  have b0 := hx.1
  have b1 := hx.2
  clear hfin hx
  go_enter Tryz.func105, Tryz.ntmps105
  go_wp2_with fail
  go_quiet (fail)
  go_wp2
  go_ret
  exact ⟨congrArg (fun z => Ending.returned (Value.int IntKind.u64 z)) HF.out, _, rfl⟩
/-- The bytes r(n). -/
def stp (r : Nat) : Nat := if 256 ≤ 2 * r then (2 * r - 256) ^^^ 113 else 2 * r
def rn : Nat → Nat
  | 0 => 1
  | n + 1 => stp (rn n)
theorem stp_lt : ∀ r, r < 256 → stp r < 256 := by decide +kernel
theorem rn_lt (n : Nat) : rn n < 256 := by
  induction n with
  | zero => decide
  | succ n ih => exact stp_lt _ ih
theorem stp_xor : ∀ r : Nat, r < 256 → 128 ≤ r → bits .xor .i64 (2 * (r : Int) - 256) 113 = ((stp r : Nat) : Int) := by decide +kernel
def rtb : List Nat := [1, 2, 4, 8, 16, 32, 64, 128, 113, 226, 181, 27, 54, 108, 216, 193, 243, 151, 95, 190, 13, 26, 52, 104, 208, 209, 211, 215, 223, 207, 239, 175, 47, 94, 188, 9, 18, 36, 72, 144, 81, 162, 53, 106, 212, 217, 195, 247, 159, 79, 158, 77, 154, 69, 138, 101, 202, 229, 187, 7, 14, 28, 56, 112, 224, 177, 19, 38, 76, 152, 65, 130, 117, 234, 165, 59, 118, 236, 169, 35, 70, 140, 105, 210, 213, 219, 199, 255, 143, 111, 222, 205, 235, 167, 63, 126, 252, 137, 99, 198, 253, 139, 103, 206, 237, 171, 39, 78, 156, 73, 146, 85, 170, 37, 74, 148, 89, 178, 21, 42, 84, 168, 33, 66, 132, 121, 242, 149, 91, 182, 29, 58, 116, 232, 161, 51, 102, 204, 233, 163, 55, 110, 220, 201, 227, 183, 31, 62, 124, 248, 129, 115, 230, 189, 11, 22, 44, 88, 176, 17, 34, 68, 136, 97, 194, 245, 155, 71]
theorem rn_tb (n : Nat) (h : n < 168) : rn n = rtb.getD n 0 := by
  induction n with
  | zero => rfl
  | succ n ih =>
    show stp (rn n) = _
    rw [ih (by omega)]
    exact (show ∀ n, n < 167 → stp (rtb.getD n 0) = rtb.getD (n + 1) 0 from by decide +kernel) n (by omega)
/-- The bit c(n). -/
def cb (n : Nat) : Int := ((rn n % 2 : Nat) : Int)
theorem cb_bound (n : Nat) : 0 ≤ cb n ∧ cb n < 2 := by unfold cb; omega
/-- The constant of round i behind k of its bits. -/
def cn (i : Nat) : Nat → Int
  | 0 => 0
  | k + 1 => cn i k + ((rtb.getD (k + 7 * i) 0 % 2 : Nat) : Int) * ((2 ^ (2 ^ k - 1) : Nat) : Int)
theorem cn_RC : ∀ i, i < 24 → cn i 7 = RC i := by decide +kernel
theorem cn_lt : ∀ i, i < 24 → ∀ k, k < 8 → 0 ≤ cn i k ∧ cn i k < 18446744073709551616 := by decide +kernel
theorem cn_next (i k : Nat) (h : k + 7 * i < 168) : cn i (k + 1) = cn i k + cb (k + 7 * i) * ((2 ^ (2 ^ k - 1) : Nat) : Int) := by
  unfold cb
  rw [rn_tb _ h]; rfl
theorem shl_exp : ∀ k, k < 7 → min (IntKind.u64.wrap (IntKind.u64.wrap (2 ^ k) - 1)).toNat 64 = 2 ^ k - 1 := by decide +kernel
theorem shl_val (cc m : Int) (k : Nat) (hk : k < 7) (m0 : 0 ≤ m) (hc : 0 ≤ cc) (h : cc + m * ((2 ^ (2 ^ k - 1) : Nat) : Int) < 18446744073709551616) :
    IntKind.u64.wrap (cc + IntKind.u64.wrap (m * 2 ^ min (IntKind.u64.wrap (IntKind.u64.wrap (2 ^ k) - 1)).toNat 64)) = cc + m * ((2 ^ (2 ^ k - 1) : Nat) : Int) := by
  rw [shl_exp k hk]
  have e : ((2 ^ (2 ^ k - 1) : Nat) : Int) = (2 : Int) ^ (2 ^ k - 1) := by push_cast; rfl
  rw [e] at h ⊢
  have hp : (0 : Int) ≤ 2 ^ (2 ^ k - 1) := Int.pow_nonneg (by omega)
  have hm : 0 ≤ m * (2 : Int) ^ (2 ^ k - 1) := Int.mul_nonneg m0 hp
  generalize m * (2 : Int) ^ (2 ^ k - 1) = z at *
  rw [IntKind.wrap_u64, IntKind.wrap_u64]
  omega
set_option maxRecDepth 4000 in
set_option maxHeartbeats 1000000 in
theorem c1 (z : Int) (n : Nat) (hz : z = (n : Int)) (hn : n < 168) (w : World) :
    Calls Tryz.prog 106 #[.int .i64 z] w fun e w' => e = .returned (.int .u64 (cb n)) ∧ w' = w := by
  subst hz
  go_enter Tryz.func106, Tryz.ntmps106
  go_wp2_with fail
  go_loop [3, 4] (fun r i => ∃ k : Nat, k ≤ n ∧ i = .int .i64 k ∧ r = .int .i64 ((rn k : Nat) : Int)) (fun _ i => n - (intOf i).toNat)
  case atStart => exact ⟨0, Nat.zero_le _, rfl, rfl⟩
  case round =>
    obtain ⟨k, hk, rfl, rfl⟩ := hrel
    have hb := rn_lt k
    by_cases hlt : k < n
    · by_cases h2 : 128 ≤ rn k
      · have HX := hid (stp_xor (rn k) hb h2)
        have HE : Hid (rn (k + 1) = stp (rn k)) := rfl
        generalize rn k = r at *
        go_wp2_with fail
        refine ⟨⟨k + 1, by omega, by go_num, ?_⟩, by simp [intOf]; omega⟩
        rw [HE.out, ← HX.out]
      · have HE : Hid (rn (k + 1) = stp (rn k)) := rfl
        have HS : Hid (stp (rn k) = 2 * rn k) := if_neg (by omega)
        generalize rn k = r at *
        go_wp2_with fail
        refine ⟨⟨k + 1, by omega, by go_num, ?_⟩, by simp [intOf]; omega⟩
        rw [HE.out, HS.out]; simp
    · have ek : k = n := by omega
      subst ek
      have e1 : ((rn k : Nat) : Int).tmod 2 = cb k := by rw [Int.tmod_eq_emod_of_nonneg (by omega)]; rfl
      have b1 := cb_bound k
      obtain ⟨m, em⟩ : ∃ z, cb k = z := ⟨_, rfl⟩
      rw [em] at e1 b1
      have EM := hid em
      clear em
      generalize rn k = r at *
      go_wp2
      go_ret
      exact ⟨by rw [EM.out]; rfl, rfl⟩
set_option maxRecDepth 4000 in
set_option maxHeartbeats 1000000 in
theorem constant1 (i : Nat) (hi : i < 24) (w : World) :
    Calls Tryz.prog 96 #[.int .i64 i] w fun e w' => e = .returned (.int .u64 (RC i)) ∧ ∃ k, w' = w.drewN k := by
  have HC := hid (cn_RC i hi)
  go_enter Tryz.func96, Tryz.ntmps96
  go_wp2_with fail
  go_loopw [3, 4] (fun x j wr => ∃ k d : Nat, k ≤ 7 ∧ j = .int .i64 k ∧ x = .int .u64 (cn i k) ∧ wr = w.drewN d) (fun _ j _ => 7 - (intOf j).toNat)
  case atStart => exact ⟨0, 0, Nat.zero_le _, rfl, rfl, rfl⟩
  case round =>
    obtain ⟨k, d, hk, rfl, rfl, rfl⟩ := hrel
    have hc := cn_lt i hi k (by omega)
    by_cases hlt : k < 7
    · have hc2 := hid (cn_lt i hi (k + 1) (by omega))
      have HN := hid (cn_next i k (by omega))
      have w7 : IntKind.i64.wrap (7 * (i : Int)) = 7 * (i : Int) := by rw [IntKind.wrap_i64]; omega
      have wk : IntKind.i64.wrap ((k : Int) + 7 * (i : Int)) = (k : Int) + 7 * (i : Int) := by rw [IntKind.wrap_i64]; omega
      have hr := cb_bound (k + 7 * i)
      have HQ : Hid (∀ w, Calls Tryz.prog 106 #[.int .i64 ((k : Int) + 7 * (i : Int))] w fun e w' => e = .returned (.int .u64 (cb (k + 7 * i))) ∧ w' = w) := fun w => c1 _ (k + 7 * i) (by omega) (by omega) w
      generalize cb (k + 7 * i) = m at *
      generalize cn i k = cc at *
      go_wp2_with fail
      go_quiet ((go_at_call 106; refine (HQ.out _).mono ?_; rintro e w4 ⟨rfl, rfl⟩; exact ⟨rfl, _, rfl⟩))
      go_wp2_with fail
      refine ⟨⟨k + 1, _, by omega, by go_num, ?_, rfl⟩, by simp [intOf]; omega⟩
      rw [shl_val cc m k hlt hr.1 hc.1 (by rw [← HN.out]; exact hc2.out.2), HN.out]
    · have ek : k = 7 := by omega
      subst ek
      rw [HC.out]
      clear hc
      go_wp2
      go_ret
      exact ⟨rfl, _, rfl⟩
end Go.Proofs.YtnhhkoekghjogaaGreatDoor.Kc
