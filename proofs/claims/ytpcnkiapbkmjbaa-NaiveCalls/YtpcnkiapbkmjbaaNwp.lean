/- NaivePowers, walked: a power of twice the number is the square, of one more once more the base. -/
import Derived.Test.YtpcnkiapbkmjbaaNli
import Derived.Deep.Cut
namespace Go.Proofs.Ytpcnkiapbkmjbaa.Nv
open Go.ChangeShapes Go.WideShapes Go.ChangeAt Go.RowKit
open Go.Proofs.Ytpcnkiapbkmjbaa Go.Proofs.Ytpcnkiapbkmjbaa.Tb
theorem pow_nil (b e m : Nat) (w : World) (hb : b < 18446744073709551616) (he : e < 18446744073709551616) (hm0 : 0 < m) (hm : m < 18446744073709551616) :
    Calls Try.prog 17 #[.pointer none, .int .u64 b, .int .u64 e, .int .u64 m] w fun r w' => r = .returned (.tuple #[.int .u64 ((b ^ e % m : Nat) : Int), .int .i64 0]) ∧ Below w.heap.size w w' := by
  refine (pow_walk (lo := none) (rv0 := .slice none 0 0) b e m (pl_none w _).st tot0 hb he hm0 hm).mono ?_
  rintro r w' ⟨rfl, hs⟩
  exact ⟨rfl, st_none hs⟩
theorem pw_facts (b e m : Nat) : b ^ (2 * e) % m = (b ^ e % m) * (b ^ e % m) % m ∧ b ^ (e + 1) % m = (b ^ e % m) * (b % m) % m ∧ (b % m) ^ e % m = b ^ e % m := by
  refine ⟨?_, ?_, ?_⟩
  · rw [← Nat.mul_mod, ← Nat.pow_add, Nat.two_mul]
  · rw [← Nat.mul_mod, Nat.pow_succ]
  · rw [← Nat.pow_mod]
set_option maxRecDepth 100000 in
set_option maxHeartbeats 4000000 in
theorem powers_at (b e : Nat) (x : Int) (m : Nat) (w : World) (hb : b < 18446744073709551616) (he : e < 4294967296) (hm0 : 0 < m) (hm : m ≤ 4294967296) (hx : (x = 0 ∧ m = 4294967296) ∨ x = m ∧ m < 4294967296) :
    Calls Try.prog 5 #[.int .u64 b, .int .u32 e, .int .u32 x] w fun r w' => r = .returned (.bool true) ∧ Below w.heap.size w w' := by
  have LV := hidl (fun w => lives_walk w)
  have P1 := hidl (fun w => pow_nil b e m w hb (by omega) hm0 (by omega))
  have P2 := hidl (fun w => pow_nil b (2 * e) m w hb (by omega) hm0 (by omega))
  have P3 := hidl (fun w => pow_nil b (e + 1) m w hb (by omega) hm0 (by omega))
  have P4 := hidl (fun w => pow_nil (b % m) e m w (Nat.lt_of_le_of_lt (Nat.mod_le _ _) hb) (by omega) hm0 (by omega))
  obtain ⟨f1, f2, f3⟩ := pw_facts b e m
  rw [f1] at P2
  rw [f2] at P3
  rw [f3] at P4
  clear f1 f2 f3
  have la : b ^ e % m < m := Nat.mod_lt _ hm0
  have lc : b % m < m := Nat.mod_lt _ hm0
  obtain ⟨c, hc⟩ : ∃ c, b % m = c := ⟨_, rfl⟩
  have hcm : (b : Int) % (m : Int) = (c : Int) := by rw [← hc]; exact (Int.natCast_emod b m).symm
  rw [hc] at P3 P4 lc
  clear hc
  generalize b ^ e % m = A at *
  have s1 : A * A < 18446744073709551616 := Nat.lt_of_le_of_lt (Nat.mul_le_mul (show A ≤ 4294967295 by omega) (show A ≤ 4294967295 by omega)) (by decide)
  have s2 : A * c < 18446744073709551616 := Nat.lt_of_le_of_lt (Nat.mul_le_mul (show A ≤ 4294967295 by omega) (show c ≤ 4294967295 by omega)) (by decide)
  have w1 : IntKind.u64.wrap ((A : Int) * (A : Int)) = ((A * A : Nat) : Int) := by rw [wM, Nat.mod_eq_of_lt s1]
  have w2 : IntKind.u64.wrap ((A : Int) * (c : Int)) = ((A * c : Nat) : Int) := by rw [wM, Nat.mod_eq_of_lt s2]
  have w3 : ((A * A : Nat) : Int) % (m : Int) = ((A * A % m : Nat) : Int) := (Int.natCast_emod _ _).symm
  have w4 : ((A * c : Nat) : Int) % (m : Int) = ((A * c % m : Nat) : Int) := (Int.natCast_emod _ _).symm
  obtain ⟨p, hp⟩ : ∃ p, A * A = p := ⟨_, rfl⟩
  obtain ⟨q, hq⟩ : ∃ q, A * c = q := ⟨_, rfl⟩
  rw [hp] at w1 w3 P2
  rw [hq] at w2 w4 P3
  clear s1 s2 hp hq
  generalize p % m = B at *
  generalize q % m = C at *
  have we : IntKind.u64.wrap (2 * (e : Int)) = ((2 * e : Nat) : Int) := by rw [IntKind.wrap_u64]; omega
  have wf : IntKind.u64.wrap ((e : Int) + 1) = ((e + 1 : Nat) : Int) := by rw [IntKind.wrap_u64]; omega
  obtain ⟨e2, he2⟩ : ∃ e2, 2 * e = e2 := ⟨_, rfl⟩
  obtain ⟨e3, he3⟩ : ∃ e3, e + 1 = e3 := ⟨_, rfl⟩
  rw [he2] at we P2
  rw [he3] at wf P3
  clear he2 he3
  have wg : IntKind.u64.wrap (e : Int) = (e : Int) := by rw [IntKind.wrap_u64]; omega
  have lm : (A : Int) < (m : Int) := by omega
  have nz : ¬ (m : Int) = 0 := by omega
  clear la lc hb hm0 he
  rcases hx with ⟨rfl, hm2⟩ | ⟨rfl, hm2⟩
  · have hm3 : (4294967296 : Int) = (m : Int) := by omega
    clear hm hm2
    go_enter Try.func5, Try.ntmps5
    go_upto_region 6 with (go_at_call 8; refine (LV.out _).mono ?_; rintro r w' ⟨rfl, h⟩; have H0 := hidl h; clear h)
    rw [hm3]
    clear hm3
    go_wp2_with (first
      | (go_at_call 17; with_reducible refine (P1.out _).mono ?_; rintro r w' ⟨rfl, h⟩; have H1 := hidl (H0.out.trans (h.mono H0.out.size)); clear h P1)
      | (go_at_call 17; with_reducible refine (P2.out _).mono ?_; rintro r w' ⟨rfl, h⟩; have H2 := hidl (H1.out.trans (h.mono H1.out.size)); clear h P2)
      | (go_at_call 17; with_reducible refine (P3.out _).mono ?_; rintro r w' ⟨rfl, h⟩; have H3 := hidl (H2.out.trans (h.mono H2.out.size)); clear h P3)
      | (go_at_call 17; with_reducible refine (P4.out _).mono ?_; rintro r w' ⟨rfl, h⟩; have H4 := hidl (H3.out.trans (h.mono H3.out.size)); clear h P4))
    go_ret
    exact ⟨rfl, H4.out⟩
  · have hm3 : IntKind.u64.wrap (m : Int) = (m : Int) := by rw [IntKind.wrap_u64]; omega
    have nzb : ((m : Int) == 0) = false := by simp; omega
    clear hm hm2
    go_enter Try.func5, Try.ntmps5
    go_upto_region 6 with (go_at_call 8; refine (LV.out _).mono ?_; rintro r w' ⟨rfl, h⟩; have H0 := hidl h; clear h)
    go_wp2_with (first
      | (go_at_call 17; with_reducible refine (P1.out _).mono ?_; rintro r w' ⟨rfl, h⟩; have H1 := hidl (H0.out.trans (h.mono H0.out.size)); clear h P1)
      | (go_at_call 17; with_reducible refine (P2.out _).mono ?_; rintro r w' ⟨rfl, h⟩; have H2 := hidl (H1.out.trans (h.mono H1.out.size)); clear h P2)
      | (go_at_call 17; with_reducible refine (P3.out _).mono ?_; rintro r w' ⟨rfl, h⟩; have H3 := hidl (H2.out.trans (h.mono H2.out.size)); clear h P3)
      | (go_at_call 17; with_reducible refine (P4.out _).mono ?_; rintro r w' ⟨rfl, h⟩; have H4 := hidl (H3.out.trans (h.mono H3.out.size)); clear h P4))
    go_ret
    exact ⟨rfl, H4.out⟩
end Go.Proofs.Ytpcnkiapbkmjbaa.Nv
