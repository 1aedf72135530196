/- How much a skeleton may record, of both. -/
import Derived.Test.YtdahogdfonhnfaaVrf
import Derived.Laws.Cover1
namespace Go.Proofs.Ytdahogdfonhnfaa.Ou
open Go.ChangeShapes Go.WideShapes Go.ChangeAt Go.RowKit
open Go.Proofs.Ytdahogdfonhnfaa.By
open Go.Proofs.Ytdahogdfonhnfaa.Tb (Blk Blk.newAt put_all Kp.setCells)
/-- A number as it counts in a bound. -/
def cn (n : Int) : Int := if n < 0 then 0 else if n > 16777216 then 16777216 else n
theorem cn_b (n : Int) : 0 ≤ cn n ∧ cn n ≤ 16777216 := by unfold cn; split; omega; split <;> omega
theorem cn_mono {n m : Int} (h : n ≤ m) : cn n ≤ cn m := by unfold cn; split <;> split <;> (try split) <;> omega
/-- B. -/
def bd (s : Sk) : Int := 64 + cn s.d + cn s.o + (cn s.m + 512) * (cn s.o / 32 + 1) / 16 + 4 * cn s.c * (cn s.o / 32 + 1)
set_option maxRecDepth 8000 in
set_option maxHeartbeats 400000 in
theorem counted_ok (n : Int) (w : World) : Calls Try.prog 36 #[.int .i64 n] w fun e w' => e = .returned (.int .i64 (cn n)) ∧ w' = w := by
  by_cases h : n < 0
  · have E : Hid (cn n = 0) := if_pos h
    go_enter Try.func36, Try.ntmps36
    go_wp2
    go_ret
    exact ⟨by rw [E.out]; rfl, rfl⟩
  · by_cases h2 : 16777216 < n
    · have E : Hid (cn n = 16777216) := by show cn n = _; unfold cn; rw [if_neg h, if_pos h2]
      go_enter Try.func36, Try.ntmps36
      go_wp2
      go_ret
      exact ⟨by rw [E.out]; rfl, rfl⟩
    · have E : Hid (cn n = n) := by show cn n = _; unfold cn; rw [if_neg h, if_neg h2]
      go_enter Try.func36, Try.ntmps36
      go_wp2
      go_ret
      exact ⟨by rw [E.out]; rfl, rfl⟩
set_option maxRecDepth 8000 in
set_option maxHeartbeats 400000 in
theorem rcut_ok (n : Int) (w : World) : Calls Try.prog 37 #[.int .i64 n] w fun e w' => e = .returned (.int .i64 (cn n)) ∧ w' = w := by
  by_cases h : n < 0
  · have E : Hid (cn n = 0) := if_pos h
    go_enter Try.func37, Try.ntmps37
    go_wp2
    go_ret
    exact ⟨by rw [E.out]; rfl, rfl⟩
  · by_cases h2 : 16777216 < n
    · have E : Hid (cn n = 16777216) := by show cn n = _; unfold cn; rw [if_neg h, if_pos h2]
      go_enter Try.func37, Try.ntmps37
      go_wp2
      go_ret
      exact ⟨by rw [E.out]; rfl, rfl⟩
    · have E : Hid (cn n = n) := by show cn n = _; unfold cn; rw [if_neg h, if_neg h2]
      go_enter Try.func37, Try.ntmps37
      go_wp2
      go_ret
      exact ⟨by rw [E.out]; rfl, rfl⟩
theorem mul_b (x p : Int) (hx : 0 ≤ x ∧ x ≤ 67108864) (hp : 0 ≤ p ∧ p ≤ 524289) : 0 ≤ x * p ∧ x * p ≤ 70368744177664 := by
  refine ⟨Int.mul_nonneg hx.1 hp.1, ?_⟩
  have h1 : x * p ≤ 67108864 * p := Int.mul_le_mul_of_nonneg_right hx.2 hp.1
  omega
set_option maxRecDepth 8000 in
set_option maxHeartbeats 1200000 in
theorem bound_ok (s : Sk) (w : World) : Calls Try.prog 19 #[sv s] w fun e w' => e = .returned (.int .i64 (bd s)) ∧ Below w.heap.size w w' := by
  have hE : bd s = 64 + cn s.d + cn s.o + (cn s.m + 512) * (cn s.o / 32 + 1) / 16 + 4 * cn s.c * (cn s.o / 32 + 1) := rfl
  have C1 := counted_ok s.d
  have C2 := counted_ok s.m
  have C3 := counted_ok s.o
  have C4 := counted_ok s.c
  have b1 := cn_b s.d
  have b2 := cn_b s.m
  have b3 := cn_b s.o
  have b4 := cn_b s.c
  obtain ⟨x, hx⟩ : ∃ x, cn s.d = x := ⟨_, rfl⟩
  obtain ⟨y, hy⟩ : ∃ x, cn s.m = x := ⟨_, rfl⟩
  obtain ⟨z, hz⟩ : ∃ x, cn s.o = x := ⟨_, rfl⟩
  obtain ⟨u, hu⟩ : ∃ x, cn s.c = x := ⟨_, rfl⟩
  rw [hx] at C1 b1 hE
  rw [hy] at C2 b2 hE
  rw [hz] at C3 b3 hE
  rw [hu] at C4 b4 hE
  clear hx hy hz hu
  have HE := hid hE
  have D1 := hid C1
  have D2 := hid C2
  have D3 := hid C3
  have D4 := hid C4
  clear hE C1 C2 C3 C4
  have m1 := mul_b (y + 512) (z / 32 + 1) (by omega) (by omega)
  have m2 := mul_b (4 * u) (z / 32 + 1) (by omega) (by omega)
  go_enter Try.func19, Try.ntmps19
  go_wp2_with fail
  go_quiet ((first | (go_at_call 36; with_reducible refine (D1.out _).mono ?_; rintro e w' ⟨rfl, rfl⟩; exact ⟨rfl, _, rfl⟩) | (go_at_call 36; with_reducible refine (D2.out _).mono ?_; rintro e w' ⟨rfl, rfl⟩; exact ⟨rfl, _, rfl⟩) | (go_at_call 36; with_reducible refine (D3.out _).mono ?_; rintro e w' ⟨rfl, rfl⟩; exact ⟨rfl, _, rfl⟩) | (go_at_call 36; with_reducible refine (D4.out _).mono ?_; rintro e w' ⟨rfl, rfl⟩; exact ⟨rfl, _, rfl⟩)))
  go_wp2
  go_ret
  exact ⟨by rw [HE.out]; rfl, below_next (below_alloc _ _) (below_drewN _ _)⟩
set_option maxRecDepth 8000 in
set_option maxHeartbeats 1200000 in
theorem rbound_ok (s : Sk) (w : World) : Calls Try.prog 20 #[sv s] w fun e w' => e = .returned (.int .i64 (bd s)) ∧ Below w.heap.size w w' := by
  have hE : bd s = 64 + cn s.d + cn s.o + (cn s.m + 512) * (cn s.o / 32 + 1) / 16 + 4 * cn s.c * (cn s.o / 32 + 1) := rfl
  have C1 := rcut_ok s.d
  have C2 := rcut_ok s.m
  have C3 := rcut_ok s.o
  have C4 := rcut_ok s.c
  have b1 := cn_b s.d
  have b2 := cn_b s.m
  have b3 := cn_b s.o
  have b4 := cn_b s.c
  obtain ⟨x, hx⟩ : ∃ x, cn s.d = x := ⟨_, rfl⟩
  obtain ⟨y, hy⟩ : ∃ x, cn s.m = x := ⟨_, rfl⟩
  obtain ⟨z, hz⟩ : ∃ x, cn s.o = x := ⟨_, rfl⟩
  obtain ⟨u, hu⟩ : ∃ x, cn s.c = x := ⟨_, rfl⟩
  rw [hx] at C1 b1 hE
  rw [hy] at C2 b2 hE
  rw [hz] at C3 b3 hE
  rw [hu] at C4 b4 hE
  clear hx hy hz hu
  have HE := hid hE
  have D1 := hid C1
  have D2 := hid C2
  have D3 := hid C3
  have D4 := hid C4
  clear hE C1 C2 C3 C4
  have m1 := mul_b (y + 512) (z / 32 + 1) (by omega) (by omega)
  have m2 := mul_b (4 * u) (z / 32 + 1) (by omega) (by omega)
  go_enter Try.func20, Try.ntmps20
  go_wp2_with fail
  refine (D1.out _).mono ?_
  rintro e w' ⟨rfl, rfl⟩
  go_wp2_with fail
  refine (D2.out _).mono ?_
  rintro e w' ⟨rfl, rfl⟩
  go_wp2_with fail
  refine (D3.out _).mono ?_
  rintro e w' ⟨rfl, rfl⟩
  go_wp2_with fail
  refine (D4.out _).mono ?_
  rintro e w' ⟨rfl, rfl⟩
  go_wp2
  go_ret
  exact ⟨by rw [HE.out]; rfl, below_alloc _ _⟩
end Go.Proofs.Ytdahogdfonhnfaa.Ou
