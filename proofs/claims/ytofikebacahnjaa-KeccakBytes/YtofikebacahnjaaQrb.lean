/- What the document's Bytes answers. -/
import Derived.Test.YtofikebacahnjaaQfrom
namespace Go.Proofs.Ytofikebacahnjaa.Kc
open Go.ChangeShapes Go.WideShapes Go.ChangeAt Go.RowKit
open Go.Proofs.Ytofikebacahnjaa.By Go.Proofs.Ytofikebacahnjaa.Wd
/-- The first n bytes. -/
def bn (a : Nat → Int) (n i : Nat) : Int := if i < n then bf a i else 0
theorem bn_zero (a : Nat → Int) : bl 200 (fun _ => (0 : Int)) = bl 200 (bn a 0) := bl_congr 200 _ _ (fun i _ => by unfold bn; rw [if_neg (by omega)])
theorem bn_end (a : Nat → Int) : bl 200 (bn a 200) = bl 200 (bf a) := bl_congr 200 _ _ (fun i hi => by unfold bn; rw [if_pos hi])
theorem bn_next (a : Nat → Int) (n : Nat) (x : Int) (hx : x = bf a n) : (bl 200 (bn a n)).set n (.int .u8 x) = bl 200 (bn a (n + 1)) := by
  rw [bl_set]
  refine bl_congr 200 _ _ (fun i _ => ?_)
  unfold bn
  by_cases h : i = n
  · rw [if_pos h, if_pos (by omega), h, hx]
  · rw [if_neg h]
    by_cases h2 : i < n
    · rw [if_pos h2, if_pos (by omega)]
    · rw [if_neg h2, if_neg (by omega)]
theorem bn_val (a : Nat → Int) (n : Nat) : a (n / 8) / 2 ^ (8 * (n % 8)) % 256 = bf a n := by
  unfold bf leByte
  rw [Int.pow_mul]; rfl
set_option maxRecDepth 4000 in
set_option maxHeartbeats 2000000 in
theorem refBytes1 (a : Nat → Int) (ha : AW a) (w : World) :
    Calls Try.prog 5 #[.agg (wl 25 a).toArray] w fun e w' => e = .returned (.agg (bl 200 (bf a)).toArray) ∧ Below w.heap.size w w' := by
  have HA := hid ha
  clear ha
  go_enter Try.func5, Try.ntmps5
  go_wp2_with fail
  go_loopw [4] (fun i wr => ∃ n : Nat, n ≤ 200 ∧ i = .int .i64 n ∧ Blk wr w.heap.size (wl 25 a) 24 ∧ Blk wr (w.heap.size + 1) (bl 200 (fun _ => 0)) 26 ∧ Blk wr (w.heap.size + 1 + 1) (bl 200 (bn a n)) 26 ∧ Below w.heap.size w wr) (fun i _ => 200 - (intOf i).toNat)
  case atStart =>
    refine ⟨0, Nat.zero_le _, rfl, ((Blk.new w _ _).alloc _).alloc _, (Blk.newAt _ _ _ _ _ (by rw [size_alloc]) rfl).alloc _, Blk.newAt _ _ _ _ _ (by rw [size_alloc, size_alloc]) (by rw [← bn_zero]; rfl), ?_⟩
    exact below_next (below_next (below_alloc w _) (below_alloc _ _)) (below_alloc _ _)
  case round =>
    obtain ⟨n, hn, rfl, b0, b1, b2, hbel⟩ := hrel
    have B0 := hid b0
    have B1 := hid b1
    have B2 := hid b2
    have HB := hid hbel
    have HZ := hid b2.lt
    clear b0 b1 b2 hbel
    by_cases hlt : n < 200
    · have c0 := B0.out.cell (n / 8) _ (wl_get 25 a (n / 8) (by omega))
      have c2 := B2.out.cell n _ (bl_get 200 _ n hlt)
      have f2 := B2.out.frozen n
      have eq : ((n : Int)).tdiv 8 = ((n / 8 : Nat) : Int) := by rw [Int.tdiv_eq_ediv_of_nonneg (by omega)]; omega
      have er : ((n : Int)).tmod 8 = ((n % 8 : Nat) : Int) := by rw [Int.tmod_eq_emod_of_nonneg (by omega)]; omega
      have HN := hid (bn_next a n _ (bn_val a n))
      have hx := HA.out (n / 8)
      have hx0 := hx.1
      have hx1 := hx.2
      clear hx
      have hq : n / 8 < 25 := by omega
      have hr : n % 8 < 8 := by omega
      have i0 : ((n / 8 : Nat) : Int) < 25 := by omega
      obtain ⟨x, ex⟩ : ∃ z, a (n / 8) = z := ⟨_, rfl⟩
      rw [ex] at c0 HN hx0 hx1
      obtain ⟨m, em⟩ : ∃ z, bn a n n = z := ⟨_, rfl⟩
      rw [em] at c2
      clear ex em
      generalize n / 8 = q at *
      generalize n % 8 = r at *
      go_wp2_with fail
      have hz := HZ.out
      refine ⟨⟨n + 1, by omega, by go_num, B0.out.other (by omega) _ _, B1.out.other (by omega) _ _, ?_, below_set HB.out _ _ _ (by omega) (by omega)⟩, by simp [intOf]; omega⟩
      rw [← HN.out]
      exact B2.out.set _ _
    · have ek : n = 200 := by omega
      subst ek
      rw [bn_end] at B2
      have l1 := LDb_run (B2.out.range 0 _ (fun j v h => by rw [Nat.zero_add]; exact h)) (bl_length _ _)
      have s1 := SVb_run (cs := bl 200 (bf a)) (B1.out.there 0 200 (by rw [bl_length]; omega)) (bl_length _ _) (bl_one _ _)
      have b3 := B1.out.put 0 (bl 200 (bf a))
      rw [put_all _ _ (by rw [bl_length, bl_length])] at b3
      have l2 := hid (LDb_run (b3.range 0 _ (fun j v h => by rw [Nat.zero_add]; exact h)) (bl_length _ _))
      clear b3
      go_wp2
      have hz := HZ.out
      refine bodyPost_ret (v := .agg (bl 200 (bf a)).toArray) ?_ rfl ⟨rfl, below_cells HB.out _ _ _ (by omega) (by omega)⟩
      exact results_cell1 Try.results5 rfl l2.out
end Go.Proofs.Ytofikebacahnjaa.Kc
