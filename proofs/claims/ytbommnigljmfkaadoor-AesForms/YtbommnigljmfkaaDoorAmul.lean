/- The program's 'multiplied': each column times the rows that begin with one. -/
import Derived.Test.YtbommnigljmfkaaDoorAturn
import Derived.Test.YtbommnigljmfkaaDoorGwalk
import Derived.Deep.RegionLaw
import Derived.Deep.DeepMust
namespace Go.Proofs.YtbommnigljmfkaaDoor.Ae
open Go.ChangeShapes Go.WideShapes Go.ChangeAt Go.RowKit
open Go.Proofs.YtbommnigljmfkaaDoor.By Go.Proofs.YtbommnigljmfkaaDoor.Gf
theorem below_dr {B : Nat} {a w : World} (h : Below B a w) : Below B a w.drew := ⟨h.os, h.tape, h.output, h.size, h.block⟩
theorem quo4 (k : Nat) : (k : Int).tdiv 4 = ((k / 4 : Nat) : Int) := by
  rw [Int.tdiv_eq_ediv_of_nonneg (by omega)]; omega
theorem rem4 (k : Nat) : (k : Int).tmod 4 = ((k % 4 : Nat) : Int) := by
  rw [Int.tmod_eq_emod_of_nonneg (by omega)]; omega
set_option maxRecDepth 4000 in
theorem slice4 (W : World) (b c : Nat) (hc : c ≤ 3) : (Instr.sliceAt 58 (.pointer (some ⟨b, 0, none⟩)) (some (.int .i64 (4 * (c : Int)))) (some (.int .i64 (4 * ((c : Int) + 1)))) none).run Tryd.prog W = .ok (.slice (some ⟨b, 4 * c, none⟩) 4 (16 - 4 * c)) W := by
  have hl : Tryd.prog.arrayLen 58 = 16 := by kernel_rfl
  have hs : (sizeOf (Tryd.prog.elem 58)).run Tryd.prog W = .ok 1 W := by kernel_rfl
  have h := run_sliceAt_array_lh (P := Tryd.prog) W 58 ⟨b, 0, none⟩ Tryd.underlying58 .i64 .i64 (4 * (c : Int)) (4 * ((c : Int) + 1)) (by omega) (by omega) (by rw [hl]; omega)
  rw [h, hs, hl, Result.andThen_ok, slicedAt, if_neg (by omega), By.add_plain]
  simp only [Result.ok.injEq, Value.slice.injEq, Option.some.injEq, Addr.mk.injEq, and_true, true_and]
  omega
/-- The sum of the first j products. -/
def p4 (v a : Nat → Nat) : Nat → Nat
  | 0 => 0
  | j + 1 => p4 v a j ^^^ mul (v j) (a j)
theorem p4_lt (v a : Nat → Nat) (j : Nat) : p4 v a j < 256 := by
  induction j with
  | zero => exact Nat.zero_lt_succ _
  | succ j ih => exact xor_lt _ _ ih (mul_lt _ _)
theorem p4_all (v a : Nat → Nat) : p4 v a 4 = L4 v a := by
  show 0 ^^^ mul (v 0) (a 0) ^^^ mul (v 1) (a 1) ^^^ mul (v 2) (a 2) ^^^ mul (v 3) (a 3) = _
  rw [Nat.zero_xor]; rfl
def mrow (m : Nat → Nat) (r j : Nat) : Nat := m ((j + 4 - r) % 4)
def mcol (b : Nat → Nat) (c j : Nat) : Nat := b (4 * c + j)
theorem mix_p4 (m b : Nat → Nat) (k : Nat) : mix m b k = p4 (mrow m (k % 4)) (mcol b (k / 4)) 4 := (p4_all _ _).symm
/-- Bytes ahead of k are there, byte k is on its way. -/
def part (m b : Nat → Nat) (k x i : Nat) : Nat := if i < k then mix m b i else if i = k then x else 0
theorem part_zero (m b : Nat → Nat) (k : Nat) : bl 16 (cb (part m b k 0)) = bl 16 (cb (upto k (mix m b))) := bl_congr _ _ _ (fun i _ => by
  show ((part m b k 0 i : Nat) : Int) = ((upto k (mix m b) i : Nat) : Int)
  unfold part upto
  split
  · rfl
  · split <;> rfl)
theorem part_all (m b : Nat → Nat) (k : Nat) : bl 16 (cb (part m b k (mix m b k))) = bl 16 (cb (upto (k + 1) (mix m b))) := bl_congr _ _ _ (fun i _ => by
  show ((part m b k (mix m b k) i : Nat) : Int) = ((upto (k + 1) (mix m b) i : Nat) : Int)
  unfold part upto
  by_cases h : i < k
  · rw [if_pos h, if_pos (by omega)]
  · by_cases e : i = k
    · subst e; rw [if_neg h, if_pos rfl, if_pos (by omega)]
    · rw [if_neg h, if_neg e, if_neg (by omega)])
theorem part_at (m b : Nat → Nat) (k x : Nat) : part m b k x k = x := by unfold part; rw [if_neg (by omega), if_pos rfl]
theorem part_set (m b : Nat → Nat) (k x y : Nat) : (bl 16 (cb (part m b k x))).set k (.int .u8 (y : Int)) = bl 16 (cb (part m b k y)) := by
  rw [bl_set]
  refine bl_congr _ _ _ (fun i _ => ?_)
  show (if i = k then (y : Int) else ((part m b k x i : Nat) : Int)) = ((part m b k y i : Nat) : Int)
  unfold part
  by_cases e : i = k
  · subst e; rw [if_pos rfl, if_neg (by omega), if_pos rfl]
  · rw [if_neg e, if_neg e, if_neg e]
set_option maxRecDepth 8000 in
set_option maxHeartbeats 4000000 in
theorem mult1 (m b : Nat → Nat) (hm : ∀ i, m i < 256) (hb : B16 b) (w : World) : Calls Tryd.prog 52 #[bv b, .agg (bl 4 (cb m)).toArray] w fun e w' => e = .returned (bv (mix m b)) ∧ Below w.heap.size w w' := by
  unfold bv
  have HM := hid hm
  have HBB := hid hb
  clear hm hb
  go_enter Tryd.func52, Tryd.ntmps52
  go_wp2_with fail
  go_loopw [11] (fun i wr => ∃ k : Nat, k ≤ 16 ∧ i = .int .i64 k ∧ Blk wr w.heap.size (bl 16 (cb b)) 58 ∧ Blk wr (w.heap.size + 1) (bl 4 (cb m)) 47 ∧ Blk wr (w.heap.size + 1 + 1) (bl 16 (cb (upto 0 b))) 58 ∧ Blk wr (w.heap.size + 1 + 1 + 1) (bl 16 (cb (upto k (mix m b)))) 58 ∧ Below w.heap.size w wr) (fun i _ => 16 - (intOf i).toNat)
  case atStart =>
    exact ⟨0, Nat.zero_le _, rfl, (((Blk.newAt _ _ _ _ _ rfl rfl).alloc _).alloc _).alloc _, ((Blk.newAt _ _ _ _ _ (by simp) rfl).alloc _).alloc _, (Blk.newAt _ _ _ _ _ (by simp) (zero16 b)).alloc _, Blk.newAt _ _ _ _ _ (by simp) (zero16 _), (below3 _ _ _ _).alloc (by simp; omega) _⟩
  case round =>
    obtain ⟨k, hk, rfl, b0, b1, b2, b3, hbel⟩ := hrel
    have B0 := hid b0
    have B1 := hid b1
    have B2 := hid b2
    have B3 := hid b3
    have HB := hid hbel
    have HZ := hid b3.lt
    clear b0 b1 b2 b3 hbel
    by_cases hlt : k < 16
    · have e1 := quo4 k
      have e2 := rem4 k
      obtain ⟨C, hC⟩ : ∃ C, C = k / 4 := ⟨_, rfl⟩
      obtain ⟨R, hR⟩ : ∃ R, R = k % 4 := ⟨_, rfl⟩
      have hC3 : C ≤ 3 := by omega
      have hR3 : R ≤ 3 := by omega
      rw [← hC] at e1
      rw [← hR] at e2
      have KC := hid hC
      have KR := hid hR
      have hsl := fun W => slice4 W w.heap.size C hC3
      clear hC hR
      go_wp2_with fail
      rw [show decide ((k : Int) < 16) = true from decide_eq_true (by omega)]
      go_loopw [25] (fun i wr => ∃ j : Nat, j ≤ 4 ∧ i = .int .i64 j ∧ Blk wr w.heap.size (bl 16 (cb b)) 58 ∧ Blk wr (w.heap.size + 1) (bl 4 (cb m)) 47 ∧ Blk wr (w.heap.size + 1 + 1) (bl 16 (cb (upto 0 b))) 58 ∧ Blk wr (w.heap.size + 1 + 1 + 1) (bl 16 (cb (part m b k (p4 (mrow m R) (mcol b C) j)))) 58 ∧ Below w.heap.size w wr) (fun i _ => 4 - (intOf i).toNat)
      case atStart =>
        refine ⟨0, Nat.zero_le _, rfl, B0.out, B1.out, B2.out, ?_, HB.out⟩
        show Blk _ _ (bl 16 (cb (part m b k 0))) _
        rw [part_zero]; exact B3.out
      case round =>
        clear B0 B1 B2 B3 HB HZ e1 e2 hsl
        obtain ⟨j, hj, rfl, b0, b1, b2, b3, hbel⟩ := hrel
        have B0 := hid b0
        have B1 := hid b1
        have B2 := hid b2
        have B3 := hid b3
        have HB := hid hbel
        have HZ := hid b3.lt
        clear b0 b1 b2 b3 hbel
        by_cases hlj : j < 4
        · have c0 := B0.out.cell (4 * C + j) _ (bl_get 16 _ _ (by omega))
          have c1 := B1.out.cell ((j + 4 - R) % 4) _ (bl_get 4 _ _ (Nat.mod_lt _ (by decide)))
          have c3 := B3.out.cell k _ (bl_get 16 _ k hlt)
          have f3 := B3.out.frozen k
          rw [show cb (part m b k (p4 (mrow m R) (mcol b C) j)) k = ((p4 (mrow m R) (mcol b C) j : Nat) : Int) from congrArg Nat.cast (part_at m b k _)] at c3
          have HP := hid (show p4 (mrow m R) (mcol b C) (j + 1) = p4 (mrow m R) (mcol b C) j ^^^ mul (m ((j + 4 - R) % 4)) (b (4 * C + j)) from rfl)
          have hx := HM.out ((j + 4 - R) % 4)
          have hy := HBB.out (4 * C + j) (by omega)
          have hp := p4_lt (mrow m R) (mcol b C) j
          obtain ⟨P, eP⟩ : ∃ P, p4 (mrow m R) (mcol b C) j = P := ⟨_, rfl⟩
          rw [eP] at c3 HP hp B3
          clear eP
          change wr.cell? ⟨w.heap.size + 1, (j + 4 - R) % 4, none⟩ = some (.int .u8 ((m ((j + 4 - R) % 4) : Nat) : Int)) at c1
          change wr.cell? ⟨w.heap.size, 4 * C + j, none⟩ = some (.int .u8 ((b (4 * C + j) : Nat) : Int)) at c0
          obtain ⟨x, ex⟩ : ∃ x, m ((j + 4 - R) % 4) = x := ⟨_, rfl⟩
          rw [ex] at c1 HP hx
          obtain ⟨y, ey⟩ : ∃ y, b (4 * C + j) = y := ⟨_, rfl⟩
          rw [ey] at c0 HP hy
          clear ex ey
          have HX := hid (xor8 P (mul x y) hp (mul_lt _ _))
          have e3 : (IntKind.i64.wrap (IntKind.i64.wrap (4 + (j : Int)) - (R : Int))).tmod 4 = (((j + 4 - R) % 4 : Nat) : Int) := by
            rw [show IntKind.i64.wrap (4 + (j : Int)) = 4 + (j : Int) from by rw [IntKind.wrap_i64]; omega]
            rw [show IntKind.i64.wrap (4 + (j : Int) - (R : Int)) = 4 + (j : Int) - (R : Int) from by rw [IntKind.wrap_i64]; omega]
            rw [Int.tmod_eq_emod_of_nonneg (by omega)]; omega
          obtain ⟨I, hI⟩ : ∃ I, (j + 4 - R) % 4 = I := ⟨_, rfl⟩
          rw [hI] at c1 e3
          have hI4 : (I : Int) < 4 := by omega
          clear hI
          go_wp2_with fail
          go_region_law (go_simp; go_at_call 65; refine (mul_walk x y _ hx hy).mono ?_; rintro e w' ⟨rfl, rfl⟩)
          all_goals
            go_wp2_with fail
            have hz := HZ.out
            refine ⟨⟨j + 1, by omega, by go_num, B0.out.other (by omega) _ _, B1.out.other (by omega) _ _, B2.out.other (by omega) _ _, ?_, below_set (below_dr HB.out) _ _ _ (by omega) (by show _ ≤ wr.heap.size; omega)⟩, by simp [intOf]; omega⟩
            rw [HX.out, HP.out, ← part_set m b k P]
            exact B3.out.set _ _
        · have ej : j = 4 := by omega
          subst ej
          have HE := hid (show p4 (mrow m R) (mcol b C) 4 = mix m b k from by rw [mix_p4, ← KC.out, ← KR.out])
          rw [HE.out, part_all] at B3
          go_wp2_with fail
          exact ⟨⟨k + 1, by omega, by go_num, B0.out, B1.out, B2.out, B3.out, HB.out⟩, by simp [intOf]; omega⟩
    · have ek : k = 16 := by omega
      subst ek
      rw [upto_all] at B3
      have l1 := LDb_run (range0 B3.out) (bl_length _ _)
      have s1 := SVb_run (cs := bl 16 (cb (mix m b))) (B2.out.there 0 16 (by rw [bl_length]; omega)) (bl_length _ _) (bl_one _ _)
      have b4 := B2.out.put 0 (bl 16 (cb (mix m b)))
      rw [put_all _ _ (by rw [bl_length, bl_length])] at b4
      have l2 := hid (LDb_run (range0 b4) (bl_length _ _))
      clear b4
      go_wp2
      have hz := HZ.out
      refine bodyPost_ret ?_ rfl ⟨rfl, below_cells HB.out _ _ _ (by omega) HB.out.size⟩
      exact results_cell1 Tryd.results52 rfl l2.out
end Go.Proofs.YtbommnigljmfkaaDoor.Ae
