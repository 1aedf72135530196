/- The program's 'turned', there and back: round by round. -/
import Derived.Test.YtbommnigljmfkaaDoorRows
import Derived.Test.YtbommnigljmfkaaDoorAcel0
import Derived.Test.YtbommnigljmfkaaDoorAcel
import Derived.WalkKit
import Derived.ProofKit
namespace Go.Proofs.YtbommnigljmfkaaDoor.Ae
open Go.ChangeShapes Go.WideShapes Go.ChangeAt Go.RowKit
open Go.Proofs.YtbommnigljmfkaaDoor.By Go.Proofs.YtbommnigljmfkaaDoor.Gf
theorem bl16 (b : Nat → Nat) : bl 16 (cb b) = [.int .u8 (b 0), .int .u8 (b 1), .int .u8 (b 2), .int .u8 (b 3), .int .u8 (b 4), .int .u8 (b 5), .int .u8 (b 6), .int .u8 (b 7), .int .u8 (b 8), .int .u8 (b 9), .int .u8 (b 10), .int .u8 (b 11), .int .u8 (b 12), .int .u8 (b 13), .int .u8 (b 14), .int .u8 (b 15)] := rfl
theorem below3 (w : World) (a b c : Obj) : Below w.heap.size w (((w.alloc a).alloc b).alloc c) :=
  (((Below.refl _ w).alloc (Nat.le_refl _) a).alloc (by simp) b).alloc (by simp; omega) c
/-- A list that is made byte by byte: the first k are there. -/
def upto (k : Nat) (f : Nat → Nat) (j : Nat) : Nat := if j < k then f j else 0
theorem upto_set (f : Nat → Nat) (k : Nat) : (bl 16 (cb (upto k f))).set k (.int .u8 (f k)) = bl 16 (cb (upto (k + 1) f)) := by
  rw [bl_set]
  refine bl_congr _ _ _ (fun i _ => ?_)
  show (if i = k then (f k : Int) else ((upto k f i : Nat) : Int)) = ((upto (k + 1) f i : Nat) : Int)
  unfold upto
  by_cases e : i = k
  · subst e; rw [if_pos rfl, if_pos (by omega)]
  · rw [if_neg e]
    by_cases h : i < k
    · rw [if_pos h, if_pos (by omega)]
    · rw [if_neg h, if_neg (by omega)]
theorem upto_all (f : Nat → Nat) : bl 16 (cb (upto 16 f)) = bl 16 (cb f) := bl_congr _ _ _ (fun i hi => by show ((upto 16 f i : Nat) : Int) = _; unfold upto; rw [if_pos hi])
theorem zero16 (f : Nat → Nat) : #[Value.int IntKind.u8 0, Value.int IntKind.u8 0, Value.int IntKind.u8 0, Value.int IntKind.u8 0, Value.int IntKind.u8 0, Value.int IntKind.u8 0, Value.int IntKind.u8 0, Value.int IntKind.u8 0, Value.int IntKind.u8 0, Value.int IntKind.u8 0, Value.int IntKind.u8 0, Value.int IntKind.u8 0, Value.int IntKind.u8 0, Value.int IntKind.u8 0, Value.int IntKind.u8 0, Value.int IntKind.u8 0] = (bl 16 (cb (upto 0 f))).toArray := rfl
theorem range0 {w : World} {g : Nat} {cs : List Value} {t : TypeId} (h : Blk w g cs t) : w.rangeAt g 0 cs := h.range 0 _ (fun j v h => by rw [Nat.zero_add]; exact h)
set_option maxHeartbeats 2000000 in
theorem turned1 (b : Nat → Nat) (w : World) : Calls Tryd.prog 51 #[bv b, .int .i64 1] w fun e w' => e = .returned (bv (trn 1 b)) ∧ Below w.heap.size w w' := by
  unfold bv
  go_enter Tryd.func51, Tryd.ntmps51
  go_wp2_with fail
  go_loopw [10] (fun i wr => ∃ k : Nat, k ≤ 16 ∧ i = .int .i64 k ∧ Blk wr w.heap.size (bl 16 (cb b)) 58 ∧ Blk wr (w.heap.size + 1) (bl 16 (cb (upto 0 b))) 58 ∧ Blk wr (w.heap.size + 1 + 1) (bl 16 (cb (upto k (trn 1 b)))) 58 ∧ Below w.heap.size w wr) (fun i _ => 16 - (intOf i).toNat)
  case atStart =>
    exact ⟨0, Nat.zero_le _, rfl, ((Blk.newAt _ _ _ _ _ rfl rfl).alloc _).alloc _, (Blk.newAt _ _ _ _ _ (by simp) (zero16 b)).alloc _, Blk.newAt _ _ _ _ _ (by simp) (zero16 _), below3 _ _ _ _⟩
  case round =>
    obtain ⟨k, hk, rfl, b0, b1, b2, hbel⟩ := hrel
    have B0 := hid b0
    have B1 := hid b1
    have B2 := hid b2
    have HB := hid hbel
    have HZ := hid b2.lt
    clear b0 b1 b2 hbel
    by_cases hlt : k < 16
    · have c1 := B0.out.cell (4 * ((k / 4 + k % 4 * 1) % 4) + k % 4) _ (bl_get 16 _ _ (trn_lt 1 k hlt))
      have HS := hid (upto_set (trn 1 b) k)
      have f2 := B2.out.frozen k
      have c2 := B2.out.cell k _ (bl_get 16 _ k hlt)
      rw [show cb b (4 * ((k / 4 + k % 4 * 1) % 4) + k % 4) = ((trn 1 b k : Nat) : Int) from rfl] at c1
      generalize trn 1 b k = x at c1 HS
      generalize cb (upto k (trn 1 b)) k = y at c2
      have hcase : k = 0 ∨ k = 1 ∨ k = 2 ∨ k = 3 ∨ k = 4 ∨ k = 5 ∨ k = 6 ∨ k = 7 ∨ k = 8 ∨ k = 9 ∨ k = 10 ∨ k = 11 ∨ k = 12 ∨ k = 13 ∨ k = 14 ∨ k = 15 := by omega
      clear hlt hk
      rcases hcase with rfl | rfl | rfl | rfl | rfl | rfl | rfl | rfl | rfl | rfl | rfl | rfl | rfl | rfl | rfl | rfl
      all_goals
        simp only [Nat.reduceDiv, Nat.reduceMod, Nat.reduceAdd, Nat.reduceMul] at c1
        go_wp2_with fail
        have hz := HZ.out
        refine ⟨⟨_, ?_, rfl, B0.out.other (by omega) _ _, B1.out.other (by omega) _ _, ?_, below_set HB.out _ _ _ (by omega) (by omega)⟩, ?_⟩
        rotate_left
        · rw [← HS.out]; exact B2.out.set _ _
        · simp [intOf]
        · exact Nat.le_of_ble_eq_true rfl
    · have ek : k = 16 := by omega
      subst ek
      rw [upto_all] at B2
      have l1 := LDb_run (range0 B2.out) (bl_length _ _)
      have s1 := SVb_run (cs := bl 16 (cb (trn 1 b))) (B1.out.there 0 16 (by rw [bl_length]; omega)) (bl_length _ _) (bl_one _ _)
      have b3 := B1.out.put 0 (bl 16 (cb (trn 1 b)))
      rw [put_all _ _ (by rw [bl_length, bl_length])] at b3
      have l2 := hid (LDb_run (range0 b3) (bl_length _ _))
      clear b3
      go_wp2
      have hz := HZ.out
      refine bodyPost_ret ?_ rfl ⟨rfl, below_cells HB.out _ _ _ (by omega) HB.out.size⟩
      exact results_cell1 Tryd.results51 rfl l2.out
set_option maxHeartbeats 2000000 in
theorem turned3 (b : Nat → Nat) (w : World) : Calls Tryd.prog 51 #[bv b, .int .i64 (-1)] w fun e w' => e = .returned (bv (trn 3 b)) ∧ Below w.heap.size w w' := by
  unfold bv
  go_enter Tryd.func51, Tryd.ntmps51
  go_wp2_with fail
  go_loopw [10] (fun i wr => ∃ k : Nat, k ≤ 16 ∧ i = .int .i64 k ∧ Blk wr w.heap.size (bl 16 (cb b)) 58 ∧ Blk wr (w.heap.size + 1) (bl 16 (cb (upto 0 b))) 58 ∧ Blk wr (w.heap.size + 1 + 1) (bl 16 (cb (upto k (trn 3 b)))) 58 ∧ Below w.heap.size w wr) (fun i _ => 16 - (intOf i).toNat)
  case atStart =>
    exact ⟨0, Nat.zero_le _, rfl, ((Blk.newAt _ _ _ _ _ rfl rfl).alloc _).alloc _, (Blk.newAt _ _ _ _ _ (by simp) (zero16 b)).alloc _, Blk.newAt _ _ _ _ _ (by simp) (zero16 _), below3 _ _ _ _⟩
  case round =>
    obtain ⟨k, hk, rfl, b0, b1, b2, hbel⟩ := hrel
    have B0 := hid b0
    have B1 := hid b1
    have B2 := hid b2
    have HB := hid hbel
    have HZ := hid b2.lt
    clear b0 b1 b2 hbel
    by_cases hlt : k < 16
    · have c1 := B0.out.cell (4 * ((k / 4 + k % 4 * 3) % 4) + k % 4) _ (bl_get 16 _ _ (trn_lt 3 k hlt))
      have HS := hid (upto_set (trn 3 b) k)
      have f2 := B2.out.frozen k
      have c2 := B2.out.cell k _ (bl_get 16 _ k hlt)
      rw [show cb b (4 * ((k / 4 + k % 4 * 3) % 4) + k % 4) = ((trn 3 b k : Nat) : Int) from rfl] at c1
      generalize trn 3 b k = x at c1 HS
      generalize cb (upto k (trn 3 b)) k = y at c2
      have hcase : k = 0 ∨ k = 1 ∨ k = 2 ∨ k = 3 ∨ k = 4 ∨ k = 5 ∨ k = 6 ∨ k = 7 ∨ k = 8 ∨ k = 9 ∨ k = 10 ∨ k = 11 ∨ k = 12 ∨ k = 13 ∨ k = 14 ∨ k = 15 := by omega
      clear hlt hk
      rcases hcase with rfl | rfl | rfl | rfl | rfl | rfl | rfl | rfl | rfl | rfl | rfl | rfl | rfl | rfl | rfl | rfl
      all_goals
        simp only [Nat.reduceDiv, Nat.reduceMod, Nat.reduceAdd, Nat.reduceMul] at c1
        go_wp2_with fail
        have hz := HZ.out
        refine ⟨⟨_, ?_, rfl, B0.out.other (by omega) _ _, B1.out.other (by omega) _ _, ?_, below_set HB.out _ _ _ (by omega) (by omega)⟩, ?_⟩
        rotate_left
        · rw [← HS.out]; exact B2.out.set _ _
        · simp [intOf]
        · exact Nat.le_of_ble_eq_true rfl
    · have ek : k = 16 := by omega
      subst ek
      rw [upto_all] at B2
      have l1 := LDb_run (range0 B2.out) (bl_length _ _)
      have s1 := SVb_run (cs := bl 16 (cb (trn 3 b))) (B1.out.there 0 16 (by rw [bl_length]; omega)) (bl_length _ _) (bl_one _ _)
      have b3 := B1.out.put 0 (bl 16 (cb (trn 3 b)))
      rw [put_all _ _ (by rw [bl_length, bl_length])] at b3
      have l2 := hid (LDb_run (range0 b3) (bl_length _ _))
      clear b3
      go_wp2
      have hz := HZ.out
      refine bodyPost_ret ?_ rfl ⟨rfl, below_cells HB.out _ _ _ (by omega) HB.out.size⟩
      exact results_cell1 Tryd.results51 rfl l2.out
end Go.Proofs.YtbommnigljmfkaaDoor.Ae
