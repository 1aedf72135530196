/- The statements' helper 'block'. -/
import Derived.Test.YtnncgniiceglaaaVrdb
import Derived.Test.YtnncgniiceglaaaAwk
import Derived.Deep.RegionHeld3
namespace Go.Proofs.Ytnncgniiceglaaa.Vm
open Go.ChangeShapes Go.WideShapes Go.ChangeAt Go.RowKit
open Go.Proofs.Ytnncgniiceglaaa.By Go.Proofs.Ytnncgniiceglaaa.Gf Go.Proofs.Ytnncgniiceglaaa.Ae
set_option maxRecDepth 8000 in
set_option maxHeartbeats 4000000 in
theorem block1 (v : Value) (n : Nat) (f : Nat → Int) (w : World) (hr : By.RB w v n f) (_ : n ≤ 140737488355999) :
    Calls Try.prog 4 #[v] w fun e w' => e = .returned (bv (blk n (kf f))) ∧ Below w.heap.size w w' := by
  have HR := hid hr
  obtain ⟨hf, ad, cap, rfl, h1, h2, -⟩ := hr
  have HF := hid hf
  clear hf h1 h2
  unfold bv
  go_enter Try.func4, Try.ntmps4
  go_wp2_with fail
  go_loopw [4] (fun i wr => ∃ k : Nat, k ≤ n ∧ k ≤ 16 ∧ i = .int .i64 k ∧ Blk wr w.heap.size (bl 16 (cb (upto 0 nul))) 23 ∧ Blk wr (w.heap.size + 1) (bl 16 (cb (upto k (kf f)))) 23 ∧ Below w.heap.size w wr) (fun i _ => 16 - (intOf i).toNat)
  case atStart =>
    exact ⟨0, Nat.zero_le _, Nat.zero_le _, rfl, (Blk.newAt _ _ _ _ _ rfl (zero16 nul)).alloc _, Blk.newAt _ _ _ _ _ (by simp) (zero16 _), (below_alloc w _).alloc (by simp) _⟩
  case round =>
    obtain ⟨k, hk, hk2, rfl, b0, b1, hbel⟩ := hrel
    have B0 := hid b0
    have B1 := hid b1
    have HB := hid hbel
    have HZ := hid b1.lt
    clear b0 b1 hbel
    by_cases hlt : k < n ∧ k < 16
    · obtain ⟨b, off, rfl, hc⟩ : ∃ b off, ad = some ⟨b, off, none⟩ ∧ wr.cell? ⟨b, off + k, none⟩ = some (.int .u8 (f k)) := by
        obtain ⟨_, a', cap', he, _, _, h0 | ⟨b, off, rfl, hc⟩⟩ := HR.out.below HB.out
        · omega
        · simp at he
          exact ⟨b, off, he.1, hc k hlt.1⟩
      rw [← kf_eq HF.out k] at hc
      have c1 := B1.out.cell k _ (bl_get 16 _ k hlt.2)
      have f1 := B1.out.frozen k
      have HS := hid (uptoN_set 16 (kf f) k)
      have hx := kf_lt HF.out k
      obtain ⟨x, ex⟩ : ∃ x, kf f k = x := ⟨_, rfl⟩
      rw [ex] at hc HS hx
      clear ex
      generalize cb (upto k (kf f)) k = y at c1
      obtain ⟨l1, l2⟩ := hlt
      have hd1 : decide ((k : Int) < (n : Int)) = true := decide_eq_true (by omega)
      have hd2 : decide ((k : Int) < 16) = true := decide_eq_true (by omega)
      go_wp2_with fail
      have hz := HZ.out
      refine ⟨⟨k + 1, by omega, by omega, by go_num, B0.out.other (by omega) _ _, ?_, below_set HB.out _ _ _ (by omega) (by omega)⟩, by simp [intOf]; omega⟩
      rw [← HS.out]
      exact B1.out.set _ _
    · have HE := hid (show bl 16 (cb (upto k (kf f))) = bl 16 (cb (blk n (kf f))) from bl_congr _ _ _ (fun i hi => by
        show ((upto k (kf f) i : Nat) : Int) = ((blk n (kf f) i : Nat) : Int)
        unfold upto blk
        by_cases e : i < k
        · rw [if_pos e, if_pos (by omega)]
        · rw [if_neg e, if_neg (by omega)]))
      rw [HE.out] at B1
      have l1 := LDb_run (range0 B1.out) (bl_length _ _)
      have s1 := SVb_run (cs := bl 16 (cb (blk n (kf f)))) (B0.out.there 0 16 (by rw [bl_length]; omega)) (bl_length _ _) (bl_one _ _)
      have b4 := B0.out.put 0 (bl 16 (cb (blk n (kf f))))
      rw [put_all _ _ (by rw [bl_length, bl_length])] at b4
      have l2 := hid (LDb_run (range0 b4) (bl_length _ _))
      clear b4
      by_cases hn2 : k < n
      · have hd1 : decide ((k : Int) < (n : Int)) = true := decide_eq_true (by omega)
        have hd2 : decide ((k : Int) < 16) = false := decide_eq_false (by omega)
        go_wp2_with fail
        have hz := HZ.out
        refine bodyPost_ret ?_ rfl ⟨rfl, below_cells HB.out _ _ _ (by omega) HB.out.size⟩
        exact results_cell1 Try.results4 rfl l2.out
      · have hd1 : decide ((k : Int) < (n : Int)) = false := decide_eq_false (by omega)
        go_wp2_with fail
        have hz := HZ.out
        refine bodyPost_ret ?_ rfl ⟨rfl, below_cells HB.out _ _ _ (by omega) HB.out.size⟩
        exact results_cell1 Try.results4 rfl l2.out
set_option maxHeartbeats 2000000 in
theorem doubles_walk (v : Value) (n : Nat) (f : Nat → Int) (w : World) (hr : By.RB w v n f) (hn : n ≤ 140737488355999) :
    Calls Try.prog 3 #[v] w fun e w' => e = .returned (.bool true) ∧ Below w.heap.size w w' := by
  have HR := hid hr
  have HF := hid hr.1
  obtain ⟨hf, ad, cap, rfl, h1, h2, -⟩ := hr
  clear hf h1 h2
  go_enter Try.func3, Try.ntmps3
  go_wp2_with fail
  refine (block1 _ n f _ HR.out hn).mono ?_
  rintro e w2 ⟨rfl, hb2⟩
  have HB := hid hb2
  clear hb2
  have BB := hid (blk_b n (kf f) (kf_lt HF.out))
  generalize blk n (kf f) = b at *
  have N0 := hid (Blk.newAt w2 _ _ 23 _ rfl (zero16 nought))
  have s1 := SVb_run (cs := bl 16 (cb b)) (N0.out.there 0 16 (by rw [bl_length]; omega)) (bl_length _ _) (bl_one _ _)
  have N1 := hid (show Blk _ w2.heap.size (bl 16 (cb b)) 23 from by rw [← put_all (bl 16 (cb (upto 0 nought))) (bl 16 (cb b)) (by rw [bl_length, bl_length])]; exact N0.out.put 0 (bl 16 (cb b)))
  have HB1 := hid (below_cells (HB.out.alloc (by have := HB.out.size; omega) (.cells (bl 16 (cb (upto 0 nought))).toArray 23)) w2.heap.size 0 (bl 16 (cb b)) HB.out.size (by have := HB.out.size; simp; omega))
  rw [← zero16 nought] at HB1
  have l1 := LDb_run (range0 N1.out) (bl_length _ _)
  rw [show Value.agg (bl 16 (cb b)).toArray = bv b from rfl] at s1 l1
  clear N0
  go_wp2_with fail
  have hsz := N1.out.lt
  generalize ((w2.alloc (Obj.cells #[Value.int IntKind.u8 0, Value.int IntKind.u8 0, Value.int IntKind.u8 0, Value.int IntKind.u8 0, Value.int IntKind.u8 0, Value.int IntKind.u8 0, Value.int IntKind.u8 0, Value.int IntKind.u8 0, Value.int IntKind.u8 0, Value.int IntKind.u8 0, Value.int IntKind.u8 0, Value.int IntKind.u8 0, Value.int IntKind.u8 0, Value.int IntKind.u8 0, Value.int IntKind.u8 0, Value.int IntKind.u8 0] 23)).setCells w2.heap.size 0 (bl 16 (cb b))) = W2 at *
  have l1d : (LDb ⟨w2.heap.size, 0, none⟩).run Try.prog W2.drew = .ok (bv b) W2.drew := LDb_run (range0 (N1.out.drewN 1)) (bl_length _ _)
  go_region_law (first | (go_simp; go_at_call 5; refine (dbl1 b BB.out _).mono ?_; rintro e w3 ⟨rfl, hb3⟩; have HB3 := hid (below_next (below_dr HB1.out) hb3); have N3 := hid ((N1.out.drewN 1).below hb3); have l3 : (LDb ⟨w2.heap.size, 0, none⟩).run Try.prog w3 = .ok (bv b) w3 := LDb_run (range0 N3.out) (bl_length _ _); clear hb3) | (go_simp; go_at_call 6; refine (rdbl1 b BB.out _).mono ?_; rintro e w4 ⟨rfl, hb4⟩; have HB4 := hid (below_next HB3.out hb4); clear hb4))
  all_goals
    have hq : eqb (dbl b) (dbl b) = true := eqb_true (E16.refl _)
    go_wp2_with fail
    go_ret
    exact ⟨by go_simp, HB4.out⟩
end Go.Proofs.Ytnncgniiceglaaa.Vm
