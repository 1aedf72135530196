/- The statements' state of any list of bytes. -/
import Derived.Test.YtofikebacahnjaaDoorQfrom
namespace Go.Proofs.YtofikebacahnjaaDoor.Kc
open Go.ChangeShapes Go.WideShapes Go.ChangeAt Go.RowKit
open Go.Proofs.YtofikebacahnjaaDoor.By Go.Proofs.YtofikebacahnjaaDoor.Wd
/-- A list's first bytes, noughts behind them. -/
def pb (f : Nat → Int) (n i : Nat) : Int := if i < n then f i else 0
theorem pb_b {f : Nat → Int} (h : BB f) (n : Nat) : BB (pb f n) := fun i => by
  unfold pb; split
  · exact h i
  · omega
theorem pb_zero (f : Nat → Int) : bl 200 (fun _ => (0 : Int)) = bl 200 (pb f 0) := bl_congr 200 _ _ (fun i _ => by unfold pb; rw [if_neg (by omega)])
theorem pb_next (f : Nat → Int) (k : Nat) : (bl 200 (pb f k)).set k (.int .u8 (f k)) = bl 200 (pb f (k + 1)) := by
  rw [bl_set]
  refine bl_congr 200 _ _ (fun i _ => ?_)
  unfold pb
  by_cases h : i = k
  · rw [if_pos h, if_pos (by omega), h]
  · rw [if_neg h]
    by_cases h2 : i < k
    · rw [if_pos h2, if_pos (by omega)]
    · rw [if_neg h2, if_neg (by omega)]
theorem pb_end (f : Nat → Int) (n k : Nat) (h : k = n ∨ (k = 200 ∧ 200 ≤ n)) : bl 200 (pb f k) = bl 200 (pb f n) := bl_congr 200 _ _ (fun i hi => by
  rcases h with rfl | ⟨rfl, h⟩
  · rfl
  · unfold pb; rw [if_pos hi, if_pos (by omega)])
set_option maxRecDepth 4000 in
set_option maxHeartbeats 2000000 in
theorem state1 (v : Value) (n : Nat) (f : Nat → Int) (w : World) (hr : By.RB w v n f) (hn : n ≤ 140737488355328) :
    Calls Tryd.prog 6 #[v] w fun e w' => e = .returned (.agg (wl 25 (fl (pb f n))).toArray) ∧ Below w.heap.size w w' := by
  have HR := hid hr
  have HF : Hid (BB f) := hr.1
  obtain ⟨-, ad, cap, rfl, h1, h2, -⟩ := hr
  go_enter Tryd.func6, Tryd.ntmps6
  go_wp2_with fail
  go_loopw [4] (fun i wr => ∃ k : Nat, k ≤ n ∧ k ≤ 200 ∧ i = .int .i64 k ∧ Blk wr w.heap.size (wl 25 (fun _ => 0)) 24 ∧ Blk wr (w.heap.size + 1) (bl 200 (pb f k)) 39 ∧ Below w.heap.size w wr) (fun i _ => 200 - (intOf i).toNat)
  case atStart =>
    refine ⟨0, Nat.zero_le _, Nat.zero_le _, rfl, (Blk.newAt _ _ _ _ _ rfl y25).alloc _, Blk.newAt _ _ _ _ _ (by rw [size_alloc]) (by rw [← pb_zero]; rfl), ?_⟩
    exact below_next (below_alloc w _) (below_alloc _ _)
  case round =>
    obtain ⟨k, hk1, hk2, rfl, b0, b1, hbel⟩ := hrel
    have B0 := hid b0
    have B1 := hid b1
    have HB := hid hbel
    have HZ := hid b1.lt
    clear b0 b1 hbel
    by_cases hlt : k < n
    · by_cases hlt2 : k < 200
      · obtain ⟨b, off, rfl, hc⟩ : ∃ b off, ad = some ⟨b, off, none⟩ ∧ wr.cell? ⟨b, off + k, none⟩ = some (.int .u8 (f k)) := by
          obtain ⟨_, a', cap', he, _, _, h0 | ⟨b, off, rfl, hc⟩⟩ := HR.out.below HB.out
          · omega
          · simp at he
            exact ⟨b, off, he.1, hc k hlt⟩
        have c1 := B1.out.cell k _ (bl_get 200 _ k hlt2)
        have f1 := B1.out.frozen k
        have HN := hid (pb_next f k)
        have hv := HF.out k
        obtain ⟨x, ex⟩ : ∃ z, f k = z := ⟨_, rfl⟩
        rw [ex] at hc HN hv
        obtain ⟨m, em⟩ : ∃ z, pb f k k = z := ⟨_, rfl⟩
        rw [em] at c1
        clear ex em
        go_wp2_with fail
        have hz := HZ.out
        refine ⟨⟨k + 1, by omega, by omega, by go_num, B0.out.other (by omega) _ _, ?_, below_set HB.out _ _ _ (by omega) (by omega)⟩, by simp [intOf]; omega⟩
        rw [← HN.out]
        exact B1.out.set _ _
      · have ek : k = 200 := by omega
        subst ek
        rw [pb_end f n 200 (.inr ⟨rfl, by omega⟩)] at B1
        have l1 := LDb_run (B1.out.range 0 _ (fun j v h => by rw [Nat.zero_add]; exact h)) (bl_length _ _)
        go_wp2_with fail
        refine (refFrom1 (pb f n) (pb_b HF.out n) _).mono ?_
        rintro e w2 ⟨rfl, hb2⟩
        have D0 := hid (B0.out.below hb2)
        have DB := hid (below_next HB.out hb2)
        clear hb2 l1
        have s1 := SVt_run (cs := wl 25 (fl (pb f n))) (D0.out.there 0 25 (by rw [wl_length]; omega)) (wl_length _ _) (wl_one _ _)
        have b3 := D0.out.put 0 (wl 25 (fl (pb f n)))
        rw [put_all _ _ (by rw [wl_length, wl_length])] at b3
        have l2 := hid (LDt_run (b3.range 0 _ (fun j v h => by rw [Nat.zero_add]; exact h)) (wl_length _ _))
        clear b3
        go_wp2
        refine bodyPost_ret (v := .agg (wl 25 (fl (pb f n))).toArray) ?_ rfl ⟨rfl, below_cells DB.out _ _ _ (by omega) DB.out.size⟩
        exact results_cell1 Tryd.results6 rfl l2.out
    · have ek : k = n := by omega
      subst ek
      have l1 := LDb_run (B1.out.range 0 _ (fun j v h => by rw [Nat.zero_add]; exact h)) (bl_length _ _)
      go_wp2_with fail
      refine (refFrom1 (pb f k) (pb_b HF.out k) _).mono ?_
      rintro e w2 ⟨rfl, hb2⟩
      have D0 := hid (B0.out.below hb2)
      have DB := hid (below_next HB.out hb2)
      clear hb2 l1
      have s1 := SVt_run (cs := wl 25 (fl (pb f k))) (D0.out.there 0 25 (by rw [wl_length]; omega)) (wl_length _ _) (wl_one _ _)
      have b3 := D0.out.put 0 (wl 25 (fl (pb f k)))
      rw [put_all _ _ (by rw [wl_length, wl_length])] at b3
      have l2 := hid (LDt_run (b3.range 0 _ (fun j v h => by rw [Nat.zero_add]; exact h)) (wl_length _ _))
      clear b3
      go_wp2
      refine bodyPost_ret (v := .agg (wl 25 (fl (pb f k))).toArray) ?_ rfl ⟨rfl, below_cells DB.out _ _ _ (by omega) DB.out.size⟩
      exact results_cell1 Tryd.results6 rfl l2.out
end Go.Proofs.YtofikebacahnjaaDoor.Kc
