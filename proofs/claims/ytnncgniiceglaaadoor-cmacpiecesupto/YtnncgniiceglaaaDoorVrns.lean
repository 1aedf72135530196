/- The statements' helper 'runs'. -/
import Derived.Test.YtnncgniiceglaaaDoorVpz
namespace Go.Proofs.YtnncgniiceglaaaDoor.Vm
open Go.ChangeShapes Go.WideShapes Go.ChangeAt Go.RowKit
open Go.Proofs.YtnncgniiceglaaaDoor.By Go.Proofs.YtnncgniiceglaaaDoor.Gf Go.Proofs.YtnncgniiceglaaaDoor.Ae
theorem evP_list (k a : Nat) (h : 1 ≤ a) : evP k a = [⟨4, ((4 * k : Nat) : Int), 1⟩, ⟨5, ((4 * k : Nat) : Int), (a : Int)⟩] := by
  unfold evP evb
  rw [put_nil _ (show (1 : Int) ≤ 1 from by decide)]
  exact putL_other [] _ _ (show (1 : Int) ≤ (a : Int) by omega) (fun e => absurd (show (4 : Int) = 5 from e.1) (by decide))
theorem run_ok (a s c : Int) (h1 : 0 ≤ a ∧ a < 256) (h2 : 0 ≤ s ∧ s ≤ 100000) (h3 : 0 ≤ c ∧ c ≤ 100000000) : (⟨a, s, c⟩ : Rn).Ok :=
  ⟨h1, ⟨by show -9223372036854775808 ≤ s; omega, by show s ≤ 9223372036854775807; omega⟩, ⟨by show -9223372036854775808 ≤ c; omega, by show c ≤ 9223372036854775807; omega⟩⟩
set_option maxRecDepth 8000 in
set_option maxHeartbeats 2000000 in
theorem runs13 (k n : Nat) (hk : k ≤ 8) (hn : n ≤ 1048576) (w : World) : Calls Tryd.prog 28 #[.int .i64 (4 * (k : Int)), .int .i64 n] w fun e w' => ∃ v, e = .returned v ∧ Own w' w.heap.size v (evP k (nbl n + 2)) ∧ Below w.heap.size w w' := by
  obtain ⟨B, hB⟩ : ∃ B, nbl n + 2 = B := ⟨_, rfl⟩
  have hB2 : B ≤ 1048580 ∧ 1 ≤ B := by rw [← hB]; unfold nbl; omega
  have OL := hid (own_lit w [⟨4, ((4 * k : Nat) : Int), 1⟩, ⟨5, ((4 * k : Nat) : Int), (B : Int)⟩] #[.int .u8 4, .int .i64 ((4 * k : Nat) : Int), .int .i64 1, .int .u8 5, .int .i64 ((4 * k : Nat) : Int), .int .i64 (B : Int)] (fun r hr => by
    simp at hr
    rcases hr with rfl | rfl
    · exact run_ok 4 _ 1 (by omega) (by omega) (by omega)
    · exact run_ok 5 _ _ (by omega) (by omega) (by omega)) rfl (by simp [maxLen]))
  have HB := hid (below_alloc w (.cells #[.int .u8 4, .int .i64 ((4 * k : Nat) : Int), .int .i64 1, .int .u8 5, .int .i64 ((4 * k : Nat) : Int), .int .i64 (B : Int)] 94))
  rw [hB, evP_list k B hB2.2]
  rw [show ((4 * k : Nat) : Int) = 4 * (k : Int) from by omega] at OL HB ⊢
  have e1 : ((n : Int) + 15).tdiv 16 = ((n : Int) + 15) / 16 := Int.tdiv_eq_ediv_of_nonneg (by omega)
  by_cases hle : n ≤ 16
  · have eB : B = 2 := by rw [← hB]; unfold nbl; omega
    subst eB
    have hq : ((n : Int) + 15) / 16 ≤ 1 := by omega
    have hq2 : ¬ 1 < ((n : Int) + 15) / 16 := by omega
    clear hB hB2
    go_enter Tryd.func28, Tryd.ntmps28
    go_wp2_with fail
    all_goals first | omega | (go_ret; exact ⟨_, rfl, OL.out, HB.out⟩)
  · obtain ⟨C, hC⟩ : ∃ C : Nat, ((n : Int) + 15) / 16 = (C : Int) := ⟨(n + 15) / 16, by omega⟩
    have eB : B = C + 1 := by rw [← hB]; unfold nbl; omega
    subst eB
    have hq : 1 < (C : Int) := by omega
    have hq2 : ¬ (C : Int) ≤ 1 := by omega
    have hq3 : C ≤ 1048580 := by omega
    clear hB hB2
    go_enter Tryd.func28, Tryd.ntmps28
    go_wp2_with fail
    all_goals first | omega | (go_ret; rw [show (1 : Int) + (C : Int) = ((C + 1 : Nat) : Int) from by omega]; exact ⟨_, rfl, OL.out, HB.out⟩)
end Go.Proofs.YtnncgniiceglaaaDoor.Vm
