/- The program's hash functions: how many blocks, out of lengths. -/
import Derived.Test.YtdmacflcjbkkpaaGreatJp
import Derived.Test.YtdmacflcjbkkpaaGreatCvr
import Derived.Deep.RegionHeld3
import Derived.Deep.QuietTactic
import Derived.BigQuiet
namespace Go.Proofs.YtdmacflcjbkkpaaGreat.Co
open Go.ChangeShapes Go.WideShapes Go.ChangeAt Go.RowKit
open Go.Proofs.YtdmacflcjbkkpaaGreat.Ou (Sk sv)
open Go.Proofs.YtdmacflcjbkkpaaGreat.Tb (Blk Blk.newAt put_all Kp.setCells results_cell2)
/-- A hash function as a value. -/
abbrev shv (a : Int) : Value := .agg #[.int .i64 (sz a), .int .i64 (bk a), .int .u8 (ek a), .int .i64 (bk a)]
abbrev shL (a : Int) : List Value := [.int .i64 (sz a), .int .i64 (bk a), .int .u8 (ek a), .int .i64 (bk a)]
abbrev hz0 : Value := .agg #[.int .i64 0, .int .i64 0, .int .u8 0, .int .i64 0]
theorem shv1 : shv 1 = .agg #[.int .i64 32, .int .i64 64, .int .u8 1, .int .i64 64] := rfl
theorem shv2 : shv 2 = .agg #[.int .i64 64, .int .i64 128, .int .u8 2, .int .i64 128] := rfl
def dg (b n : Int) : Int := ful b 0 n + lst b n
theorem dg_b {b n : Int} (hb : 64 ≤ b) (hn : 0 ≤ n) : 1 ≤ dg b n ∧ dg b n ≤ n / 64 + 2 := by
  have h1 := ful_0 hb hn
  have h2 := lst_b b n
  unfold dg; omega
theorem kyd_1 (n : Int) : kyd 1 n = if n > 64 then dg 64 n + 2 else 2 := rfl
theorem kyd_2 (n : Int) : kyd 2 n = if n > 128 then dg 128 n + 2 else 2 := rfl
theorem lst_off (b n : Int) : lst b (b + n) = lst b n := by unfold lst; rw [Int.add_emod_left]
theorem hmc_1 (n : Int) : hmc 1 n = dg 64 n + 1 := by
  have e1 : lst 64 (64 + 32) = 1 := by decide
  show ful 64 0 n + (lst 64 (64 + n) + lst 64 (64 + 32)) = dg 64 n + 1
  rw [lst_off, e1]; unfold dg; omega
theorem hmc_2 (n : Int) : hmc 2 n = dg 128 n + 1 := by
  have e1 : lst 128 (128 + 64) = 1 := by decide
  show ful 128 0 n + (lst 128 (128 + n) + lst 128 (128 + 64)) = dg 128 n + 1
  rw [lst_off, e1]; unfold dg; omega
theorem hkl_closed (a info : Int) : ∀ k : Nat, hkl a info (k + 1) = hmc a (info + 1) + k * hmc a (sz a + info + 1)
  | 0 => by simp [hkl]
  | k + 1 => by
    rw [hkl, hkl_closed a info k, if_neg (by omega), show ((k + 1 : Nat) : Int) = k + 1 from rfl, Int.add_mul]
    omega
set_option maxRecDepth 8000 in
set_option maxHeartbeats 1200000 in
theorem hashOf1_ok (w : World) : Calls Tryz.prog 84 #[.int .u8 1] w fun e w' => e = .returned (.tuple #[.agg #[.int .i64 32, .int .i64 64, .int .u8 1, .int .i64 64], .bool true]) ∧ Below w.heap.size w w' := by
  obtain ⟨W, hW⟩ : ∃ W, w.alloc (.cells #[.int .i64 0, .int .i64 0, .int .u8 0, .int .i64 0] 119) = W := ⟨_, rfl⟩
  have BW : Hid (Below w.heap.size w W) := by rw [← hW]; exact below_alloc _ _
  have KB : Blk W w.heap.size [.int .i64 0, .int .i64 0, .int .u8 0, .int .i64 0] 119 := by rw [← hW]; exact Blk.newAt w _ _ _ w.heap.size rfl rfl
  have hz : W.heap.size = w.heap.size + 1 := by rw [← hW]; simp
  obtain ⟨W1, s1, k1, hk1⟩ := SVh_run 32 64 1 64 KB rfl
  have L1 := hid (LDh_run k1)
  have B1 : Hid (Below w.heap.size w W1) := BW.out.trans (hk1.below (by omega) (fun k h e => by omega))
  clear hk1 k1 KB hz
  go_enter Tryz.func84, Tryz.ntmps84
  go_wp2
  exact bodyPost_ret (results_cell2 rfl rfl rfl L1.out) rfl ⟨rfl, B1.out⟩
set_option maxRecDepth 8000 in
set_option maxHeartbeats 1200000 in
theorem last1_ok {n : Int} (hn : 0 ≤ n ∧ n ≤ 1099511627776) (w : World) : Calls Tryz.prog 129 #[.agg #[.int .i64 32, .int .i64 64, .int .u8 1, .int .i64 64], .int .i64 n] w fun e w' => e = .returned (.int .i64 (lst 64 n)) ∧ Below w.heap.size w w' := by
  have q1 : n.tmod 64 = n % 64 := Int.tmod_eq_emod_of_nonneg (by omega)
  have l1 : 0 ≤ n % 64 ∧ n % 64 < 64 := ⟨Int.emod_nonneg _ (by omega), Int.emod_lt_of_pos _ (by omega)⟩
  by_cases h : n % 64 < 56
  · have E : Hid (lst 64 n = 1) := hid (by unfold lst; rw [if_pos (by omega)])
    obtain ⟨W, hW⟩ : ∃ W, w.alloc (.cells #[.int .i64 32, .int .i64 64, .int .u8 1, .int .i64 64] 119) = W := ⟨_, rfl⟩
    have BW : Hid (Below w.heap.size w W) := by rw [← hW]; exact below_alloc _ _
    have KB : Hid (Blk W w.heap.size [.int .i64 32, .int .i64 64, .int .u8 1, .int .i64 64] 119) := by rw [← hW]; exact Blk.newAt w _ _ _ w.heap.size rfl rfl
    have SW : Hid (∀ V, Below W.heap.size W V → V.cell? ⟨w.heap.size, 0, none⟩ = some (.int .i64 32) ∧ V.cell? ⟨w.heap.size, 1, none⟩ = some (.int .i64 64) ∧ (LDh ⟨w.heap.size, 0, none⟩).run Tryz.prog V = .ok (.agg #[.int .i64 32, .int .i64 64, .int .u8 1, .int .i64 64]) V) := fun V hV => by
      have k := KB.out.below hV
      exact ⟨k.cell 0 _ rfl, k.cell 1 _ rfl, LDh_run k⟩
    have x0 := KB.out.cell 0 _ rfl
    have x1 := KB.out.cell 1 _ rfl
    go_enter Tryz.func129, Tryz.ntmps129
    go_wp2_with fail
    go_quiet (fail)
    go_wp2
    go_ret
    exact ⟨by rw [E.out]; rfl, below_next BW.out (below_drewN _ _)⟩
  · have E : Hid (lst 64 n = 2) := hid (by unfold lst; rw [if_neg (by omega)])
    obtain ⟨W, hW⟩ : ∃ W, w.alloc (.cells #[.int .i64 32, .int .i64 64, .int .u8 1, .int .i64 64] 119) = W := ⟨_, rfl⟩
    have BW : Hid (Below w.heap.size w W) := by rw [← hW]; exact below_alloc _ _
    have KB : Hid (Blk W w.heap.size [.int .i64 32, .int .i64 64, .int .u8 1, .int .i64 64] 119) := by rw [← hW]; exact Blk.newAt w _ _ _ w.heap.size rfl rfl
    have SW : Hid (∀ V, Below W.heap.size W V → V.cell? ⟨w.heap.size, 0, none⟩ = some (.int .i64 32) ∧ V.cell? ⟨w.heap.size, 1, none⟩ = some (.int .i64 64) ∧ (LDh ⟨w.heap.size, 0, none⟩).run Tryz.prog V = .ok (.agg #[.int .i64 32, .int .i64 64, .int .u8 1, .int .i64 64]) V) := fun V hV => by
      have k := KB.out.below hV
      exact ⟨k.cell 0 _ rfl, k.cell 1 _ rfl, LDh_run k⟩
    have x0 := KB.out.cell 0 _ rfl
    have x1 := KB.out.cell 1 _ rfl
    go_enter Tryz.func129, Tryz.ntmps129
    go_wp2_with fail
    go_quiet (fail)
    go_wp2
    go_ret
    exact ⟨by rw [E.out]; rfl, below_next BW.out (below_drewN _ _)⟩
set_option maxRecDepth 8000 in
set_option maxHeartbeats 1200000 in
theorem digest1_ok {n : Int} (hn : 0 ≤ n ∧ n ≤ 1099511627776) (w : World) : Calls Tryz.prog 142 #[.agg #[.int .i64 32, .int .i64 64, .int .u8 1, .int .i64 64], .int .i64 n] w fun e w' => e = .returned (.int .i64 (dg 64 n)) ∧ Below w.heap.size w w' := by
  have CL := hid (last1_ok hn)
  have lb := lst_b 64 n
  have E : Hid (dg 64 n = n / 64 + lst 64 n) := hid (by unfold dg ful; omega)
  obtain ⟨l, hl⟩ : ∃ x, lst 64 n = x := ⟨_, rfl⟩
  rw [hl] at CL lb E
  clear hl
  obtain ⟨W, hW⟩ : ∃ W, w.alloc (.cells #[.int .i64 32, .int .i64 64, .int .u8 1, .int .i64 64] 119) = W := ⟨_, rfl⟩
  have BW : Hid (Below w.heap.size w W) := by rw [← hW]; exact below_alloc _ _
  have KB : Hid (Blk W w.heap.size [.int .i64 32, .int .i64 64, .int .u8 1, .int .i64 64] 119) := by rw [← hW]; exact Blk.newAt w _ _ _ w.heap.size rfl rfl
  have SW : Hid (∀ V, Below W.heap.size W V → V.cell? ⟨w.heap.size, 0, none⟩ = some (.int .i64 32) ∧ V.cell? ⟨w.heap.size, 1, none⟩ = some (.int .i64 64) ∧ (LDh ⟨w.heap.size, 0, none⟩).run Tryz.prog V = .ok (.agg #[.int .i64 32, .int .i64 64, .int .u8 1, .int .i64 64]) V) := fun V hV => by
    have k := KB.out.below hV
    exact ⟨k.cell 0 _ rfl, k.cell 1 _ rfl, LDh_run k⟩
  have D1 : Hid (Below W.heap.size W W.drew) := below_drewN W 1
  have qd : 0 ≤ n / 64 ∧ n / 64 ≤ n := by omega
  have qt : n.tdiv 64 = n / 64 := Int.tdiv_eq_ediv_of_nonneg (by omega)
  have wr1 : IntKind.i64.wrap (n / 64) = n / 64 := by rw [IntKind.wrap_i64]; omega
  have wr2 : IntKind.i64.wrap (n / 64 + l) = n / 64 + l := by rw [IntKind.wrap_i64]; omega
  obtain ⟨x0, x1, xl⟩ := SW.out W.drew D1.out
  go_enter Tryz.func142, Tryz.ntmps142
  go_wp2_with fail
  clear hW
  go_region_held3 (fun V => V.cell? ⟨w.heap.size, 0, none⟩ = some (.int .i64 32) ∧ V.cell? ⟨w.heap.size, 1, none⟩ = some (.int .i64 64) ∧ (LDh ⟨w.heap.size, 0, none⟩).run Tryz.prog V = .ok (.agg #[.int .i64 32, .int .i64 64, .int .u8 1, .int .i64 64]) V) (go_keep) (first
    | (go_at_call 129; with_reducible refine (CL.out _).mono ?_; rintro e W2 ⟨rfl, hb⟩; have N2 : Hid (Below W.heap.size W W2) := hid (below_next D1.out hb); obtain ⟨y0, y1, yl⟩ := SW.out W2 N2.out; clear hb))
  go_wp2
  go_ret
  exact ⟨by rw [E.out]; rfl, below_next BW.out N2.out⟩
set_option maxRecDepth 8000 in
set_option maxHeartbeats 1200000 in
theorem hashOf2_ok (w : World) : Calls Tryz.prog 84 #[.int .u8 2] w fun e w' => e = .returned (.tuple #[.agg #[.int .i64 64, .int .i64 128, .int .u8 2, .int .i64 128], .bool true]) ∧ Below w.heap.size w w' := by
  obtain ⟨W, hW⟩ : ∃ W, w.alloc (.cells #[.int .i64 0, .int .i64 0, .int .u8 0, .int .i64 0] 119) = W := ⟨_, rfl⟩
  have BW : Hid (Below w.heap.size w W) := by rw [← hW]; exact below_alloc _ _
  have KB : Blk W w.heap.size [.int .i64 0, .int .i64 0, .int .u8 0, .int .i64 0] 119 := by rw [← hW]; exact Blk.newAt w _ _ _ w.heap.size rfl rfl
  have hz : W.heap.size = w.heap.size + 1 := by rw [← hW]; simp
  obtain ⟨W1, s1, k1, hk1⟩ := SVh_run 64 128 2 128 KB rfl
  have L1 := hid (LDh_run k1)
  have B1 : Hid (Below w.heap.size w W1) := BW.out.trans (hk1.below (by omega) (fun k h e => by omega))
  clear hk1 k1 KB hz
  go_enter Tryz.func84, Tryz.ntmps84
  go_wp2
  exact bodyPost_ret (results_cell2 rfl rfl rfl L1.out) rfl ⟨rfl, B1.out⟩
set_option maxRecDepth 8000 in
set_option maxHeartbeats 1200000 in
theorem last2_ok {n : Int} (hn : 0 ≤ n ∧ n ≤ 1099511627776) (w : World) : Calls Tryz.prog 129 #[.agg #[.int .i64 64, .int .i64 128, .int .u8 2, .int .i64 128], .int .i64 n] w fun e w' => e = .returned (.int .i64 (lst 128 n)) ∧ Below w.heap.size w w' := by
  have q1 : n.tmod 128 = n % 128 := Int.tmod_eq_emod_of_nonneg (by omega)
  have l1 : 0 ≤ n % 128 ∧ n % 128 < 128 := ⟨Int.emod_nonneg _ (by omega), Int.emod_lt_of_pos _ (by omega)⟩
  by_cases h : n % 128 < 112
  · have E : Hid (lst 128 n = 1) := hid (by unfold lst; rw [if_pos (by omega)])
    obtain ⟨W, hW⟩ : ∃ W, w.alloc (.cells #[.int .i64 64, .int .i64 128, .int .u8 2, .int .i64 128] 119) = W := ⟨_, rfl⟩
    have BW : Hid (Below w.heap.size w W) := by rw [← hW]; exact below_alloc _ _
    have KB : Hid (Blk W w.heap.size [.int .i64 64, .int .i64 128, .int .u8 2, .int .i64 128] 119) := by rw [← hW]; exact Blk.newAt w _ _ _ w.heap.size rfl rfl
    have SW : Hid (∀ V, Below W.heap.size W V → V.cell? ⟨w.heap.size, 0, none⟩ = some (.int .i64 64) ∧ V.cell? ⟨w.heap.size, 1, none⟩ = some (.int .i64 128) ∧ (LDh ⟨w.heap.size, 0, none⟩).run Tryz.prog V = .ok (.agg #[.int .i64 64, .int .i64 128, .int .u8 2, .int .i64 128]) V) := fun V hV => by
      have k := KB.out.below hV
      exact ⟨k.cell 0 _ rfl, k.cell 1 _ rfl, LDh_run k⟩
    have x0 := KB.out.cell 0 _ rfl
    have x1 := KB.out.cell 1 _ rfl
    go_enter Tryz.func129, Tryz.ntmps129
    go_wp2_with fail
    go_quiet (fail)
    go_wp2
    go_ret
    exact ⟨by rw [E.out]; rfl, below_next BW.out (below_drewN _ _)⟩
  · have E : Hid (lst 128 n = 2) := hid (by unfold lst; rw [if_neg (by omega)])
    obtain ⟨W, hW⟩ : ∃ W, w.alloc (.cells #[.int .i64 64, .int .i64 128, .int .u8 2, .int .i64 128] 119) = W := ⟨_, rfl⟩
    have BW : Hid (Below w.heap.size w W) := by rw [← hW]; exact below_alloc _ _
    have KB : Hid (Blk W w.heap.size [.int .i64 64, .int .i64 128, .int .u8 2, .int .i64 128] 119) := by rw [← hW]; exact Blk.newAt w _ _ _ w.heap.size rfl rfl
    have SW : Hid (∀ V, Below W.heap.size W V → V.cell? ⟨w.heap.size, 0, none⟩ = some (.int .i64 64) ∧ V.cell? ⟨w.heap.size, 1, none⟩ = some (.int .i64 128) ∧ (LDh ⟨w.heap.size, 0, none⟩).run Tryz.prog V = .ok (.agg #[.int .i64 64, .int .i64 128, .int .u8 2, .int .i64 128]) V) := fun V hV => by
      have k := KB.out.below hV
      exact ⟨k.cell 0 _ rfl, k.cell 1 _ rfl, LDh_run k⟩
    have x0 := KB.out.cell 0 _ rfl
    have x1 := KB.out.cell 1 _ rfl
    go_enter Tryz.func129, Tryz.ntmps129
    go_wp2_with fail
    go_quiet (fail)
    go_wp2
    go_ret
    exact ⟨by rw [E.out]; rfl, below_next BW.out (below_drewN _ _)⟩
set_option maxRecDepth 8000 in
set_option maxHeartbeats 1200000 in
theorem digest2_ok {n : Int} (hn : 0 ≤ n ∧ n ≤ 1099511627776) (w : World) : Calls Tryz.prog 142 #[.agg #[.int .i64 64, .int .i64 128, .int .u8 2, .int .i64 128], .int .i64 n] w fun e w' => e = .returned (.int .i64 (dg 128 n)) ∧ Below w.heap.size w w' := by
  have CL := hid (last2_ok hn)
  have lb := lst_b 128 n
  have E : Hid (dg 128 n = n / 128 + lst 128 n) := hid (by unfold dg ful; omega)
  obtain ⟨l, hl⟩ : ∃ x, lst 128 n = x := ⟨_, rfl⟩
  rw [hl] at CL lb E
  clear hl
  obtain ⟨W, hW⟩ : ∃ W, w.alloc (.cells #[.int .i64 64, .int .i64 128, .int .u8 2, .int .i64 128] 119) = W := ⟨_, rfl⟩
  have BW : Hid (Below w.heap.size w W) := by rw [← hW]; exact below_alloc _ _
  have KB : Hid (Blk W w.heap.size [.int .i64 64, .int .i64 128, .int .u8 2, .int .i64 128] 119) := by rw [← hW]; exact Blk.newAt w _ _ _ w.heap.size rfl rfl
  have SW : Hid (∀ V, Below W.heap.size W V → V.cell? ⟨w.heap.size, 0, none⟩ = some (.int .i64 64) ∧ V.cell? ⟨w.heap.size, 1, none⟩ = some (.int .i64 128) ∧ (LDh ⟨w.heap.size, 0, none⟩).run Tryz.prog V = .ok (.agg #[.int .i64 64, .int .i64 128, .int .u8 2, .int .i64 128]) V) := fun V hV => by
    have k := KB.out.below hV
    exact ⟨k.cell 0 _ rfl, k.cell 1 _ rfl, LDh_run k⟩
  have D1 : Hid (Below W.heap.size W W.drew) := below_drewN W 1
  have qd : 0 ≤ n / 128 ∧ n / 128 ≤ n := by omega
  have qt : n.tdiv 128 = n / 128 := Int.tdiv_eq_ediv_of_nonneg (by omega)
  have wr1 : IntKind.i64.wrap (n / 128) = n / 128 := by rw [IntKind.wrap_i64]; omega
  have wr2 : IntKind.i64.wrap (n / 128 + l) = n / 128 + l := by rw [IntKind.wrap_i64]; omega
  obtain ⟨x0, x1, xl⟩ := SW.out W.drew D1.out
  go_enter Tryz.func142, Tryz.ntmps142
  go_wp2_with fail
  clear hW
  go_region_held3 (fun V => V.cell? ⟨w.heap.size, 0, none⟩ = some (.int .i64 64) ∧ V.cell? ⟨w.heap.size, 1, none⟩ = some (.int .i64 128) ∧ (LDh ⟨w.heap.size, 0, none⟩).run Tryz.prog V = .ok (.agg #[.int .i64 64, .int .i64 128, .int .u8 2, .int .i64 128]) V) (go_keep) (first
    | (go_at_call 129; with_reducible refine (CL.out _).mono ?_; rintro e W2 ⟨rfl, hb⟩; have N2 : Hid (Below W.heap.size W W2) := hid (below_next D1.out hb); obtain ⟨y0, y1, yl⟩ := SW.out W2 N2.out; clear hb))
  go_wp2
  go_ret
  exact ⟨by rw [E.out]; rfl, below_next BW.out N2.out⟩
set_option maxRecDepth 8000 in
set_option maxHeartbeats 1200000 in
theorem anyLength_ok (n : Int) (w : World) : Calls Tryz.prog 125 #[.int .i64 n] w fun e w' => e = .returned (.bool true) ∧ w' = w := by
  go_enter Tryz.func125, Tryz.ntmps125
  go_wp2
  go_ret
  exact ⟨rfl, rfl⟩
def cil (n : Int) : Bool := n == 16 || n == 24 || n == 32
set_option maxRecDepth 8000 in
set_option maxHeartbeats 1200000 in
theorem cipherLength_ok (n : Int) (w : World) : Calls Tryz.prog 131 #[.int .i64 n] w fun e w' => e = .returned (.bool (cil n)) ∧ w' = w := by
  by_cases h1 : n = 16
  · subst h1
    go_enter Tryz.func131, Tryz.ntmps131
    go_wp2
    go_ret
    exact ⟨rfl, rfl⟩
  by_cases h2 : n = 24
  · subst h2
    go_enter Tryz.func131, Tryz.ntmps131
    go_wp2
    go_ret
    exact ⟨rfl, rfl⟩
  by_cases h3 : n = 32
  · subst h3
    go_enter Tryz.func131, Tryz.ntmps131
    go_wp2
    go_ret
    exact ⟨rfl, rfl⟩
  have E : Hid (cil n = false) := hid (by unfold cil; simp [h1, h2, h3])
  have b1 : (n == 16) = false := by simpa using h1
  have b2 : (n == 24) = false := by simpa using h2
  have b3 : (n == 32) = false := by simpa using h3
  go_enter Tryz.func131, Tryz.ntmps131
  go_wp2
  go_ret
  exact ⟨by rw [E.out]; rfl, rfl⟩
set_option maxRecDepth 8000 in
set_option maxHeartbeats 1200000 in
theorem wholes_ok {n s : Int} (hn : 0 ≤ n ∧ n ≤ 1099511627776) (hs : 1 ≤ s ∧ s ≤ 1000) (w : World) : Calls Tryz.prog 111 #[.int .i64 n, .int .i64 s] w fun e w' => e = .returned (.int .i64 ((n + s - 1) / s)) ∧ w' = w := by
  have hs0 : ¬ s = 0 := by omega
  have q1 : (n + s - 1).tdiv s = (n + s - 1) / s := Int.tdiv_eq_ediv_of_nonneg (by omega)
  have l1 : 0 ≤ (n + s - 1) / s ∧ (n + s - 1) / s ≤ n + s - 1 := ⟨Int.ediv_nonneg (by omega) (by omega), Int.ediv_le_self _ (by omega)⟩
  go_enter Tryz.func111, Tryz.ntmps111
  go_wp2
  go_ret
  exact ⟨rfl, rfl⟩
set_option maxRecDepth 8000 in
set_option maxHeartbeats 1200000 in
theorem passed_ok {n : Int} (hn : 0 ≤ n ∧ n ≤ 1099511627776) (w : World) : Calls Tryz.prog 134 #[.int .i64 n] w fun e w' => e = .returned (.int .i64 (chn n)) ∧ w' = w := by
  by_cases h : 0 ≤ n - 1
  · have E : Hid (chn n = (n - 1) / 16) := hid (by unfold chn; omega)
    have h2 : ¬ n - 1 < 0 := by omega
    have q1 : (n - 1).tdiv 16 = (n - 1) / 16 := Int.tdiv_eq_ediv_of_nonneg (by omega)
    go_enter Tryz.func134, Tryz.ntmps134
    go_wp2
    go_ret
    exact ⟨by rw [E.out]; rfl, rfl⟩
  · have e : n = 0 := by omega
    subst e
    go_enter Tryz.func134, Tryz.ntmps134
    go_wp2
    go_ret
    exact ⟨rfl, rfl⟩
set_option maxRecDepth 8000 in
set_option maxHeartbeats 1200000 in
theorem numberSize_ok {n : Int} (hn : 0 ≤ n ∧ n ≤ 16777215) (w : World) : Calls Tryz.prog 149 #[.int .i64 n] w fun e w' => e = .returned (.int .i64 (nbr n)) ∧ w' = w := by
  go_enter Tryz.func149, Tryz.ntmps149
  go_wp2
  go_loopw [0, 3] (fun m k wr => ∃ (x : Int) (y : Nat), (0 ≤ x ∧ x ≤ 16777215) ∧ (2 ≤ y ∧ y ≤ 10) ∧ m = .int .i64 x ∧ k = .int .i64 y ∧ nbr n + 2 = nbr x + y ∧ wr = w) (fun m _ _ => (intOf m).toNat)
  case atStart => exact ⟨n, 2, hn, by omega, rfl, rfl, rfl, rfl⟩
  case round =>
    obtain ⟨x, y, hx, hy, rfl, rfl, e, rfl⟩ := hrel
    by_cases h : x ≤ 255
    · have E : Hid (nbr n = y) := hid (by
        have : nbr x = 2 := by unfold nbr; rw [nbN_lt (by omega)]; rfl
        omega)
      clear e
      go_wp2
      go_ret
      exact ⟨by rw [E.out]; rfl, rfl⟩
    · have x1 : 0 ≤ x / 256 ∧ x / 256 < x := by omega
      have e1 : nbr x = nbr (x / 256) + 1 := by
        unfold nbr
        have := nbN_step (n := x.toNat) (by omega) (by omega)
        have e2 : (x / 256).toNat = x.toNat / 256 := by omega
        rw [e2, this]; rfl
      have y3 : y ≤ 4 := by
        have b1 := nbr_le (n := n) (by omega) (by omega)
        have b2 := nbr_le (n := x) (by omega) (by omega)
        omega
      have E := hid (show nbr n + 2 = nbr (x / 256) + ((y + 1 : Nat) : Int) from by omega)
      clear e e1
      go_wp2
      go_roundw
      case rel => exact ⟨x / 256, y + 1, by omega, by omega, rfl, by go_num, E.out, trivial⟩
      case measure => simp [intOf]; omega
set_option maxRecDepth 8000 in
set_option maxHeartbeats 1200000 in
theorem stringSize_ok {n : Int} (hn : 0 ≤ n ∧ n ≤ 2000000) (w : World) : Calls Tryz.prog 138 #[.int .i64 n] w fun e w' => e = .returned (.int .i64 (txt n)) ∧ w' = w := by
  have C := hid (numberSize_ok (n := 8 * n) (by omega))
  have b := nbr_le (n := 8 * n) (by omega) (by omega)
  have E : Hid (txt n = nbr (8 * n) + n) := hid rfl
  obtain ⟨x, hx⟩ : ∃ x, nbr (8 * n) = x := ⟨_, rfl⟩
  rw [hx] at C b E
  clear hx
  go_enter Tryz.func138, Tryz.ntmps138
  go_wp2_with fail
  refine (C.out _).mono ?_
  rintro e w' ⟨rfl, rfl⟩
  go_wp2
  go_ret
  exact ⟨by rw [E.out]; rfl, rfl⟩
set_option maxRecDepth 8000 in
set_option maxHeartbeats 1200000 in
theorem padded_ok {a n : Int} (hn : 0 ≤ n ∧ n ≤ 2000000) (w : World) : Calls Tryz.prog 137 #[.int .i64 n, .int .i64 (rte a)] w fun e w' => e = .returned (.int .i64 (pad a n)) ∧ w' = w := by
  have r := rte_b a
  have C := hid (numberSize_ok (n := rte a) (by omega))
  have b := nbr_le (n := rte a) (by omega) (by omega)
  have E : Hid (pad a n = (nbr (rte a) + n + rte a - 1) / rte a) := hid rfl
  obtain ⟨y, hy⟩ : ∃ x, rte a = x := ⟨_, rfl⟩
  rw [hy] at r C b E ⊢
  obtain ⟨x, hx⟩ : ∃ x, nbr y = x := ⟨_, rfl⟩
  rw [hx] at C b E
  clear hx hy
  have D := hid (wholes_ok (n := x + n) (s := y) (by omega) (by omega))
  go_enter Tryz.func137, Tryz.ntmps137
  go_wp2_with fail
  refine (C.out _).mono ?_
  rintro e w' ⟨rfl, rfl⟩
  go_wp2_with fail
  refine (D.out _).mono ?_
  rintro e w' ⟨rfl, rfl⟩
  go_wp2
  go_ret
  exact ⟨by rw [E.out]; rfl, rfl⟩
set_option maxRecDepth 8000 in
set_option maxHeartbeats 1200000 in
theorem endSize_ok {o : Int} (x : Bool) (ho : 0 ≤ o ∧ o ≤ 2000000) (w : World) : Calls Tryz.prog 141 #[.int .i64 o, .bool x] w fun e w' => e = .returned (.int .i64 (if x then nbr 0 else nbr (8 * o))) ∧ w' = w := by
  have C := hid (numberSize_ok (n := 8 * o) (by omega))
  have C0 := hid (numberSize_ok (n := 0) (by omega))
  cases x with
  | true =>
    obtain ⟨y, hy⟩ : ∃ y, nbr 0 = y := ⟨_, rfl⟩
    rw [hy] at C0
    clear C
    go_enter Tryz.func141, Tryz.ntmps141
    go_wp2_with fail
    refine (C0.out _).mono ?_
    rintro e w' ⟨rfl, rfl⟩
    go_wp2
    go_ret
    exact ⟨rfl, rfl⟩
  | false =>
    obtain ⟨y, hy⟩ : ∃ y, nbr (8 * o) = y := ⟨_, rfl⟩
    rw [hy] at C
    clear C0
    go_enter Tryz.func141, Tryz.ntmps141
    go_wp2_with fail
    refine (C.out _).mono ?_
    rintro e w' ⟨rfl, rfl⟩
    go_wp2
    go_ret
    exact ⟨rfl, rfl⟩
set_option maxRecDepth 8000 in
set_option maxHeartbeats 1200000 in
theorem keyed1_ok {n : Int} (hn : 0 ≤ n ∧ n ≤ 1099511627776) (w : World) : Calls Tryz.prog 109 #[.agg #[.int .i64 32, .int .i64 64, .int .u8 1, .int .i64 64], .int .i64 n] w fun e w' => e = .returned (.int .i64 (kyd 1 n)) ∧ Below w.heap.size w w' := by
  by_cases h : n > 64
  · have E : Hid (kyd 1 n = dg 64 n + 2) := hid (by rw [kyd_1, if_pos h])
    have CD := hid (digest1_ok (n := n) (by omega))
    have db := dg_b (b := 64) (n := n) (by omega) (by omega)
    obtain ⟨l, hl⟩ : ∃ x, dg 64 n = x := ⟨_, rfl⟩
    rw [hl] at CD db E
    clear hl
    obtain ⟨W, hW⟩ : ∃ W, w.alloc (.cells #[.int .i64 32, .int .i64 64, .int .u8 1, .int .i64 64] 119) = W := ⟨_, rfl⟩
    have BW : Hid (Below w.heap.size w W) := by rw [← hW]; exact below_alloc _ _
    have KB : Hid (Blk W w.heap.size [.int .i64 32, .int .i64 64, .int .u8 1, .int .i64 64] 119) := by rw [← hW]; exact Blk.newAt w _ _ _ w.heap.size rfl rfl
    have SW : Hid (∀ V, Below W.heap.size W V → V.cell? ⟨w.heap.size, 0, none⟩ = some (.int .i64 32) ∧ V.cell? ⟨w.heap.size, 1, none⟩ = some (.int .i64 64) ∧ (LDh ⟨w.heap.size, 0, none⟩).run Tryz.prog V = .ok (.agg #[.int .i64 32, .int .i64 64, .int .u8 1, .int .i64 64]) V) := fun V hV => by
      have k := KB.out.below hV
      exact ⟨k.cell 0 _ rfl, k.cell 1 _ rfl, LDh_run k⟩
    obtain ⟨x0, x1, xl⟩ := SW.out W (Below.refl _ _)
    go_enter Tryz.func109, Tryz.ntmps109
    go_wp2_with fail
    refine (CD.out _).mono ?_
    rintro e W2 ⟨rfl, hb⟩
    have N2 : Hid (Below W.heap.size W W2) := hid hb
    clear hb
    go_wp2
    go_ret
    exact ⟨by rw [E.out]; rfl, below_next BW.out N2.out⟩
  · have E : Hid (kyd 1 n = 2) := hid (by rw [kyd_1, if_neg h])
    obtain ⟨W, hW⟩ : ∃ W, w.alloc (.cells #[.int .i64 32, .int .i64 64, .int .u8 1, .int .i64 64] 119) = W := ⟨_, rfl⟩
    have BW : Hid (Below w.heap.size w W) := by rw [← hW]; exact below_alloc _ _
    have KB : Hid (Blk W w.heap.size [.int .i64 32, .int .i64 64, .int .u8 1, .int .i64 64] 119) := by rw [← hW]; exact Blk.newAt w _ _ _ w.heap.size rfl rfl
    have SW : Hid (∀ V, Below W.heap.size W V → V.cell? ⟨w.heap.size, 0, none⟩ = some (.int .i64 32) ∧ V.cell? ⟨w.heap.size, 1, none⟩ = some (.int .i64 64) ∧ (LDh ⟨w.heap.size, 0, none⟩).run Tryz.prog V = .ok (.agg #[.int .i64 32, .int .i64 64, .int .u8 1, .int .i64 64]) V) := fun V hV => by
      have k := KB.out.below hV
      exact ⟨k.cell 0 _ rfl, k.cell 1 _ rfl, LDh_run k⟩
    obtain ⟨x0, x1, xl⟩ := SW.out W (Below.refl _ _)
    go_enter Tryz.func109, Tryz.ntmps109
    go_wp2
    go_ret
    exact ⟨by rw [E.out]; rfl, BW.out⟩
set_option maxRecDepth 8000 in
set_option maxHeartbeats 1200000 in
theorem tagged1_ok {n : Int} (hn : 0 ≤ n ∧ n ≤ 1099511627776) (w : World) : Calls Tryz.prog 110 #[.agg #[.int .i64 32, .int .i64 64, .int .u8 1, .int .i64 64], .int .i64 n] w fun e w' => e = .returned (.int .i64 (hmc 1 n)) ∧ Below w.heap.size w w' := by
  have E : Hid (hmc 1 n = dg 64 n + 1) := hid (hmc_1 n)
  have CD := hid (digest1_ok (n := n) (by omega))
  have db := dg_b (b := 64) (n := n) (by omega) (by omega)
  obtain ⟨l, hl⟩ : ∃ x, dg 64 n = x := ⟨_, rfl⟩
  rw [hl] at CD db E
  clear hl
  obtain ⟨W, hW⟩ : ∃ W, w.alloc (.cells #[.int .i64 32, .int .i64 64, .int .u8 1, .int .i64 64] 119) = W := ⟨_, rfl⟩
  have BW : Hid (Below w.heap.size w W) := by rw [← hW]; exact below_alloc _ _
  have KB : Hid (Blk W w.heap.size [.int .i64 32, .int .i64 64, .int .u8 1, .int .i64 64] 119) := by rw [← hW]; exact Blk.newAt w _ _ _ w.heap.size rfl rfl
  have SW : Hid (∀ V, Below W.heap.size W V → V.cell? ⟨w.heap.size, 0, none⟩ = some (.int .i64 32) ∧ V.cell? ⟨w.heap.size, 1, none⟩ = some (.int .i64 64) ∧ (LDh ⟨w.heap.size, 0, none⟩).run Tryz.prog V = .ok (.agg #[.int .i64 32, .int .i64 64, .int .u8 1, .int .i64 64]) V) := fun V hV => by
    have k := KB.out.below hV
    exact ⟨k.cell 0 _ rfl, k.cell 1 _ rfl, LDh_run k⟩
  obtain ⟨x0, x1, xl⟩ := SW.out W (Below.refl _ _)
  go_enter Tryz.func110, Tryz.ntmps110
  go_wp2_with fail
  refine (CD.out _).mono ?_
  rintro e W2 ⟨rfl, hb⟩
  have N2 : Hid (Below W.heap.size W W2) := hid hb
  clear hb
  go_wp2
  go_ret
  exact ⟨by rw [E.out]; rfl, below_next BW.out N2.out⟩
set_option maxRecDepth 8000 in
set_option maxHeartbeats 1200000 in
theorem hkdf1_ok {k s m o : Int} (hk : 0 ≤ k ∧ k ≤ 512) (hs : 0 ≤ s ∧ s ≤ 65536) (hm : 0 ≤ m ∧ m ≤ 65536) (ho : 1 ≤ o ∧ o ≤ 512) (w : World) : Calls Tryz.prog 86 #[.agg #[.int .i64 32, .int .i64 64, .int .u8 1, .int .i64 64], .int .i64 k, .int .i64 s, .int .i64 m, .int .i64 o] w fun e w' => e = .returned (.int .i64 (hkd 1 k s m o)) ∧ Below w.heap.size w w' := by
  have a1 : sz 1 ≠ 0 := by decide
  have E : Hid (hkd 1 k s m o = kyd 1 s + hmc 1 k + kyd 1 32 + hmc 1 (m + 1) + ((o + 32 - 1) / 32 - 1) * hmc 1 (32 + m + 1)) := hid (by
    have r0 : 1 ≤ rds 1 o := (rds_b a1 ho.1).1
    have r1 : rds 1 o = (o + 32 - 1) / 32 := rfl
    have e := hkl_closed 1 m ((rds 1 o).toNat - 1)
    rw [show (rds 1 o).toNat - 1 + 1 = (rds 1 o).toNat from by omega] at e
    have e2 : (((rds 1 o).toNat - 1 : Nat) : Int) = (o + 32 - 1) / 32 - 1 := by rw [← r1]; omega
    show kyd 1 s + hmc 1 k + kyd 1 (sz 1) + hkl 1 m (rds 1 o).toNat = _
    rw [e, e2, show sz 1 = 32 from rfl]
    omega)
  have C1 := hid (keyed1_ok (n := s) (by omega))
  have C2 := hid (tagged1_ok (n := k) (by omega))
  have C3 := hid (tagged1_ok (n := m + 1) (by omega))
  have C4 := hid (tagged1_ok (n := 32 + m + 1) (by omega))
  have C5 := hid (keyed1_ok (n := 32) (by omega))
  have C6 := hid (wholes_ok (n := o) (s := 32) (by omega) (by omega))
  have b1 := kyd_b a1 hs.1
  have b2 := hmc_b (a := 1) (n := k) a1 (by omega)
  have b3 := hmc_b (a := 1) (n := m + 1) a1 (by omega)
  have b4 := hmc_b (a := 1) (n := 32 + m + 1) a1 (by omega)
  have b5 := kyd_b (a := 1) (key := 32) a1 (by omega)
  have b6 : 1 ≤ (o + 32 - 1) / 32 ∧ (o + 32 - 1) / 32 ≤ 17 := by omega
  obtain ⟨x1, h1⟩ : ∃ x, kyd 1 s = x := ⟨_, rfl⟩
  obtain ⟨x2, h2⟩ : ∃ x, hmc 1 k = x := ⟨_, rfl⟩
  obtain ⟨x3, h3⟩ : ∃ x, hmc 1 (m + 1) = x := ⟨_, rfl⟩
  obtain ⟨x4, h4⟩ : ∃ x, hmc 1 (32 + m + 1) = x := ⟨_, rfl⟩
  obtain ⟨x5, h5⟩ : ∃ x, kyd 1 32 = x := ⟨_, rfl⟩
  obtain ⟨x6, h6⟩ : ∃ x, (o + 32 - 1) / 32 = x := ⟨_, rfl⟩
  rw [h1] at C1 b1 E
  rw [h2] at C2 b2 E
  rw [h3] at C3 b3 E
  rw [h4] at C4 b4 E
  rw [h5] at C5 b5 E
  rw [h6] at C6 b6 E
  clear h1 h2 h3 h4 h5 h6
  have p1 : 0 ≤ (x6 - 1) * x4 ∧ (x6 - 1) * x4 ≤ 16 * 2000 := ⟨Int.mul_nonneg (by omega) (by omega), Int.mul_le_mul (by omega) (by omega) (by omega) (by omega)⟩
  have wa : IntKind.i64.wrap (x1 + x2) = x1 + x2 := by rw [IntKind.wrap_i64]; omega
  have wb : IntKind.i64.wrap (m + 1) = m + 1 := by rw [IntKind.wrap_i64]; omega
  have wc : IntKind.i64.wrap (32 + m) = 32 + m := by rw [IntKind.wrap_i64]; omega
  have wd : IntKind.i64.wrap (32 + m + 1) = 32 + m + 1 := by rw [IntKind.wrap_i64]; omega
  have we : IntKind.i64.wrap (x1 + x2 + x5) = x1 + x2 + x5 := by rw [IntKind.wrap_i64]; omega
  have wf : IntKind.i64.wrap (x1 + x2 + x5 + x3) = x1 + x2 + x5 + x3 := by rw [IntKind.wrap_i64]; omega
  have wg : IntKind.i64.wrap (x6 - 1) = x6 - 1 := by rw [IntKind.wrap_i64]; omega
  have wh : IntKind.i64.wrap ((x6 - 1) * x4) = (x6 - 1) * x4 := by rw [IntKind.wrap_i64]; omega
  have wi : IntKind.i64.wrap (x1 + x2 + x5 + x3 + (x6 - 1) * x4) = x1 + x2 + x5 + x3 + (x6 - 1) * x4 := by rw [IntKind.wrap_i64]; omega
  obtain ⟨W, hW⟩ : ∃ W, w.alloc (.cells #[.int .i64 32, .int .i64 64, .int .u8 1, .int .i64 64] 119) = W := ⟨_, rfl⟩
  have BW : Hid (Below w.heap.size w W) := by rw [← hW]; exact below_alloc _ _
  have KB : Hid (Blk W w.heap.size [.int .i64 32, .int .i64 64, .int .u8 1, .int .i64 64] 119) := by rw [← hW]; exact Blk.newAt w _ _ _ w.heap.size rfl rfl
  have SW : Hid (∀ V, Below W.heap.size W V → V.cell? ⟨w.heap.size, 0, none⟩ = some (.int .i64 32) ∧ V.cell? ⟨w.heap.size, 1, none⟩ = some (.int .i64 64) ∧ (LDh ⟨w.heap.size, 0, none⟩).run Tryz.prog V = .ok (.agg #[.int .i64 32, .int .i64 64, .int .u8 1, .int .i64 64]) V) := fun V hV => by
    have k := KB.out.below hV
    exact ⟨k.cell 0 _ rfl, k.cell 1 _ rfl, LDh_run k⟩
  have D0 : Hid (Below W.heap.size W W.drew) := hid (below_drewN W 1)
  obtain ⟨y0, y1, yl⟩ := SW.out W.drew D0.out
  go_enter Tryz.func86, Tryz.ntmps86
  go_wp2_with fail
  clear hW
  go_region_held3 (fun V => V.cell? ⟨w.heap.size, 0, none⟩ = some (.int .i64 32) ∧ V.cell? ⟨w.heap.size, 1, none⟩ = some (.int .i64 64) ∧ (LDh ⟨w.heap.size, 0, none⟩).run Tryz.prog V = .ok (.agg #[.int .i64 32, .int .i64 64, .int .u8 1, .int .i64 64]) V) (go_keep) (first
    | (go_at_call 109; with_reducible refine (C1.out _).mono ?_; rintro e W1 ⟨rfl, hb⟩; have N1 : Hid (Below W.heap.size W W1) := hid (below_next D0.out hb); obtain ⟨z0, z1, zl⟩ := SW.out W1 N1.out; clear hb)
    | (go_at_call 110; with_reducible refine (C2.out _).mono ?_; rintro e W2 ⟨rfl, hb⟩; have N2 : Hid (Below W.heap.size W W2) := hid (below_next N1.out hb); obtain ⟨u0, u1, ul⟩ := SW.out W2 N2.out; clear hb))
  have D2 : Hid (Below W.heap.size W W2.drew) := hid (below_next N2.out (below_drewN W2 1))
  obtain ⟨v0, v1, vl⟩ := SW.out W2.drew D2.out
  go_wp2_with fail
  go_region_held3 (fun V => V.cell? ⟨w.heap.size, 0, none⟩ = some (.int .i64 32) ∧ V.cell? ⟨w.heap.size, 1, none⟩ = some (.int .i64 64) ∧ (LDh ⟨w.heap.size, 0, none⟩).run Tryz.prog V = .ok (.agg #[.int .i64 32, .int .i64 64, .int .u8 1, .int .i64 64]) V) (go_keep) (first
    | (go_at_call 110; with_reducible refine (C3.out _).mono ?_; rintro e W3 ⟨rfl, hb⟩; have N3 : Hid (Below W.heap.size W W3) := hid (below_next D2.out hb); obtain ⟨r0, r1, rl⟩ := SW.out W3 N3.out; clear hb)
    | (go_at_call 110; with_reducible refine (C4.out _).mono ?_; rintro e W4 ⟨rfl, hb⟩; have N4 : Hid (Below W.heap.size W W4) := hid (below_next N3.out hb); obtain ⟨s0, s1, sl⟩ := SW.out W4 N4.out; clear hb))
  have D4 : Hid (Below W.heap.size W W4.drew) := hid (below_next N4.out (below_drewN W4 1))
  obtain ⟨t0, t1, tl⟩ := SW.out W4.drew D4.out
  go_wp2_with fail
  go_region_held3 (fun V => V.cell? ⟨w.heap.size, 0, none⟩ = some (.int .i64 32) ∧ V.cell? ⟨w.heap.size, 1, none⟩ = some (.int .i64 64) ∧ (LDh ⟨w.heap.size, 0, none⟩).run Tryz.prog V = .ok (.agg #[.int .i64 32, .int .i64 64, .int .u8 1, .int .i64 64]) V) (go_keep) (first
    | (go_at_call 109; with_reducible refine (C5.out _).mono ?_; rintro e W5 ⟨rfl, hb⟩; have N5 : Hid (Below W.heap.size W W5) := hid (below_next D4.out hb); obtain ⟨q0, q1, ql⟩ := SW.out W5 N5.out; clear hb)
    | (go_at_call 111; with_reducible refine (C6.out _).mono ?_; rintro e W6 ⟨rfl, rfl⟩))
  go_wp2
  go_ret
  exact ⟨by rw [E.out]; rfl, below_next BW.out N5.out⟩
set_option maxRecDepth 8000 in
set_option maxHeartbeats 1200000 in
theorem pbkdf1_ok {k s c o : Int} (hk : 0 ≤ k ∧ k ≤ 512) (hs : 0 ≤ s ∧ s ≤ 65536) (hc : 1 ≤ c ∧ c ≤ 1048576) (ho : 1 ≤ o ∧ o ≤ 512) (w : World) : Calls Tryz.prog 87 #[.agg #[.int .i64 32, .int .i64 64, .int .u8 1, .int .i64 64], .int .i64 k, .int .i64 s, .int .i64 c, .int .i64 o] w fun e w' => e = .returned (.int .i64 (pbk 1 k s c o)) ∧ Below w.heap.size w w' := by
  have a1 : sz 1 ≠ 0 := by decide
  have E : Hid (pbk 1 k s c o = kyd 1 k + (o + 32 - 1) / 32 * (hmc 1 (s + 4) + (c - 1) * 2)) := hid (by
    show kyd 1 k + rds 1 o * (hmc 1 (s + 4) + (c - 1) * hmc 1 (sz 1)) = _
    rw [hmc_sz a1]; rfl)
  have C1 := hid (tagged1_ok (n := s + 4) (by omega))
  have C2 := hid (tagged1_ok (n := 32) (by omega))
  rw [show hmc 1 32 = 2 from hmc_sz a1] at C2
  have C3 := hid (keyed1_ok (n := k) (by omega))
  have C6 := hid (wholes_ok (n := o) (s := 32) (by omega) (by omega))
  have b1 := hmc_b (a := 1) (n := s + 4) a1 (by omega)
  have b3 := kyd_b (a := 1) (key := k) a1 (by omega)
  have b6 : 1 ≤ (o + 32 - 1) / 32 ∧ (o + 32 - 1) / 32 ≤ 17 := by omega
  obtain ⟨x1, h1⟩ : ∃ x, hmc 1 (s + 4) = x := ⟨_, rfl⟩
  obtain ⟨x3, h3⟩ : ∃ x, kyd 1 k = x := ⟨_, rfl⟩
  obtain ⟨x6, h6⟩ : ∃ x, (o + 32 - 1) / 32 = x := ⟨_, rfl⟩
  rw [h1] at C1 b1 E
  rw [h3] at C3 b3 E
  rw [h6] at C6 b6 E
  clear h1 h3 h6
  obtain ⟨x4, h4⟩ : ∃ x, x1 + (c - 1) * 2 = x := ⟨_, rfl⟩
  have b4 : 0 ≤ x4 ∧ x4 ≤ 3000000 := by omega
  rw [h4] at E
  have p1 : 0 ≤ x6 * x4 ∧ x6 * x4 ≤ 17 * 3000000 := ⟨Int.mul_nonneg (by omega) (by omega), Int.mul_le_mul (by omega) (by omega) (by omega) (by omega)⟩
  have wa : IntKind.i64.wrap (s + 4) = s + 4 := by rw [IntKind.wrap_i64]; omega
  have wb : IntKind.i64.wrap (c - 1) = c - 1 := by rw [IntKind.wrap_i64]; omega
  have wc : IntKind.i64.wrap ((c - 1) * 2) = (c - 1) * 2 := by rw [IntKind.wrap_i64]; omega
  have wd : IntKind.i64.wrap (x1 + (c - 1) * 2) = x4 := by rw [IntKind.wrap_i64]; omega
  have w4 : IntKind.i64.wrap x4 = x4 := by rw [IntKind.wrap_i64]; omega
  have we : IntKind.i64.wrap (x6 * x4) = x6 * x4 := by rw [IntKind.wrap_i64]; omega
  have wf : IntKind.i64.wrap (x3 + x6 * x4) = x3 + x6 * x4 := by rw [IntKind.wrap_i64]; omega
  obtain ⟨W, hW⟩ : ∃ W, w.alloc (.cells #[.int .i64 32, .int .i64 64, .int .u8 1, .int .i64 64] 119) = W := ⟨_, rfl⟩
  have BW : Hid (Below w.heap.size w W) := by rw [← hW]; exact below_alloc _ _
  have KB : Hid (Blk W w.heap.size [.int .i64 32, .int .i64 64, .int .u8 1, .int .i64 64] 119) := by rw [← hW]; exact Blk.newAt w _ _ _ w.heap.size rfl rfl
  have SW : Hid (∀ V, Below W.heap.size W V → V.cell? ⟨w.heap.size, 0, none⟩ = some (.int .i64 32) ∧ V.cell? ⟨w.heap.size, 1, none⟩ = some (.int .i64 64) ∧ (LDh ⟨w.heap.size, 0, none⟩).run Tryz.prog V = .ok (.agg #[.int .i64 32, .int .i64 64, .int .u8 1, .int .i64 64]) V) := fun V hV => by
    have k := KB.out.below hV
    exact ⟨k.cell 0 _ rfl, k.cell 1 _ rfl, LDh_run k⟩
  have D0 : Hid (Below W.heap.size W W.drew) := hid (below_drewN W 1)
  obtain ⟨y0, y1, yl⟩ := SW.out W.drew D0.out
  go_enter Tryz.func87, Tryz.ntmps87
  go_wp2_with fail
  clear hW
  go_region_held3 (fun V => V.cell? ⟨w.heap.size, 0, none⟩ = some (.int .i64 32) ∧ V.cell? ⟨w.heap.size, 1, none⟩ = some (.int .i64 64) ∧ (LDh ⟨w.heap.size, 0, none⟩).run Tryz.prog V = .ok (.agg #[.int .i64 32, .int .i64 64, .int .u8 1, .int .i64 64]) V) (go_keep) (first
    | (go_at_call 110; with_reducible refine (C1.out _).mono ?_; rintro e W1 ⟨rfl, hb⟩; have N1 : Hid (Below W.heap.size W W1) := hid (below_next D0.out hb); obtain ⟨z0, z1, zl⟩ := SW.out W1 N1.out; clear hb)
    | (go_at_call 110; with_reducible refine (C2.out _).mono ?_; rintro e W2 ⟨rfl, hb⟩; have N2 : Hid (Below W.heap.size W W2) := hid (below_next N1.out hb); obtain ⟨u0, u1, ul⟩ := SW.out W2 N2.out; clear hb))
  have D2 : Hid (Below W.heap.size W W2.drew) := hid (below_next N2.out (below_drewN W2 1))
  obtain ⟨v0, v1, vl⟩ := SW.out W2.drew D2.out
  go_wp2_with fail
  go_region_held3 (fun V => V.cell? ⟨w.heap.size, 0, none⟩ = some (.int .i64 32) ∧ V.cell? ⟨w.heap.size, 1, none⟩ = some (.int .i64 64) ∧ (LDh ⟨w.heap.size, 0, none⟩).run Tryz.prog V = .ok (.agg #[.int .i64 32, .int .i64 64, .int .u8 1, .int .i64 64]) V) (go_keep) (first
    | (go_at_call 109; with_reducible refine (C3.out _).mono ?_; rintro e W3 ⟨rfl, hb⟩; have N3 : Hid (Below W.heap.size W W3) := hid (below_next D2.out hb); obtain ⟨r0, r1, rl⟩ := SW.out W3 N3.out; clear hb)
    | (go_at_call 111; with_reducible refine (C6.out _).mono ?_; rintro e W6 ⟨rfl, rfl⟩))
  go_wp2
  go_ret
  exact ⟨by rw [E.out]; rfl, below_next BW.out N3.out⟩
set_option maxRecDepth 8000 in
set_option maxHeartbeats 1200000 in
theorem keyed2_ok {n : Int} (hn : 0 ≤ n ∧ n ≤ 1099511627776) (w : World) : Calls Tryz.prog 109 #[.agg #[.int .i64 64, .int .i64 128, .int .u8 2, .int .i64 128], .int .i64 n] w fun e w' => e = .returned (.int .i64 (kyd 2 n)) ∧ Below w.heap.size w w' := by
  by_cases h : n > 128
  · have E : Hid (kyd 2 n = dg 128 n + 2) := hid (by rw [kyd_2, if_pos h])
    have CD := hid (digest2_ok (n := n) (by omega))
    have db := dg_b (b := 128) (n := n) (by omega) (by omega)
    obtain ⟨l, hl⟩ : ∃ x, dg 128 n = x := ⟨_, rfl⟩
    rw [hl] at CD db E
    clear hl
    obtain ⟨W, hW⟩ : ∃ W, w.alloc (.cells #[.int .i64 64, .int .i64 128, .int .u8 2, .int .i64 128] 119) = W := ⟨_, rfl⟩
    have BW : Hid (Below w.heap.size w W) := by rw [← hW]; exact below_alloc _ _
    have KB : Hid (Blk W w.heap.size [.int .i64 64, .int .i64 128, .int .u8 2, .int .i64 128] 119) := by rw [← hW]; exact Blk.newAt w _ _ _ w.heap.size rfl rfl
    have SW : Hid (∀ V, Below W.heap.size W V → V.cell? ⟨w.heap.size, 0, none⟩ = some (.int .i64 64) ∧ V.cell? ⟨w.heap.size, 1, none⟩ = some (.int .i64 128) ∧ (LDh ⟨w.heap.size, 0, none⟩).run Tryz.prog V = .ok (.agg #[.int .i64 64, .int .i64 128, .int .u8 2, .int .i64 128]) V) := fun V hV => by
      have k := KB.out.below hV
      exact ⟨k.cell 0 _ rfl, k.cell 1 _ rfl, LDh_run k⟩
    obtain ⟨x0, x1, xl⟩ := SW.out W (Below.refl _ _)
    go_enter Tryz.func109, Tryz.ntmps109
    go_wp2_with fail
    refine (CD.out _).mono ?_
    rintro e W2 ⟨rfl, hb⟩
    have N2 : Hid (Below W.heap.size W W2) := hid hb
    clear hb
    go_wp2
    go_ret
    exact ⟨by rw [E.out]; rfl, below_next BW.out N2.out⟩
  · have E : Hid (kyd 2 n = 2) := hid (by rw [kyd_2, if_neg h])
    obtain ⟨W, hW⟩ : ∃ W, w.alloc (.cells #[.int .i64 64, .int .i64 128, .int .u8 2, .int .i64 128] 119) = W := ⟨_, rfl⟩
    have BW : Hid (Below w.heap.size w W) := by rw [← hW]; exact below_alloc _ _
    have KB : Hid (Blk W w.heap.size [.int .i64 64, .int .i64 128, .int .u8 2, .int .i64 128] 119) := by rw [← hW]; exact Blk.newAt w _ _ _ w.heap.size rfl rfl
    have SW : Hid (∀ V, Below W.heap.size W V → V.cell? ⟨w.heap.size, 0, none⟩ = some (.int .i64 64) ∧ V.cell? ⟨w.heap.size, 1, none⟩ = some (.int .i64 128) ∧ (LDh ⟨w.heap.size, 0, none⟩).run Tryz.prog V = .ok (.agg #[.int .i64 64, .int .i64 128, .int .u8 2, .int .i64 128]) V) := fun V hV => by
      have k := KB.out.below hV
      exact ⟨k.cell 0 _ rfl, k.cell 1 _ rfl, LDh_run k⟩
    obtain ⟨x0, x1, xl⟩ := SW.out W (Below.refl _ _)
    go_enter Tryz.func109, Tryz.ntmps109
    go_wp2
    go_ret
    exact ⟨by rw [E.out]; rfl, BW.out⟩
set_option maxRecDepth 8000 in
set_option maxHeartbeats 1200000 in
theorem tagged2_ok {n : Int} (hn : 0 ≤ n ∧ n ≤ 1099511627776) (w : World) : Calls Tryz.prog 110 #[.agg #[.int .i64 64, .int .i64 128, .int .u8 2, .int .i64 128], .int .i64 n] w fun e w' => e = .returned (.int .i64 (hmc 2 n)) ∧ Below w.heap.size w w' := by
  have E : Hid (hmc 2 n = dg 128 n + 1) := hid (hmc_2 n)
  have CD := hid (digest2_ok (n := n) (by omega))
  have db := dg_b (b := 128) (n := n) (by omega) (by omega)
  obtain ⟨l, hl⟩ : ∃ x, dg 128 n = x := ⟨_, rfl⟩
  rw [hl] at CD db E
  clear hl
  obtain ⟨W, hW⟩ : ∃ W, w.alloc (.cells #[.int .i64 64, .int .i64 128, .int .u8 2, .int .i64 128] 119) = W := ⟨_, rfl⟩
  have BW : Hid (Below w.heap.size w W) := by rw [← hW]; exact below_alloc _ _
  have KB : Hid (Blk W w.heap.size [.int .i64 64, .int .i64 128, .int .u8 2, .int .i64 128] 119) := by rw [← hW]; exact Blk.newAt w _ _ _ w.heap.size rfl rfl
  have SW : Hid (∀ V, Below W.heap.size W V → V.cell? ⟨w.heap.size, 0, none⟩ = some (.int .i64 64) ∧ V.cell? ⟨w.heap.size, 1, none⟩ = some (.int .i64 128) ∧ (LDh ⟨w.heap.size, 0, none⟩).run Tryz.prog V = .ok (.agg #[.int .i64 64, .int .i64 128, .int .u8 2, .int .i64 128]) V) := fun V hV => by
    have k := KB.out.below hV
    exact ⟨k.cell 0 _ rfl, k.cell 1 _ rfl, LDh_run k⟩
  obtain ⟨x0, x1, xl⟩ := SW.out W (Below.refl _ _)
  go_enter Tryz.func110, Tryz.ntmps110
  go_wp2_with fail
  refine (CD.out _).mono ?_
  rintro e W2 ⟨rfl, hb⟩
  have N2 : Hid (Below W.heap.size W W2) := hid hb
  clear hb
  go_wp2
  go_ret
  exact ⟨by rw [E.out]; rfl, below_next BW.out N2.out⟩
set_option maxRecDepth 8000 in
set_option maxHeartbeats 1200000 in
theorem hkdf2_ok {k s m o : Int} (hk : 0 ≤ k ∧ k ≤ 512) (hs : 0 ≤ s ∧ s ≤ 65536) (hm : 0 ≤ m ∧ m ≤ 65536) (ho : 1 ≤ o ∧ o ≤ 512) (w : World) : Calls Tryz.prog 86 #[.agg #[.int .i64 64, .int .i64 128, .int .u8 2, .int .i64 128], .int .i64 k, .int .i64 s, .int .i64 m, .int .i64 o] w fun e w' => e = .returned (.int .i64 (hkd 2 k s m o)) ∧ Below w.heap.size w w' := by
  have a2 : sz 2 ≠ 0 := by decide
  have E : Hid (hkd 2 k s m o = kyd 2 s + hmc 2 k + kyd 2 64 + hmc 2 (m + 1) + ((o + 64 - 1) / 64 - 1) * hmc 2 (64 + m + 1)) := hid (by
    have r0 : 1 ≤ rds 2 o := (rds_b a2 ho.1).1
    have r1 : rds 2 o = (o + 64 - 1) / 64 := rfl
    have e := hkl_closed 2 m ((rds 2 o).toNat - 1)
    rw [show (rds 2 o).toNat - 1 + 1 = (rds 2 o).toNat from by omega] at e
    have e2 : (((rds 2 o).toNat - 1 : Nat) : Int) = (o + 64 - 1) / 64 - 1 := by rw [← r1]; omega
    show kyd 2 s + hmc 2 k + kyd 2 (sz 2) + hkl 2 m (rds 2 o).toNat = _
    rw [e, e2, show sz 2 = 64 from rfl]
    omega)
  have C1 := hid (keyed2_ok (n := s) (by omega))
  have C2 := hid (tagged2_ok (n := k) (by omega))
  have C3 := hid (tagged2_ok (n := m + 1) (by omega))
  have C4 := hid (tagged2_ok (n := 64 + m + 1) (by omega))
  have C5 := hid (keyed2_ok (n := 64) (by omega))
  have C6 := hid (wholes_ok (n := o) (s := 64) (by omega) (by omega))
  have b1 := kyd_b a2 hs.1
  have b2 := hmc_b (a := 2) (n := k) a2 (by omega)
  have b3 := hmc_b (a := 2) (n := m + 1) a2 (by omega)
  have b4 := hmc_b (a := 2) (n := 64 + m + 1) a2 (by omega)
  have b5 := kyd_b (a := 2) (key := 64) a2 (by omega)
  have b6 : 1 ≤ (o + 64 - 1) / 64 ∧ (o + 64 - 1) / 64 ≤ 17 := by omega
  obtain ⟨x1, h1⟩ : ∃ x, kyd 2 s = x := ⟨_, rfl⟩
  obtain ⟨x2, h2⟩ : ∃ x, hmc 2 k = x := ⟨_, rfl⟩
  obtain ⟨x3, h3⟩ : ∃ x, hmc 2 (m + 1) = x := ⟨_, rfl⟩
  obtain ⟨x4, h4⟩ : ∃ x, hmc 2 (64 + m + 1) = x := ⟨_, rfl⟩
  obtain ⟨x5, h5⟩ : ∃ x, kyd 2 64 = x := ⟨_, rfl⟩
  obtain ⟨x6, h6⟩ : ∃ x, (o + 64 - 1) / 64 = x := ⟨_, rfl⟩
  rw [h1] at C1 b1 E
  rw [h2] at C2 b2 E
  rw [h3] at C3 b3 E
  rw [h4] at C4 b4 E
  rw [h5] at C5 b5 E
  rw [h6] at C6 b6 E
  clear h1 h2 h3 h4 h5 h6
  have p1 : 0 ≤ (x6 - 1) * x4 ∧ (x6 - 1) * x4 ≤ 16 * 2000 := ⟨Int.mul_nonneg (by omega) (by omega), Int.mul_le_mul (by omega) (by omega) (by omega) (by omega)⟩
  have wa : IntKind.i64.wrap (x1 + x2) = x1 + x2 := by rw [IntKind.wrap_i64]; omega
  have wb : IntKind.i64.wrap (m + 1) = m + 1 := by rw [IntKind.wrap_i64]; omega
  have wc : IntKind.i64.wrap (64 + m) = 64 + m := by rw [IntKind.wrap_i64]; omega
  have wd : IntKind.i64.wrap (64 + m + 1) = 64 + m + 1 := by rw [IntKind.wrap_i64]; omega
  have we : IntKind.i64.wrap (x1 + x2 + x5) = x1 + x2 + x5 := by rw [IntKind.wrap_i64]; omega
  have wf : IntKind.i64.wrap (x1 + x2 + x5 + x3) = x1 + x2 + x5 + x3 := by rw [IntKind.wrap_i64]; omega
  have wg : IntKind.i64.wrap (x6 - 1) = x6 - 1 := by rw [IntKind.wrap_i64]; omega
  have wh : IntKind.i64.wrap ((x6 - 1) * x4) = (x6 - 1) * x4 := by rw [IntKind.wrap_i64]; omega
  have wi : IntKind.i64.wrap (x1 + x2 + x5 + x3 + (x6 - 1) * x4) = x1 + x2 + x5 + x3 + (x6 - 1) * x4 := by rw [IntKind.wrap_i64]; omega
  obtain ⟨W, hW⟩ : ∃ W, w.alloc (.cells #[.int .i64 64, .int .i64 128, .int .u8 2, .int .i64 128] 119) = W := ⟨_, rfl⟩
  have BW : Hid (Below w.heap.size w W) := by rw [← hW]; exact below_alloc _ _
  have KB : Hid (Blk W w.heap.size [.int .i64 64, .int .i64 128, .int .u8 2, .int .i64 128] 119) := by rw [← hW]; exact Blk.newAt w _ _ _ w.heap.size rfl rfl
  have SW : Hid (∀ V, Below W.heap.size W V → V.cell? ⟨w.heap.size, 0, none⟩ = some (.int .i64 64) ∧ V.cell? ⟨w.heap.size, 1, none⟩ = some (.int .i64 128) ∧ (LDh ⟨w.heap.size, 0, none⟩).run Tryz.prog V = .ok (.agg #[.int .i64 64, .int .i64 128, .int .u8 2, .int .i64 128]) V) := fun V hV => by
    have k := KB.out.below hV
    exact ⟨k.cell 0 _ rfl, k.cell 1 _ rfl, LDh_run k⟩
  have D0 : Hid (Below W.heap.size W W.drew) := hid (below_drewN W 1)
  obtain ⟨y0, y1, yl⟩ := SW.out W.drew D0.out
  go_enter Tryz.func86, Tryz.ntmps86
  go_wp2_with fail
  clear hW
  go_region_held3 (fun V => V.cell? ⟨w.heap.size, 0, none⟩ = some (.int .i64 64) ∧ V.cell? ⟨w.heap.size, 1, none⟩ = some (.int .i64 128) ∧ (LDh ⟨w.heap.size, 0, none⟩).run Tryz.prog V = .ok (.agg #[.int .i64 64, .int .i64 128, .int .u8 2, .int .i64 128]) V) (go_keep) (first
    | (go_at_call 109; with_reducible refine (C1.out _).mono ?_; rintro e W1 ⟨rfl, hb⟩; have N1 : Hid (Below W.heap.size W W1) := hid (below_next D0.out hb); obtain ⟨z0, z1, zl⟩ := SW.out W1 N1.out; clear hb)
    | (go_at_call 110; with_reducible refine (C2.out _).mono ?_; rintro e W2 ⟨rfl, hb⟩; have N2 : Hid (Below W.heap.size W W2) := hid (below_next N1.out hb); obtain ⟨u0, u1, ul⟩ := SW.out W2 N2.out; clear hb))
  have D2 : Hid (Below W.heap.size W W2.drew) := hid (below_next N2.out (below_drewN W2 1))
  obtain ⟨v0, v1, vl⟩ := SW.out W2.drew D2.out
  go_wp2_with fail
  go_region_held3 (fun V => V.cell? ⟨w.heap.size, 0, none⟩ = some (.int .i64 64) ∧ V.cell? ⟨w.heap.size, 1, none⟩ = some (.int .i64 128) ∧ (LDh ⟨w.heap.size, 0, none⟩).run Tryz.prog V = .ok (.agg #[.int .i64 64, .int .i64 128, .int .u8 2, .int .i64 128]) V) (go_keep) (first
    | (go_at_call 110; with_reducible refine (C3.out _).mono ?_; rintro e W3 ⟨rfl, hb⟩; have N3 : Hid (Below W.heap.size W W3) := hid (below_next D2.out hb); obtain ⟨r0, r1, rl⟩ := SW.out W3 N3.out; clear hb)
    | (go_at_call 110; with_reducible refine (C4.out _).mono ?_; rintro e W4 ⟨rfl, hb⟩; have N4 : Hid (Below W.heap.size W W4) := hid (below_next N3.out hb); obtain ⟨s0, s1, sl⟩ := SW.out W4 N4.out; clear hb))
  have D4 : Hid (Below W.heap.size W W4.drew) := hid (below_next N4.out (below_drewN W4 1))
  obtain ⟨t0, t1, tl⟩ := SW.out W4.drew D4.out
  go_wp2_with fail
  go_region_held3 (fun V => V.cell? ⟨w.heap.size, 0, none⟩ = some (.int .i64 64) ∧ V.cell? ⟨w.heap.size, 1, none⟩ = some (.int .i64 128) ∧ (LDh ⟨w.heap.size, 0, none⟩).run Tryz.prog V = .ok (.agg #[.int .i64 64, .int .i64 128, .int .u8 2, .int .i64 128]) V) (go_keep) (first
    | (go_at_call 109; with_reducible refine (C5.out _).mono ?_; rintro e W5 ⟨rfl, hb⟩; have N5 : Hid (Below W.heap.size W W5) := hid (below_next D4.out hb); obtain ⟨q0, q1, ql⟩ := SW.out W5 N5.out; clear hb)
    | (go_at_call 111; with_reducible refine (C6.out _).mono ?_; rintro e W6 ⟨rfl, rfl⟩))
  go_wp2
  go_ret
  exact ⟨by rw [E.out]; rfl, below_next BW.out N5.out⟩
set_option maxRecDepth 8000 in
set_option maxHeartbeats 1200000 in
theorem pbkdf2_ok {k s c o : Int} (hk : 0 ≤ k ∧ k ≤ 512) (hs : 0 ≤ s ∧ s ≤ 65536) (hc : 1 ≤ c ∧ c ≤ 1048576) (ho : 1 ≤ o ∧ o ≤ 512) (w : World) : Calls Tryz.prog 87 #[.agg #[.int .i64 64, .int .i64 128, .int .u8 2, .int .i64 128], .int .i64 k, .int .i64 s, .int .i64 c, .int .i64 o] w fun e w' => e = .returned (.int .i64 (pbk 2 k s c o)) ∧ Below w.heap.size w w' := by
  have a2 : sz 2 ≠ 0 := by decide
  have E : Hid (pbk 2 k s c o = kyd 2 k + (o + 64 - 1) / 64 * (hmc 2 (s + 4) + (c - 1) * 2)) := hid (by
    show kyd 2 k + rds 2 o * (hmc 2 (s + 4) + (c - 1) * hmc 2 (sz 2)) = _
    rw [hmc_sz a2]; rfl)
  have C1 := hid (tagged2_ok (n := s + 4) (by omega))
  have C2 := hid (tagged2_ok (n := 64) (by omega))
  rw [show hmc 2 64 = 2 from hmc_sz a2] at C2
  have C3 := hid (keyed2_ok (n := k) (by omega))
  have C6 := hid (wholes_ok (n := o) (s := 64) (by omega) (by omega))
  have b1 := hmc_b (a := 2) (n := s + 4) a2 (by omega)
  have b3 := kyd_b (a := 2) (key := k) a2 (by omega)
  have b6 : 1 ≤ (o + 64 - 1) / 64 ∧ (o + 64 - 1) / 64 ≤ 17 := by omega
  obtain ⟨x1, h1⟩ : ∃ x, hmc 2 (s + 4) = x := ⟨_, rfl⟩
  obtain ⟨x3, h3⟩ : ∃ x, kyd 2 k = x := ⟨_, rfl⟩
  obtain ⟨x6, h6⟩ : ∃ x, (o + 64 - 1) / 64 = x := ⟨_, rfl⟩
  rw [h1] at C1 b1 E
  rw [h3] at C3 b3 E
  rw [h6] at C6 b6 E
  clear h1 h3 h6
  obtain ⟨x4, h4⟩ : ∃ x, x1 + (c - 1) * 2 = x := ⟨_, rfl⟩
  have b4 : 0 ≤ x4 ∧ x4 ≤ 3000000 := by omega
  rw [h4] at E
  have p1 : 0 ≤ x6 * x4 ∧ x6 * x4 ≤ 17 * 3000000 := ⟨Int.mul_nonneg (by omega) (by omega), Int.mul_le_mul (by omega) (by omega) (by omega) (by omega)⟩
  have wa : IntKind.i64.wrap (s + 4) = s + 4 := by rw [IntKind.wrap_i64]; omega
  have wb : IntKind.i64.wrap (c - 1) = c - 1 := by rw [IntKind.wrap_i64]; omega
  have wc : IntKind.i64.wrap ((c - 1) * 2) = (c - 1) * 2 := by rw [IntKind.wrap_i64]; omega
  have wd : IntKind.i64.wrap (x1 + (c - 1) * 2) = x4 := by rw [IntKind.wrap_i64]; omega
  have w4 : IntKind.i64.wrap x4 = x4 := by rw [IntKind.wrap_i64]; omega
  have we : IntKind.i64.wrap (x6 * x4) = x6 * x4 := by rw [IntKind.wrap_i64]; omega
  have wf : IntKind.i64.wrap (x3 + x6 * x4) = x3 + x6 * x4 := by rw [IntKind.wrap_i64]; omega
  obtain ⟨W, hW⟩ : ∃ W, w.alloc (.cells #[.int .i64 64, .int .i64 128, .int .u8 2, .int .i64 128] 119) = W := ⟨_, rfl⟩
  have BW : Hid (Below w.heap.size w W) := by rw [← hW]; exact below_alloc _ _
  have KB : Hid (Blk W w.heap.size [.int .i64 64, .int .i64 128, .int .u8 2, .int .i64 128] 119) := by rw [← hW]; exact Blk.newAt w _ _ _ w.heap.size rfl rfl
  have SW : Hid (∀ V, Below W.heap.size W V → V.cell? ⟨w.heap.size, 0, none⟩ = some (.int .i64 64) ∧ V.cell? ⟨w.heap.size, 1, none⟩ = some (.int .i64 128) ∧ (LDh ⟨w.heap.size, 0, none⟩).run Tryz.prog V = .ok (.agg #[.int .i64 64, .int .i64 128, .int .u8 2, .int .i64 128]) V) := fun V hV => by
    have k := KB.out.below hV
    exact ⟨k.cell 0 _ rfl, k.cell 1 _ rfl, LDh_run k⟩
  have D0 : Hid (Below W.heap.size W W.drew) := hid (below_drewN W 1)
  obtain ⟨y0, y1, yl⟩ := SW.out W.drew D0.out
  go_enter Tryz.func87, Tryz.ntmps87
  go_wp2_with fail
  clear hW
  go_region_held3 (fun V => V.cell? ⟨w.heap.size, 0, none⟩ = some (.int .i64 64) ∧ V.cell? ⟨w.heap.size, 1, none⟩ = some (.int .i64 128) ∧ (LDh ⟨w.heap.size, 0, none⟩).run Tryz.prog V = .ok (.agg #[.int .i64 64, .int .i64 128, .int .u8 2, .int .i64 128]) V) (go_keep) (first
    | (go_at_call 110; with_reducible refine (C1.out _).mono ?_; rintro e W1 ⟨rfl, hb⟩; have N1 : Hid (Below W.heap.size W W1) := hid (below_next D0.out hb); obtain ⟨z0, z1, zl⟩ := SW.out W1 N1.out; clear hb)
    | (go_at_call 110; with_reducible refine (C2.out _).mono ?_; rintro e W2 ⟨rfl, hb⟩; have N2 : Hid (Below W.heap.size W W2) := hid (below_next N1.out hb); obtain ⟨u0, u1, ul⟩ := SW.out W2 N2.out; clear hb))
  have D2 : Hid (Below W.heap.size W W2.drew) := hid (below_next N2.out (below_drewN W2 1))
  obtain ⟨v0, v1, vl⟩ := SW.out W2.drew D2.out
  go_wp2_with fail
  go_region_held3 (fun V => V.cell? ⟨w.heap.size, 0, none⟩ = some (.int .i64 64) ∧ V.cell? ⟨w.heap.size, 1, none⟩ = some (.int .i64 128) ∧ (LDh ⟨w.heap.size, 0, none⟩).run Tryz.prog V = .ok (.agg #[.int .i64 64, .int .i64 128, .int .u8 2, .int .i64 128]) V) (go_keep) (first
    | (go_at_call 109; with_reducible refine (C3.out _).mono ?_; rintro e W3 ⟨rfl, hb⟩; have N3 : Hid (Below W.heap.size W W3) := hid (below_next D2.out hb); obtain ⟨r0, r1, rl⟩ := SW.out W3 N3.out; clear hb)
    | (go_at_call 111; with_reducible refine (C6.out _).mono ?_; rintro e W6 ⟨rfl, rfl⟩))
  go_wp2
  go_ret
  exact ⟨by rw [E.out]; rfl, below_next BW.out N3.out⟩
end Go.Proofs.YtdmacflcjbkkpaaGreat.Co
