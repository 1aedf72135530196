/- How many blocks each call works on, of the document: its numbers one by one. -/
import Derived.Test.YtdmacflcjbkkpaaGreatJp
import Derived.Deep.QuietTactic
import Derived.BigQuiet
namespace Go.Proofs.YtdmacflcjbkkpaaGreat.Cd
open Go.Proofs.YtdmacflcjbkkpaaGreat.Co
open Go.ChangeShapes Go.WideShapes Go.ChangeAt Go.RowKit
open Go.Proofs.YtdmacflcjbkkpaaGreat.Ou (Sk sv)
theorem sz_le (a : Int) : 0 ≤ sz a ∧ sz a ≤ 64 := by unfold sz; split; omega; split <;> omega
theorem bk_le (a : Int) : 0 ≤ bk a ∧ bk a ≤ 128 := by have := sz_le a; unfold bk; omega
set_option maxRecDepth 8000 in
set_option maxHeartbeats 1200000 in
theorem Size_ok (a : Int) (w : World) : Calls Tryz.prog 90 #[.int .u8 a] w fun e w' => e = .returned (.int .i64 (sz a)) ∧ ∃ d, w' = w.drewN d := by
  by_cases h0 : a = 1
  · have E : Hid (sz a = 32) := by show sz a = _; unfold sz; (repeat' split) <;> first | rfl | omega
    go_enter Tryz.func90, Tryz.ntmps90
    go_wp2
    all_goals first
      | (go_ret; exact ⟨by rw [E.out]; rfl, 0, rfl⟩)
      | (exfalso; simp_all; done)
  · skip
    by_cases h1 : a = 2
    · have E : Hid (sz a = 64) := by show sz a = _; unfold sz; (repeat' split) <;> first | rfl | omega
      go_enter Tryz.func90, Tryz.ntmps90
      go_wp2
      all_goals first
        | (go_ret; exact ⟨by rw [E.out]; rfl, 0, rfl⟩)
        | (exfalso; simp_all; done)
    · skip
      have E : Hid (sz a = 0) := by show sz a = _; unfold sz; (repeat' split) <;> first | rfl | omega
      go_enter Tryz.func90, Tryz.ntmps90
      go_wp2
      all_goals first
        | (go_ret; exact ⟨by rw [E.out]; rfl, 0, rfl⟩)
        | (exfalso; simp_all; done)
set_option maxRecDepth 8000 in
set_option maxHeartbeats 1200000 in
theorem Event_ok (a : Int) (w : World) : Calls Tryz.prog 72 #[.int .u8 a] w fun e w' => e = .returned (.int .u8 (ek a)) ∧ ∃ d, w' = w.drewN d := by
  by_cases h0 : a = 1
  · have E : Hid (ek a = 1) := by show ek a = _; unfold ek; (repeat' split) <;> first | rfl | omega
    go_enter Tryz.func72, Tryz.ntmps72
    go_wp2
    all_goals first
      | (go_ret; exact ⟨by rw [E.out]; rfl, 0, rfl⟩)
      | (exfalso; simp_all; done)
  · skip
    have E : Hid (ek a = 2) := by show ek a = _; unfold ek; (repeat' split) <;> first | rfl | omega
    go_enter Tryz.func72, Tryz.ntmps72
    go_wp2
    all_goals first
      | (go_ret; exact ⟨by rw [E.out]; rfl, 0, rfl⟩)
      | (exfalso; simp_all; done)
set_option maxRecDepth 8000 in
set_option maxHeartbeats 1200000 in
theorem rate_ok (a : Int) (w : World) : Calls Tryz.prog 96 #[.int .u8 a] w fun e w' => e = .returned (.int .i64 (rte a)) ∧ ∃ d, w' = w.drewN d := by
  by_cases h0 : a = 4
  · have E : Hid (rte a = 168) := by show rte a = _; unfold rte; (repeat' split) <;> first | rfl | omega
    go_enter Tryz.func96, Tryz.ntmps96
    go_wp2
    all_goals first
      | (go_ret; exact ⟨by rw [E.out]; rfl, 0, rfl⟩)
      | (exfalso; simp_all; done)
  · skip
    by_cases h1 : a = 6
    · have E : Hid (rte a = 168) := by show rte a = _; unfold rte; (repeat' split) <;> first | rfl | omega
      go_enter Tryz.func96, Tryz.ntmps96
      go_wp2
      all_goals first
        | (go_ret; exact ⟨by rw [E.out]; rfl, 0, rfl⟩)
        | (exfalso; simp_all; done)
    · skip
      have E : Hid (rte a = 136) := by show rte a = _; unfold rte; (repeat' split) <;> first | rfl | omega
      go_enter Tryz.func96, Tryz.ntmps96
      go_wp2
      all_goals first
        | (go_ret; exact ⟨by rw [E.out]; rfl, 0, rfl⟩)
        | (exfalso; simp_all; done)
set_option maxRecDepth 8000 in
set_option maxHeartbeats 1200000 in
theorem Block_ok (a : Int) (w : World) : Calls Tryz.prog 73 #[.int .u8 a] w fun e w' => e = .returned (.int .i64 (bk a)) ∧ ∃ d, w' = w.drewN d := by
  have C := hid (Size_ok a)
  have b := sz_le a
  have E : Hid (bk a = 2 * sz a) := hid rfl
  obtain ⟨x, hx⟩ : ∃ x, sz a = x := ⟨_, rfl⟩
  rw [hx] at C b E
  clear hx
  go_enter Tryz.func73, Tryz.ntmps73
  go_wp2_with fail
  refine (C.out _).mono ?_
  rintro e w' ⟨rfl, d1, rfl⟩
  go_wp2
  go_ret
  exact ⟨by rw [E.out]; rfl, _, rfl⟩
set_option maxRecDepth 8000 in
set_option maxHeartbeats 1200000 in
theorem full_ok {b n m : Int} (hb : 1 ≤ b ∧ b ≤ 1000) (hn : 0 ≤ n ∧ n ≤ 1099511627776) (hm : 0 ≤ m ∧ m ≤ 1099511627776) (w : World) : Calls Tryz.prog 94 #[.int .i64 b, .int .i64 n, .int .i64 m] w fun e w' => e = .returned (.int .i64 (ful b n m)) ∧ ∃ d, w' = w.drewN d := by
  have E : Hid (ful b n m = (n + m) / b - n / b) := hid rfl
  have hb0 : ¬ b = 0 := by omega
  have l1 : 0 ≤ (n + m) / b ∧ (n + m) / b ≤ n + m := ⟨Int.ediv_nonneg (by omega) (by omega), Int.ediv_le_self _ (by omega)⟩
  have l2 : 0 ≤ n / b ∧ n / b ≤ n := ⟨Int.ediv_nonneg (by omega) (by omega), Int.ediv_le_self _ (by omega)⟩
  go_enter Tryz.func94, Tryz.ntmps94
  go_wp2_with fail
  go_quiet (fail)
  go_wp2
  go_ret
  exact ⟨by rw [E.out]; rfl, _, rfl⟩
set_option maxRecDepth 8000 in
set_option maxHeartbeats 1200000 in
theorem last_ok {a n : Int} (ha : sz a ≠ 0) (hn : 0 ≤ n ∧ n ≤ 1099511627776) (w : World) : Calls Tryz.prog 113 #[.int .u8 a, .int .i64 n] w fun e w' => e = .returned (.int .i64 (lst (bk a) n)) ∧ ∃ d, w' = w.drewN d := by
  have C := hid (Block_ok a)
  have b1 := bk_le a
  have b2 := bk_64 ha
  have E : Hid (lst (bk a) n = if n % bk a + 1 + bk a / 8 ≤ bk a then 1 else 2) := hid rfl
  obtain ⟨b, hx⟩ : ∃ x, bk a = x := ⟨_, rfl⟩
  rw [hx] at C b1 b2 E ⊢
  clear hx
  have hb0 : ¬ b = 0 := by omega
  have q1 : n.tmod b = n % b := Int.tmod_eq_emod_of_nonneg (by omega)
  have l1 : 0 ≤ n % b ∧ n % b < b := ⟨Int.emod_nonneg _ (by omega), Int.emod_lt_of_pos _ (by omega)⟩
  by_cases h : n % b + 1 + b / 8 ≤ b
  · have E' := hid (E.out.trans (if_pos h))
    go_enter Tryz.func113, Tryz.ntmps113
    go_wp2_with fail
    refine (C.out _).mono ?_
    rintro e w' ⟨rfl, d1, rfl⟩
    go_wp2
    go_ret
    exact ⟨by rw [E'.out]; rfl, _, rfl⟩
  · have E' := hid (E.out.trans (if_neg h))
    go_enter Tryz.func113, Tryz.ntmps113
    go_wp2_with fail
    refine (C.out _).mono ?_
    rintro e w' ⟨rfl, d1, rfl⟩
    go_wp2
    go_ret
    exact ⟨by rw [E'.out]; rfl, _, rfl⟩
set_option maxRecDepth 8000 in
set_option maxHeartbeats 1200000 in
theorem keyed_ok {a k : Int} (ha : sz a ≠ 0) (hk : 0 ≤ k ∧ k ≤ 1099511627776) (w : World) : Calls Tryz.prog 91 #[.int .u8 a, .int .i64 k] w fun e w' => e = .returned (.int .i64 (kyd a k)) ∧ ∃ d, w' = w.drewN d := by
  have CB := hid (Block_ok a)
  have b1 := bk_le a
  have b2 := bk_64 ha
  have CF := hid (full_ok (b := bk a) (n := 0) (m := k) (by omega) (by omega) hk)
  have CL := hid (last_ok ha hk)
  have f1 := ful_0 (b := bk a) (m := k) b2 hk.1
  have t1 := lst_b (bk a) k
  have E : Hid (kyd a k = if k > bk a then ful (bk a) 0 k + lst (bk a) k + 2 else 2) := hid rfl
  obtain ⟨x, hx⟩ : ∃ x, ful (bk a) 0 k = x := ⟨_, rfl⟩
  obtain ⟨y, hy⟩ : ∃ x, lst (bk a) k = x := ⟨_, rfl⟩
  rw [hx] at CF f1 E
  rw [hy] at CL t1 E
  obtain ⟨b, hb⟩ : ∃ x, bk a = x := ⟨_, rfl⟩
  rw [hb] at CB CF b1 b2 E
  clear hx hy hb
  by_cases h : b < k
  · have E' := hid (E.out.trans (if_pos h))
    go_enter Tryz.func91, Tryz.ntmps91
    go_wp2_with fail
    refine (CB.out _).mono ?_
    rintro e w' ⟨rfl, d1, rfl⟩
    go_wp2_with fail
    refine (CB.out _).mono ?_
    rintro e w' ⟨rfl, d3, rfl⟩
    go_wp2_with fail
    refine (CF.out _).mono ?_
    rintro e w' ⟨rfl, d4, rfl⟩
    go_wp2_with fail
    refine (CL.out _).mono ?_
    rintro e w' ⟨rfl, d5, rfl⟩
    go_wp2
    go_ret
    exact ⟨by rw [E'.out]; rfl, _, rfl⟩
  · have E' := hid (E.out.trans (if_neg h))
    go_enter Tryz.func91, Tryz.ntmps91
    go_wp2_with fail
    refine (CB.out _).mono ?_
    rintro e w' ⟨rfl, d1, rfl⟩
    go_wp2
    go_ret
    exact ⟨by rw [E'.out]; rfl, _, rfl⟩
set_option maxRecDepth 8000 in
set_option maxHeartbeats 1200000 in
theorem tagged_ok {a n : Int} (ha : sz a ≠ 0) (hn : 0 ≤ n ∧ n ≤ 1099511627776 - 1000) (w : World) : Calls Tryz.prog 97 #[.int .u8 a, .int .i64 n] w fun e w' => e = .returned (.int .i64 (tgd a n)) ∧ ∃ d, w' = w.drewN d := by
  have CB := hid (Block_ok a)
  have CS := hid (Size_ok a)
  have b1 := bk_le a
  have b2 := bk_64 ha
  have s1 := sz_le a
  have L1 := hid (last_ok (a := a) (n := bk a + n) ha (by omega))
  have L2 := hid (last_ok (a := a) (n := bk a + sz a) ha (by omega))
  have t1 := lst_b (bk a) (bk a + n)
  have t2 := lst_b (bk a) (bk a + sz a)
  have E : Hid (tgd a n = lst (bk a) (bk a + n) + lst (bk a) (bk a + sz a)) := hid rfl
  obtain ⟨x, hx⟩ : ∃ x, lst (bk a) (bk a + n) = x := ⟨_, rfl⟩
  obtain ⟨y, hy⟩ : ∃ x, lst (bk a) (bk a + sz a) = x := ⟨_, rfl⟩
  rw [hx] at L1 t1 E
  rw [hy] at L2 t2 E
  obtain ⟨b, hb⟩ : ∃ x, bk a = x := ⟨_, rfl⟩
  obtain ⟨s, hs⟩ : ∃ x, sz a = x := ⟨_, rfl⟩
  rw [hb] at CB L1 L2 b1 b2
  rw [hs] at CS L2 s1
  clear hx hy hb hs ha
  go_enter Tryz.func97, Tryz.ntmps97
  go_wp2_with fail
  refine (CB.out _).mono ?_
  rintro e w' ⟨rfl, d3, rfl⟩
  go_wp2_with fail
  refine (L1.out _).mono ?_
  rintro e w' ⟨rfl, d4, rfl⟩
  go_wp2_with fail
  refine (CB.out _).mono ?_
  rintro e w' ⟨rfl, d5, rfl⟩
  go_wp2_with fail
  refine (CS.out _).mono ?_
  rintro e w' ⟨rfl, d6, rfl⟩
  go_wp2_with fail
  refine (L2.out _).mono ?_
  rintro e w' ⟨rfl, d7, rfl⟩
  go_wp2
  go_ret
  exact ⟨by rw [E.out]; rfl, _, rfl⟩
set_option maxRecDepth 8000 in
set_option maxHeartbeats 1200000 in
theorem hmac_ok {a n : Int} (ha : sz a ≠ 0) (hn : 0 ≤ n ∧ n ≤ 1099511627776 - 1000) (w : World) : Calls Tryz.prog 100 #[.int .u8 a, .int .i64 n] w fun e w' => e = .returned (.int .i64 (hmc a n)) ∧ ∃ d, w' = w.drewN d := by
  have CB := hid (Block_ok a)
  have b1 := bk_le a
  have b2 := bk_64 ha
  have CF := hid (full_ok (b := bk a) (n := 0) (m := n) (by omega) (by omega) (by omega))
  have CT := hid (tagged_ok ha hn)
  have f1 := ful_0 (b := bk a) (m := n) b2 hn.1
  have t1 := tgd_b a n
  have E : Hid (hmc a n = ful (bk a) 0 n + tgd a n) := hid rfl
  obtain ⟨x, hx⟩ : ∃ x, ful (bk a) 0 n = x := ⟨_, rfl⟩
  obtain ⟨y, hy⟩ : ∃ x, tgd a n = x := ⟨_, rfl⟩
  rw [hx] at CF f1 E
  rw [hy] at CT t1 E
  obtain ⟨b, hb⟩ : ∃ x, bk a = x := ⟨_, rfl⟩
  rw [hb] at CB CF b1 b2
  clear hx hy hb ha
  go_enter Tryz.func100, Tryz.ntmps100
  go_wp2_with fail
  refine (CB.out _).mono ?_
  rintro e w' ⟨rfl, d3, rfl⟩
  go_wp2_with fail
  refine (CF.out _).mono ?_
  rintro e w' ⟨rfl, d4, rfl⟩
  go_wp2_with fail
  refine (CT.out _).mono ?_
  rintro e w' ⟨rfl, d5, rfl⟩
  go_wp2
  go_ret
  exact ⟨by rw [E.out]; rfl, _, rfl⟩
set_option maxRecDepth 8000 in
set_option maxHeartbeats 1200000 in
theorem chained_ok {n : Int} (hn : 0 ≤ n ∧ n ≤ 1099511627776) (w : World) : Calls Tryz.prog 95 #[.int .i64 n] w fun e w' => e = .returned (.int .i64 (chn n)) ∧ ∃ d, w' = w.drewN d := by
  by_cases h : n ≤ 16
  · have E : Hid (chn n = 0) := hid (by unfold chn; omega)
    have q1 : (n - 1).tdiv 16 = 0 := by
      by_cases h0 : n = 0
      · subst h0; rfl
      · rw [Int.tdiv_eq_ediv_of_nonneg (by omega)]; omega
    go_enter Tryz.func95, Tryz.ntmps95
    go_wp2
    go_ret
    exact ⟨by rw [E.out]; rfl, 0, rfl⟩
  · have E : Hid (chn n = (n - 1) / 16) := hid (by unfold chn; omega)
    have l1 : 0 < (n - 1) / 16 := by omega
    go_enter Tryz.func95, Tryz.ntmps95
    go_wp2
    go_ret
    exact ⟨by rw [E.out]; rfl, 0, rfl⟩
set_option maxRecDepth 8000 in
set_option maxHeartbeats 1200000 in
theorem xof_ok (a : Int) (w : World) : Calls Tryz.prog 99 #[.int .u8 a] w fun e w' => e = .returned (.bool (xof a)) ∧ ∃ d, w' = w.drewN d := by
  by_cases h0 : a = 6
  · have E : Hid (xof a = true) := hid (by subst h0; rfl)
    go_enter Tryz.func99, Tryz.ntmps99
    go_wp2
    all_goals first
      | (go_ret; exact ⟨by rw [E.out]; subst h0; rfl, 0, rfl⟩)
      | (exfalso; simp_all; done)
  · by_cases h1 : a = 7
    · have E : Hid (xof a = true) := hid (by subst h1; rfl)
      go_enter Tryz.func99, Tryz.ntmps99
      go_wp2
      all_goals first
        | (go_ret; exact ⟨by rw [E.out]; subst h1; rfl, 0, rfl⟩)
        | (exfalso; simp_all; done)
    · have E : Hid (xof a = false) := hid (by unfold xof; simp [h0, h1])
      go_enter Tryz.func99, Tryz.ntmps99
      go_wp2
      all_goals first
        | (go_ret; exact ⟨by rw [E.out, show (a == 6) = false from by simpa using h0, show (a == 7) = false from by simpa using h1]; rfl, 0, rfl⟩)
        | (exfalso; simp_all; done)
set_option maxRecDepth 8000 in
set_option maxHeartbeats 1200000 in
theorem number_ok {n : Int} (hn : 0 ≤ n ∧ n ≤ 16777215) (w : World) : Calls Tryz.prog 98 #[.int .i64 n] w fun e w' => e = .returned (.int .i64 (nbr n)) ∧ ∃ d, w' = w.drewN d := by
  go_enter Tryz.func98, Tryz.ntmps98
  go_wp2
  go_loopw [0, 3] (fun m k wr => ∃ (x : Int) (y : Nat), (0 ≤ x ∧ x ≤ 16777215) ∧ (2 ≤ y ∧ y ≤ 10) ∧ m = .int .i64 x ∧ k = .int .i64 y ∧ nbr n + 2 = nbr x + y ∧ wr = w) (fun m _ _ => (intOf m).toNat)
  case atStart => exact ⟨n, 2, hn, by omega, rfl, rfl, rfl, rfl⟩
  case round =>
    obtain ⟨x, y, hx, hy, rfl, rfl, e, rfl⟩ := hrel
    by_cases h : x < 256
    · have E : Hid (nbr n = y) := hid (by
        have : nbr x = 2 := by unfold nbr; rw [nbN_lt (by omega)]; rfl
        omega)
      clear e
      go_wp2
      go_ret
      exact ⟨by rw [E.out]; rfl, 0, rfl⟩
    · have x1 : 0 ≤ x / 256 ∧ x / 256 < x := by omega
      have e1 : nbr x = nbr (x / 256) + 1 := by
        unfold nbr
        have := nbN_step (n := x.toNat) (by omega) (by omega)
        have e2 : (x / 256).toNat = x.toNat / 256 := by omega
        rw [e2, this]; rfl
      have y3 : y ≤ 4 := by
        have b1 := nbr_le (n := n) (by omega) (by omega)
        have b2 := nbr_le (n := x) (by omega) (by omega)
        omega
      have E := hid (show nbr n + 2 = nbr (x / 256) + ((y + 1 : Nat) : Int) from by omega)
      clear e e1
      go_wp2
      go_roundw
      case rel => exact ⟨x / 256, y + 1, by omega, by omega, rfl, by go_num, E.out, trivial⟩
      case measure => simp [intOf]; omega
set_option maxRecDepth 8000 in
set_option maxHeartbeats 1200000 in
theorem text_ok {n : Int} (hn : 0 ≤ n ∧ n ≤ 2000000) (w : World) : Calls Tryz.prog 93 #[.int .i64 n] w fun e w' => e = .returned (.int .i64 (txt n)) ∧ ∃ d, w' = w.drewN d := by
  have C := hid (number_ok (n := 8 * n) (by omega))
  have b := nbr_le (n := 8 * n) (by omega) (by omega)
  have E : Hid (txt n = nbr (8 * n) + n) := hid rfl
  obtain ⟨x, hx⟩ : ∃ x, nbr (8 * n) = x := ⟨_, rfl⟩
  rw [hx] at C b E
  clear hx
  go_enter Tryz.func93, Tryz.ntmps93
  go_wp2_with fail
  refine (C.out _).mono ?_
  rintro e w' ⟨rfl, d1, rfl⟩
  go_wp2
  go_ret
  exact ⟨by rw [E.out]; rfl, _, rfl⟩
set_option maxRecDepth 8000 in
set_option maxHeartbeats 1200000 in
theorem padded_ok {a n : Int} (hn : 0 ≤ n ∧ n ≤ 2000000) (w : World) : Calls Tryz.prog 92 #[.int .u8 a, .int .i64 n] w fun e w' => e = .returned (.int .i64 (pad a n)) ∧ ∃ d, w' = w.drewN d := by
  have R := hid (rate_ok a)
  have r := rte_b a
  have C := hid (number_ok (n := rte a) (by omega))
  have b := nbr_le (n := rte a) (by omega) (by omega)
  have E : Hid (pad a n = (nbr (rte a) + n + rte a - 1) / rte a) := hid rfl
  obtain ⟨y, hy⟩ : ∃ x, rte a = x := ⟨_, rfl⟩
  rw [hy] at R r C b E
  obtain ⟨x, hx⟩ : ∃ x, nbr y = x := ⟨_, rfl⟩
  rw [hx] at C b E
  clear hx hy
  have hy0 : ¬ y = 0 := by omega
  have q1 : (x + n + y - 1).tdiv y = (x + n + y - 1) / y := Int.tdiv_eq_ediv_of_nonneg (by omega)
  have l1 : 0 ≤ (x + n + y - 1) / y ∧ (x + n + y - 1) / y ≤ x + n + y - 1 := ⟨Int.ediv_nonneg (by omega) (by omega), Int.ediv_le_self _ (by omega)⟩
  go_enter Tryz.func92, Tryz.ntmps92
  go_wp2_with fail
  refine (R.out _).mono ?_
  rintro e w' ⟨rfl, d1, rfl⟩
  go_wp2_with fail
  refine (C.out _).mono ?_
  rintro e w' ⟨rfl, d2, rfl⟩
  go_wp2_with fail
  refine (R.out _).mono ?_
  rintro e w' ⟨rfl, d3, rfl⟩
  go_wp2_with fail
  refine (R.out _).mono ?_
  rintro e w' ⟨rfl, d4, rfl⟩
  go_wp2
  go_ret
  exact ⟨by rw [E.out]; rfl, _, rfl⟩
set_option maxRecDepth 8000 in
set_option maxHeartbeats 1200000 in
theorem pbkdf_ok {a k s c o : Int} (ha : sz a ≠ 0) (hk : 0 ≤ k ∧ k ≤ 512) (hs : 0 ≤ s ∧ s ≤ 65536) (hc : 1 ≤ c ∧ c ≤ 1048576) (ho : 1 ≤ o ∧ o ≤ 512) (w : World) : Calls Tryz.prog 75 #[.int .u8 a, .int .i64 k, .int .i64 s, .int .i64 c, .int .i64 o] w fun e w' => e = .returned (.int .i64 (pbk a k s c o)) ∧ ∃ d, w' = w.drewN d := by
  have CS := hid (Size_ok a)
  have s1 : 32 ≤ sz a ∧ sz a ≤ 64 := by rcases sz_cases ha with ⟨_, h⟩ | ⟨_, h⟩ <;> omega
  have CK := hid (keyed_ok (k := k) ha (by omega))
  have k1 := kyd_b ha hk.1
  have C1 := hid (hmac_ok (n := s + 4) ha (by omega))
  have h1 := hmc_b (n := s + 4) ha (by omega)
  have C2 := hid (hmac_ok (n := sz a) ha (by omega))
  rw [hmc_sz ha] at C2
  have r1 := rds_17 ha ho.1 ho.2
  have E0 : pbk a k s c o = kyd a k + rds a o * (hmc a (s + 4) + (c - 1) * hmc a (sz a)) := rfl
  rw [hmc_sz ha] at E0
  have R : rds a o = (o + sz a - 1) / sz a := rfl
  obtain ⟨x, hx⟩ : ∃ x, kyd a k = x := ⟨_, rfl⟩
  rw [hx] at CK k1 E0
  obtain ⟨y, hy⟩ : ∃ x, hmc a (s + 4) = x := ⟨_, rfl⟩
  rw [hy] at C1 h1 E0
  obtain ⟨r, hr⟩ : ∃ x, rds a o = x := ⟨_, rfl⟩
  rw [hr] at R r1 E0
  obtain ⟨z, hz⟩ : ∃ x, sz a = x := ⟨_, rfl⟩
  rw [hz] at CS C2 s1 R
  have E := hid E0
  have RR := hid R
  clear hx hy hr hz ha E0
  have hz0 : ¬ z = 0 := by omega
  have q1 : (o + z - 1).tdiv z = r := by rw [Int.tdiv_eq_ediv_of_nonneg (by omega)]; exact R.symm
  have m1 : 0 ≤ r * (y + (c - 1) * 2) ∧ r * (y + (c - 1) * 2) ≤ 16 * (y + (c - 1) * 2) := ⟨Int.mul_nonneg (by omega) (by omega), Int.mul_le_mul_of_nonneg_right r1.2 (by omega)⟩
  clear R
  go_enter Tryz.func75, Tryz.ntmps75
  go_wp2_with fail
  refine (CS.out _).mono ?_
  rintro e w' ⟨rfl, d1, rfl⟩
  go_wp2_with fail
  refine (CS.out _).mono ?_
  rintro e w' ⟨rfl, d2, rfl⟩
  go_wp2_with fail
  refine (CK.out _).mono ?_
  rintro e w' ⟨rfl, d3, rfl⟩
  go_wp2_with fail
  refine (C1.out _).mono ?_
  rintro e w' ⟨rfl, d4, rfl⟩
  go_wp2_with fail
  refine (CS.out _).mono ?_
  rintro e w' ⟨rfl, d5, rfl⟩
  go_wp2_with fail
  refine (C2.out _).mono ?_
  rintro e w' ⟨rfl, d6, rfl⟩
  go_wp2
  go_ret
  exact ⟨by rw [E.out]; rfl, _, rfl⟩
set_option maxRecDepth 8000 in
set_option maxHeartbeats 1200000 in
theorem hkdf_ok {a k s m o : Int} (ha : sz a ≠ 0) (hk : 0 ≤ k ∧ k ≤ 512) (hs : 0 ≤ s ∧ s ≤ 65536) (hm : 0 ≤ m ∧ m ≤ 65536) (ho : 1 ≤ o ∧ o ≤ 512) (w : World) : Calls Tryz.prog 74 #[.int .u8 a, .int .i64 k, .int .i64 s, .int .i64 m, .int .i64 o] w fun e w' => e = .returned (.int .i64 (hkd a k s m o)) ∧ ∃ d, w' = w.drewN d := by
  have CS := hid (Size_ok a)
  have s1 : 32 ≤ sz a ∧ sz a ≤ 64 := by rcases sz_cases ha with ⟨_, h⟩ | ⟨_, h⟩ <;> omega
  have CK := hid (keyed_ok (k := s) ha (by omega))
  have k1 := kyd_b ha hs.1
  have C1 := hid (hmac_ok (n := k) ha (by omega))
  have h1 := hmc_b (n := k) ha hk.1
  have CK2 := hid (keyed_ok (k := sz a) ha (by omega))
  have k2 := kyd_b (key := sz a) ha (by omega)
  have r1 := rds_17 ha ho.1 ho.2
  have LT := hid (fun j : Nat => rds_lt (a := a) (out := o) ha j)
  have HL := hid (fun j : Nat => hkl_b (a := a) (info := m) ha hm.1 j)
  have HS := hid (fun (b : Int) (hb : 0 ≤ b ∧ b ≤ 64) => hmac_ok (a := a) (n := b + m + 1) ha (by omega))
  have HB := hid (fun (b : Int) (hb : 0 ≤ b ∧ b ≤ 64) => hmc_b (a := a) (n := b + m + 1) ha (by omega))
  have HN := hid (fun j : Nat => show hkl a m (j + 1) = hkl a m j + hmc a ((if j = 0 then 0 else sz a) + m + 1) from rfl)
  have E := hid (show hkd a k s m o = kyd a s + hmc a k + kyd a (sz a) + hkl a m (rds a o).toNat from rfl)
  obtain ⟨x, hx⟩ : ∃ x, kyd a s = x := ⟨_, rfl⟩
  rw [hx] at CK k1 E
  obtain ⟨y, hy⟩ : ∃ x, hmc a k = x := ⟨_, rfl⟩
  rw [hy] at C1 h1 E
  obtain ⟨y2, hy2⟩ : ∃ x, kyd a (sz a) = x := ⟨_, rfl⟩
  rw [hy2] at CK2 k2 E
  obtain ⟨r, hr⟩ : ∃ x, rds a o = x := ⟨_, rfl⟩
  rw [hr] at r1 LT E
  obtain ⟨z, hz⟩ : ∃ x, sz a = x := ⟨_, rfl⟩
  rw [hz] at CS s1 CK2 k2 LT HN
  clear hx hy hy2 hr hz ha
  go_enter Tryz.func74, Tryz.ntmps74
  go_wp2_with fail
  refine (CK.out _).mono ?_
  rintro e w' ⟨rfl, d1, rfl⟩
  go_wp2_with fail
  refine (C1.out _).mono ?_
  rintro e w' ⟨rfl, d2, rfl⟩
  go_wp2_with fail
  refine (CS.out _).mono ?_
  rintro e w' ⟨rfl, d3, rfl⟩
  go_wp2_with fail
  refine (CK2.out _).mono ?_
  rintro e w' ⟨rfl, d4, rfl⟩
  go_wp2
  go_loopw [11, 12] (fun n i wr => ∃ (j : Nat) (q p : Int), (j : Int) ≤ r ∧ q = j * z ∧ p = x + y + y2 + hkl a m j ∧ n = .int .i64 p ∧ i = .int .i64 q ∧ ∃ d, wr = w.drewN d) (fun _ i _ => o.toNat + 64 - (intOf i).toNat)
  case atStart => exact ⟨0, 0, x + y + y2, by omega, by simp, by simp [hkl], rfl, rfl, _, rfl⟩
  case round =>
    obtain ⟨j, q, p, hj, hq, hp, rfl, rfl, dn, rfl⟩ := hrel
    have lt := LT.out j
    rw [← hq] at lt
    have hl := HL.out j
    have l17 : (j : Int) * (m / 64 + 6) ≤ 16 * (m / 64 + 6) := Int.mul_le_mul_of_nonneg_right (by omega) (by omega)
    have q0 : 0 ≤ q := by rw [hq]; exact Int.mul_nonneg (by omega) (by omega)
    by_cases h : q < o
    · have jr := lt.1 h
      obtain ⟨g, hg⟩ : ∃ g, (if j = 0 then 0 else z) = g := ⟨_, rfl⟩
      have hgb : 0 ≤ g ∧ g ≤ 64 := by rw [← hg]; split <;> omega
      have HM := hid (HS.out g hgb)
      have hb := HB.out g hgb
      have hn := HN.out j
      rw [hg] at hn
      obtain ⟨u, hu⟩ : ∃ u, hmc a (g + m + 1) = u := ⟨_, rfl⟩
      rw [hu] at HM hb hn
      have P2 := hid (show p + u = x + y + y2 + hkl a m (j + 1) from by omega)
      have Q2 := hid (show q + z = ((j + 1 : Nat) : Int) * z from by rw [Int.natCast_add, Int.add_mul, hq]; simp)
      have jr2 : ((j + 1 : Nat) : Int) ≤ r := by omega
      have pb : 0 ≤ p ∧ p ≤ 1000000000 := by omega
      by_cases h0 : 0 < q
      · have j0 : j ≠ 0 := fun e => by subst e; simp at hq; omega
        rw [if_neg j0] at hg
        subst hg
        clear hq hp hn hl l17 lt hu
        go_wp2_with fail
        refine (CS.out _).mono ?_
        rintro e w' ⟨rfl, d5, rfl⟩
        go_wp2_with fail
        refine (HM.out _).mono ?_
        rintro e w' ⟨rfl, d6, rfl⟩
        go_wp2_with fail
        refine (CS.out _).mono ?_
        rintro e w' ⟨rfl, d7, rfl⟩
        go_wp2
        go_roundw
        case rel => exact ⟨j + 1, q + z, p + u, jr2, Q2.out, P2.out, by go_num, by go_num, _, rfl⟩
        case measure => simp [intOf]; omega
      · have j0 : j = 0 := by
          by_cases e : j = 0
          · exact e
          · have : (1 : Int) * 32 ≤ j * z := Int.mul_le_mul (by omega) (by omega) (by omega) (by omega)
            omega
        rw [if_pos j0] at hg
        subst hg
        rw [show (0 : Int) + m + 1 = m + 1 from by omega] at HM
        clear hq hp hn hl l17 lt hu
        go_wp2_with fail
        refine (HM.out _).mono ?_
        rintro e w' ⟨rfl, d6, rfl⟩
        go_wp2_with fail
        refine (CS.out _).mono ?_
        rintro e w' ⟨rfl, d7, rfl⟩
        go_wp2
        go_roundw
        case rel => exact ⟨j + 1, q + z, p + u, jr2, Q2.out, P2.out, by go_num, by go_num, _, rfl⟩
        case measure => simp [intOf]; omega
    · have jr : ¬ (j : Int) < r := fun e => h (lt.2 e)
      have E2 := hid (show hkd a k s m o = p from by rw [E.out, hp, show r.toNat = j from by omega])
      clear hq hp hl l17 lt
      go_wp2
      go_ret
      exact ⟨by rw [E2.out]; rfl, _, rfl⟩
end Go.Proofs.YtdmacflcjbkkpaaGreat.Cd
