/- The statement's walk: any calls on two tables: ints alone. -/
import Derived.Test.YtodihepgfpbonaaTsp
import Derived.BigQuiet
import Derived.Deep.RegionHeld3
namespace Go.Proofs.Ytodihepgfpbonaa.Tb
open Go.ChangeShapes Go.WideShapes Go.ChangeAt Go.RowKit
set_option maxRecDepth 20000 in
set_option maxHeartbeats 3200000 in
theorem script10 (m : Nat) (m1 : 1 ≤ m) (m2 : m ≤ 64) (other : Int) (ho : other < 1 ∨ 64 < other) (pa : Option Addr) (np cp : Nat) (av : Nat → A.V) (w : World) (ha : ∀ w', Below w.heap.size w w' → AA w' pa np av) (hnp : np ≤ 1000) : Calls Try.prog 3 #[.int .i64 m, .int .i64 other, .slice pa np cp] w fun e w' => e = .returned (.bool true) ∧ Below w.heap.size w w' := by
  obtain ⟨t0, hg, hz⟩ := gx_zero w
  have G := hid hg
  have Z := hid hz
  have HA := hid ha
  clear hg hz ha
  have d1 : ¬ (1000 : Int) < np := by omega
  go_enter Try.func3, Try.ntmps3
  go_wp2_with fail
  refine (I.gx_new G.out Z.out 1 m (by decide) m1 m2).mono ?_
  rintro e W1 ⟨rfl, t1, hg, hz, ht, hB⟩
  obtain ⟨a, ea⟩ : ∃ x, w.heap.size = x := ⟨_, rfl⟩
  rw [ea] at ht ⊢
  replace G := hid hg
  replace Z := hid hz
  have TI := hid ht
  clear hg hz ht hB ea
  go_wp2_with fail
  refine (P.new_no other W1 ho).mono ?_
  rintro e W2 ⟨rfl, hW2⟩
  rw [← hW2] at G
  clear hW2
  go_wp2_with fail
  refine (gx_rnew G.out 3 m m1 m2).mono ?_
  rintro e W3 ⟨p, phb, pvb, rfl, t3, hg, hd3, hB⟩
  replace G := hid hg
  replace Z := hid ((hB 0 (.inl (by decide))).trans Z.out)
  replace TI := hid (TI.out.keep (hB 1 (.inl (by decide))) (Cle.refl _))
  have DI := hid hd3
  clear hg hd3 hB
  go_wp2_with fail
  refine (rnew_no other W3 ho).mono ?_
  rintro e W4 ⟨rfl, hW4⟩
  rw [← hW4] at G
  clear hW4
  obtain ⟨W5, hW5⟩ : ∃ V, W4.alloc (.cells #[.slice none 0 0, .slice none 0 0, .slice none 0 0, .slice none 0 0, .slice none 0 0, .slice none 0 0] 41) = V := ⟨_, rfl⟩
  obtain ⟨t5, g5, hk5, B5⟩ := ks_start (C := fun _ => none) G.out hW5
  obtain ⟨kb, ek⟩ : ∃ x, W4.heap.size = x := ⟨_, rfl⟩
  rw [ek] at hk5
  have S5 : Hid (TS w (some (a, p)) none kb 0 0 W5) := by
    refine ⟨t5, _, _, _, g5, (B5 0 (by decide)).trans Z.out, fun a' b' e => ?_, fun a' b' e => ?_, hk5⟩
    · cases e
      exact ⟨phb, pvb, m, fun _ => none, fun _ => 0, TI.out.keep (B5 1 (by decide)) (Cle.refl _), DI.out.keep (fun k hk => B5 _ (by omega))⟩
    · cases e
  clear g5 hk5 B5 G Z TI DI
  go_wp2_with fail
  clear hW5 ek
  go_loopw [16] (fun i wr => ∃ k n0 n1 : Nat, k ≤ np ∧ i = .int .i64 k ∧ n0 ≤ k ∧ n1 ≤ k ∧ TS w (some (a, p)) none kb n0 n1 wr) (fun i _ => np - (intOf i).toNat)
  case atStart => exact ⟨0, 0, 0, Nat.zero_le _, rfl, Nat.le_refl _, Nat.le_refl _, S5.out⟩
  case round =>
    clear S5
    obtain ⟨k, n0, n1, hk, rfl, hn0, hn1, hs⟩ := hrel
    have S := hid hs
    clear hs
    by_cases hlt : k < np
    · obtain ⟨bp, op, rfl, c0, c1, c2, c3⟩ := HA.out wr S.out.bel k hlt
      have l0 : (0 : Int) ≤ k := by omega
      have l1 : (k : Int) < np := by omega
      obtain ⟨x, hx⟩ : ∃ x, av k = x := ⟨_, rfl⟩
      rw [hx] at c0 c1 c2 c3
      have ld : (A.LDv ⟨bp, op + k * 4, none⟩).run Try.prog wr = .ok (A.vv x) wr := A.LDv_at (A.range4 c0 c1 c2 c3)
      clear c1 c2 c3 hx
      go_wp2_with fail
      refine (pickN x.1 2 (by omega) (by omega) wr).mono ?_
      rintro e wr ⟨⟨on, hon, rfl⟩, rfl⟩
      clear c0
      match on, hon with
      | 0, _ =>
        go_wp2_with fail
        refine (ts_int S.out (by omega) x).mono ?_
        rintro e W7 ⟨rfl, c, hc, hs7⟩
        have S7 := hid hs7
        clear hs7 S ld
        go_wp2
        go_roundw
        case rel => exact ⟨k + 1, c, n1, by omega, by go_num, by omega, by omega, S7.out⟩
        case measure => simp [intOf]; omega
      | 1, _ =>
        go_wp2
        go_roundw
        case rel => exact ⟨k + 1, n0, n1, by omega, by go_num, by omega, by omega, S.out⟩
        case measure => simp [intOf]; omega
    · have l1 : ¬ (k : Int) < np := by omega
      have hkn : k = np := by omega
      have S0 : Hid (∃ p0 p1, p0 ≤ 1000 ∧ p1 ≤ 1000 ∧ TS w (some (a, p)) none kb p0 p1 wr) := ⟨n0, n1, by omega, by omega, S.out⟩
      clear S hk hn0 hn1 hkn hlt
      go_wp2_with fail
      go_loopw [18] (fun i wr => ∃ k n0 n1 : Nat, k ≤ 66 ∧ i = .int .i64 ((k : Int) - 1) ∧ n0 ≤ 1000 + k ∧ n1 ≤ 1000 + k ∧ TS w (some (a, p)) none kb n0 n1 wr) (fun i _ => 66 - (intOf i + 1).toNat)
      case atStart =>
        obtain ⟨p0, p1, h0, h1, hs⟩ := S0.out
        exact ⟨0, p0, p1, Nat.zero_le _, rfl, by omega, by omega, hs⟩
      case round =>
        clear S0
        obtain ⟨k, n0, n1, hk, rfl, hn0, hn1, hs⟩ := hrel
        have S := hid hs
        clear hs
        by_cases hlt : k < 66
        · have l1 : (k : Int) - 1 ≤ 64 := by omega
          go_wp2_with fail
          refine (ts_int S.out (by omega) (0, 1, (k : Int) - 1, 0)).mono ?_
          rintro e W7 ⟨rfl, c7, h7, hs7⟩
          have S7 := hid hs7
          clear hs7 S
          go_wp2
          go_roundw
          case rel => exact ⟨k + 1, c7, n1, by omega, by go_num, by omega, by omega, S7.out⟩
          case measure => simp [intOf]; omega
        · have l1 : ¬ (k : Int) - 1 ≤ 64 := by omega
          have S0 : Hid (∃ p0 p1, p0 ≤ 1066 ∧ p1 ≤ 1066 ∧ TS w (some (a, p)) none kb p0 p1 wr) := ⟨n0, n1, by omega, by omega, S.out⟩
          clear S hn0 hn1
          go_wp2_with fail
          go_loopw [19] (fun i wr => ∃ k n0 n1 : Nat, k ≤ 2 ∧ i = .int .i64 ((k : Int) + 4) ∧ n0 ≤ 1066 + k ∧ n1 ≤ 1066 + k ∧ TS w (some (a, p)) none kb n0 n1 wr) (fun i _ => 2 - (intOf i - 4).toNat)
          case atStart =>
            obtain ⟨p0, p1, h0, h1, hs⟩ := S0.out
            exact ⟨0, p0, p1, Nat.zero_le _, rfl, by omega, by omega, hs⟩
          case round =>
            clear S0 hk hlt l1
            obtain ⟨k, n0, n1, hk, rfl, hn0, hn1, hs⟩ := hrel
            have S := hid hs
            clear hs
            by_cases hlt : k < 2
            · have l1 : (k : Int) + 4 ≤ 5 := by omega
              go_wp2_with fail
              refine (ts_int S.out (by omega) (0, (k : Int) + 4, 0, 0)).mono ?_
              rintro e W7 ⟨rfl, c7, h7, hs7⟩
              have S7 := hid hs7
              clear hs7 S
              go_wp2
              go_roundw
              case rel => exact ⟨k + 1, c7, n1, by omega, by go_num, by omega, by omega, S7.out⟩
              case measure => simp [intOf]; omega
            · have l1 : ¬ (k : Int) + 4 ≤ 5 := by omega
              go_wp2_with fail
              refine (ts_again S.out (by omega) (by omega)).mono ?_
              rintro e W9 ⟨rfl, hb9⟩
              have R := hid hb9
              clear hb9 S
              go_wp2
              go_ret
              exact ⟨rfl, R.out⟩
end Go.Proofs.Ytodihepgfpbonaa.Tb
