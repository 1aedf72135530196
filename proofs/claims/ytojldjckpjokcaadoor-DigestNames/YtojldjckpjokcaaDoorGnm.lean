/- The law DigestNames: every number that an algorithm may have. -/
import Derived.Test.YtojldjckpjokcaaDoorGsm
import Derived.Test.YtojldjckpjokcaaDoorGrof
namespace Go.Proofs.YtojldjckpjokcaaDoor.Dg
open Go.ChangeShapes Go.WideShapes Go.ChangeAt Go.RowKit
open Go.Proofs.YtojldjckpjokcaaDoor.By
open Go.Proofs.YtojldjckpjokcaaDoor.Sh (Blk size_alloc)
set_option maxRecDepth 8000 in
theorem whole256 (w : World) : Calls Tryd.prog 15 #[.agg #[.int .u8 1, .int .i64 32, .int .i64 64, .int .u8 1, .int .i64 64, .func (.func 18) #[] #[], .func (.func 19) #[] #[]], .agg #[.int .u8 1, .int .i64 32, .int .i64 64, .int .u8 1, .int .i64 64]] w fun e w' => e = .returned (.bool true) ∧ Below w.heap.size w w' := by
  go_enter Tryd.func15, Tryd.ntmps15
  go_wp2
  go_ret
  exact ⟨rfl, below_next (below_alloc w _) (below_alloc _ _)⟩
set_option maxRecDepth 8000 in
theorem whole512 (w : World) : Calls Tryd.prog 15 #[.agg #[.int .u8 2, .int .i64 64, .int .i64 128, .int .u8 2, .int .i64 128, .func (.func 20) #[] #[], .func (.func 21) #[] #[]], .agg #[.int .u8 2, .int .i64 64, .int .i64 128, .int .u8 2, .int .i64 128]] w fun e w' => e = .returned (.bool true) ∧ Below w.heap.size w w' := by
  go_enter Tryd.func15, Tryd.ntmps15
  go_wp2
  go_ret
  exact ⟨rfl, below_next (below_alloc w _) (below_alloc _ _)⟩
set_option maxRecDepth 8000 in
theorem bare1 (w : World) : Calls Tryd.prog 16 #[.agg #[.int .u8 0, .int .i64 0, .int .i64 0, .int .u8 0, .int .i64 0, .nilFunc, .nilFunc]] w fun e w' => e = .returned (.bool true) ∧ Below w.heap.size w w' := by
  go_enter Tryd.func16, Tryd.ntmps16
  go_wp2
  go_ret
  exact ⟨rfl, below_alloc w _⟩
set_option maxRecDepth 8000 in
set_option maxHeartbeats 4000000 in
theorem names_walk (w : World) (hk : KT w) : Calls Tryd.prog 5 #[] w fun e w' => e = .returned (.bool true) ∧ Below w.heap.size w w' := by
  have HK := hid hk
  clear hk
  go_enter Tryd.func5, Tryd.ntmps5
  go_wp2_with fail
  go_loopw [1] (fun i wr => ∃ k : Nat, k ≤ 256 ∧ i = .int .i64 k ∧ Below w.heap.size w wr) (fun i _ => 256 - (intOf i).toNat)
  case atStart => exact ⟨0, by omega, rfl, Below.refl _ _⟩
  case round =>
    obtain ⟨k, hk, rfl, hbel⟩ := hrel
    have HB := hid hbel
    clear hbel
    by_cases hlt : k < 256
    · have hu := u8_int k hlt
      by_cases h1 : k = 1
      · subst h1
        clear hu hlt hk
        go_wp2_with (first | (go_at_call 7; refine (of256 _).mono ?_; rintro e w1 ⟨rfl, hb1⟩; have B1 := hid (below_next (below_next HB.out hb1) (below_alloc w1 (.cells #[.int .u8 1, .int .i64 32, .int .i64 64, .int .u8 1, .int .i64 64, .func (.func 18) #[] #[], .func (.func 19) #[] #[]] 31))); have c1 := hid (Sh.Blk.new w1 [.int .u8 1, .int .i64 32, .int .i64 64, .int .u8 1, .int .i64 64, .func (.func 18) #[] #[], .func (.func 19) #[] #[]] 31); clear hb1) | (go_at_call 14; refine (rof256 _).mono ?_; rintro e w2 ⟨rfl, hb2⟩; have B2 := hid (below_next (below_next B1.out hb2) (below_alloc w2 (.cells #[.int .u8 1, .int .i64 32, .int .i64 64, .int .u8 1, .int .i64 64] 56))); have l1 := ldH (range0 ((c1.out.below hb2).alloc (.cells #[.int .u8 1, .int .i64 32, .int .i64 64, .int .u8 1, .int .i64 64] 56))) rfl; have l2 := ldR (range0 (Sh.Blk.new w2 [.int .u8 1, .int .i64 32, .int .i64 64, .int .u8 1, .int .i64 64] 56)) rfl; clear hb2) | (go_at_call 15; refine (whole256 _).mono ?_; rintro e w3 ⟨rfl, hb3⟩; have B3 := hid (below_next B2.out hb3); clear hb3))
        go_roundw
        case rel => exact ⟨2, by omega, by go_num, B3.out⟩
        case measure => simp [intOf]
      · by_cases h2 : k = 2
        · subst h2
          clear hu hlt hk h1
          go_wp2_with (first | (go_at_call 7; refine (of512 _).mono ?_; rintro e w1 ⟨rfl, hb1⟩; have B1 := hid (below_next (below_next HB.out hb1) (below_alloc w1 (.cells #[.int .u8 2, .int .i64 64, .int .i64 128, .int .u8 2, .int .i64 128, .func (.func 20) #[] #[], .func (.func 21) #[] #[]] 31))); have c1 := hid (Sh.Blk.new w1 [.int .u8 2, .int .i64 64, .int .i64 128, .int .u8 2, .int .i64 128, .func (.func 20) #[] #[], .func (.func 21) #[] #[]] 31); clear hb1) | (go_at_call 14; refine (rof512 _).mono ?_; rintro e w2 ⟨rfl, hb2⟩; have B2 := hid (below_next (below_next B1.out hb2) (below_alloc w2 (.cells #[.int .u8 2, .int .i64 64, .int .i64 128, .int .u8 2, .int .i64 128] 56))); have l1 := ldH (range0 ((c1.out.below hb2).alloc (.cells #[.int .u8 2, .int .i64 64, .int .i64 128, .int .u8 2, .int .i64 128] 56))) rfl; have l2 := ldR (range0 (Sh.Blk.new w2 [.int .u8 2, .int .i64 64, .int .i64 128, .int .u8 2, .int .i64 128] 56)) rfl; clear hb2) | (go_at_call 15; refine (whole512 _).mono ?_; rintro e w3 ⟨rfl, hb3⟩; have B3 := hid (below_next B2.out hb3); clear hb3))
          go_roundw
          case rel => exact ⟨3, by omega, by go_num, B3.out⟩
          case measure => simp [intOf]
        · have n1 : ¬ (k : Int) = 1 := by omega
          have n2 : ¬ (k : Int) = 2 := by omega
          go_wp2_with (first | (go_at_call 7; refine (of_zero _ _ n1 n2).mono ?_; rintro e w1 ⟨rfl, hb1⟩; have B1 := hid (below_next (below_next HB.out hb1) (below_alloc w1 (.cells #[.int .u8 0, .int .i64 0, .int .i64 0, .int .u8 0, .int .i64 0, .nilFunc, .nilFunc] 31))); have c1 := hid (Sh.Blk.new w1 [.int .u8 0, .int .i64 0, .int .i64 0, .int .u8 0, .int .i64 0, .nilFunc, .nilFunc] 31); clear hb1) | (go_at_call 14; refine (rof_no _ _ n1 n2).mono ?_; rintro e w2 ⟨rfl, hb2⟩; have B2 := hid (below_next (below_next B1.out hb2) (below_alloc w2 (.cells #[.int .u8 0, .int .i64 0, .int .i64 0, .int .u8 0, .int .i64 0] 56))); have l1 := ldH (range0 ((c1.out.below hb2).alloc (.cells #[.int .u8 0, .int .i64 0, .int .i64 0, .int .u8 0, .int .i64 0] 56))) rfl; have l2 := ldR (range0 (Sh.Blk.new w2 [.int .u8 0, .int .i64 0, .int .i64 0, .int .u8 0, .int .i64 0] 56)) rfl; clear hb2) | (go_at_call 16; refine (bare1 _).mono ?_; rintro e w3 ⟨rfl, hb3⟩; have B3 := hid (below_next B2.out hb3); clear hb3))
          go_roundw
          case rel => exact ⟨k + 1, by omega, by go_num, B3.out⟩
          case measure => simp [intOf]; omega
    · have ek : k = 256 := by omega
      subst ek
      clear hlt hk
      go_wp2_with fail
      refine (of_zero 3 _ (by decide) (by decide)).mono ?_
      rintro e w3 ⟨rfl, hb3⟩
      have B3 := hid (below_next (below_next HB.out hb3) (below_alloc w3 (.cells #[.int .u8 0, .int .i64 0, .int .i64 0, .int .u8 0, .int .i64 0, .nilFunc, .nilFunc] 31)))
      clear hb3
      go_wp2_with fail
      refine (sumf_no 4 _ _ _ (by decide) (by decide)).mono ?_
      rintro e w4 ⟨rfl, hb4⟩
      have B4 := hid (below_next B3.out hb4)
      clear hb4 B3
      go_wp2_with fail
      refine (of512 _).mono ?_
      rintro e w5 ⟨rfl, hb5⟩
      have B5 := hid (below_next (below_next B4.out hb5) (below_alloc w5 (.cells #[.int .u8 2, .int .i64 64, .int .i64 128, .int .u8 2, .int .i64 128, .func (.func 20) #[] #[], .func (.func 21) #[] #[]] 31)))
      have C5 := hid (Sh.Blk.new w5 [.int .u8 2, .int .i64 64, .int .i64 128, .int .u8 2, .int .i64 128, .func (.func 20) #[] #[], .func (.func 21) #[] #[]] 31)
      have K5 := hid (HK.out.below B5.out)
      clear hb5 B4
      go_wp2_with fail
      refine (lives1 _ K5.out).mono ?_
      rintro e w6 ⟨rfl, hb6⟩
      have B6 := hid (below_next B5.out hb6)
      have c6 := hid (C5.out.below hb6)
      have q1 := c6.out.cell 1 (.int .i64 64) rfl
      have q2 := c6.out.cell 2 (.int .i64 128) rfl
      have q3 := c6.out.cell 3 (.int .u8 2) rfl
      have q4 := c6.out.cell 4 (.int .i64 128) rfl
      clear hb6 B5 C5 K5
      go_wp2
      go_ret
      exact ⟨rfl, B6.out⟩
end Go.Proofs.YtojldjckpjokcaaDoor.Dg
