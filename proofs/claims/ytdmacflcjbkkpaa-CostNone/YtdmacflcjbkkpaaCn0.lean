/- The statement CostNone: a Public that is nil, or that nobody made. -/
import Derived.Test.YtdmacflcjbkkpaaCaw
namespace Go.Proofs.Ytdmacflcjbkkpaa.Co
open Go.ChangeShapes Go.WideShapes Go.ChangeAt Go.RowKit
open Go.Proofs.Ytdmacflcjbkkpaa.Ou (Sk sv sL zS LDk SVk LDk_run SVk_run)
open Go.Proofs.Ytdmacflcjbkkpaa.Tb (Blk Blk.newAt)
set_option maxHeartbeats 1600000 in
theorem do_nil (sk sh sa sc so sd sm : Int) (w : World) : Calls Try.prog 8 #[.pointer none, .agg #[.int .u8 sk, .int .i64 sh, .int .u8 sa, .int .i64 sc, .int .i64 so, .int .i64 sd, .int .i64 sm]] w fun e w' => e = .returned (.tuple #[.slice none 0 0, .int .i64 1]) ∧ Below w.heap.size w w' := by
  obtain ⟨W, hW⟩ : ∃ W, w.alloc (.cells #[.int .u8 sk, .int .i64 sh, .int .u8 sa, .int .i64 sc, .int .i64 so, .int .i64 sd, .int .i64 sm] 25) = W := ⟨_, rfl⟩
  have BW : Hid (Below w.heap.size w W) := by rw [← hW]; exact below_alloc _ _
  go_enter Try.func8, Try.ntmps8
  go_wp2_with fail
  clear hW
  refine (isNone_nil _).mono ?_
  rintro e w' ⟨rfl, rfl⟩
  go_wp2
  refine bodyPost_ret (results_tmp2 rfl _ _ _) rfl ?_
  exact ⟨rfl, BW.out⟩
set_option maxHeartbeats 1600000 in
theorem do_zero (p : Nat) (u : Value) (sk sh sa sc so sd sm : Int) (w : World) (h : Blk w p [.map none, u] 31) : Calls Try.prog 8 #[.pointer (some ⟨p, 0, none⟩), .agg #[.int .u8 sk, .int .i64 sh, .int .u8 sa, .int .i64 sc, .int .i64 so, .int .i64 sd, .int .i64 sm]] w fun e w' => e = .returned (.tuple #[.slice none 0 0, .int .i64 1]) ∧ Below w.heap.size w w' := by
  obtain ⟨W, hW⟩ : ∃ W, w.alloc (.cells #[.int .u8 sk, .int .i64 sh, .int .u8 sa, .int .i64 sc, .int .i64 so, .int .i64 sd, .int .i64 sm] 25) = W := ⟨_, rfl⟩
  have BW : Hid (Below w.heap.size w W) := by rw [← hW]; exact below_alloc _ _
  have K := hid (h.below BW.out)
  clear h
  go_enter Try.func8, Try.ntmps8
  go_wp2_with fail
  clear hW
  refine (isNone_zero p u _ K.out).mono ?_
  rintro e w' ⟨rfl, rfl⟩
  go_wp2
  refine bodyPost_ret (results_tmp2 rfl _ _ _) rfl ?_
  exact ⟨rfl, BW.out⟩
set_option maxHeartbeats 1600000 in
theorem held_nil (w : World) : Calls Try.prog 9 #[.pointer none] w fun e w' => e = .returned (.slice none 0 0) ∧ w' = w := by
  go_enter Try.func9, Try.ntmps9
  go_wp2_with fail
  refine (isNone_nil _).mono ?_
  rintro e w' ⟨rfl, rfl⟩
  go_wp2
  go_ret
  exact ⟨rfl, rfl⟩
set_option maxHeartbeats 1600000 in
theorem held_zero (p : Nat) (u : Value) (w : World) (h : Blk w p [.map none, u] 31) : Calls Try.prog 9 #[.pointer (some ⟨p, 0, none⟩)] w fun e w' => e = .returned (.slice none 0 0) ∧ w' = w := by
  go_enter Try.func9, Try.ntmps9
  go_wp2_with fail
  refine (isNone_zero p u _ h).mono ?_
  rintro e w' ⟨rfl, rfl⟩
  go_wp2
  go_ret
  exact ⟨rfl, rfl⟩
set_option maxRecDepth 100000 in
set_option maxHeartbeats 4000000 in
theorem costNone_ok (sk sh sa sc so sd sm : Int) (w : World) : Calls Try.prog 3 #[.agg #[.int .u8 sk, .int .i64 sh, .int .u8 sa, .int .i64 sc, .int .i64 so, .int .i64 sd, .int .i64 sm]] w fun e w' => e = .returned (.bool true) ∧ Below w.heap.size w w' := by
  obtain ⟨W, hW⟩ : ∃ W, w.alloc (.cells #[.int .u8 sk, .int .i64 sh, .int .u8 sa, .int .i64 sc, .int .i64 so, .int .i64 sd, .int .i64 sm] 25) = W := ⟨_, rfl⟩
  have BW : Hid (Below w.heap.size w W) := by rw [← hW]; exact below_alloc _ _
  have KB : Hid (Blk W w.heap.size [.int .u8 sk, .int .i64 sh, .int .u8 sa, .int .i64 sc, .int .i64 so, .int .i64 sd, .int .i64 sm] 25) := by rw [← hW]; exact Blk.newAt w _ _ _ w.heap.size rfl rfl
  go_enter Try.func3, Try.ntmps3
  go_wp2_with fail
  clear hW
  refine (awake_ok _).mono ?_
  rintro e W1 ⟨rfl, hb1⟩
  have B1 := hid (below_next BW.out hb1)
  have K1 := hid (KB.out.below hb1)
  obtain ⟨W2, hW2⟩ : ∃ W', W1.alloc (.cells #[.map none, .slice none 0 0] 31) = W' := ⟨_, rfl⟩
  have b2 : Below W1.heap.size W1 W2 := by rw [← hW2]; exact below_alloc _ _
  have KP : Hid (Blk W2 W1.heap.size [.map none, .slice none 0 0] 31) := by rw [← hW2]; exact Blk.newAt W1 _ _ _ W1.heap.size rfl rfl
  have B2 := hid (below_next B1.out b2)
  have K2 := hid (K1.out.below b2)
  have x1 : (LDk ⟨w.heap.size, 0, none⟩).run Try.prog W2 = .ok _ W2 := LDk_run (s := ⟨sk, sh, sa, sc, so, sd, sm⟩) K2.out
  clear hb1 b2
  go_wp2_with fail
  clear hW2 x1
  refine (do_nil sk sh sa sc so sd sm _).mono ?_
  rintro e W3 ⟨rfl, hb3⟩
  have K3 := hid (K2.out.below hb3)
  have P3 := hid (KP.out.below hb3)
  have B3 := hid (below_next B2.out hb3)
  have x1 : (LDk ⟨w.heap.size, 0, none⟩).run Try.prog W3 = .ok _ W3 := LDk_run (s := ⟨sk, sh, sa, sc, so, sd, sm⟩) K3.out
  clear hb3
  go_wp2_with fail
  clear x1
  refine (do_zero _ _ sk sh sa sc so sd sm _ P3.out).mono ?_
  rintro e W4 ⟨rfl, hb4⟩
  have P4 := hid (P3.out.below hb4)
  have B4 := hid (below_next B3.out hb4)
  clear hb4
  go_wp2_with fail
  refine (held_nil _).mono ?_
  rintro e W5 ⟨rfl, rfl⟩
  go_wp2_with fail
  refine (held_zero _ _ _ P4.out).mono ?_
  rintro e W6 ⟨rfl, rfl⟩
  go_wp2
  go_ret
  exact ⟨rfl, B4.out⟩
end Go.Proofs.Ytdmacflcjbkkpaa.Co
