/- The skeleton of an operation, of the program. -/
import Derived.Test.YtdahogdfonhnfaaVpl
namespace Go.Proofs.Ytdahogdfonhnfaa.Ou
open Go.ChangeShapes Go.WideShapes Go.ChangeAt Go.RowKit
open Go.Proofs.Ytdahogdfonhnfaa.By
open Go.Proofs.Ytdahogdfonhnfaa.Tb (Blk Blk.newAt put_all Kp.setCells)
/-- All numbers of an operation, and how many bytes its lists have. -/
def sk (q : Nu) (n nm : Nat) : Sk := ⟨q.k, q.h, q.a, q.c, q.o, n, nm⟩
set_option maxRecDepth 8000 in
set_option maxHeartbeats 1200000 in
theorem of_ok (q : Nu) (a1 a2 : Option Addr) (n c1 nm c2 : Nat) (w : World) (hk : 0 ≤ q.k ∧ q.k < 256) :
    Calls Try.prog 9 #[ov q (.slice a1 n c1) (.slice a2 nm c2)] w fun e w' => e = .returned (sv (ps (sk q n nm))) ∧ Below w.heap.size w w' := by
  obtain ⟨W0, hW0⟩ : ∃ W, (w.alloc (.cells #[Value.int IntKind.u8 q.k, Value.int IntKind.i64 q.h, Value.int IntKind.u8 q.a, Value.int IntKind.i64 q.c, Value.int IntKind.i64 q.o, Value.slice a1 n c1, Value.slice a2 nm c2] 28)).alloc (.cells #[Value.int IntKind.u8 0, Value.int IntKind.i64 0, Value.int IntKind.u8 0, Value.int IntKind.i64 0, Value.int IntKind.i64 0, Value.int IntKind.i64 0, Value.int IntKind.i64 0] 33) = W := ⟨_, rfl⟩
  have KA : Hid (Blk W0 w.heap.size (oL q (.slice a1 n c1) (.slice a2 nm c2)) 28) := by rw [← hW0]; exact (Blk.newAt w _ _ _ w.heap.size rfl rfl).alloc _
  have KR : Hid (Blk W0 (w.heap.size + 1) (sL zS) 33) := by rw [← hW0]; exact Blk.newAt (w.alloc _) _ _ _ (w.heap.size + 1) (by simp) rfl
  have Z0 : Hid (W0.heap.size = w.heap.size + 1 + 1) := by show W0.heap.size = _; rw [← hW0]; simp
  have BW : Hid (Below w.heap.size w W0) := by rw [← hW0]; exact below_next (below_alloc _ _) (below_alloc _ _)
  have c0 := KA.out.cell 0 _ rfl
  have c1' := KA.out.cell 1 _ rfl
  have c2' := KA.out.cell 2 _ rfl
  have c3 := KA.out.cell 3 _ rfl
  have c4 := KA.out.cell 4 _ rfl
  have c5 := KA.out.cell 5 _ rfl
  have c6 := KA.out.cell 6 _ rfl
  have P := hid (splain_ok (sk q n nm) W0 hk)
  clear hk
  go_enter Try.func9, Try.ntmps9
  go_wp2_with fail
  clear hW0 c0 c1' c2' c3 c4 c5 c6
  refine P.out.mono ?_
  rintro e W1 ⟨rfl, hb⟩
  obtain ⟨p, hp⟩ : ∃ p, ps (sk q n nm) = p := ⟨_, rfl⟩
  rw [hp]
  have HP := hid hp
  replace BW := hid (below_next BW.out hb)
  replace KR := hid (KR.out.below hb)
  obtain ⟨W5, s5, k5, hk5⟩ := SVk_run p KR.out rfl
  have L5 := hid (LDk_run k5)
  have B5 : Hid (Below w.heap.size w W5) := BW.out.trans (hk5.below BW.out.size (fun j _ e => by omega))
  clear hb hk5 k5 KR KA BW Z0 P hp
  go_wp2_with fail
  exact bodyPost_ret (Tb.results_cell1 rfl rfl L5.out) rfl ⟨by rw [HP.out], B5.out⟩
end Go.Proofs.Ytdahogdfonhnfaa.Ou
