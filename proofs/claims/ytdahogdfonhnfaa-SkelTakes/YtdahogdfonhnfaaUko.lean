/- What was lent is as it was; it is written over. -/
import Derived.Test.YtdahogdfonhnfaaUvar
namespace Go.Proofs.Ytdahogdfonhnfaa.Ou
open Go.ChangeShapes Go.WideShapes Go.ChangeAt Go.RowKit
open Go.Proofs.Ytdahogdfonhnfaa.By
open Go.Proofs.Ytdahogdfonhnfaa.Tb (Blk Blk.newAt)
set_option maxRecDepth 8000 in
set_option maxHeartbeats 1200000 in
theorem keptop_ok (q : Nu) (d m u v : Value) (n nm : Nat) (f g : Nat → Int) (w : World) (h1 : By.RB w d n f) (h2 : By.RB w m nm g) (h3 : By.RB w u (n + 6) (lent n f)) (h4 : By.RB w v (nm + 6) (lent nm g)) (hn : n ≤ 140737488355000) (hnm : nm ≤ 140737488355000) :
    Calls Try.prog 13 #[.agg #[u, v], ov q d m] w fun e w' => e = .returned (.bool true) ∧ Below w.heap.size w w' := by
  obtain ⟨W, hW⟩ : ∃ W, (w.alloc (.cells #[u, v] 29)).alloc (.cells #[Value.int IntKind.u8 q.k, Value.int IntKind.i64 q.h, Value.int IntKind.u8 q.a, Value.int IntKind.i64 q.c, Value.int IntKind.i64 q.o, d, m] 28) = W := ⟨_, rfl⟩
  have KA : Blk W w.heap.size [u, v] 29 := by rw [← hW]; exact (Blk.newAt w _ _ _ w.heap.size rfl rfl).alloc _
  have KO : Blk W (w.heap.size + 1) (oL q d m) 28 := by rw [← hW]; exact Blk.newAt (w.alloc _) _ _ _ (w.heap.size + 1) (by simp) rfl
  have BW : Hid (Below w.heap.size w W) := by rw [← hW]; exact below_next (below_alloc _ _) (below_alloc _ _)
  have c0 := KA.cell 0 _ rfl
  have c5 := KO.cell 5 _ rfl
  have HA := hid KA
  have HO := hid KO
  have H1 := hid h1
  have H2 := hid h2
  have H3 := hid h3
  have H4 := hid h4
  clear KA KO h1 h2 h3 h4
  go_enter Try.func13, Try.ntmps13
  go_wp2_with fail
  clear hW
  refine (kept17 u d n f W (H3.out.below BW.out) (H1.out.below BW.out) hn).mono ?_
  rintro e W1 ⟨rfl, hb⟩
  have k1 := (HA.out.below hb).cell 1 _ rfl
  have k6 := (HO.out.below hb).cell 6 _ rfl
  have B1 := hid (below_next BW.out hb)
  clear hb c0 c5
  go_wp2_with fail
  refine (kept17 v m nm g W1 (H4.out.below B1.out) (H2.out.below B1.out) hnm).mono ?_
  rintro e W2 ⟨rfl, hb⟩
  have B2 := hid (below_next B1.out hb)
  clear hb k1 k6
  go_wp2
  go_ret
  exact ⟨rfl, B2.out⟩
set_option maxRecDepth 8000 in
set_option maxHeartbeats 1200000 in
theorem overop_ok (g1 g2 c1 c2 n nm base : Nat) (f g : Nat → Int) (w : World) (h1 : By.Own w base (.slice (some ⟨g1, 0, none⟩) n c1) n f) (h2 : By.Own w base (.slice (some ⟨g2, 0, none⟩) nm c2) nm g) (h12 : g1 ≠ g2) (hn : n ≤ 140737488355328) (hnm : nm ≤ 140737488355328) :
    Calls Try.prog 15 #[.agg #[.slice (some ⟨g1, 0, none⟩) n c1, .slice (some ⟨g2, 0, none⟩) nm c2]] w fun e w' => e = .returned (.tuple #[]) ∧ By.Own w' base (.slice (some ⟨g1, 0, none⟩) n c1) n over ∧ By.Own w' base (.slice (some ⟨g2, 0, none⟩) nm c2) nm over ∧ Kp (fun j => j = g1 ∨ j = g2) w w' := by
  obtain ⟨W, hW⟩ : ∃ W, w.alloc (.cells #[.slice (some ⟨g1, 0, none⟩) n c1, .slice (some ⟨g2, 0, none⟩) nm c2] 29) = W := ⟨_, rfl⟩
  have KA : Blk W w.heap.size [.slice (some ⟨g1, 0, none⟩) n c1, .slice (some ⟨g2, 0, none⟩) nm c2] 29 := by rw [← hW]; exact Blk.newAt w _ _ _ w.heap.size rfl rfl
  have BW : Hid (Below w.heap.size w W) := by rw [← hW]; exact below_alloc _ _
  have c0 := KA.cell 0 _ rfl
  have HA := hid KA
  have H1 := hid h1
  have H2 := hid h2
  clear KA h1 h2
  go_enter Try.func15, Try.ntmps15
  go_wp2_with fail
  clear hW
  have G1 := hid (show g1 < w.heap.size from own_lt H1.out g1 rfl)
  have G2 := hid (show g2 < w.heap.size from own_lt H2.out g2 rfl)
  refine (over18 g1 c1 n base f W (own_below H1.out BW.out) hn).mono ?_
  rintro e W1 ⟨rfl, ho, hg⟩
  have hk : Kp (fun j => j = g1) W W1 := ⟨hg.os, hg.tape, hg.output, hg.size, fun j hj hn => hg.block j hj (fun e => hn (Option.some.inj e))⟩
  have k1 := (HA.out.kept hk (by have := G1.out; omega)).cell 1 _ rfl
  have O1 := hid ho
  have O2 := hid (own_keptB (own_below H2.out BW.out) hk (fun j e h => by cases e; exact h12 h.symm))
  have K1 := hid ((Kp.of_below (fun j => j = g1) BW.out).trans hk (fun _ _ e => e))
  clear ho hg hk c0
  go_wp2_with fail
  refine (over18 g2 c2 nm base g W1 O2.out hnm).mono ?_
  rintro e W2 ⟨rfl, ho, hg⟩
  have hk : Kp (fun j => j = g2) W1 W2 := ⟨hg.os, hg.tape, hg.output, hg.size, fun j hj hn => hg.block j hj (fun e => hn (Option.some.inj e))⟩
  have P1 := hid (own_keptB O1.out hk (fun j e h => by cases e; exact h12 h))
  have P2 := hid ho
  have K2 := hid ((K1.out.mono (fun _ _ e => Or.inl e)).trans (hk.mono (fun _ _ e => Or.inr e)) (fun _ _ e => e))
  clear ho hg hk k1
  go_wp2
  go_end0
  exact ⟨rfl, P1.out, P2.out, K2.out⟩
end Go.Proofs.Ytdahogdfonhnfaa.Ou
