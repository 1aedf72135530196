/- Acts of TableScript on the table of pairs: len. -/
import Derived.Test.YtodihepgfpbonaaTsP
import Derived.Test.YtodihepgfpbonaaTph
import Derived.Deep.RegionHeld3
import Derived.BigQuiet
namespace Go.Proofs.Ytodihepgfpbonaa.Tb.P
open Go.ChangeShapes Go.WideShapes Go.ChangeAt Go.RowKit
section
variable {w0 W : World} {t : Nat → Th} {C : Cn} {kb n0 n1 a b hb vb m : Nat} {hd : Nat → Option Int} {vf : Nat → Int} {l : Nat → Value} {f : Nat → Nat → Value}
set_option maxRecDepth 20000 in
set_option maxHeartbeats 1600000 in
theorem act_len (hG : GX w0 w0.heap.size t W) (h0 : t 0 = tK C) (hT : P.TT t C 2 a m (ph hd)) (hD : DT t 6 b hb vb m hd vf) (hK : KS t C kb n0 n1 l f) (on h v : Int) :
    Calls Try.prog 12 #[.pointer (some ⟨kb, 0, none⟩), .pointer (some ⟨a, 0, none⟩), .pointer (some ⟨b, 0, none⟩), .agg #[.int .i64 on, .int .i64 4, .int .i64 h, .int .i64 v]] W fun e W' => e = .returned (.bool true) ∧ OP w0 t C kb n0 n1 a b hb vb m W' := by
  obtain ⟨W1, hW1⟩ : ∃ V, W.alloc (.cells #[.int .i64 on, .int .i64 4, .int .i64 h, .int .i64 v] 44) = V := ⟨_, rfl⟩
  obtain ⟨t1, s⟩ := SI.start hG h0 hT hD hK (on, 4, h, v) hW1
  obtain ⟨ab, hab⟩ : ∃ x, W.heap.size = x := ⟨_, rfl⟩
  rw [hab] at s
  have c1 := s.cell 1 _ rfl
  have c2 := s.cell 2 _ rfl
  have c3 := s.cell 3 _ rfl
  have H := hid s
  clear hG h0 hT hD hK s
  go_enter Try.func12, Try.ntmps12
  have HD := hid (H.out.below (below_drewN W1 1))
  have hS0 : W1.cell? ⟨b, 0, none⟩ = some (.slice (some ⟨hb, 0, none⟩) m m) := (H.out.G.blk H.out.D.tb).cell 0 _ rfl
  have hS1 : W1.drew.cell? ⟨b, 0, none⟩ = some (.slice (some ⟨hb, 0, none⟩) m m) := hS0
  have hS9 : (W1.drewN 1).cell? ⟨b, 0, none⟩ = some (.slice (some ⟨hb, 0, none⟩) m m) := hS0
  obtain ⟨N, hN⟩ : ∃ N, cntH hd m = N := ⟨_, rfl⟩
  have HN := hid hN
  clear hN
  obtain ⟨q, hq⟩ : ∃ q, decide (N = m) = q := ⟨_, rfl⟩
  have HQ := hid hq
  have hz : ((N : Int) == (m : Int)) = q := by
    rw [← hq]
    by_cases e : N = m
    · subst e; simp
    · rw [decide_eq_false e]; simp; omega
  clear hq
  go_wp2_with fail
  go_region_held3 (fun W => W.cell? ⟨b, 0, none⟩ = some (.slice (some ⟨hb, 0, none⟩) m m)) (with_reducible assumption) (first
    | (go_at_call 42; go_must (refine (gx_len HD.out.G HD.out.T).mono ?_; rintro e W2 ⟨rfl, rfl⟩; rw [cntH_ph, HN.out]))
    | (go_at_call 32; refine (gx_rheld H3.out.G H3.out.D).mono ?_; rintro e W4 ⟨va, vc, rfl, hb4⟩; have H4 := hid (H3.out.below hb4); have hS4 : W4.cell? ⟨b, 0, none⟩ = some (.slice (some ⟨hb, 0, none⟩) m m) := (H4.out.G.blk H4.out.D.tb).cell 0 _ rfl; rw [HN.out]; clear hb4)
    | (go_at_call 32; go_must (refine (gx_rheld HD.out.G HD.out.D).mono ?_; rintro e W2 ⟨ua, uc, rfl, hb2⟩; have H2 := hid (HD.out.below hb2); have hS2 : W2.cell? ⟨b, 0, none⟩ = some (.slice (some ⟨hb, 0, none⟩) m m) := (H2.out.G.blk H2.out.D.tb).cell 0 _ rfl; rw [HN.out]; clear hb2))
    | (go_at_call 43; go_must (refine (gx_full H2.out.G H2.out.T).mono ?_; rintro e W3 ⟨rfl, d, hw3⟩; have hb3 : Below W2.heap.size W2 W3 := hw3 ▸ below_drewN W2 d; have H3 := hid (H2.out.below hb3); have hS3 : W3.cell? ⟨b, 0, none⟩ = some (.slice (some ⟨hb, 0, none⟩) m m) := (H3.out.G.blk H3.out.D.tb).cell 0 _ rfl; rw [cntH_ph, HN.out, HQ.out]; clear hb3 hw3)))
  have R : Hid (OP w0 t C kb n0 n1 a b hb vb m W4) := H4.out.out ⟨rfl, by omega⟩
  clear H HD H2 H3 H4 hS0 hS1 hS2 hS3 hS4 hS9 HN HQ c1 c2 c3
  go_wp2
  go_ret
  exact ⟨by simp, R.out⟩
end
end Go.Proofs.Ytodihepgfpbonaa.Tb.P
