/- Acts of TableScript on the table of ints: set. -/
import Derived.Test.YtodihepgfpbonaaTsI
import Derived.Deep.RegionHeld3
import Derived.BigQuiet
namespace Go.Proofs.Ytodihepgfpbonaa.Tb.I
open Go.ChangeShapes Go.WideShapes Go.ChangeAt Go.RowKit
section
variable {w0 W : World} {t : Nat → Th} {C : Cn} {kb n0 n1 a b hb vb m : Nat} {hd : Nat → Option Int} {vf : Nat → Int} {l : Nat → Value} {f : Nat → Nat → Value}
set_option maxRecDepth 20000 in
set_option maxHeartbeats 1600000 in
theorem act_set (hG : GX w0 w0.heap.size t W) (h0 : t 0 = tK C) (hT : I.TT t C 1 a m hd) (hD : DT t 3 b hb vb m hd vf) (hK : KS t C kb n0 n1 l f) (on h v : Int) :
    Calls Try.prog 11 #[.pointer (some ⟨kb, 0, none⟩), .pointer (some ⟨a, 0, none⟩), .pointer (some ⟨b, 0, none⟩), .agg #[.int .i64 on, .int .i64 2, .int .i64 h, .int .i64 v]] W fun e W' => e = .returned (.bool true) ∧ OI w0 t C kb n0 n1 a b hb vb m W' := by
  obtain ⟨W1, hW1⟩ : ∃ V, W.alloc (.cells #[.int .i64 on, .int .i64 2, .int .i64 h, .int .i64 v] 44) = V := ⟨_, rfl⟩
  obtain ⟨t1, s⟩ := SI.start hG h0 hT hD hK (on, 2, h, v) hW1
  obtain ⟨ab, hab⟩ : ∃ x, W.heap.size = x := ⟨_, rfl⟩
  rw [hab] at s
  have c1 := s.cell 1 _ rfl
  have c2 := s.cell 2 _ rfl
  have c3 := s.cell 3 _ rfl
  have H := hid s
  clear hG h0 hT hD hK s
  go_enter Try.func11, Try.ntmps11
  have HD := hid (H.out.below (below_drewN W1 1))
  have hS0 : W1.cell? ⟨ab, 2, none⟩ = some (.int .i64 h) ∧ W1.cell? ⟨ab, 3, none⟩ = some (.int .i64 v) := ⟨c2, c3⟩
  have hS1 : W1.drew.cell? ⟨ab, 2, none⟩ = some (.int .i64 h) ∧ W1.drew.cell? ⟨ab, 3, none⟩ = some (.int .i64 v) := ⟨c2, c3⟩
  obtain ⟨E, hE⟩ : ∃ E, (if (hdI hd h).isSome then 0 else 5 : Int) = E := ⟨_, rfl⟩
  have HE := hid hE
  clear hE
  go_wp2_with fail
  go_region_held3 (fun W => W.cell? ⟨ab, 2, none⟩ = some (.int .i64 h) ∧ W.cell? ⟨ab, 3, none⟩ = some (.int .i64 v)) (with_reducible assumption) (first
    | (go_at_call 25; go_must (refine (gx_set HD.out.G HD.out.Z (by decide) HD.out.T h v).mono ?_; rintro e W2 ⟨rfl, t2, C2, hg, hz, hc, ht, hB⟩; have H2 := hid (HD.out.prog hg hz hc ht hB); have hS2 : W2.cell? ⟨ab, 2, none⟩ = some (.int .i64 h) ∧ W2.cell? ⟨ab, 3, none⟩ = some (.int .i64 v) := ⟨H2.out.cell 2 _ rfl, H2.out.cell 3 _ rfl⟩; rw [HE.out]; clear hg hz hc ht hB))
    | (go_at_call 28; go_must (refine (gx_rset H2.out.G H2.out.D h v).mono ?_; rintro e W3 ⟨rfl, t3, vf3, hg, hd3, hB⟩; have H3 := hid (H2.out.doc hg hd3 (fun k _ h2 => hB k h2 h2)); have hS3 : W3.cell? ⟨ab, 2, none⟩ = some (.int .i64 h) ∧ W3.cell? ⟨ab, 3, none⟩ = some (.int .i64 v) := ⟨H3.out.cell 2 _ rfl, H3.out.cell 3 _ rfl⟩; rw [HE.out]; clear hg hd3 hB)))
  have R : Hid (OI w0 t C kb n0 n1 a b hb vb m W3) := H3.out.out ⟨rfl, by omega⟩
  clear H HD H2 H3 hS0 hS1 hS2 hS3 HE c1 c2 c3
  go_wp2
  go_ret
  exact ⟨rfl, R.out⟩
end
end Go.Proofs.Ytodihepgfpbonaa.Tb.I
