/- Acts of TableScript on the table of pairs: drop, set. -/
import Derived.Test.YtodihepgfpbonaaTsP
import Derived.Test.YtodihepgfpbonaaTph
import Derived.Deep.RegionHeld3
import Derived.BigQuiet
namespace Go.Proofs.Ytodihepgfpbonaa.Tb.P
open Go.ChangeShapes Go.WideShapes Go.ChangeAt Go.RowKit
section
variable {w0 W : World} {t : Nat → Th} {C : Cn} {kb n0 n1 a b hb vb m : Nat} {hd : Nat → Option Int} {vf : Nat → Int} {l : Nat → Value} {f : Nat → Nat → Value}
set_option maxRecDepth 20000 in
set_option maxHeartbeats 1600000 in
theorem act_drop (hG : GX w0 w0.heap.size t W) (h0 : t 0 = tK C) (hT : P.TT t C 2 a m (ph hd)) (hD : DT t 6 b hb vb m hd vf) (hK : KS t C kb n0 n1 l f) (on h v : Int) :
    Calls Try.prog 12 #[.pointer (some ⟨kb, 0, none⟩), .pointer (some ⟨a, 0, none⟩), .pointer (some ⟨b, 0, none⟩), .agg #[.int .i64 on, .int .i64 3, .int .i64 h, .int .i64 v]] W fun e W' => e = .returned (.bool true) ∧ OP w0 t C kb n0 n1 a b hb vb m W' := by
  obtain ⟨W1, hW1⟩ : ∃ V, W.alloc (.cells #[.int .i64 on, .int .i64 3, .int .i64 h, .int .i64 v] 44) = V := ⟨_, rfl⟩
  obtain ⟨t1, s⟩ := SI.start hG h0 hT hD hK (on, 3, h, v) hW1
  obtain ⟨ab, hab⟩ : ∃ x, W.heap.size = x := ⟨_, rfl⟩
  rw [hab] at s
  have c1 := s.cell 1 _ rfl
  have c2 := s.cell 2 _ rfl
  have c3 := s.cell 3 _ rfl
  have H := hid s
  clear hG h0 hT hD hK s
  go_enter Try.func12, Try.ntmps12
  go_wp2_with fail
  clear c1 c2 c3 hW1 hab
  refine (gx_drop H.out.G H.out.Z (by decide) H.out.T h).mono ?_
  rintro e W2 ⟨rfl, t2, hg, hz, ht, hB⟩
  rw [dropH_ph] at ht
  replace H := hid (H.out.prog hg hz (Cle.refl _) ht (fun k _ h1 => hB k h1 h1))
  clear hg hz ht hB
  rw [hdI_ph]
  cases e : hdI hd h with
  | none =>
    rw [show gt ((none : Option Int).map pr) = .tuple #[vv vz, .int .i64 5] from rfl]
    obtain ⟨V2, hV2⟩ : ∃ V, W2.alloc (.cells #[.int .i64 0, .int .i64 0] 31) = V := ⟨_, rfl⟩
    obtain ⟨V3, s3, t3, g3, e3, B3⟩ := gx_var H.out.G 17 vz hV2
    obtain ⟨xb, hxb⟩ : ∃ x, W2.heap.size = x := ⟨_, rfl⟩
    rw [hxb] at e3 s3
    have HV := hid (H.out.free g3 ((B3 0 (by decide) (by decide)).trans H.out.Z) (Cle.refl _) (fun k _ hk => B3 k (by omega) (by omega)))
    have EX := hid e3
    have c2 := HV.out.cell 2 _ rfl
    clear g3 e3 B3 H
    go_wp2_with fail
    refine (gx_rdrop HV.out.G HV.out.D h).mono ?_
    rintro e' V5 ⟨rfl, t5, hg, hd5, hB⟩
    rw [e, show (none : Option Int).getD 0 = 0 from rfl, show (if (none : Option Int).isSome = true then 0 else 5 : Int) = 5 from rfl]
    have HF := hid (HV.out.doc hg hd5 (fun k h1 _ => hB k h1 h1))
    have EF := hid ((hB 17 (by decide) (by decide)).trans EX.out)
    have lx := LDv_run (HF.out.G.blk EF.out)
    have ly : ∀ d, (LDv ⟨xb, 0, none⟩).run Try.prog (V5.drewN d) = .ok (vv vz) (V5.drewN d) := fun d => LDv_run ((HF.out.G.blk EF.out).drewN d)
    clear s3 hV2 hxb e hg hd5 hB
    have hs2 := eq2_self 0 0
    have R : Hid (∀ d, OP w0 t C kb n0 n1 a b hb vb m (V5.drewN d)) := fun d => (HF.out.below (below_drewN _ d)).out ⟨rfl, by omega⟩
    clear HV HF EX
    go_wp2_with fail
    go_quiet (fail)
    go_wp2
    go_ret
    exact ⟨rfl, R.out _⟩
  | some x =>
    rw [show gt ((some x : Option Int).map pr) = .tuple #[vv (pr x), .int .i64 0] from rfl]
    obtain ⟨V2, hV2⟩ : ∃ V, W2.alloc (.cells #[.int .i64 0, .int .i64 0] 31) = V := ⟨_, rfl⟩
    obtain ⟨V3, s3, t3, g3, e3, B3⟩ := gx_var H.out.G 17 (pr x) hV2
    obtain ⟨xb, hxb⟩ : ∃ x, W2.heap.size = x := ⟨_, rfl⟩
    rw [hxb] at e3 s3
    have HV := hid (H.out.free g3 ((B3 0 (by decide) (by decide)).trans H.out.Z) (Cle.refl _) (fun k _ hk => B3 k (by omega) (by omega)))
    have EX := hid e3
    have c2 := HV.out.cell 2 _ rfl
    clear g3 e3 B3 H
    go_wp2_with fail
    refine (gx_rdrop HV.out.G HV.out.D h).mono ?_
    rintro e' V5 ⟨rfl, t5, hg, hd5, hB⟩
    rw [e, show (some x : Option Int).getD 0 = x from rfl, show (if (some x : Option Int).isSome = true then 0 else 5 : Int) = 0 from rfl]
    have HF := hid (HV.out.doc hg hd5 (fun k h1 _ => hB k h1 h1))
    have EF := hid ((hB 17 (by decide) (by decide)).trans EX.out)
    have lx := LDv_run (HF.out.G.blk EF.out)
    have ly : ∀ d, (LDv ⟨xb, 0, none⟩).run Try.prog (V5.drewN d) = .ok (vv (pr x)) (V5.drewN d) := fun d => LDv_run ((HF.out.G.blk EF.out).drewN d)
    clear s3 hV2 hxb e hg hd5 hB
    have hs2 := eq2_self (pr x).1 (pr x).2
    have hL : ∀ i : BW V5, (LDv ⟨xb, 0, none⟩).run Try.prog i.W = .ok (vv (pr x)) i.W := fun i => LDv_run ((HF.out.G.below i.h).blk EF.out)
    have R : Hid (∀ i : BW V5, OP w0 t C kb n0 n1 a b hb vb m i.W) := fun i => (HF.out.below i.h).out ⟨rfl, by omega⟩
    clear lx ly HV HF EX EF
    go_wp2_with fail
    refine region_new (by kernel_rfl) (by kernel_rfl) ?_
    repeat (go_big_quiet_step (exact pair_q x _))
    refine wpQuiet_nil ?_
    intro _ hw'
    obtain ⟨i, hw''⟩ := hw'
    subst hw''
    go_wp2
    go_ret
    exact ⟨rfl, R.out i⟩
set_option maxRecDepth 20000 in
set_option maxHeartbeats 1600000 in
theorem act_set (hG : GX w0 w0.heap.size t W) (h0 : t 0 = tK C) (hT : P.TT t C 2 a m (ph hd)) (hD : DT t 6 b hb vb m hd vf) (hK : KS t C kb n0 n1 l f) (on h v : Int) :
    Calls Try.prog 12 #[.pointer (some ⟨kb, 0, none⟩), .pointer (some ⟨a, 0, none⟩), .pointer (some ⟨b, 0, none⟩), .agg #[.int .i64 on, .int .i64 2, .int .i64 h, .int .i64 v]] W fun e W' => e = .returned (.bool true) ∧ OP w0 t C kb n0 n1 a b hb vb m W' := by
  obtain ⟨W1, hW1⟩ : ∃ V, W.alloc (.cells #[.int .i64 on, .int .i64 2, .int .i64 h, .int .i64 v] 44) = V := ⟨_, rfl⟩
  obtain ⟨t1, s⟩ := SI.start hG h0 hT hD hK (on, 2, h, v) hW1
  obtain ⟨ab, hab⟩ : ∃ x, W.heap.size = x := ⟨_, rfl⟩
  rw [hab] at s
  have c1 := s.cell 1 _ rfl
  have c2 := s.cell 2 _ rfl
  have c3 := s.cell 3 _ rfl
  have H := hid s
  clear hG h0 hT hD hK s
  go_enter Try.func12, Try.ntmps12
  have HD := hid (H.out.below (below_drewN W1 1))
  have hS0 : W1.cell? ⟨ab, 2, none⟩ = some (.int .i64 h) ∧ W1.cell? ⟨ab, 3, none⟩ = some (.int .i64 v) := ⟨c2, c3⟩
  have hS1 : W1.drew.cell? ⟨ab, 2, none⟩ = some (.int .i64 h) ∧ W1.drew.cell? ⟨ab, 3, none⟩ = some (.int .i64 v) := ⟨c2, c3⟩
  obtain ⟨E, hE⟩ : ∃ E, (if (hdI hd h).isSome then 0 else 5 : Int) = E := ⟨_, rfl⟩
  have HE := hid hE
  have HEP : Hid ((if (hdI (ph hd) h).isSome then 0 else 5 : Int) = E) := by
    show _ = _
    rw [hdI_ph, ← hE]
    cases hdI hd h <;> rfl
  clear hE
  go_wp2_with fail
  go_region_held3 (fun W => W.cell? ⟨ab, 2, none⟩ = some (.int .i64 h) ∧ W.cell? ⟨ab, 3, none⟩ = some (.int .i64 v)) (with_reducible assumption) (first
    | (go_at_call 38; go_must (refine (pair_t v W1.drew).mono ?_; rintro e Wp ⟨rfl, hbp⟩; have HP := hid (HD.out.below hbp); have hSp : Wp.cell? ⟨ab, 2, none⟩ = some (.int .i64 h) ∧ Wp.cell? ⟨ab, 3, none⟩ = some (.int .i64 v) := ⟨HP.out.cell 2 _ rfl, HP.out.cell 3 _ rfl⟩; clear hbp))
    | (go_at_call 40; go_must (refine (gx_set HP.out.G HP.out.Z (by decide) HP.out.T h (pr v)).mono ?_; rintro e W2 ⟨rfl, t2, C2, hg, hz, hc, ht, hB⟩; rw [setH_ph] at ht; have H2 := hid (HP.out.prog hg hz hc ht hB); have hS2 : W2.cell? ⟨ab, 2, none⟩ = some (.int .i64 h) ∧ W2.cell? ⟨ab, 3, none⟩ = some (.int .i64 v) := ⟨H2.out.cell 2 _ rfl, H2.out.cell 3 _ rfl⟩; rw [HEP.out]; clear hg hz hc ht hB))
    | (go_at_call 28; go_must (refine (gx_rset H2.out.G H2.out.D h v).mono ?_; rintro e W3 ⟨rfl, t3, vf3, hg, hd3, hB⟩; have H3 := hid (H2.out.doc hg hd3 (fun k _ h2 => hB k h2 h2)); have hS3 : W3.cell? ⟨ab, 2, none⟩ = some (.int .i64 h) ∧ W3.cell? ⟨ab, 3, none⟩ = some (.int .i64 v) := ⟨H3.out.cell 2 _ rfl, H3.out.cell 3 _ rfl⟩; rw [HE.out]; clear hg hd3 hB)))
  have R : Hid (OP w0 t C kb n0 n1 a b hb vb m W3) := H3.out.out ⟨rfl, by omega⟩
  clear H HD HP H2 H3 hS0 hS1 hS2 hS3 hSp HE HEP c1 c2 c3
  go_wp2
  go_ret
  exact ⟨rfl, R.out⟩
end
end Go.Proofs.Ytodihepgfpbonaa.Tb.P
