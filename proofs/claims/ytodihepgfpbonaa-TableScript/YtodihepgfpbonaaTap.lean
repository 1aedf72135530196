/- Acts of TableScript on the table of pairs: add, get, other. -/
import Derived.Test.YtodihepgfpbonaaTsP
import Derived.Test.YtodihepgfpbonaaTph
import Derived.Deep.RegionHeld3
import Derived.BigQuiet
namespace Go.Proofs.Ytodihepgfpbonaa.Tb.P
open Go.ChangeShapes Go.WideShapes Go.ChangeAt Go.RowKit
section
variable {w0 W : World} {t : Nat → Th} {C : Cn} {kb n0 n1 a b hb vb m : Nat} {hd : Nat → Option Int} {vf : Nat → Int} {l : Nat → Value} {f : Nat → Nat → Value}
set_option maxRecDepth 20000 in
set_option maxHeartbeats 1600000 in
theorem act_add (hG : GX w0 w0.heap.size t W) (h0 : t 0 = tK C) (hT : P.TT t C 2 a m (ph hd)) (hD : DT t 6 b hb vb m hd vf) (hK : KS t C kb n0 n1 l f) (on h v : Int) :
    Calls Try.prog 12 #[.pointer (some ⟨kb, 0, none⟩), .pointer (some ⟨a, 0, none⟩), .pointer (some ⟨b, 0, none⟩), .agg #[.int .i64 on, .int .i64 0, .int .i64 h, .int .i64 v]] W fun e W' => e = .returned (.bool true) ∧ OP w0 t C kb n0 n1 a b hb vb m W' := by
  obtain ⟨W1, hW1⟩ : ∃ V, W.alloc (.cells #[.int .i64 on, .int .i64 0, .int .i64 h, .int .i64 v] 44) = V := ⟨_, rfl⟩
  obtain ⟨t1, s⟩ := SI.start hG h0 hT hD hK (on, 0, h, v) hW1
  obtain ⟨ab, hab⟩ : ∃ x, W.heap.size = x := ⟨_, rfl⟩
  rw [hab] at s
  have c1 := s.cell 1 _ rfl
  have c2 := s.cell 2 _ rfl
  have c3 := s.cell 3 _ rfl
  have H := hid s
  clear hG h0 hT hD hK s
  go_enter Try.func12, Try.ntmps12
  go_wp2_with fail
  clear c1 c2 c3 hW1 hab
  refine (pair_t v W1).mono ?_
  rintro e W2 ⟨rfl, hb'⟩
  replace H := hid (H.out.below hb')
  clear hb'
  go_wp2_with fail
  refine (gx_add H.out.G H.out.Z (by decide) H.out.T (pr v)).mono ?_
  rintro e W3 ⟨rfl, t2, C2, hg, hz, hc, ht, hB⟩
  rw [addN_ph, addE_ph]
  rw [addH_ph] at ht
  have H2 := hid (H.out.prog hg hz hc ht hB)
  have c3 := H2.out.cell 3 _ rfl
  clear hg hz hc ht hB H
  go_wp2_with fail
  refine (gx_radd H2.out.G H2.out.D v).mono ?_
  rintro e W4 ⟨rfl, t3, vf3, hg, hd3, hB⟩
  have R : Hid (OP w0 t C kb n0 n1 a b hb vb m W4) := (H2.out.doc hg hd3 hB).out ⟨rfl, by omega⟩
  clear hg hd3 hB H2
  go_wp2
  go_ret
  exact ⟨rfl, R.out⟩
set_option maxRecDepth 20000 in
set_option maxHeartbeats 1600000 in
theorem act_get (hG : GX w0 w0.heap.size t W) (h0 : t 0 = tK C) (hT : P.TT t C 2 a m (ph hd)) (hD : DT t 6 b hb vb m hd vf) (hK : KS t C kb n0 n1 l f) (on h v : Int) :
    Calls Try.prog 12 #[.pointer (some ⟨kb, 0, none⟩), .pointer (some ⟨a, 0, none⟩), .pointer (some ⟨b, 0, none⟩), .agg #[.int .i64 on, .int .i64 1, .int .i64 h, .int .i64 v]] W fun e W' => e = .returned (.bool true) ∧ OP w0 t C kb n0 n1 a b hb vb m W' := by
  obtain ⟨W1, hW1⟩ : ∃ V, W.alloc (.cells #[.int .i64 on, .int .i64 1, .int .i64 h, .int .i64 v] 44) = V := ⟨_, rfl⟩
  obtain ⟨t1, s⟩ := SI.start hG h0 hT hD hK (on, 1, h, v) hW1
  obtain ⟨ab, hab⟩ : ∃ x, W.heap.size = x := ⟨_, rfl⟩
  rw [hab] at s
  have c1 := s.cell 1 _ rfl
  have c2 := s.cell 2 _ rfl
  have c3 := s.cell 3 _ rfl
  have H := hid s
  clear hG h0 hT hD hK s
  go_enter Try.func12, Try.ntmps12
  go_wp2_with fail
  clear c1 c2 c3 hW1 hab
  refine (gx_get H.out.G H.out.Z H.out.T h).mono ?_
  rintro e W2 ⟨rfl, -, hb'⟩
  replace H := hid (H.out.below hb')
  clear hb'
  rw [hdI_ph]
  cases e : hdI hd h with
  | none =>
    rw [show gt ((none : Option Int).map pr) = .tuple #[vv vz, .int .i64 5] from rfl]
    obtain ⟨V2, hV2⟩ : ∃ V, W2.alloc (.cells #[.int .i64 0, .int .i64 0] 31) = V := ⟨_, rfl⟩
    obtain ⟨V3, s3, t3, g3, e3, B3⟩ := gx_var H.out.G 17 vz hV2
    obtain ⟨xb, hxb⟩ : ∃ x, W2.heap.size = x := ⟨_, rfl⟩
    rw [hxb] at e3 s3
    have HV := hid (H.out.free g3 ((B3 0 (by decide) (by decide)).trans H.out.Z) (Cle.refl _) (fun k _ hk => B3 k (by omega) (by omega)))
    have EX := hid e3
    have c2 := HV.out.cell 2 _ rfl
    clear g3 e3 B3 H
    go_wp2_with fail
    refine (gx_rget HV.out.G HV.out.D h).mono ?_
    rintro e' V3 ⟨rfl, rfl⟩
    rw [e, show (none : Option Int).getD 0 = 0 from rfl, show (if (none : Option Int).isSome = true then 0 else 5 : Int) = 5 from rfl]
    have lx := LDv_run (HV.out.G.blk EX.out)
    have ly : ∀ d, (LDv ⟨xb, 0, none⟩).run Try.prog (V3.drewN d) = .ok (vv vz) (V3.drewN d) := fun d => LDv_run ((HV.out.G.blk EX.out).drewN d)
    have HF := HV
    have EF := EX
    clear s3 hV2 hxb e
    have hs2 := eq2_self 0 0
    have R : Hid (∀ d, OP w0 t C kb n0 n1 a b hb vb m (V3.drewN d)) := fun d => (HF.out.below (below_drewN _ d)).out ⟨rfl, by omega⟩
    clear HV HF EX
    go_wp2_with fail
    go_quiet (fail)
    go_wp2
    go_ret
    exact ⟨rfl, R.out _⟩
  | some x =>
    rw [show gt ((some x : Option Int).map pr) = .tuple #[vv (pr x), .int .i64 0] from rfl]
    obtain ⟨V2, hV2⟩ : ∃ V, W2.alloc (.cells #[.int .i64 0, .int .i64 0] 31) = V := ⟨_, rfl⟩
    obtain ⟨V3, s3, t3, g3, e3, B3⟩ := gx_var H.out.G 17 (pr x) hV2
    obtain ⟨xb, hxb⟩ : ∃ x, W2.heap.size = x := ⟨_, rfl⟩
    rw [hxb] at e3 s3
    have HV := hid (H.out.free g3 ((B3 0 (by decide) (by decide)).trans H.out.Z) (Cle.refl _) (fun k _ hk => B3 k (by omega) (by omega)))
    have EX := hid e3
    have c2 := HV.out.cell 2 _ rfl
    clear g3 e3 B3 H
    go_wp2_with fail
    refine (gx_rget HV.out.G HV.out.D h).mono ?_
    rintro e' V3 ⟨rfl, rfl⟩
    rw [e, show (some x : Option Int).getD 0 = x from rfl, show (if (some x : Option Int).isSome = true then 0 else 5 : Int) = 0 from rfl]
    have lx := LDv_run (HV.out.G.blk EX.out)
    have ly : ∀ d, (LDv ⟨xb, 0, none⟩).run Try.prog (V3.drewN d) = .ok (vv (pr x)) (V3.drewN d) := fun d => LDv_run ((HV.out.G.blk EX.out).drewN d)
    have HF := HV
    have EF := EX
    clear s3 hV2 hxb e
    have hs2 := eq2_self (pr x).1 (pr x).2
    have hL : ∀ i : BW V3, (LDv ⟨xb, 0, none⟩).run Try.prog i.W = .ok (vv (pr x)) i.W := fun i => LDv_run ((HF.out.G.below i.h).blk EF.out)
    have R : Hid (∀ i : BW V3, OP w0 t C kb n0 n1 a b hb vb m i.W) := fun i => (HF.out.below i.h).out ⟨rfl, by omega⟩
    clear lx ly HV HF EX EF
    go_wp2_with fail
    refine region_new (by kernel_rfl) (by kernel_rfl) ?_
    repeat (go_big_quiet_step (exact pair_q x _))
    refine wpQuiet_nil ?_
    intro _ hw'
    obtain ⟨i, hw''⟩ := hw'
    subst hw''
    go_wp2
    go_ret
    exact ⟨rfl, R.out i⟩
set_option maxRecDepth 20000 in
set_option maxHeartbeats 1600000 in
theorem act_other (hG : GX w0 w0.heap.size t W) (h0 : t 0 = tK C) (hT : P.TT t C 2 a m (ph hd)) (hD : DT t 6 b hb vb m hd vf) (hK : KS t C kb n0 n1 l f) (on K h v : Int) (hK2 : K ≠ 0 ∧ K ≠ 1 ∧ K ≠ 2 ∧ K ≠ 3 ∧ K ≠ 4 ∧ K ≠ 5) :
    Calls Try.prog 12 #[.pointer (some ⟨kb, 0, none⟩), .pointer (some ⟨a, 0, none⟩), .pointer (some ⟨b, 0, none⟩), .agg #[.int .i64 on, .int .i64 K, .int .i64 h, .int .i64 v]] W fun e W' => e = .returned (.bool true) ∧ OP w0 t C kb n0 n1 a b hb vb m W' := by
  obtain ⟨W1, hW1⟩ : ∃ V, W.alloc (.cells #[.int .i64 on, .int .i64 K, .int .i64 h, .int .i64 v] 44) = V := ⟨_, rfl⟩
  obtain ⟨t1, s⟩ := SI.start hG h0 hT hD hK (on, K, h, v) hW1
  obtain ⟨ab, hab⟩ : ∃ x, W.heap.size = x := ⟨_, rfl⟩
  rw [hab] at s
  have c1 := s.cell 1 _ rfl
  have c2 := s.cell 2 _ rfl
  have c3 := s.cell 3 _ rfl
  have H := hid s
  clear hG h0 hT hD hK s
  obtain ⟨k0, k1, k2, k3, k4, k5⟩ := hK2
  go_enter Try.func12, Try.ntmps12
  go_wp2
  go_ret
  exact ⟨rfl, H.out.out ⟨rfl, by omega⟩⟩
end
end Go.Proofs.Ytodihepgfpbonaa.Tb.P
