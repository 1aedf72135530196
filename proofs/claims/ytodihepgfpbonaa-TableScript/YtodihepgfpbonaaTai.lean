/- Acts of TableScript on the table of ints: add, get, drop, other. -/
import Derived.Test.YtodihepgfpbonaaTsI
import Derived.Deep.RegionHeld3
import Derived.BigQuiet
namespace Go.Proofs.Ytodihepgfpbonaa.Tb.I
open Go.ChangeShapes Go.WideShapes Go.ChangeAt Go.RowKit
section
variable {w0 W : World} {t : Nat → Th} {C : Cn} {kb n0 n1 a b hb vb m : Nat} {hd : Nat → Option Int} {vf : Nat → Int} {l : Nat → Value} {f : Nat → Nat → Value}
set_option maxRecDepth 20000 in
set_option maxHeartbeats 1600000 in
theorem act_add (hG : GX w0 w0.heap.size t W) (h0 : t 0 = tK C) (hT : I.TT t C 1 a m hd) (hD : DT t 3 b hb vb m hd vf) (hK : KS t C kb n0 n1 l f) (on h v : Int) :
    Calls Try.prog 11 #[.pointer (some ⟨kb, 0, none⟩), .pointer (some ⟨a, 0, none⟩), .pointer (some ⟨b, 0, none⟩), .agg #[.int .i64 on, .int .i64 0, .int .i64 h, .int .i64 v]] W fun e W' => e = .returned (.bool true) ∧ OI w0 t C kb n0 n1 a b hb vb m W' := by
  obtain ⟨W1, hW1⟩ : ∃ V, W.alloc (.cells #[.int .i64 on, .int .i64 0, .int .i64 h, .int .i64 v] 44) = V := ⟨_, rfl⟩
  obtain ⟨t1, s⟩ := SI.start hG h0 hT hD hK (on, 0, h, v) hW1
  obtain ⟨ab, hab⟩ : ∃ x, W.heap.size = x := ⟨_, rfl⟩
  rw [hab] at s
  have c1 := s.cell 1 _ rfl
  have c2 := s.cell 2 _ rfl
  have c3 := s.cell 3 _ rfl
  have H := hid s
  clear hG h0 hT hD hK s
  go_enter Try.func11, Try.ntmps11
  go_wp2_with fail
  clear c1 c2 c3 hW1 hab
  refine (gx_add H.out.G H.out.Z (by decide) H.out.T v).mono ?_
  rintro e W2 ⟨rfl, t2, C2, hg, hz, hc, ht, hB⟩
  have H2 := hid (H.out.prog hg hz hc ht hB)
  have c3 := H2.out.cell 3 _ rfl
  clear hg hz hc ht hB H
  go_wp2_with fail
  refine (gx_radd H2.out.G H2.out.D v).mono ?_
  rintro e W3 ⟨rfl, t3, vf3, hg, hd3, hB⟩
  have R : Hid (OI w0 t C kb n0 n1 a b hb vb m W3) := (H2.out.doc hg hd3 hB).out ⟨rfl, by omega⟩
  clear hg hd3 hB H2
  go_wp2
  go_ret
  exact ⟨rfl, R.out⟩
set_option maxRecDepth 20000 in
set_option maxHeartbeats 1600000 in
theorem act_get (hG : GX w0 w0.heap.size t W) (h0 : t 0 = tK C) (hT : I.TT t C 1 a m hd) (hD : DT t 3 b hb vb m hd vf) (hK : KS t C kb n0 n1 l f) (on h v : Int) :
    Calls Try.prog 11 #[.pointer (some ⟨kb, 0, none⟩), .pointer (some ⟨a, 0, none⟩), .pointer (some ⟨b, 0, none⟩), .agg #[.int .i64 on, .int .i64 1, .int .i64 h, .int .i64 v]] W fun e W' => e = .returned (.bool true) ∧ OI w0 t C kb n0 n1 a b hb vb m W' := by
  obtain ⟨W1, hW1⟩ : ∃ V, W.alloc (.cells #[.int .i64 on, .int .i64 1, .int .i64 h, .int .i64 v] 44) = V := ⟨_, rfl⟩
  obtain ⟨t1, s⟩ := SI.start hG h0 hT hD hK (on, 1, h, v) hW1
  obtain ⟨ab, hab⟩ : ∃ x, W.heap.size = x := ⟨_, rfl⟩
  rw [hab] at s
  have c1 := s.cell 1 _ rfl
  have c2 := s.cell 2 _ rfl
  have c3 := s.cell 3 _ rfl
  have H := hid s
  clear hG h0 hT hD hK s
  go_enter Try.func11, Try.ntmps11
  go_wp2_with fail
  clear c1 c2 c3 hW1 hab
  refine (gx_get H.out.G H.out.Z H.out.T h).mono ?_
  rintro e W2 ⟨rfl, -, hb'⟩
  replace H := hid (H.out.below hb')
  have c2 := H.out.cell 2 _ rfl
  clear hb'
  cases e : hdI hd h with
  | none =>
    rw [show gt (none : Option V) = .tuple #[.int .i64 0, .int .i64 5] from rfl]
    go_wp2_with fail
    refine (gx_rget H.out.G H.out.D h).mono ?_
    rintro e' W2 ⟨rfl, rfl⟩
    rw [e, show (none : Option Int).getD 0 = 0 from rfl, show (if (none : Option Int).isSome = true then 0 else 5 : Int) = 5 from rfl]
    have R : Hid (OI w0 t C kb n0 n1 a b hb vb m W2) := H.out.out ⟨rfl, by omega⟩
    clear H e
    go_wp2
    go_ret
    exact ⟨rfl, R.out⟩
  | some x =>
    rw [show gt (some x) = .tuple #[.int .i64 x, .int .i64 0] from rfl]
    go_wp2_with fail
    refine (gx_rget H.out.G H.out.D h).mono ?_
    rintro e' W2 ⟨rfl, rfl⟩
    rw [e, show (some x : Option Int).getD 0 = x from rfl, show (if (some x : Option Int).isSome = true then 0 else 5 : Int) = 0 from rfl]
    have R : Hid (OI w0 t C kb n0 n1 a b hb vb m W2) := H.out.out ⟨rfl, by omega⟩
    clear H e
    go_wp2
    go_ret
    exact ⟨rfl, R.out⟩
set_option maxRecDepth 20000 in
set_option maxHeartbeats 1600000 in
theorem act_drop (hG : GX w0 w0.heap.size t W) (h0 : t 0 = tK C) (hT : I.TT t C 1 a m hd) (hD : DT t 3 b hb vb m hd vf) (hK : KS t C kb n0 n1 l f) (on h v : Int) :
    Calls Try.prog 11 #[.pointer (some ⟨kb, 0, none⟩), .pointer (some ⟨a, 0, none⟩), .pointer (some ⟨b, 0, none⟩), .agg #[.int .i64 on, .int .i64 3, .int .i64 h, .int .i64 v]] W fun e W' => e = .returned (.bool true) ∧ OI w0 t C kb n0 n1 a b hb vb m W' := by
  obtain ⟨W1, hW1⟩ : ∃ V, W.alloc (.cells #[.int .i64 on, .int .i64 3, .int .i64 h, .int .i64 v] 44) = V := ⟨_, rfl⟩
  obtain ⟨t1, s⟩ := SI.start hG h0 hT hD hK (on, 3, h, v) hW1
  obtain ⟨ab, hab⟩ : ∃ x, W.heap.size = x := ⟨_, rfl⟩
  rw [hab] at s
  have c1 := s.cell 1 _ rfl
  have c2 := s.cell 2 _ rfl
  have c3 := s.cell 3 _ rfl
  have H := hid s
  clear hG h0 hT hD hK s
  go_enter Try.func11, Try.ntmps11
  go_wp2_with fail
  clear c1 c2 c3 hW1 hab
  refine (gx_drop H.out.G H.out.Z (by decide) H.out.T h).mono ?_
  rintro e W2 ⟨rfl, t2, hg, hz, ht, hB⟩
  have H2 := hid (H.out.prog hg hz (Cle.refl _) ht (fun k _ h1 => hB k h1 h1))
  have c2 := H2.out.cell 2 _ rfl
  clear hg hz ht hB H
  cases e : hdI hd h with
  | none =>
    rw [show gt (none : Option V) = .tuple #[.int .i64 0, .int .i64 5] from rfl]
    go_wp2_with fail
    refine (gx_rdrop H2.out.G H2.out.D h).mono ?_
    rintro e' W3 ⟨rfl, t3, hg, hd3, hB⟩
    rw [e, show (none : Option Int).getD 0 = 0 from rfl, show (if (none : Option Int).isSome = true then 0 else 5 : Int) = 5 from rfl]
    have R : Hid (OI w0 t C kb n0 n1 a b hb vb m W3) := (H2.out.doc hg hd3 (fun k h1 _ => hB k h1 h1)).out ⟨rfl, by omega⟩
    clear H2 e hg hd3 hB
    go_wp2
    go_ret
    exact ⟨rfl, R.out⟩
  | some x =>
    rw [show gt (some x) = .tuple #[.int .i64 x, .int .i64 0] from rfl]
    go_wp2_with fail
    refine (gx_rdrop H2.out.G H2.out.D h).mono ?_
    rintro e' W3 ⟨rfl, t3, hg, hd3, hB⟩
    rw [e, show (some x : Option Int).getD 0 = x from rfl, show (if (some x : Option Int).isSome = true then 0 else 5 : Int) = 0 from rfl]
    have R : Hid (OI w0 t C kb n0 n1 a b hb vb m W3) := (H2.out.doc hg hd3 (fun k h1 _ => hB k h1 h1)).out ⟨rfl, by omega⟩
    clear H2 e hg hd3 hB
    go_wp2
    go_ret
    exact ⟨rfl, R.out⟩
set_option maxRecDepth 20000 in
set_option maxHeartbeats 1600000 in
theorem act_other (hG : GX w0 w0.heap.size t W) (h0 : t 0 = tK C) (hT : I.TT t C 1 a m hd) (hD : DT t 3 b hb vb m hd vf) (hK : KS t C kb n0 n1 l f) (on K h v : Int) (hK2 : K ≠ 0 ∧ K ≠ 1 ∧ K ≠ 2 ∧ K ≠ 3 ∧ K ≠ 4 ∧ K ≠ 5) :
    Calls Try.prog 11 #[.pointer (some ⟨kb, 0, none⟩), .pointer (some ⟨a, 0, none⟩), .pointer (some ⟨b, 0, none⟩), .agg #[.int .i64 on, .int .i64 K, .int .i64 h, .int .i64 v]] W fun e W' => e = .returned (.bool true) ∧ OI w0 t C kb n0 n1 a b hb vb m W' := by
  obtain ⟨W1, hW1⟩ : ∃ V, W.alloc (.cells #[.int .i64 on, .int .i64 K, .int .i64 h, .int .i64 v] 44) = V := ⟨_, rfl⟩
  obtain ⟨t1, s⟩ := SI.start hG h0 hT hD hK (on, K, h, v) hW1
  obtain ⟨ab, hab⟩ : ∃ x, W.heap.size = x := ⟨_, rfl⟩
  rw [hab] at s
  have c1 := s.cell 1 _ rfl
  have c2 := s.cell 2 _ rfl
  have c3 := s.cell 3 _ rfl
  have H := hid s
  clear hG h0 hT hD hK s
  obtain ⟨k0, k1, k2, k3, k4, k5⟩ := hK2
  go_enter Try.func11, Try.ntmps11
  go_wp2
  go_ret
  exact ⟨rfl, H.out.out ⟨rfl, by omega⟩⟩
end
end Go.Proofs.Ytodihepgfpbonaa.Tb.I
