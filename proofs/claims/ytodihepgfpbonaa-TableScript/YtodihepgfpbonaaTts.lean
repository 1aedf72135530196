/- An act of any kind; the state between two acts. -/
import Derived.Test.YtodihepgfpbonaaTai
import Derived.Test.YtodihepgfpbonaaTai2
import Derived.Test.YtodihepgfpbonaaTai3
import Derived.Test.YtodihepgfpbonaaTai4
import Derived.Test.YtodihepgfpbonaaTap
import Derived.Test.YtodihepgfpbonaaTap2
import Derived.Test.YtodihepgfpbonaaTap3
import Derived.Test.YtodihepgfpbonaaTap4
namespace Go.Proofs.Ytodihepgfpbonaa.Tb
open Go.ChangeShapes Go.WideShapes Go.ChangeAt Go.RowKit
/-- Between two acts: u, v are the tables, the program's and the document's, of ints and of pairs, where there are any. -/
structure TS (w0 : World) (u v : Option (Nat × Nat)) (kb n0 n1 : Nat) (W : World) : Prop where
  ex : ∃ t C l f, GX w0 w0.heap.size t W ∧ t 0 = tK C ∧ (∀ a b, u = some (a, b) → ∃ hb vb m hd vf, I.TT t C 1 a m hd ∧ DT t 3 b hb vb m hd vf) ∧ (∀ a b, v = some (a, b) → ∃ hb vb m hd vf, P.TT t C 2 a m (ph hd) ∧ DT t 6 b hb vb m hd vf) ∧ KS t C kb n0 n1 l f
section
variable {w0 W W' : World} {u v : Option (Nat × Nat)} {kb n0 n1 a b : Nat}
theorem TS.below (s : TS w0 u v kb n0 n1 W) (h : Below W.heap.size W W') : TS w0 u v kb n0 n1 W' := by
  obtain ⟨t, C, l, f, hg, hz, h1, h2, hk⟩ := s.ex
  exact ⟨t, C, l, f, hg.below h, hz, h1, h2, hk⟩
theorem TS.bel (s : TS w0 u v kb n0 n1 W) : Below w0.heap.size w0 W := by
  obtain ⟨t, C, l, f, hg, hz, h1, h2, hk⟩ := s.ex
  exact hg.bel
theorem ts_int (s : TS w0 (some (a, b)) v kb n0 n1 W) (hn : n0 ≤ 1100) (x : A.V) : Calls Try.prog 11 #[.pointer (some ⟨kb, 0, none⟩), .pointer (some ⟨a, 0, none⟩), .pointer (some ⟨b, 0, none⟩), A.vv x] W fun e W' => e = .returned (.bool true) ∧ ∃ k, k ≤ n0 + 1 ∧ TS w0 (some (a, b)) v kb k n1 W' := by
  obtain ⟨t, C, l, f, hg, hz, h1, h2, hk⟩ := s.ex
  obtain ⟨hb, vb, m, hd, vf, hT, hD⟩ := h1 a b rfl
  have fin : ∀ (e : Ending) (W' : World), e = .returned (.bool true) ∧ OI w0 t C kb n0 n1 a b hb vb m W' → e = .returned (.bool true) ∧ ∃ k, k ≤ n0 + 1 ∧ TS w0 (some (a, b)) v kb k n1 W' := by
    rintro e W' ⟨rfl, ho⟩
    obtain ⟨t', C', hd', vf', n0', l', f', g', z', c', T', D', K', hn', p', q'⟩ := ho.ex
    refine ⟨rfl, n0', hn', t', C', l', f', g', z', fun a' b' e => ?_, fun a' b' e => ?_, K'⟩
    · cases e; exact ⟨hb, vb, m, hd', vf', T', D'⟩
    · obtain ⟨hb2, vb2, m2, hd2, vf2, T2, D2⟩ := h2 a' b' e
      exact ⟨hb2, vb2, m2, hd2, vf2, T2.keep p' c', D2.keep q'⟩
  obtain ⟨on, K, h, v⟩ := x
  by_cases e0 : K = 0
  · subst e0; exact (I.act_add hg hz hT hD hk on h v).mono fin
  by_cases e1 : K = 1
  · subst e1; exact (I.act_get hg hz hT hD hk on h v).mono fin
  by_cases e2 : K = 2
  · subst e2; exact (I.act_set hg hz hT hD hk on h v).mono fin
  by_cases e3 : K = 3
  · subst e3; exact (I.act_drop hg hz hT hD hk on h v).mono fin
  by_cases e4 : K = 4
  · subst e4; exact (I.act_len hg hz hT hD hk on h v).mono fin
  by_cases e5 : K = 5
  · subst e5; exact (I.act_all hg hz hT hD hk on h v hn).mono fin
  · exact (I.act_other hg hz hT hD hk on K h v ⟨e0, e1, e2, e3, e4, e5⟩).mono fin
theorem ts_pair (s : TS w0 u (some (a, b)) kb n0 n1 W) (hn : n1 ≤ 1100) (x : A.V) : Calls Try.prog 12 #[.pointer (some ⟨kb, 0, none⟩), .pointer (some ⟨a, 0, none⟩), .pointer (some ⟨b, 0, none⟩), A.vv x] W fun e W' => e = .returned (.bool true) ∧ ∃ k, k ≤ n1 + 1 ∧ TS w0 u (some (a, b)) kb n0 k W' := by
  obtain ⟨t, C, l, f, hg, hz, h1, h2, hk⟩ := s.ex
  obtain ⟨hb, vb, m, hd, vf, hT, hD⟩ := h2 a b rfl
  have fin : ∀ (e : Ending) (W' : World), e = .returned (.bool true) ∧ OP w0 t C kb n0 n1 a b hb vb m W' → e = .returned (.bool true) ∧ ∃ k, k ≤ n1 + 1 ∧ TS w0 u (some (a, b)) kb n0 k W' := by
    rintro e W' ⟨rfl, ho⟩
    obtain ⟨t', C', hd', vf', n1', l', f', g', z', c', T', D', K', hn', p', q'⟩ := ho.ex
    refine ⟨rfl, n1', hn', t', C', l', f', g', z', fun a' b' e => ?_, fun a' b' e => ?_, K'⟩
    · obtain ⟨hb2, vb2, m2, hd2, vf2, T2, D2⟩ := h1 a' b' e
      exact ⟨hb2, vb2, m2, hd2, vf2, T2.keep p' c', D2.keep q'⟩
    · cases e; exact ⟨hb, vb, m, hd', vf', T', D'⟩
  obtain ⟨on, K, h, v⟩ := x
  by_cases e0 : K = 0
  · subst e0; exact (P.act_add hg hz hT hD hk on h v).mono fin
  by_cases e1 : K = 1
  · subst e1; exact (P.act_get hg hz hT hD hk on h v).mono fin
  by_cases e2 : K = 2
  · subst e2; exact (P.act_set hg hz hT hD hk on h v).mono fin
  by_cases e3 : K = 3
  · subst e3; exact (P.act_drop hg hz hT hD hk on h v).mono fin
  by_cases e4 : K = 4
  · subst e4; exact (P.act_len hg hz hT hD hk on h v).mono fin
  by_cases e5 : K = 5
  · subst e5; exact (P.act_all hg hz hT hD hk on h v hn).mono fin
  · exact (P.act_other hg hz hT hD hk on K h v ⟨e0, e1, e2, e3, e4, e5⟩).mono fin
end
end Go.Proofs.Ytodihepgfpbonaa.Tb
