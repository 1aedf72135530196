/- What is known within an act of TableScript on the table of the type turnkeylaw19.Pair. -/
import Derived.Test.YtodihepgfpbonaaTst
namespace Go.Proofs.Ytodihepgfpbonaa.Tb.P
open Go.ChangeShapes Go.WideShapes Go.ChangeAt Go.RowKit
/-- Within an act: x is the act, in block ab; the program's table has h1, the document's h2. -/
structure SI (w0 : World) (t : Nat → Th) (C : Cn) (kb a b hb vb m ab : Nat) (x : A.V) (t1 : Nat → Th) (C1 : Cn) (k0 k1 : Nat) (h1 h2 : Nat → Option Int) (vf : Nat → Int) (l : Nat → Value) (f : Nat → Nat → Value) (W : World) : Prop where
  G : GX w0 w0.heap.size t1 W
  Z : t1 0 = tK C1
  c : Cle C C1
  T : P.TT t1 C1 2 a m (ph h1)
  D : DT t1 6 b hb vb m h2 vf
  K : KS t1 C1 kb k0 k1 l f
  E : t1 16 = tC ab (A.vc x) 44
  p : t1 1 = t 1
  q : ∀ k, k < 3 → t1 (3 + k) = t (3 + k)
section
variable {w0 W W' : World} {t t1 t2 : Nat → Th} {C C1 C2 : Cn} {kb a b hb vb m ab k0 k1 : Nat} {x : A.V} {h1 h2 h3 : Nat → Option Int} {vf vf' : Nat → Int} {l : Nat → Value} {f : Nat → Nat → Value}
theorem SI.start {n0 n1 : Nat} {hd : Nat → Option Int} (hG : GX w0 w0.heap.size t W) (h0 : t 0 = tK C) (hT : P.TT t C 2 a m (ph hd)) (hD : DT t 6 b hb vb m hd vf) (hK : KS t C kb n0 n1 l f) (x : A.V) (hW : W.alloc (.cells #[.int .i64 x.1, .int .i64 x.2.1, .int .i64 x.2.2.1, .int .i64 x.2.2.2] 44) = W') :
    ∃ t1, SI w0 t C kb a b hb vb m W.heap.size x t1 C n0 n1 hd hd vf l f W' := by
  obtain ⟨t1, g1, e1, B1⟩ := gx_alloc hG 16 (A.vc x) 44
  rw [show W.alloc (.cells (A.vc x).toArray 44) = W' from hW] at g1
  exact ⟨t1, g1, (B1 0 (by decide) (by decide)).trans h0, Cle.refl _, hT.keep (B1 2 (by decide) (by decide)) (Cle.refl _), hD.keep (fun k hk => B1 _ (by omega) (by omega)), hK.keep (fun k hk => B1 _ (by omega) (by omega)) (Cle.refl _), e1, B1 1 (by decide) (by decide), fun k hk => B1 _ (by omega) (by omega)⟩
theorem SI.below (s : SI w0 t C kb a b hb vb m ab x t1 C1 k0 k1 h1 h2 vf l f W) (hb' : Below W.heap.size W W') : SI w0 t C kb a b hb vb m ab x t1 C1 k0 k1 h1 h2 vf l f W' :=
  ⟨s.G.below hb', s.Z, s.c, s.T, s.D, s.K, s.E, s.p, s.q⟩
theorem SI.prog (s : SI w0 t C kb a b hb vb m ab x t1 C1 k0 k1 h1 h2 vf l f W) (hg : GX w0 w0.heap.size t2 W') (hz : t2 0 = tK C2) (hc : Cle C1 C2) (ht : P.TT t2 C2 2 a m (ph h3)) (hB : ∀ k, k ≠ 0 → k ≠ 2 → t2 k = t1 k) : SI w0 t C kb a b hb vb m ab x t2 C2 k0 k1 h3 h2 vf l f W' :=
  ⟨hg, hz, s.c.trans hc, ht, s.D.keep (fun k hk => hB _ (by omega) (by omega)), s.K.keep (fun k hk => hB _ (by omega) (by omega)) hc, (hB 16 (by decide) (by decide)).trans s.E, (hB 1 (by decide) (by decide)).trans s.p, fun k hk => (hB _ (by omega) (by omega)).trans (s.q k hk)⟩
theorem SI.doc (s : SI w0 t C kb a b hb vb m ab x t1 C1 k0 k1 h1 h2 vf l f W) (hg : GX w0 w0.heap.size t2 W') (hd : DT t2 6 b hb vb m h3 vf') (hB : ∀ k, k ≠ 6 + 1 → k ≠ 6 + 2 → t2 k = t1 k) : SI w0 t C kb a b hb vb m ab x t2 C1 k0 k1 h1 h3 vf' l f W' :=
  ⟨hg, (hB 0 (by decide) (by decide)).trans s.Z, s.c, s.T.keep (hB 2 (by decide) (by decide)) (Cle.refl _), hd, s.K.keep (fun k hk => hB _ (by omega) (by omega)) (Cle.refl _), (hB 16 (by decide) (by decide)).trans s.E, (hB 1 (by decide) (by decide)).trans s.p, fun k hk => (hB _ (by omega) (by omega)).trans (s.q k hk)⟩
/-- Numbers that are not in use are turned; what stays grows. -/
theorem SI.free (s : SI w0 t C kb a b hb vb m ab x t1 C1 k0 k1 h1 h2 vf l f W) (hg : GX w0 w0.heap.size t2 W') (hz : t2 0 = tK C2) (hc : Cle C1 C2) (hB : ∀ k, k ≠ 0 → k < 17 → t2 k = t1 k) : SI w0 t C kb a b hb vb m ab x t2 C2 k0 k1 h1 h2 vf l f W' :=
  ⟨hg, hz, s.c.trans hc, s.T.keep (hB 2 (by decide) (by decide)) hc, s.D.keep (fun k hk => hB _ (by omega) (by omega)), s.K.keep (fun k hk => hB _ (by omega) (by omega)) hc, (hB 16 (by decide) (by decide)).trans s.E, (hB 1 (by decide) (by decide)).trans s.p, fun k hk => (hB _ (by omega) (by omega)).trans (s.q k hk)⟩
theorem SI.cell (s : SI w0 t C kb a b hb vb m ab x t1 C1 k0 k1 h1 h2 vf l f W) (i : Nat) (v : Value) (hv : (A.vc x)[i]? = some v) : W.cell? ⟨ab, i, none⟩ = some v := (s.G.blk s.E).cell i v hv
theorem SI.out {n0 n1 : Nat} (s : SI w0 t C kb a b hb vb m ab x t1 C1 k0 k1 h1 h1 vf l f W) (h : k0 = n0 ∧ k1 ≤ n1 + 1) : OP w0 t C kb n0 n1 a b hb vb m W := by
  obtain ⟨rfl, hn⟩ := h
  exact ⟨t1, C1, h1, vf, _, l, f, s.G, s.Z, s.c, s.T, s.D, s.K, hn, s.p, s.q⟩
end
end Go.Proofs.Ytodihepgfpbonaa.Tb.P
