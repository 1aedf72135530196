/- The state while the statement's helper walk goes over an iterator. No function of the program in it. -/
import Derived.Test.YtodihepgfpbonaaTkc
namespace Go.Proofs.Ytodihepgfpbonaa.Tb
open Go.ChangeShapes Go.WideShapes Go.ChangeAt Go.RowKit Go.Shelf
/-- Five variables: the numbers, what they stand for, how many at most, the answer, the count. -/
structure WI (w : World) (hv lv : Value) (lt : TypeId) (most : Int) (r : Bool) (n : Nat) (W : World) : Prop where
  c0 : Cel W w.heap.size hv 72
  c1 : Cel W (w.heap.size + 1) lv lt
  c2 : Cel W (w.heap.size + 1 + 1) (.int .i64 most) 3
  c3 : Cel W (w.heap.size + 1 + 1 + 1) (.bool r) 4
  c4 : Cel W (w.heap.size + 1 + 1 + 1 + 1) (.int .i64 n) 3
  bel : Below w.heap.size w W
section
variable {w W W' : World} {hv lv : Value} {lt : TypeId} {most : Int} {r : Bool} {n : Nat}
theorem WI.grow (h : WI w hv lv lt most r n W) (hk : KC (fun _ => False) W W') (hb : Below w.heap.size W W') : WI w hv lv lt most r n W' :=
  ⟨h.c0.kc hk id, h.c1.kc hk id, h.c2.kc hk id, h.c3.kc hk id, h.c4.kc hk id, h.bel.trans hb⟩
theorem WI.below (h : WI w hv lv lt most r n W) (hb : Below W.heap.size W W') : WI w hv lv lt most r n W' := h.grow (kc_below hb) (hb.mono h.bel.size)
theorem WI.own {row : Option Nat} (h : WI w hv lv lt most r n W) (hg : W.grownBy W' row) (hr : ∀ q, row = some q → w.heap.size ≤ q ∧ ∃ o : Obj, W.heap[q]? = some o ∧ o.isCells = false) : WI w hv lv lt most r n W' :=
  h.grow (kc_own hg (fun q e => (hr q e).2)) ((Below.refl _ W).grown hg h.bel.size (fun q e => (hr q e).1))
theorem WI.put (h : WI w hv lv lt most r n W) (n' : Nat) : WI w hv lv lt most r n' (W.setCell ⟨w.heap.size + 1 + 1 + 1 + 1, 0, none⟩ (.int .i64 n')) := by
  have hk : KC (fun q => q = w.heap.size + 1 + 1 + 1 + 1) W (W.setCell ⟨w.heap.size + 1 + 1 + 1 + 1, 0, none⟩ (.int .i64 n')) := KC.of_kp (Kp.setCell _ 0 _) (fun _ _ e => e)
  exact ⟨h.c0.kc hk (by omega), h.c1.kc hk (by omega), h.c2.kc hk (by omega), h.c3.kc hk (by omega), h.c4.set _, h.bel.setCell (p := ⟨w.heap.size + 1 + 1 + 1 + 1, 0, none⟩) (by show w.heap.size ≤ w.heap.size + 1 + 1 + 1 + 1; omega) _⟩
theorem WI.res (h : WI w hv lv lt most r n W) (r' : Bool) : WI w hv lv lt most r' n (W.setCell ⟨w.heap.size + 1 + 1 + 1, 0, none⟩ (.bool r')) := by
  have hk : KC (fun q => q = w.heap.size + 1 + 1 + 1) W (W.setCell ⟨w.heap.size + 1 + 1 + 1, 0, none⟩ (.bool r')) := KC.of_kp (Kp.setCell _ 0 _) (fun _ _ e => e)
  exact ⟨h.c0.kc hk (by omega), h.c1.kc hk (by omega), h.c2.kc hk (by omega), h.c3.set _, h.c4.kc hk (by omega), h.bel.setCell (p := ⟨w.heap.size + 1 + 1 + 1, 0, none⟩) (by show w.heap.size ≤ w.heap.size + 1 + 1 + 1; omega) _⟩
end
theorem below_next {B : Nat} {A M C : World} (h : Below B A M) (k : Below M.heap.size M C) (hB : B ≤ A.heap.size := by exact Nat.le_refl _) : Below B A C := h.trans (k.mono (Nat.le_trans hB h.size))
theorem WI.start (w : World) (hv lv : Value) (lt : TypeId) (most : Int) : WI w hv lv lt most false 0 (((((w.alloc (.cells #[hv] 72)).alloc (.cells #[lv] lt)).alloc (.cells #[.int .i64 most] 3)).alloc (.cells #[.bool false] 4)).alloc (.cells #[.int .i64 0] 3)) := by
  have e : ∀ (V : World) (v : Value) (t : TypeId) (k : Nat), V.heap.size = k → Cel (V.alloc (.cells #[v] t)) k v t := fun V v t k h => by subst h; exact Cel.new _ _ _
  refine ⟨((((e _ _ _ _ rfl).alloc _).alloc _).alloc _).alloc _, (((e _ _ _ _ (by simp)).alloc _).alloc _).alloc _, ((e _ _ _ _ (by simp)).alloc _).alloc _, (e _ _ _ _ (by simp)).alloc _, e _ _ _ _ (by simp), ?_⟩
  exact below_next (below_next (below_next (below_next (below_alloc _ _) (below_alloc _ _)) (below_alloc _ _)) (below_alloc _ _)) (below_alloc _ _)
end Go.Proofs.Ytodihepgfpbonaa.Tb
