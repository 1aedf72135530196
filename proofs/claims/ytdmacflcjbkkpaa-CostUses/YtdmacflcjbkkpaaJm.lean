/- Other numbers where a kind uses none (pure): the same rows and codes of a whole list. One more skeleton behind a list of skeletons. -/
import Derived.Test.YtdmacflcjbkkpaaJp
import Derived.Test.YtdmacflcjbkkpaaCck
import Derived.Test.YtdmacflcjbkkpaaCls
import Derived.Laws.AppendOwnNone
namespace Go.Proofs.Ytdmacflcjbkkpaa.Co
open Go.Proofs.Ytdmacflcjbkkpaa.Ou (Sk ps uH uA uC uO uD uM)
/-- A skeleton of another's kind that has what the kind uses from it, the rest from x. -/
def mx (x s : Sk) : Sk :=
  if s.k = 1 then ⟨s.k, x.h, x.a, x.c, x.o, s.d, x.m⟩
  else if s.k = 2 then ⟨s.k, s.h, s.a, x.c, s.o, s.d, x.m⟩
  else if s.k = 3 ∨ s.k = 5 then ⟨s.k, s.h, x.a, x.c, x.o, s.d, x.m⟩
  else if s.k = 4 ∨ s.k = 6 ∨ s.k = 9 ∨ s.k = 10 then ⟨s.k, s.h, x.a, x.c, x.o, x.d, x.m⟩
  else if s.k = 7 then ⟨s.k, s.h, s.a, x.c, s.o, s.d, s.m⟩
  else if s.k = 8 then ⟨s.k, s.h, s.a, s.c, s.o, s.d, x.m⟩
  else ⟨s.k, x.h, x.a, x.c, x.o, x.d, x.m⟩
theorem ps_mx (x s : Sk) : ps (mx x s) = ps s := by
  obtain ⟨k, h, a, c, o, d, m⟩ := s
  by_cases hk : k < 1 ∨ 10 < k
  · have e : mx x ⟨k, h, a, c, o, d, m⟩ = ⟨k, x.h, x.a, x.c, x.o, x.d, x.m⟩ := by
      unfold mx
      simp only
      rw [if_neg (by omega), if_neg (by omega), if_neg (by omega), if_neg (by omega), if_neg (by omega), if_neg (by omega)]
    rw [e]
    simp [ps, uH, uA, uC, uO, uD, uM]
    omega
  · rcases ten hk with rfl | rfl | rfl | rfl | rfl | rfl | rfl | rfl | rfl | rfl <;> simp [mx, ps, uH, uA, uC, uO, uD, uM]
theorem aft_alike {f g : Nat → Sk} : ∀ n, (∀ i, i < n → ps (f i) = ps (g i)) → aft P00 (lf f n) = aft P00 (lf g n)
  | 0, _ => rfl
  | n + 1, h => by rw [aft_next, aft_next, aft_alike n (fun i hi => h i (by omega)), (row_alike (h n (by omega))).2.1]
theorem rr_alike {f g : Nat → Sk} {n : Nat} (h : ∀ i, i < n → ps (f i) = ps (g i)) {i : Nat} (hi : i < n) : rr f i = rr g i := by
  unfold rr
  rw [aft_alike i (fun j hj => h j (by omega)), (row_alike (h i hi)).1]
theorem cc_alike {f g : Nat → Sk} {n : Nat} (h : ∀ i, i < n → ps (f i) = ps (g i)) {i : Nat} (hi : i < n) : cc f i = cc g i := by
  unfold cc
  rw [aft_alike i (fun j hj => h j (by omega)), (row_alike (h i hi)).2.2]
theorem rws_alike {f g : Nat → Sk} {n : Nat} (h : ∀ i, i < n → ps (f i) = ps (g i)) : rws P00 (lf f n) = rws P00 (lf g n) := by
  rw [rws_rr, rws_rr]
  exact List.map_congr_left (fun i hi => rr_alike h (by simpa using hi))
end Go.Proofs.Ytdmacflcjbkkpaa.Co
namespace Go.Proofs.Ytdmacflcjbkkpaa.Sx
open Go.ChangeShapes Go.WideShapes Go.ChangeAt Go.RowKit
open Go.Proofs.Ytdmacflcjbkkpaa.By (hid grown_none grown_of_alloc grown_step grown_cell apart_symm lv)
open Go.Proofs.Ytdmacflcjbkkpaa.Ou (Sk sL sv LDk SVk sL_one infok zS)
theorem infoS : (Try.prog.info? 25).map (fun i => (i.zero, i.size, i.bytes)) = some (some (sv zS), 7, 56) := by kernel_rfl
theorem sl_snoc {n : Nat} {f : Nat → Sk} {s : Sk} (h : f n = s) : sl n f ++ sL s = sl (n + 1) f := by rw [sl_succ, h]
theorem cells_new (w : World) (s : Sk) (g : Nat) (hg : g = w.heap.size) : ∀ j u, (sL s)[j]? = some u → (w.alloc (.cells (sL s).toArray 25)).cell? ((⟨g, 0, none⟩ : Addr).add j) = some u := by
  subst hg
  have h := World.ownsRow_lit (base := 0) (e := 25) (size := 7) w (sL s).toArray 1 (Nat.zero_le _) (by simp [maxLen]) rfl
  exact h.cells rfl
/-- One more. -/
theorem wpList_pushK {w : World} {ops : Array Oper} {rest : List Oper} {o : Oper} {a : Act} {Q : Exit → Act → World → Prop} (hgd : o.guard = none) (s x : Operand)
    (ho : o.op = .call { callee := .builtin .append, args := #[s, x], argTypes := #[39, 39] })
    (base n : Nat) (v : Value) (f : Nat → Sk) (y : Sk) (hv : Own w base v n f) (hN : (n + 1) * 56 ≤ 140737488355328) (hy : f n = y) (hb : base ≤ w.heap.size)
    (hs : a.eval s = v) (hx : a.eval x = .slice (some ⟨w.heap.size, 0, none⟩) 1 1)
    (h : ∀ v' w', Own w' base v' (n + 1) f → w.grownBy w' v.ownBlock → wpList Try.prog ops Q rest (a.put o.dst v') w') : wpList Try.prog ops Q (o :: rest) a (w.alloc (.cells (sL y).toArray 25)) := by
  obtain ⟨i0, hi, hz0, hz1, hz2⟩ := info_parts infoS
  refine wpList_append_own _ hgd s x 39 ho base 25 i0 (sv zS) 7 56 Try.underlying39 hi hz0 hz1 hz2 rfl (by decide) _ _ _ hs (own_alloc hv _) ⟨w.heap.size, 0, none⟩ 1 1 (sL y) hx rfl (cells_new w y _ rfl) (sL_one y) (by simp [maxLen]; omega) hN (by simp; omega) ?_
  intro v' w' hown hgr _
  rw [sl_snoc hy] at hown
  exact h v' w' hown (grown_of_alloc hgr)
theorem room {n k : Nat} (h : (n + 6) * 56 ≤ 140737488355328) (hk : k ≤ 6) : (n + k) * 56 ≤ 140737488355328 := Nat.le_trans (Nat.mul_le_mul_right 56 (Nat.add_le_add_left hk n)) h
theorem below_push {w w' w1 : World} {B : Nat} {v : Value} {n : Nat} {f : Nat → Sk} (hb : Below B w w') (hB : B ≤ w'.heap.size) (ho : Own w' B v n f) (hg : w'.grownBy w1 v.ownBlock) : Below B w w1 := hb.grown hg hB (own_row ho)
end Go.Proofs.Ytdmacflcjbkkpaa.Sx
