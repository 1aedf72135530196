/- One more behind a list of them; one in the midst put anew. -/
import Derived.Test.YtdahogdfonhnfaaVlf
import Derived.Laws.AppendOwnNone
import Derived.ArgAppend
import Derived.Test.YtdahogdfonhnfaaVrw
namespace Go.Proofs.Ytdahogdfonhnfaa.Fx
open Go.ChangeShapes Go.WideShapes Go.ChangeAt Go.RowKit
open Go.Proofs.Ytdahogdfonhnfaa.By (hid grown_none grown_of_alloc)
open Go.Proofs.Ytdahogdfonhnfaa.Ou (LDa SVa infoa)
open Go.Proofs.Ytdahogdfonhnfaa.Tb (put put_get put_length)
theorem infoP : (Try.prog.info? 29).map (fun i => (i.zero, i.size, i.bytes)) = some (some (.agg #[.slice none 0 0, .slice none 0 0]), 2, 48) := by kernel_rfl
theorem RB.cells {w : World} {ad : Addr} {cap n : Nat} {f : Nat → Fu} (h : RB w (.slice (some ad) n cap) n f) : ∀ j u, (sl n f)[j]? = some u → w.cell? (ad.add j) = some u := by
  obtain ⟨a', cap', hv, _, _, h0⟩ := h
  simp only [Value.slice.injEq, true_and] at hv
  obtain ⟨rfl, rfl⟩ := hv
  rcases h0 with ⟨h0, _⟩ | ⟨b, off, e, hc⟩
  · subst h0; intro j u hj; simp [sl_zero] at hj
  · cases e
    intro j u hj
    rw [By.add_plain]; exact hc j u hj
theorem sl_single (s : Fu) : sl 1 (fun _ => s) = fL s := by rw [sl_succ, sl_zero, List.nil_append]
theorem sl_snoc {n : Nat} {f : Nat → Fu} {s : Fu} (h : f n = s) : sl n f ++ fL s = sl (n + 1) f := by rw [sl_succ, h]
theorem cells_new (w : World) (s : Fu) (g : Nat) (hg : g = w.heap.size) : ∀ j u, (fL s)[j]? = some u → (w.alloc (.cells (fL s).toArray 29)).cell? ((⟨g, 0, none⟩ : Addr).add j) = some u := by
  subst hg
  have h := World.ownsRow_lit (base := 0) (e := 29) (size := 2) w (fL s).toArray 1 (Nat.zero_le _) (by simp [maxLen]) rfl
  exact h.cells rfl
theorem wpList_pushK {w : World} {ops : Array Oper} {rest : List Oper} {o : Oper} {a : Act} {Q : Exit → Act → World → Prop} (hgd : o.guard = none) (s x : Operand)
    (ho : o.op = .call { callee := .builtin .append, args := #[s, x], argTypes := #[23, 23] })
    (base n : Nat) (v : Value) (f : Nat → Fu) (y : Fu) (hv : Own w base v n f) (hN : (n + 1) * 48 ≤ 140737488355328) (hy : f n = y) (hb : base ≤ w.heap.size)
    (hs : a.eval s = v) (hx : a.eval x = .slice (some ⟨w.heap.size, 0, none⟩) 1 1)
    (h : ∀ v' w', Own w' base v' (n + 1) f → w.grownBy w' v.ownBlock → wpList Try.prog ops Q rest (a.put o.dst v') w') : wpList Try.prog ops Q (o :: rest) a (w.alloc (.cells (fL y).toArray 29)) := by
  obtain ⟨i0, hi, hz0, hz1, hz2⟩ := info_parts infoP
  refine wpList_append_own _ hgd s x 23 ho base 29 i0 (.agg #[.slice none 0 0, .slice none 0 0]) 2 48 Try.underlying23 hi hz0 hz1 hz2 rfl (by decide) _ _ _ hs (own_alloc hv _) ⟨w.heap.size, 0, none⟩ 1 1 (fL y) hx rfl (cells_new w y _ rfl) (fL_one y) (by simp [maxLen]; omega) hN (by simp; omega) ?_
  intro v' w' hown hgr _
  rw [sl_snoc hy] at hown
  exact h v' w' hown (grown_of_alloc hgr)
theorem below_push {w w' w1 : World} {B : Nat} {v : Value} {n : Nat} {f : Nat → Fu} (hb : Below B w w') (hB : B ≤ w'.heap.size) (ho : Own w' B v n f) (hg : w'.grownBy w1 v.ownBlock) : Below B w w1 := hb.grown hg hB (own_row ho)
theorem own_some {w : World} {base : Nat} {v : Value} {n : Nat} {f : Nat → Fu} (h : Own w base v n f) (hn : 0 < n) : ∃ g c, v = .slice (some ⟨g, 0, none⟩) n c ∧ n ≤ c := by
  rcases h.shape with ⟨_, h0⟩ | ⟨g, cap, rfl, _, _, hc, _⟩
  · omega
  · exact ⟨g, cap, rfl, hc⟩
theorem own_cell {w : World} {base g n cap : Nat} {f : Nat → Fu} (h : Own w base (.slice (some ⟨g, 0, none⟩) n cap) n f) {i j : Nat} (hi : i < n) (hj : j < 2) : w.cell? ⟨g, i * 2 + j, none⟩ = (fL (f i))[j]? ∧ w.frozen? ⟨g, i * 2 + j, none⟩ = false := by
  have h2 : w.ownsRow base 29 2 (.slice (some ⟨g, 0, none⟩) n cap) n (sl n f) := h
  have hl : i * 2 + j < n * 2 := by omega
  exact ⟨(h2.cellAt _ (by omega)).trans (sl_get n f i j hi hj), h2.frozenAt _⟩
theorem own_put {w : World} {base g n cap : Nat} {f : Nat → Fu} (h : Own w base (.slice (some ⟨g, 0, none⟩) n cap) n f) {i : Nat} (hi : i < n) (x : Fu) :
    (SVa ⟨g, i * 2, none⟩ (fv x)).run Try.prog w = .ok () (w.setCells g (i * 2) (fL x)) ∧ Own (w.setCells g (i * 2) (fL x)) base (.slice (some ⟨g, 0, none⟩) n cap) n (upd f i x) ∧ Kp (fun j => j = g) w (w.setCells g (i * 2) (fL x)) := by
  refine ⟨run_storeVar_mid w g (i * 2) _ (fL x).toArray (fun j hj => ?_) (by simpa using infoF x) (all_oneCell_toArray (fL_one x)), ?_, Tb.Kp.setCells g _ _⟩
  · have hj7 : j < 2 := hj
    obtain ⟨h1, h2⟩ := own_cell h hi hj7
    refine ⟨?_, h2⟩
    rw [h1, List.getElem?_eq_getElem (show j < (fL (f i)).length from hj7)]; rfl
  · have := Rw.row_put (show w.ownsRow base 29 2 (.slice (some ⟨g, 0, none⟩) n cap) n (sl n f) from h) (fL x) (i * 2)
    rw [sl_put n f i x hi] at this
    exact this
theorem own_ld {w : World} {base g n cap : Nat} {f : Nat → Fu} (h : Own w base (.slice (some ⟨g, 0, none⟩) n cap) n f) {i : Nat} (hi : i < n) : (LDa ⟨g, i * 2, none⟩).run Try.prog w = .ok (fv (f i)) w := by
  obtain ⟨b, off, e, hl⟩ := h.reads.ld hi
  simp only [Option.some.injEq, Addr.mk.injEq, and_true] at e
  obtain ⟨rfl, rfl⟩ := e
  rwa [Nat.zero_add] at hl
end Go.Proofs.Ytdahogdfonhnfaa.Fx
