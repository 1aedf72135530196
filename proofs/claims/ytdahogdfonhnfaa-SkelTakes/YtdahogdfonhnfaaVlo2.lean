/- One more behind a list of them; one in the midst put anew. -/
import Derived.Test.YtdahogdfonhnfaaVlo
import Derived.Laws.AppendOwnNone
import Derived.ArgAppend
import Derived.Test.YtdahogdfonhnfaaVrw
namespace Go.Proofs.Ytdahogdfonhnfaa.Ox
open Go.ChangeShapes Go.WideShapes Go.ChangeAt Go.RowKit
open Go.Proofs.Ytdahogdfonhnfaa.By (hid grown_none grown_of_alloc)
open Go.Proofs.Ytdahogdfonhnfaa.Ou (OE oL ov LDo SVo infoo)
open Go.Proofs.Ytdahogdfonhnfaa.Tb (put put_get put_length)
theorem infoO : (Try.prog.info? 28).map (fun i => (i.zero, i.size, i.bytes)) = some (some (.agg #[.int .u8 0, .int .i64 0, .int .u8 0, .int .i64 0, .int .i64 0, .slice none 0 0, .slice none 0 0]), 7, 88) := by kernel_rfl
theorem RB.cells {w : World} {ad : Addr} {cap n : Nat} {f : Nat → OE} (h : RB w (.slice (some ad) n cap) n f) : ∀ j u, (sl n f)[j]? = some u → w.cell? (ad.add j) = some u := by
  obtain ⟨a', cap', hv, _, _, h0⟩ := h
  simp only [Value.slice.injEq, true_and] at hv
  obtain ⟨rfl, rfl⟩ := hv
  rcases h0 with ⟨h0, _⟩ | ⟨b, off, e, hc⟩
  · subst h0; intro j u hj; simp [sl_zero] at hj
  · cases e
    intro j u hj
    rw [By.add_plain]; exact hc j u hj
theorem sl_single (s : OE) : sl 1 (fun _ => s) = oE s := by rw [sl_succ, sl_zero, List.nil_append]
theorem sl_snoc {n : Nat} {f : Nat → OE} {s : OE} (h : f n = s) : sl n f ++ oE s = sl (n + 1) f := by rw [sl_succ, h]
theorem cells_new (w : World) (s : OE) (g : Nat) (hg : g = w.heap.size) : ∀ j u, (oE s)[j]? = some u → (w.alloc (.cells (oE s).toArray 28)).cell? ((⟨g, 0, none⟩ : Addr).add j) = some u := by
  subst hg
  have h := World.ownsRow_lit (base := 0) (e := 28) (size := 7) w (oE s).toArray 1 (Nat.zero_le _) (by simp [maxLen]) rfl
  exact h.cells rfl
theorem wpList_pushK {w : World} {ops : Array Oper} {rest : List Oper} {o : Oper} {a : Act} {Q : Exit → Act → World → Prop} (hgd : o.guard = none) (s x : Operand)
    (ho : o.op = .call { callee := .builtin .append, args := #[s, x], argTypes := #[22, 22] })
    (base n : Nat) (v : Value) (f : Nat → OE) (y : OE) (hv : Own w base v n f) (hN : (n + 1) * 88 ≤ 140737488355328) (hy : f n = y) (hb : base ≤ w.heap.size)
    (hs : a.eval s = v) (hx : a.eval x = .slice (some ⟨w.heap.size, 0, none⟩) 1 1)
    (h : ∀ v' w', Own w' base v' (n + 1) f → w.grownBy w' v.ownBlock → wpList Try.prog ops Q rest (a.put o.dst v') w') : wpList Try.prog ops Q (o :: rest) a (w.alloc (.cells (oE y).toArray 28)) := by
  obtain ⟨i0, hi, hz0, hz1, hz2⟩ := info_parts infoO
  refine wpList_append_own _ hgd s x 22 ho base 28 i0 (.agg #[.int .u8 0, .int .i64 0, .int .u8 0, .int .i64 0, .int .i64 0, .slice none 0 0, .slice none 0 0]) 7 88 Try.underlying22 hi hz0 hz1 hz2 rfl (by decide) _ _ _ hs (own_alloc hv _) ⟨w.heap.size, 0, none⟩ 1 1 (oE y) hx rfl (cells_new w y _ rfl) (oE_one y) (by simp [maxLen]; omega) hN (by simp; omega) ?_
  intro v' w' hown hgr _
  rw [sl_snoc hy] at hown
  exact h v' w' hown (grown_of_alloc hgr)
theorem below_push {w w' w1 : World} {B : Nat} {v : Value} {n : Nat} {f : Nat → OE} (hb : Below B w w') (hB : B ≤ w'.heap.size) (ho : Own w' B v n f) (hg : w'.grownBy w1 v.ownBlock) : Below B w w1 := hb.grown hg hB (own_row ho)
theorem own_some {w : World} {base : Nat} {v : Value} {n : Nat} {f : Nat → OE} (h : Own w base v n f) (hn : 0 < n) : ∃ g c, v = .slice (some ⟨g, 0, none⟩) n c ∧ n ≤ c := by
  rcases h.shape with ⟨_, h0⟩ | ⟨g, cap, rfl, _, _, hc, _⟩
  · omega
  · exact ⟨g, cap, rfl, hc⟩
theorem own_cell {w : World} {base g n cap : Nat} {f : Nat → OE} (h : Own w base (.slice (some ⟨g, 0, none⟩) n cap) n f) {i j : Nat} (hi : i < n) (hj : j < 7) : w.cell? ⟨g, i * 7 + j, none⟩ = (oE (f i))[j]? ∧ w.frozen? ⟨g, i * 7 + j, none⟩ = false := by
  have h2 : w.ownsRow base 28 7 (.slice (some ⟨g, 0, none⟩) n cap) n (sl n f) := h
  have hl : i * 7 + j < n * 7 := by omega
  exact ⟨(h2.cellAt _ (by omega)).trans (sl_get n f i j hi hj), h2.frozenAt _⟩
theorem own_put {w : World} {base g n cap : Nat} {f : Nat → OE} (h : Own w base (.slice (some ⟨g, 0, none⟩) n cap) n f) {i : Nat} (hi : i < n) (x : OE) :
    (SVo ⟨g, i * 7, none⟩ (oev x)).run Try.prog w = .ok () (w.setCells g (i * 7) (oE x)) ∧ Own (w.setCells g (i * 7) (oE x)) base (.slice (some ⟨g, 0, none⟩) n cap) n (upd f i x) ∧ Kp (fun j => j = g) w (w.setCells g (i * 7) (oE x)) := by
  refine ⟨run_storeVar_mid w g (i * 7) _ (oE x).toArray (fun j hj => ?_) (by simpa using infoE x) (all_oneCell_toArray (oE_one x)), ?_, Tb.Kp.setCells g _ _⟩
  · have hj7 : j < 7 := hj
    obtain ⟨h1, h2⟩ := own_cell h hi hj7
    refine ⟨?_, h2⟩
    rw [h1, List.getElem?_eq_getElem (show j < (oE (f i)).length from hj7)]; rfl
  · have := Rw.row_put (show w.ownsRow base 28 7 (.slice (some ⟨g, 0, none⟩) n cap) n (sl n f) from h) (oE x) (i * 7)
    rw [sl_put n f i x hi] at this
    exact this
theorem own_ld {w : World} {base g n cap : Nat} {f : Nat → OE} (h : Own w base (.slice (some ⟨g, 0, none⟩) n cap) n f) {i : Nat} (hi : i < n) : (LDo ⟨g, i * 7, none⟩).run Try.prog w = .ok (oev (f i)) w := by
  obtain ⟨b, off, e, hl⟩ := h.reads.ld hi
  simp only [Option.some.injEq, Addr.mk.injEq, and_true] at e
  obtain ⟨rfl, rfl⟩ := e
  rwa [Nat.zero_add] at hl
end Go.Proofs.Ytdahogdfonhnfaa.Ox
