/- Lists of skeletons in memory: what a slice reads as, what the call owns, how both stand behind further calls. -/
import Derived.Test.YtdmacflcjbkkpaaGreatCsk
import Derived.Test.YtdmacflcjbkkpaaGreatJb
import Derived.Laws.StructEq
namespace Go.Proofs.YtdmacflcjbkkpaaGreat.Sx
open Go.ChangeShapes Go.WideShapes Go.ChangeAt Go.RowKit
open Go.Proofs.YtdmacflcjbkkpaaGreat.By (hid grown_none grown_of_alloc grown_step grown_cell apart_symm lv)
open Go.Proofs.YtdmacflcjbkkpaaGreat.Ou (Sk sL sv LDk SVk sL_one infok zS)
open Go.Proofs.YtdmacflcjbkkpaaGreat.Tb (put put_get put_length)
/-- The cells of n skeletons. -/
def sl (n : Nat) (f : Nat → Sk) : List Value := (List.range n).flatMap (fun i => sL (f i))
theorem sl_zero (f : Nat → Sk) : sl 0 f = [] := rfl
theorem sl_succ (n : Nat) (f : Nat → Sk) : sl (n + 1) f = sl n f ++ sL (f n) := by simp [sl, List.range_succ]
theorem sL_len (s : Sk) : (sL s).length = 7 := rfl
theorem sl_length (n : Nat) (f : Nat → Sk) : (sl n f).length = n * 7 := by
  induction n with
  | zero => rfl
  | succ n ih => rw [sl_succ, List.length_append, ih, sL_len]; omega
theorem sl_get (n : Nat) (f : Nat → Sk) (i j : Nat) (h : i < n) (hj : j < 7) : (sl n f)[i * 7 + j]? = (sL (f i))[j]? := by
  induction n with
  | zero => omega
  | succ n ih =>
    rw [sl_succ]
    by_cases e : i < n
    · rw [List.getElem?_append_left (by rw [sl_length]; omega)]; exact ih e
    · obtain rfl : i = n := by omega
      rw [List.getElem?_append_right (by rw [sl_length]; omega), sl_length, show i * 7 + j - i * 7 = j by omega]
theorem sl_get_inv (n : Nat) (f : Nat → Sk) (p : Nat) (u : Value) (h : (sl n f)[p]? = some u) : p / 7 < n ∧ (sL (f (p / 7)))[p % 7]? = some u := by
  have hp : p < n * 7 := by
    obtain ⟨h1, _⟩ := List.getElem?_eq_some_iff.1 h
    rwa [sl_length] at h1
  have e : p = p / 7 * 7 + p % 7 := by omega
  refine ⟨by omega, ?_⟩
  rw [← sl_get n f (p / 7) (p % 7) (by omega) (by omega), ← e]; exact h
theorem sl_one (n : Nat) (f : Nat → Sk) : ∀ u ∈ sl n f, u.oneCell' = true := by
  intro u hu
  simp only [sl, List.mem_flatMap] at hu
  obtain ⟨i, _, h⟩ := hu
  exact sL_one (f i) u h
theorem sl_congr (n : Nat) (f g : Nat → Sk) (h : ∀ i, i < n → f i = g i) : sl n f = sl n g := by
  induction n with
  | zero => rfl
  | succ n ih => rw [sl_succ, sl_succ, ih (fun i hi => h i (by omega)), h n (by omega)]
theorem sl_take (n m : Nat) (f : Nat → Sk) (h : n ≤ m) : (sl m f).take (n * 7) = sl n f := by
  induction m with
  | zero => obtain rfl : n = 0 := by omega
            rfl
  | succ m ih =>
    rw [sl_succ]
    by_cases e : n ≤ m
    · rw [List.take_append_of_le_length (by rw [sl_length]; omega)]; exact ih e
    · obtain rfl : n = m + 1 := by omega
      rw [List.take_of_length_le (by rw [List.length_append, sl_length, sL_len]; omega), sl_succ]
/-- f with x in place i. -/
def upd (f : Nat → Sk) (i : Nat) (x : Sk) (j : Nat) : Sk := if j = i then x else f j
theorem sl_put (n : Nat) (f : Nat → Sk) (i : Nat) (x : Sk) (h : i < n) : put (sl n f) (i * 7) (sL x) = sl n (upd f i x) := by
  apply List.ext_getElem?
  intro p
  rw [put_get _ _ _ _ (by rw [sl_length, sL_len]; omega), sL_len]
  by_cases hp : p < n * 7
  · have e : p = p / 7 * 7 + p % 7 := by omega
    have e2 := sl_get n (upd f i x) (p / 7) (p % 7) (by omega) (by omega)
    have e3 := sl_get n f (p / 7) (p % 7) (by omega) (by omega)
    rw [← e] at e2 e3
    rw [e2, e3]
    unfold upd
    by_cases hi : p / 7 = i
    · rw [if_pos (by omega), if_pos hi, show p - i * 7 = p % 7 by omega]
    · rw [if_neg (by omega), if_neg hi]
  · rw [if_neg (by omega), List.getElem?_eq_none (by rw [sl_length]; omega), List.getElem?_eq_none (by rw [sl_length]; omega)]
/-- The slice v reads as n skeletons. -/
def RB (w : World) (v : Value) (n : Nat) (f : Nat → Sk) : Prop :=
  ∃ a cap, v = .slice a n cap ∧ n ≤ cap ∧ cap ≤ maxLen ∧
    ((n = 0 ∧ (a = none → cap = 0)) ∨ ∃ b off, a = some ⟨b, off, none⟩ ∧ ∀ p u, (sl n f)[p]? = some u → w.cell? ⟨b, off + p, none⟩ = some u)
theorem RB.below {w w' : World} {v : Value} {n : Nat} {f : Nat → Sk} (h : RB w v n f) (hb : Below w.heap.size w w') : RB w' v n f := by
  obtain ⟨a, cap, rfl, h1, h2, h0 | ⟨b, off, rfl, hc⟩⟩ := h
  · exact ⟨a, cap, rfl, h1, h2, .inl h0⟩
  · refine ⟨_, cap, rfl, h1, h2, .inr ⟨b, off, rfl, fun p u hu => ?_⟩⟩
    have := hc p u hu
    rw [hb.cell (p := ⟨b, off + p, none⟩) (block_lt_of_cell this)]; exact this
theorem RB.congr {w : World} {v : Value} {n : Nat} {f g : Nat → Sk} (h : RB w v n f) (e : ∀ i, i < n → f i = g i) : RB w v n g := by
  obtain ⟨a, cap, rfl, h1, h2, h0 | ⟨b, off, rfl, hc⟩⟩ := h
  · exact ⟨a, cap, rfl, h1, h2, .inl h0⟩
  · exact ⟨_, cap, rfl, h1, h2, .inr ⟨b, off, rfl, fun p u hu => hc p u (by rw [sl_congr n f g e]; exact hu)⟩⟩
theorem RB.isSl {w : World} {v : Value} {n : Nat} {f : Nat → Sk} (h : RB w v n f) : ∃ a c, v = .slice a n c := by
  obtain ⟨a, c, e, _⟩ := h; exact ⟨a, c, e⟩
/-- The first k of a list. -/
theorem RB.first {w : World} {a : Option Addr} {cap n : Nat} {f : Nat → Sk} (h : RB w (.slice a n cap) n f) (k : Nat) (hk : k ≤ n) : RB w (.slice a k cap) k f := by
  obtain ⟨a', cap', hv, h1, h2, h0⟩ := h
  simp at hv
  obtain ⟨rfl, rfl⟩ := hv
  refine ⟨_, _, rfl, by omega, h2, ?_⟩
  rcases h0 with h0 | ⟨b, off, rfl, hc⟩
  · exact .inl ⟨by omega, h0.2⟩
  · refine .inr ⟨b, off, rfl, fun p u hu => hc p u ?_⟩
    rw [← sl_take k n f hk] at hu
    rw [List.getElem?_take] at hu
    split at hu
    · exact hu
    · cases hu
/-- Loading one of them. -/
theorem RB.ld {w : World} {a : Option Addr} {n cap i : Nat} {f : Nat → Sk} (h : RB w (.slice a n cap) n f) (hi : i < n) : ∃ b off, a = some ⟨b, off, none⟩ ∧ (LDk ⟨b, off + i * 7, none⟩).run Tryz.prog w = .ok (sv (f i)) w := by
  obtain ⟨a', cap', hv, _, _, h0⟩ := h
  simp only [Value.slice.injEq, true_and] at hv
  obtain ⟨rfl, rfl⟩ := hv
  rcases h0 with ⟨h0, _⟩ | ⟨b, off, rfl, hc⟩
  · omega
  · refine ⟨b, off, rfl, run_loadVar_mid w b (off + i * 7) _ (sL (f i)) _ (fun j u hu => ?_) Tryz.underlying40 rfl (infok _)⟩
    have hj : j < 7 := (List.getElem?_eq_some_iff.1 hu).1
    rw [Nat.add_assoc]
    exact hc (i * 7 + j) u (by rw [sl_get n f i j hi hj]; exact hu)
/-- Loading one of them, in any world that has all that w has. -/
theorem RB.ldB {w : World} {a : Option Addr} {n cap i : Nat} {f : Nat → Sk} (h : RB w (.slice a n cap) n f) (hi : i < n) : ∃ b off, a = some ⟨b, off, none⟩ ∧ ∀ V, Below w.heap.size w V → (LDk ⟨b, off + i * 7, none⟩).run Tryz.prog V = .ok (sv (f i)) V := by
  obtain ⟨b, off, rfl, _⟩ := h.ld hi
  refine ⟨b, off, rfl, fun V hV => ?_⟩
  obtain ⟨b', off', e, h2⟩ := (h.below hV).ld hi
  simp only [Option.some.injEq, Addr.mk.injEq, and_true] at e
  obtain ⟨rfl, rfl⟩ := e
  exact h2
/-- The call owns the slice v: n skeletons f, from block 'base' on. -/
def Own (w : World) (base : Nat) (v : Value) (n : Nat) (f : Nat → Sk) : Prop := w.ownsRow base 40 7 v n (sl n f)
theorem Own.shape {w : World} {base : Nat} {v : Value} {n : Nat} {f : Nat → Sk} (h : Own w base v n f) :
    (v = .slice none 0 0 ∧ n = 0) ∨ ∃ g cap, v = .slice (some ⟨g, 0, none⟩) n cap ∧ base ≤ g ∧ g < w.heap.size ∧ n ≤ cap ∧ cap ≤ maxLen ∧
      (∀ p u, (sl n f)[p]? = some u → w.cell? ⟨g, p, none⟩ = some u) ∧ ∀ p, w.frozen? ⟨g, p, none⟩ = false := by
  rcases h.2 with hn | ⟨g, cap, cur, rfl, hb, hg, hnc, hcm, hcs, ht⟩
  · exact .inl hn
  · have h2 : w.ownsRow base 40 7 (.slice (some ⟨g, 0, none⟩) n cap) n (Sx.sl n f) := h
    refine .inr ⟨g, cap, rfl, hb, (Array.getElem?_eq_some_iff.1 hg).1, hnc, hcm, fun p u hu => ?_, fun i => h2.frozenAt i⟩
    have hp : p < n * 7 := by have := (List.getElem?_eq_some_iff.1 hu).1; rwa [sl_length] at this
    exact (h2.cellAt p (by omega)).trans hu
theorem Own.reads {w : World} {base : Nat} {v : Value} {n : Nat} {f : Nat → Sk} (h : Own w base v n f) : RB w v n f := by
  rcases h.shape with ⟨rfl, rfl⟩ | ⟨g, cap, rfl, _, _, hnc, hcm, hc, _⟩
  · exact ⟨none, 0, rfl, Nat.le_refl _, by simp [maxLen], .inl ⟨rfl, fun _ => rfl⟩⟩
  · exact ⟨_, _, rfl, hnc, hcm, .inr ⟨g, 0, rfl, fun p u hu => by rw [Nat.zero_add]; exact hc p u hu⟩⟩
theorem own_nil (w : World) (base : Nat) (f : Nat → Sk) : Own w base (.slice none 0 0) 0 f := World.ownsRow_nil _ _ _ _
theorem own_lt {w : World} {base : Nat} {v : Value} {n : Nat} {f : Nat → Sk} (h : Own w base v n f) (q : Nat) (hq : v.ownBlock = some q) : q < w.heap.size := by
  rcases h.shape with ⟨rfl, _⟩ | ⟨g, cap, rfl, _, hl, _⟩
  · simp [Value.ownBlock] at hq
  · simp [Value.ownBlock] at hq; omega
theorem own_row {w : World} {base : Nat} {v : Value} {n : Nat} {f : Nat → Sk} (h : Own w base v n f) (q : Nat) (hq : v.ownBlock = some q) : base ≤ q := by
  rcases h.shape with ⟨rfl, _⟩ | ⟨g, cap, rfl, hb, _⟩
  · simp [Value.ownBlock] at hq
  · simp [Value.ownBlock] at hq; omega
theorem own_congr {w : World} {base : Nat} {v : Value} {n : Nat} {f g : Nat → Sk} (h : Own w base v n f) (e : ∀ i, i < n → f i = g i) : Own w base v n g := by
  unfold Own; rw [← sl_congr n f g e]; exact h
theorem own_base {w : World} {base base' : Nat} {v : Value} {n : Nat} {f : Nat → Sk} (h : Own w base v n f) (hb : base' ≤ base) : Own w base' v n f := by
  obtain ⟨h1, h2⟩ := h
  refine ⟨h1, ?_⟩
  rcases h2 with h2 | ⟨g, cap, cur, e1, e2, e3⟩
  · exact .inl h2
  · exact .inr ⟨g, cap, cur, e1, by omega, e3⟩
theorem own_keptK {S : Nat → Prop} {w w' : World} {base : Nat} {v : Value} {n : Nat} {f : Nat → Sk} (h : Own w base v n f) (hk : Kp S w w') (hne : ∀ g, v.ownBlock = some g → ¬ S g) : Own w' base v n f := by
  refine ⟨h.1, ?_⟩
  rcases h.2 with hn | ⟨g, cap, cur, rfl, hb, hg, hr⟩
  · exact .inl hn
  · exact .inr ⟨g, cap, cur, rfl, hb, (hk.block g (Array.getElem?_eq_some_iff.1 hg).1 (hne g rfl)).trans hg, hr⟩
theorem own_below {w w' : World} {base : Nat} {v : Value} {n : Nat} {f : Nat → Sk} (h : Own w base v n f) (hb : Below w.heap.size w w') : Own w' base v n f := own_keptK h (Kp.of_below (fun _ => False) hb) (fun _ _ e => e)
theorem own_kept {w w' : World} {base : Nat} {v : Value} {n : Nat} {f : Nat → Sk} {row : Option Nat} (h : Own w base v n f) (hg : w.grownBy w' row) (hne : v.ownBlock = none ∨ v.ownBlock ≠ row) : Own w' base v n f := World.ownsRow.kept h hg hne
theorem own_alloc {w : World} {base : Nat} {v : Value} {n : Nat} {f : Nat → Sk} (h : Own w base v n f) (o : Obj) : Own (w.alloc o) base v n f := own_below h (below_alloc w o)
end Go.Proofs.YtdmacflcjbkkpaaGreat.Sx
