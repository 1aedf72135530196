/- Lists of bytes in memory: what a slice reads as (length and bytes), what the call itself owns, and how both stand behind further calls; no function of the program in it. What the statements' helpers on lists of bytes answer (lists lent, copied, held against each other, written over), for every list and world; and small facts on lists that were just built. One byte appended to a list that the call owns; several lists that lie apart; what the helper ApartBytes answers. -/
import Derived.WalkKit
import Derived.ProofKit
import Derived.Below
import Derived.BigQuiet
import Derived.Deep.QuietTactic
import Derived.Test.YtdmacflcjbkkpaaGreatRows
import Derived.ArgAppend
import Derived.WalkSpells
import Derived.Deep.RegionHeld3
import Derived.Deep.DeepMust
import Derived.Laws.AppendOwnNone
namespace Go.Proofs.YtdmacflcjbkkpaaGreat.By
open Go.ChangeShapes Go.WideShapes Go.ChangeAt Go.RowKit
theorem hid {p : Prop} (h : p) : Hid p := h
/-- The slice v reads as n bytes, byte i being f i. -/
def RB (w : World) (v : Value) (n : Nat) (f : Nat → Int) : Prop :=
  (∀ i, 0 ≤ f i ∧ f i < 256) ∧ ∃ a cap, v = .slice a n cap ∧ n ≤ cap ∧ cap ≤ maxLen ∧
    ((n = 0 ∧ (a = none → cap = 0)) ∨ ∃ b off, a = some ⟨b, off, none⟩ ∧ ∀ i, i < n → w.cell? ⟨b, off + i, none⟩ = some (.int .u8 (f i)))

/-- n bytes as cells. -/
def bl (n : Nat) (f : Nat → Int) : List Value := (List.range n).map fun i => Value.int .u8 (f i)
theorem bl_length (n : Nat) (f : Nat → Int) : (bl n f).length = n := by simp [bl]
theorem bl_get (n : Nat) (f : Nat → Int) (i : Nat) (h : i < n) : (bl n f)[i]? = some (.int .u8 (f i)) := by
  simp [bl, h]
theorem bl_get_inv (n : Nat) (f : Nat → Int) (i : Nat) (u : Value) (h : (bl n f)[i]? = some u) : i < n ∧ u = .int .u8 (f i) := by
  have hi : i < n := by
    have := List.getElem?_eq_some_iff.1 h
    obtain ⟨h1, _⟩ := this
    simpa [bl_length] using h1
  rw [bl_get n f i hi] at h
  exact ⟨hi, (Option.some.inj h).symm⟩
theorem bl_one (n : Nat) (f : Nat → Int) : ∀ u ∈ bl n f, u.oneCell' = true := by
  intro u hu
  simp [bl] at hu
  obtain ⟨i, _, rfl⟩ := hu
  rfl
theorem bl_congr (n : Nat) (f g : Nat → Int) (h : ∀ i, i < n → f i = g i) : bl n f = bl n g := by
  apply List.map_congr_left
  intro i hi
  rw [h i (List.mem_range.1 hi)]
theorem bl_append (n m : Nat) (f g : Nat → Int) : bl n f ++ bl m g = bl (n + m) (fun i => if i < n then f i else g (i - n)) := by
  apply List.ext_getElem?
  intro i
  by_cases h : i < n
  · rw [List.getElem?_append_left (by rw [bl_length]; exact h), bl_get _ _ _ h, bl_get _ _ _ (by omega), if_pos h]
  · rw [List.getElem?_append_right (by rw [bl_length]; omega), bl_length]
    by_cases h2 : i < n + m
    · rw [bl_get _ _ _ (by omega), bl_get _ _ _ h2, if_neg h]
    · rw [List.getElem?_eq_none (by rw [bl_length]; omega), List.getElem?_eq_none (by rw [bl_length]; omega)]
theorem bl_set (n : Nat) (f : Nat → Int) (k : Nat) (x : Int) : (bl n f).set k (.int .u8 x) = bl n (fun i => if i = k then x else f i) := by
  apply List.ext_getElem?
  intro i
  rw [List.getElem?_set]
  by_cases h : i < n
  · by_cases e : k = i
    · subst e; rw [bl_get _ _ _ h]; simp [bl_length, h]; simp [bl]
    · have e' : ¬ i = k := fun h => e h.symm
      rw [bl_get _ _ _ h, bl_get _ _ _ h]; simp [e, e']
  · rw [List.getElem?_eq_none (by rw [bl_length]; omega), List.getElem?_eq_none (by rw [bl_length]; omega)]
    simp only [bl_length]; split
    · rw [if_neg (by omega)]
    · rfl
theorem bl_singleton (x : Int) : [Value.int .u8 x] = bl 1 (fun _ => x) := by simp [bl, List.range_succ]

/-- The call owns the slice v: n bytes f, from block 'base' on. -/
def Own (w : World) (base : Nat) (v : Value) (n : Nat) (f : Nat → Int) : Prop :=
  (∀ i, 0 ≤ f i ∧ f i < 256) ∧ w.ownsRow base 5 1 v n (bl n f)

theorem Own.shape {w : World} {base : Nat} {v : Value} {n : Nat} {f : Nat → Int} (h : Own w base v n f) :
    (v = .slice none 0 0 ∧ n = 0) ∨ ∃ g cap, v = .slice (some ⟨g, 0, none⟩) n cap ∧ base ≤ g ∧ g < w.heap.size ∧ n ≤ cap ∧ cap ≤ maxLen ∧
      (∀ i, i < n → w.cell? ⟨g, i, none⟩ = some (.int .u8 (f i))) ∧ ∀ i, w.frozen? ⟨g, i, none⟩ = false := by
  have h2 := h.2
  rcases h.2.2 with hn | ⟨g, cap, cur, rfl, hb, hg, hnc, hcm, hcs, ht⟩
  · exact .inl hn
  · refine .inr ⟨g, cap, rfl, hb, ?_, hnc, hcm, fun i hi => ?_, fun i => h2.frozenAt i⟩
    · exact (Array.getElem?_eq_some_iff.1 hg).1
    · rw [h2.cellAt i (by omega), bl_get _ _ _ hi]

theorem Own.reads {w : World} {base : Nat} {v : Value} {n : Nat} {f : Nat → Int} (h : Own w base v n f) : RB w v n f := by
  rcases h.shape with ⟨rfl, rfl⟩ | ⟨g, cap, rfl, _, _, hnc, hcm, hc, _⟩
  · exact ⟨h.1, none, 0, rfl, Nat.le_refl _, by simp [maxLen], .inl ⟨rfl, fun _ => rfl⟩⟩
  · exact ⟨h.1, _, _, rfl, hnc, hcm, .inr ⟨g, 0, rfl, fun i hi => by rw [Nat.zero_add]; exact hc i hi⟩⟩

theorem RB.lt {w : World} {v : Value} {n : Nat} {f : Nat → Int} {b off cap : Nat} (h : RB w v n f) (hv : v = .slice (some ⟨b, off, none⟩) n cap) (hn : 0 < n) : b < w.heap.size := by
  obtain ⟨_, a, cap', rfl, _, _, h0 | ⟨b', off', rfl, hc⟩⟩ := h
  · omega
  · simp at hv
    obtain ⟨⟨rfl, rfl⟩, rfl⟩ := hv
    have := hc 0 hn
    exact block_lt_of_cell this

theorem RB.congr {w : World} {v : Value} {n : Nat} {f g : Nat → Int} (h : RB w v n f) (hg : ∀ i, 0 ≤ g i ∧ g i < 256) (e : ∀ i, i < n → f i = g i) : RB w v n g := by
  obtain ⟨_, a, cap, rfl, h1, h2, h0 | ⟨b, off, rfl, hc⟩⟩ := h
  · exact ⟨hg, a, cap, rfl, h1, h2, .inl h0⟩
  · exact ⟨hg, _, cap, rfl, h1, h2, .inr ⟨b, off, rfl, fun i hi => by rw [← e i hi]; exact hc i hi⟩⟩

/-- Behind a call that only makes memory a slice reads as before. -/
theorem RB.below {w w' : World} {v : Value} {n : Nat} {f : Nat → Int} (h : RB w v n f) (hb : Below w.heap.size w w') : RB w' v n f := by
  have h' := h
  obtain ⟨hf, a, cap, rfl, h1, h2, h0 | ⟨b, off, rfl, hc⟩⟩ := h
  · exact ⟨hf, a, cap, rfl, h1, h2, .inl h0⟩
  · refine ⟨hf, _, cap, rfl, h1, h2, .inr ⟨b, off, rfl, fun i hi => ?_⟩⟩
    rw [hb.cell (p := ⟨b, off + i, none⟩) (h'.lt rfl (by omega))]
    exact hc i hi
theorem RB.drewN {w : World} {v : Value} {n : Nat} {f : Nat → Int} (h : RB w v n f) (k : Nat) : RB (w.drewN k) v n f := h
theorem Below.drewN' {B : Nat} {a w : World} (h : Below B a w) (k : Nat) : Below B a (w.drewN k) := ⟨h.os, h.tape, h.output, h.size, h.block⟩
theorem Below.of_grown {w w' : World} (h : w.grownBy w' none) : Below w.heap.size w w' := ⟨h.os, h.tape, h.output, h.size, fun k hk => h.block k hk (by simp)⟩

/-- The first k bytes of a list. -/
theorem RB.first {w : World} {a : Option Addr} {cap n : Nat} {f : Nat → Int} (h : RB w (.slice a n cap) n f) (k : Nat) (hk : k ≤ n) : RB w (.slice a k cap) k f := by
  obtain ⟨hf, a', cap', hv, h1, h2, h0⟩ := h
  simp at hv
  obtain ⟨rfl, rfl⟩ := hv
  refine ⟨hf, _, _, rfl, by omega, h2, ?_⟩
  rcases h0 with h0 | ⟨b, off, rfl, hc⟩
  · exact .inl ⟨by omega, h0.2⟩
  · exact .inr ⟨b, off, rfl, fun i hi => hc i (by omega)⟩

/-- The byte at a place; 0, where there is none. -/
def Byt (f : Nat → Int) (n : Nat) (p : Int) : Int := if 0 ≤ p ∧ p < n then f p.toNat else 0
theorem Byt_bound (f : Nat → Int) (n : Nat) (p : Int) (h : ∀ i, 0 ≤ f i ∧ f i < 256) : 0 ≤ Byt f n p ∧ Byt f n p < 256 := by
  unfold Byt; split
  · exact h _
  · omega
theorem Byt_out (f : Nat → Int) (n : Nat) (p : Int) (h : p < 0 ∨ (n : Int) ≤ p) : Byt f n p = 0 := by
  unfold Byt; rw [if_neg]; omega
theorem Byt_in (f : Nat → Int) (n : Nat) (p : Int) (h : 0 ≤ p) (h2 : p < n) : Byt f n p = f p.toNat := by
  unfold Byt; rw [if_pos ⟨h, h2⟩]

/-- k bytes as a number, the highest first. -/
def BE (g : Nat → Int) : Nat → Int
  | 0 => 0
  | k + 1 => BE g k * 256 + g k
/-- k bytes as a number, the lowest first. -/
def LE (g : Nat → Int) : Nat → Int
  | 0 => 0
  | k + 1 => LE g k + g k * 256 ^ k
theorem BE_bound (g : Nat → Int) (h : ∀ i, 0 ≤ g i ∧ g i < 256) (k : Nat) : 0 ≤ BE g k ∧ BE g k < 256 ^ k := by
  induction k with
  | zero => simp [BE]
  | succ k ih => have := h k; simp only [BE, Int.pow_succ]; omega
theorem LE_bound (g : Nat → Int) (h : ∀ i, 0 ≤ g i ∧ g i < 256) (k : Nat) : 0 ≤ LE g k ∧ LE g k < 256 ^ k := by
  induction k with
  | zero => simp [LE]
  | succ k ih =>
    have h1 := h k
    have hp : (0 : Int) < 256 ^ k := Int.pow_pos (by omega)
    have a1 : 0 ≤ g k * 256 ^ k := Int.mul_nonneg h1.1 (by omega)
    have a2 : g k * 256 ^ k ≤ 255 * 256 ^ k := Int.mul_le_mul_of_nonneg_right (by omega) (by omega)
    simp only [LE, Int.pow_succ]; omega
end Go.Proofs.YtdmacflcjbkkpaaGreat.By
namespace Go.Proofs.YtdmacflcjbkkpaaGreat.By
open Go.ChangeShapes Go.WideShapes Go.ChangeAt Go.RowKit
theorem add_plain (b off j : Nat) : (⟨b, off, none⟩ : Addr).add j = ⟨b, off + j, none⟩ := by
  unfold Addr.add
  split <;> simp_all
theorem info5 : (Tryz.prog.info? 5).map (fun i => (i.zero, i.size, i.bytes)) = some (some (.int .u8 0), 1, 1) := by kernel_rfl
theorem own_nil (w : World) (base : Nat) (f : Nat → Int) (hf : ∀ i, 0 ≤ f i ∧ f i < 256) : Own w base (.slice none 0 0) 0 f := ⟨hf, World.ownsRow_nil _ _ _ _⟩
/-- What a lent list holds: its bytes, then six marks. -/
def lent (n : Nat) (f : Nat → Int) (i : Nat) : Int := if i < n then f i else (50 + ((i - n : Nat) : Int)) % 256
theorem lent_bound (n : Nat) (f : Nat → Int) (hf : ∀ i, 0 ≤ f i ∧ f i < 256) (i : Nat) : 0 ≤ lent n f i ∧ lent n f i < 256 := by
  unfold lent; split
  · exact hf i
  · omega
theorem lent_snoc (n : Nat) (f : Nat → Int) (k : Nat) (x : Int) (hx : x = (50 + (k : Int)) % 256) : bl (n + k) (lent n f) ++ [.int .u8 x] = bl (n + k + 1) (lent n f) := by
  rw [bl_singleton, bl_append]
  apply bl_congr
  intro i hi
  by_cases h : i < n + k
  · rw [if_pos h]
  · rw [if_neg h, hx]; unfold lent; rw [if_neg (by omega), show i - n = k by omega]
theorem own_row {w : World} {B : Nat} {v : Value} {n : Nat} {f : Nat → Int} (ho : Own w B v n f) (k : Nat) (hk : v.ownBlock = some k) : B ≤ k := by
  rcases ho.shape with ⟨rfl, _⟩ | ⟨g, cap, rfl, hb, _⟩
  · simp [Value.ownBlock] at hk
  · simp [Value.ownBlock] at hk; omega
theorem below_push {w w' w1 : World} {B : Nat} {v : Value} {n : Nat} {f : Nat → Int} {o : Obj} (hb : Below B w w') (hB : B ≤ w'.heap.size) (ho : Own w' B v n f) (hg : (w'.alloc o).grownBy w1 v.ownBlock) : Below B w w1 :=
  (hb.alloc hB o).grown hg (by simp; omega) (own_row ho)
/-- What a list that was written over holds. -/
def over (i : Nat) : Int := (64 + (i : Int)) % 256
theorem over_bound (i : Nat) : 0 ≤ over i ∧ over i < 256 := by unfold over; omega
theorem grown_trans {a b c : World} {r : Option Nat} (h : a.grownBy b r) (k : b.grownBy c r) : a.grownBy c r :=
  ⟨k.os.trans h.os, k.tape.trans h.tape, k.output.trans h.output, Nat.le_trans h.size k.size, fun j hj hr => (k.block j (Nat.lt_of_lt_of_le hj h.size) hr).trans (h.block j hj hr)⟩
theorem own_congr {w : World} {base : Nat} {v : Value} {n : Nat} {f g : Nat → Int} (h : Own w base v n f) (hg : ∀ i, 0 ≤ g i ∧ g i < 256) (e : ∀ i, i < n → f i = g i) : Own w base v n g :=
  ⟨hg, by rw [← bl_congr n f g e]; exact h.2⟩
theorem own_store {w : World} {base g N cap : Nat} {f : Nat → Int} (h : Own w base (.slice (some ⟨g, 0, none⟩) N cap) N f) (k : Nat) (x : Int) (hx : 0 ≤ x ∧ x < 256) :
    Own (w.setCell ⟨g, k, none⟩ (.int .u8 x)) base (.slice (some ⟨g, 0, none⟩) N cap) N (fun i => if i = k then x else f i) ∧ w.grownBy (w.setCell ⟨g, k, none⟩ (.int .u8 x)) (some g) := by
  obtain ⟨h1, h2⟩ := h.2.stored k (.int .u8 x)
  rw [bl_set] at h1
  refine ⟨⟨fun i => ?_, h1⟩, h2⟩
  show 0 ≤ (if i = k then x else f i) ∧ (if i = k then x else f i) < 256
  split
  · exact hx
  · exact h.1 i
theorem bl_zero (n : Nat) : (madeCells #[Value.int .u8 0] n).toList = bl n (fun _ => 0) := by
  rw [toList_madeCells_one]
  apply List.ext_getElem?
  intro i
  by_cases h : i < n
  · rw [bl_get _ _ _ h]; simp [h]
  · rw [List.getElem?_eq_none (l := bl n _) (by rw [bl_length]; omega)]; simp; omega
theorem own_lit (w : World) (cs : Array Value) (n : Nat) (f : Nat → Int) (hf : ∀ i, 0 ≤ f i ∧ f i < 256) (hn : n ≤ maxLen) (hs : cs.size = n) (hc : cs.toList = bl n f) :
    Own (w.alloc (.cells cs 5)) w.heap.size (.slice (some ⟨w.heap.size, 0, none⟩) n n) n f := by
  refine ⟨hf, ?_⟩
  have h := World.ownsRow_lit (base := w.heap.size) (e := 5) (size := 1) w cs n (Nat.le_refl _) hn (by omega)
  rw [← hc]
  exact h
theorem rb_lit (w : World) (cs : Array Value) (n : Nat) (f : Nat → Int) (hf : ∀ i, 0 ≤ f i ∧ f i < 256) (hn : n ≤ maxLen) (hs : cs.size = n) (hc : cs.toList = bl n f) :
    RB (w.alloc (.cells cs 5)) (.slice (some ⟨w.heap.size, 0, none⟩) n n) n f := (own_lit w cs n f hf hn hs hc).reads
theorem rb_lit' (w : World) (cs : Array Value) (g n : Nat) (f : Nat → Int) (hg : g = w.heap.size) (hf : ∀ i, 0 ≤ f i ∧ f i < 256) (hn : n ≤ maxLen) (hs : cs.size = n) (hc : cs.toList = bl n f) :
    RB (w.alloc (.cells cs 5)) (.slice (some ⟨g, 0, none⟩) n n) n f := by
  subst hg; exact rb_lit w cs n f hf hn hs hc
theorem RB.alloc {w : World} {v : Value} {n : Nat} {f : Nat → Int} (h : RB w v n f) (o : Obj) : RB (w.alloc o) v n f := h.below ((Below.refl _ _).alloc (Nat.le_refl _) o)
theorem below_alloc {B : Nat} {a w : World} (h : Below B a w) (hB : B = a.heap.size) (o : Obj) : Below B a (w.alloc o) := h.alloc (by subst hB; exact h.size) o
/-- A list out of numbers. -/
def lst (l : List Int) (i : Nat) : Int := l.getD i 0
theorem lst_bound (l : List Int) (h : l.all (fun z => decide (0 ≤ z ∧ z < 256)) = true) (i : Nat) : 0 ≤ lst l i ∧ lst l i < 256 := by
  unfold lst
  by_cases hi : i < l.length
  · have := List.all_eq_true.1 h l[i] (List.getElem_mem hi)
    simp [hi] at this ⊢
    omega
  · simp [List.getElem?_eq_none (Nat.le_of_not_lt hi)]
theorem own_below {w w' : World} {base : Nat} {v : Value} {n : Nat} {f : Nat → Int} (h : Own w base v n f) (hb : Below w.heap.size w w') : Own w' base v n f := by
  refine ⟨h.1, ?_⟩
  have hg : w.grownBy w' none := ⟨hb.os, hb.tape, hb.output, hb.size, fun k hk _ => hb.block k hk⟩
  rcases h.shape with ⟨rfl, _⟩ | ⟨g, cap, rfl, _⟩
  · exact h.2.kept hg (.inl rfl)
  · exact h.2.kept hg (.inr (by simp [Value.ownBlock]))
theorem bytes5 : Tryz.prog.bytesOf 5 = 1 := by kernel_rfl
theorem u8_bound {x : Int} (h : (Lit.int .u8 x).wf = true) : 0 ≤ x ∧ x < 256 := by
  simp [Lit.wf, IntKind.min, IntKind.max, IntKind.bits, IntKind.signed] at h; omega
theorem rb_of_row {w : World} {a : Option Addr} {len cap : Nat} {zs : List Int}
    (h : (a = none ∧ len = 0 ∧ cap = 0 ∧ zs = []) ∨
      ∃ x, a = some x ∧ len ≤ cap ∧ cap ≤ maxLen ∧ zs.length = cap ∧ (∀ i, i < zs.length → w.cell? (x.add i) = some (.int .u8 (zs.getD i 0))) ∧ ∀ n ∈ zs, (Lit.int .u8 n).wf = true) :
    RB w (.slice a len cap) len (lst zs) := by
  rcases h with ⟨rfl, rfl, rfl, rfl⟩ | ⟨x, rfl, hl, hm, hz, hcell, hwz⟩
  · exact ⟨lst_bound _ rfl, none, 0, rfl, Nat.le_refl _, by simp [maxLen], .inl ⟨rfl, fun _ => rfl⟩⟩
  · have hb : ∀ i, 0 ≤ lst zs i ∧ lst zs i < 256 := by
      intro i
      unfold lst
      by_cases hi : i < zs.length
      · have := u8_bound (hwz zs[i] (List.getElem_mem hi))
        simp [hi]; omega
      · simp [List.getElem?_eq_none (Nat.le_of_not_lt hi)]
    by_cases h0 : len = 0
    · subst h0
      exact ⟨hb, _, _, rfl, by omega, hm, .inl ⟨rfl, fun h => by cases h⟩⟩
    · obtain ⟨b, off, spot⟩ := x
      have hc := hcell 0 (by omega)
      have hspot : spot = none := by simpa [Addr.add] using World.cell?_spot hc
      subst hspot
      refine ⟨hb, _, _, rfl, hl, hm, .inr ⟨b, off, rfl, fun i hi => ?_⟩⟩
      have := hcell i (by omega)
      rw [add_plain] at this
      exact this
theorem own_cells {w : World} {base : Nat} {v : Value} {n : Nat} {f : Nat → Int} (h : Own w base v n f) (hn : 0 < n) : ∃ g cap, v = .slice (some ⟨g, 0, none⟩) n cap ∧ ∀ i, i < n → w.cell? ⟨g, i, none⟩ = some (.int .u8 (f i)) := by
  rcases h.shape with ⟨_, h0⟩ | ⟨g, cap, rfl, _, _, _, _, hc, _⟩
  · omega
  · exact ⟨g, cap, rfl, hc⟩
theorem rb_cap {w : World} {a : Option Addr} {n cap : Nat} {f : Nat → Int} (h : RB w (.slice a n cap) n f) : n ≤ cap := by
  obtain ⟨_, a', c', hv, h1, _⟩ := h
  simp at hv
  omega
end Go.Proofs.YtdmacflcjbkkpaaGreat.By
namespace Go.Proofs.YtdmacflcjbkkpaaGreat.By
open Go.ChangeShapes Go.WideShapes Go.ChangeAt Go.RowKit
/-- Mark i of list k, as the helper lays it. -/
def Mk (k i : Nat) : Int := (7 * ((k : Int) + 10) + (i : Int) + 1) % 256
theorem Mk_bound (k i : Nat) : 0 ≤ Mk k i ∧ Mk k i < 256 := by unfold Mk; omega

theorem own_prefix {w : World} {base g n m cap : Nat} {f : Nat → Int} (h : Own w base (.slice (some ⟨g, 0, none⟩) m cap) m f) (hn : n ≤ m) : Own w base (.slice (some ⟨g, 0, none⟩) n cap) n f := by
  refine ⟨h.1, by rw [bl_length]; omega, .inr ?_⟩
  rcases h.2.2 with ⟨h', _⟩ | ⟨g', cap', cur, h', hb, hg, hnc, hcm, hcs, ht⟩
  · simp at h'
  · simp only [Value.slice.injEq, Option.some.injEq, Addr.mk.injEq, and_true, true_and] at h'
    obtain ⟨rfl, rfl⟩ := h'
    refine ⟨g, cap, cur, rfl, hb, hg, by omega, hcm, hcs, ?_⟩
    have e : (bl m f).take n = bl n f := by
      apply List.ext_getElem?
      intro i
      rw [List.getElem?_take]
      by_cases hi : i < n
      · rw [if_pos hi, bl_get _ _ _ (by omega), bl_get _ _ _ hi]
      · rw [if_neg hi, List.getElem?_eq_none (by rw [bl_length]; omega)]
    rw [← e, ← ht, Nat.mul_one, Nat.mul_one, List.take_take, Nat.min_eq_left hn]

/-- What is owned stays, where its block is none that was written. -/
theorem own_kept {w w' : World} {base : Nat} {v : Value} {n : Nat} {f : Nat → Int} {row : Option Nat} (h : Own w base v n f) (hg : w.grownBy w' row) (hne : v.ownBlock = none ∨ v.ownBlock ≠ row) : Own w' base v n f := ⟨h.1, h.2.kept hg hne⟩
theorem own_alloc {w : World} {base : Nat} {v : Value} {n : Nat} {f : Nat → Int} (h : Own w base v n f) (o : Obj) : Own (w.alloc o) base v n f := own_kept h (World.grownBy_alloc w o none) (by
  rcases h.shape with ⟨rfl, _⟩ | ⟨g, cap, rfl, _⟩
  · exact .inl rfl
  · exact .inr (by simp [Value.ownBlock]))
theorem own_lt {w : World} {base : Nat} {v : Value} {n : Nat} {f : Nat → Int} (h : Own w base v n f) (q : Nat) (hq : v.ownBlock = some q) : q < w.heap.size := by
  rcases h.shape with ⟨rfl, _⟩ | ⟨g, cap, rfl, _, hl, _⟩
  · simp [Value.ownBlock] at hq
  · simp [Value.ownBlock] at hq; omega
theorem grown_none {w w' : World} {row : Option Nat} (h : w.grownBy w' none) : w.grownBy w' row := ⟨h.os, h.tape, h.output, h.size, fun k hk _ => h.block k hk (by simp)⟩
theorem grown_of_alloc {w w' : World} {o : Obj} {row : Option Nat} (h : (w.alloc o).grownBy w' row) : w.grownBy w' row := by
  have a := World.grownBy_alloc w o row
  exact ⟨h.os.trans a.os, h.tape.trans a.tape, h.output.trans a.output, Nat.le_trans a.size h.size, fun k hk hr => (h.block k (Nat.lt_of_lt_of_le hk a.size) hr).trans (a.block k hk hr)⟩
/-- A step that writes 'row' or blocks that are new since w0. -/
theorem grown_step {w0 w w' : World} {r r' : Option Nat} (h : w0.grownBy w r) (k : w.grownBy w' r') (hr : r' = r ∨ ∀ q, r' = some q → w0.heap.size ≤ q) : w0.grownBy w' r := by
  refine ⟨k.os.trans h.os, k.tape.trans h.tape, k.output.trans h.output, Nat.le_trans h.size k.size, fun j hj hn => ?_⟩
  rw [k.block j (Nat.lt_of_lt_of_le hj h.size) ?_, h.block j hj hn]
  rcases hr with rfl | hr
  · exact hn
  · intro e
    have := hr j e.symm
    omega

/-- The state while list Vk is gone on with: u is what it has become. -/
def Going (w0 w : World) (base : Nat) (Vk u : Value) (n i : Nat) (f : Nat → Int) : Prop :=
  w0.grownBy w Vk.ownBlock ∧ Own w base Vk n f ∧ Own w base u (n + i) f ∧
    ((∃ g cap, Vk = .slice (some ⟨g, 0, none⟩) n cap ∧ u = .slice (some ⟨g, 0, none⟩) (n + i) cap) ∨ (∀ q, u.ownBlock = some q → w0.heap.size ≤ q))

theorem bl_snoc (n : Nat) (f : Nat → Int) : bl n f ++ [.int .u8 (f n)] = bl (n + 1) f := by
  rw [bl_singleton, bl_append]
  apply bl_congr
  intro i hi
  by_cases h : i < n
  · rw [if_pos h]
  · rw [if_neg h, show i = n by omega]

theorem ne_of_lt_row {w0 w : World} {base : Nat} {Vk u : Value} {n : Nat} {f : Nat → Int} (h0 : ∀ q, Vk.ownBlock = some q → q < w0.heap.size) (hu : ∀ q, u.ownBlock = some q → w0.heap.size ≤ q) (ho : Own w base Vk n f) : Vk.ownBlock = none ∨ Vk.ownBlock ≠ u.ownBlock := by
  rcases ho.shape with ⟨rfl, _⟩ | ⟨g, cap, rfl, _⟩
  · exact .inl rfl
  · refine .inr fun e => ?_
    have h1 := h0 g rfl
    have h2 := hu g e.symm
    omega

theorem own_base {w : World} {base base' : Nat} {v : Value} {n : Nat} {f : Nat → Int} (h : Own w base v n f) (hb : base' ≤ base) : Own w base' v n f := by
  obtain ⟨h0, h1, h2⟩ := h
  refine ⟨h0, h1, ?_⟩
  rcases h2 with h2 | ⟨g, cap, cur, e1, e2, e3⟩
  · exact .inl h2
  · exact .inr ⟨g, cap, cur, e1, by omega, e3⟩
/-- The m lists V lie apart, and apart from the block L of their list. -/
structure AP (m L : Nat) (V : Nat → Value) : Prop where
  dis : ∀ i j, i < m → j < m → i ≠ j → (V i).ownBlock = none ∨ (V i).ownBlock ≠ (V j).ownBlock
  dl : ∀ j, j < m → (V j).ownBlock ≠ some L

/-- List j holds the bytes G j, and stands at place j of block L. -/
def Inv1 (w : World) (base m L : Nat) (V : Nat → Value) (N : Nat → Nat) (G : Nat → Nat → Int) : Prop :=
  (∀ j, j < m → Own w base (V j) (N j) (G j)) ∧ ∀ j, j < m → w.cell? ⟨L, j, none⟩ = some (V j)

theorem inv1_congr {w : World} {base m L : Nat} {V : Nat → Value} {N : Nat → Nat} {G G' : Nat → Nat → Int} (h : Inv1 w base m L V N G) (hb : ∀ j i, 0 ≤ G' j i ∧ G' j i < 256) (e : ∀ j i, j < m → i < N j → G j i = G' j i) : Inv1 w base m L V N G' :=
  ⟨fun j hj => own_congr (h.1 j hj) (hb j) (fun i hi => e j i hj hi), h.2⟩

theorem inv1_store {w : World} {base m L : Nat} {V : Nat → Value} {N : Nat → Nat} {G : Nat → Nat → Int} (hA : AP m L V) (h : Inv1 w base m L V N G) (k i g n cap : Nat) (hk : k < m) (hV : V k = .slice (some ⟨g, 0, none⟩) n cap) (hN : N k = n) (x : Int) (hx : 0 ≤ x ∧ x < 256) :
    Inv1 (w.setCell ⟨g, i, none⟩ (.int .u8 x)) base m L V N (fun j i' => if j = k ∧ i' = i then x else G j i') ∧ w.grownBy (w.setCell ⟨g, i, none⟩ (.int .u8 x)) (some g) := by
  have hk1 := h.1 k hk
  rw [hV, hN] at hk1
  obtain ⟨s1, s2⟩ := own_store hk1 i x hx
  refine ⟨⟨fun j hj => ?_, fun j hj => ?_⟩, s2⟩
  · by_cases e : j = k
    · subst e
      rw [hV, hN]
      refine own_congr s1 (fun i' => ?_) (fun i' _ => by simp)
      show 0 ≤ (if j = j ∧ i' = i then x else G j i') ∧ (if j = j ∧ i' = i then x else G j i') < 256
      split
      · exact hx
      · exact hk1.1 i'
    · have hj1 := own_kept (h.1 j hj) s2 (by
        have := hA.dis j k hj hk e
        rwa [hV] at this)
      exact own_congr hj1 (fun i' => by simp [e]; exact hj1.1 i') (fun i' _ => by simp [e])
  · refine s2.cell (h.2 j hj) (fun e => hA.dl k hk ?_)
    rw [hV]; exact e.symm

/-- Behind list k's first i bytes. -/
def G1 (F : Nat → Nat → Int) (k i j i' : Nat) : Int := if j < k ∨ (j = k ∧ i' < i) then Mk j i' else F j i'
theorem G1_bound (F : Nat → Nat → Int) (hF : ∀ j i, 0 ≤ F j i ∧ F j i < 256) (k i j i' : Nat) : 0 ≤ G1 F k i j i' ∧ G1 F k i j i' < 256 := by
  unfold G1; split
  · exact Mk_bound _ _
  · exact hF _ _
theorem G1_step (F : Nat → Nat → Int) (k i j i' : Nat) : (if j = k ∧ i' = i then Mk k i else G1 F k i j i') = G1 F k (i + 1) j i' := by
  unfold G1
  by_cases h : j = k ∧ i' = i
  · rw [if_pos h, if_pos (by omega), h.1, h.2]
  · rw [if_neg h]
    by_cases h2 : j < k ∨ (j = k ∧ i' < i)
    · rw [if_pos h2, if_pos (by omega)]
    · rw [if_neg h2, if_neg (by omega)]
theorem G1_next (F : Nat → Nat → Int) (N : Nat → Nat) (k j i' : Nat) (h : i' < N j) : G1 F k (N k) j i' = G1 F (k + 1) 0 j i' := by
  unfold G1
  by_cases h2 : j < k ∨ (j = k ∧ i' < N k)
  · rw [if_pos h2, if_pos (by omega)]
  · have h4 : ¬ (j < k + 1 ∨ (j = k + 1 ∧ i' < 0)) := by
      rintro (h3 | h3)
      · by_cases e : j = k
        · subst e; exact h2 (.inr ⟨rfl, h⟩)
        · exact h2 (.inl (by omega))
      · omega
    rw [if_neg h2, if_neg h4]
theorem inv1_end {w : World} {base m L : Nat} {V : Nat → Value} {N : Nat → Nat} {F : Nat → Nat → Int} (h : Inv1 w base m L V N (G1 F m 0)) : ∀ j, j < m → Own w base (V j) (N j) (Mk j) := fun j hj =>
  own_congr (h.1 j hj) (Mk_bound j) (fun i _ => by unfold G1; rw [if_pos (.inl hj)])

theorem grown_cell {w w' : World} {row : Option Nat} (hg : w.grownBy w' row) {a : Addr} {v : Value} (h : w.cell? a = some v) (hne : row ≠ some a.block) : w'.cell? a = some v := hg.cell h (fun e => hne e.symm)

theorem cell_past_push {w w1 : World} {o : Obj} {B : Nat} {v : Value} {a : Addr} {x : Value} (hg : ((w.alloc o).drew).grownBy w1 v.ownBlock) (hr : ∀ q, v.ownBlock = some q → B ≤ q) (h : w.cell? a = some x) (ha : a.block < B) : w1.cell? a = some x := by
  have g1 : (w.alloc o).grownBy w1 v.ownBlock := ⟨hg.os, hg.tape, hg.output, hg.size, hg.block⟩
  exact grown_cell (grown_of_alloc g1) h (fun e => by have := hr _ e; omega)
theorem below_push_drew {w w' w1 : World} {B : Nat} {v : Value} {n : Nat} {f : Nat → Int} {o : Obj} (hb : Below B w w') (hB : B ≤ w'.heap.size) (ho : Own w' B v n f) (hg : ((w'.alloc o).drew).grownBy w1 v.ownBlock) : Below B w w1 :=
  below_push hb hB ho (o := o) ⟨hg.os, hg.tape, hg.output, hg.size, hg.block⟩
theorem own_apart {w w' : World} {base base' : Nat} {v v' : Value} {n n' : Nat} {f f' : Nat → Int} (h : Own w base v n f) (hb : w.heap.size ≤ base') (h' : Own w' base' v' n' f') : v.ownBlock = none ∨ v.ownBlock ≠ v'.ownBlock := by
  rcases h.shape with ⟨rfl, _⟩ | ⟨g, cap, rfl, _, hl, _⟩
  · exact .inl rfl
  · refine .inr fun e => ?_
    have := own_row h' g e.symm
    omega
theorem apart_symm {a b : Option Nat} (h : a = none ∨ a ≠ b) : b = none ∨ b ≠ a := by
  rcases h with h | h
  · subst h
    cases b with
    | none => exact .inl rfl
    | some q => exact .inr (by simp)
  · exact .inr (fun e => h e.symm)
theorem own_drewN {w : World} {base : Nat} {v : Value} {n : Nat} {f : Nat → Int} (h : Own w base v n f) (k : Nat) : Own (w.drewN k) base v n f := h
theorem rb_lent {w : World} {base g n cap : Nat} {f : Nat → Int} (h : Own w base (.slice (some ⟨g, 0, none⟩) (n + 6) cap) (n + 6) (lent n f)) (hf : ∀ i, 0 ≤ f i ∧ f i < 256) : RB w (.slice (some ⟨g, 0, none⟩) n cap) n f :=
  (h.reads.first n (by omega)).congr hf (fun i hi => by unfold lent; rw [if_pos hi])
/-- The j-th of several values. -/
def lv (vs : List Value) (j : Nat) : Value := vs.getD j (.slice none 0 0)
theorem ap_of (vs : List Value) (L : Nat) (hd : ∀ i j, i < j → j < vs.length → (lv vs i).ownBlock = none ∨ (lv vs i).ownBlock ≠ (lv vs j).ownBlock) (hl : ∀ j, j < vs.length → ∀ q, (lv vs j).ownBlock = some q → q < L) : AP vs.length L (lv vs) := by
  refine ⟨fun i j hi hj hne => ?_, fun j hj e => ?_⟩
  · rcases Nat.lt_or_gt_of_ne hne with h | h
    · exact hd i j h hj
    · exact apart_symm (hd j i h hi)
  · have := hl j hj L e
    omega
theorem own_lit_slice {w : World} {base : Nat} {v : Value} {n : Nat} {f : Nat → Int} (h : Own w base v n f) : ∃ a c, v = .slice a n c := by
  obtain ⟨_, a, c, h, _⟩ := h.reads
  exact ⟨a, c, h⟩
end Go.Proofs.YtdmacflcjbkkpaaGreat.By
