/- Lists of bytes in memory: what a slice reads as (length and bytes), what the call itself owns, and how both stand behind further calls; no function of the program in it. What the statements' helpers on lists of bytes answer (lists lent, copied, held against each other, written over), for every list and world; and small facts on lists that were just built. The kit of lists of bytes, whole, under its shorter text's name. Which blocks a step may have turned; no function of the program in it. Plain facts on numbers: a word turned by l places, bit by bit and as a sum; no program in it. The permutation of 25 words as functions of numbers: what the steps of a round make, that each can be taken back, and the words' bytes; no program in it. Blocks of cells: words, bytes; whole arrays loaded and stored at once; no function of the program in it. A list of bytes of the call's own gone on with: another list behind it, noughts behind it. -/
import Derived.WalkKit
import Derived.ProofKit
import Derived.Below
import Derived.BigQuiet
import Derived.Deep.QuietTactic
import Derived.Test.YtnbmnpfpjhpifaaDoorRows
import Derived.ArgAppend
import Derived.WalkSpells
import Derived.Deep.RegionHeld3
import Derived.Deep.DeepMust
import Derived.Laws.AppendOwnNone
import Derived.Laws.BitsAllLaws
import Derived.Laws.BitsLemmas
import Derived.Deep.MidRow
import Derived.Deep.WholeRow
import Derived.Lib.AppendZeros
namespace Go.Proofs.YtnbmnpfpjhpifaaDoor.By
open Go.ChangeShapes Go.WideShapes Go.ChangeAt Go.RowKit
theorem hid {p : Prop} (h : p) : Hid p := h
/-- The slice v reads as n bytes, byte i being f i. -/
def RB (w : World) (v : Value) (n : Nat) (f : Nat → Int) : Prop :=
  (∀ i, 0 ≤ f i ∧ f i < 256) ∧ ∃ a cap, v = .slice a n cap ∧ n ≤ cap ∧ cap ≤ maxLen ∧
    ((n = 0 ∧ (a = none → cap = 0)) ∨ ∃ b off, a = some ⟨b, off, none⟩ ∧ ∀ i, i < n → w.cell? ⟨b, off + i, none⟩ = some (.int .u8 (f i)))

/-- n bytes as cells. -/
def bl (n : Nat) (f : Nat → Int) : List Value := (List.range n).map fun i => Value.int .u8 (f i)
theorem bl_length (n : Nat) (f : Nat → Int) : (bl n f).length = n := by simp [bl]
theorem bl_get (n : Nat) (f : Nat → Int) (i : Nat) (h : i < n) : (bl n f)[i]? = some (.int .u8 (f i)) := by
  simp [bl, h]
theorem bl_get_inv (n : Nat) (f : Nat → Int) (i : Nat) (u : Value) (h : (bl n f)[i]? = some u) : i < n ∧ u = .int .u8 (f i) := by
  have hi : i < n := by
    have := List.getElem?_eq_some_iff.1 h
    obtain ⟨h1, _⟩ := this
    simpa [bl_length] using h1
  rw [bl_get n f i hi] at h
  exact ⟨hi, (Option.some.inj h).symm⟩
theorem bl_one (n : Nat) (f : Nat → Int) : ∀ u ∈ bl n f, u.oneCell' = true := by
  intro u hu
  simp [bl] at hu
  obtain ⟨i, _, rfl⟩ := hu
  rfl
theorem bl_congr (n : Nat) (f g : Nat → Int) (h : ∀ i, i < n → f i = g i) : bl n f = bl n g := by
  apply List.map_congr_left
  intro i hi
  rw [h i (List.mem_range.1 hi)]
theorem bl_append (n m : Nat) (f g : Nat → Int) : bl n f ++ bl m g = bl (n + m) (fun i => if i < n then f i else g (i - n)) := by
  apply List.ext_getElem?
  intro i
  by_cases h : i < n
  · rw [List.getElem?_append_left (by rw [bl_length]; exact h), bl_get _ _ _ h, bl_get _ _ _ (by omega), if_pos h]
  · rw [List.getElem?_append_right (by rw [bl_length]; omega), bl_length]
    by_cases h2 : i < n + m
    · rw [bl_get _ _ _ (by omega), bl_get _ _ _ h2, if_neg h]
    · rw [List.getElem?_eq_none (by rw [bl_length]; omega), List.getElem?_eq_none (by rw [bl_length]; omega)]
theorem bl_set (n : Nat) (f : Nat → Int) (k : Nat) (x : Int) : (bl n f).set k (.int .u8 x) = bl n (fun i => if i = k then x else f i) := by
  apply List.ext_getElem?
  intro i
  rw [List.getElem?_set]
  by_cases h : i < n
  · by_cases e : k = i
    · subst e; rw [bl_get _ _ _ h]; simp [bl_length, h]; simp [bl]
    · have e' : ¬ i = k := fun h => e h.symm
      rw [bl_get _ _ _ h, bl_get _ _ _ h]; simp [e, e']
  · rw [List.getElem?_eq_none (by rw [bl_length]; omega), List.getElem?_eq_none (by rw [bl_length]; omega)]
    simp only [bl_length]; split
    · rw [if_neg (by omega)]
    · rfl
theorem bl_singleton (x : Int) : [Value.int .u8 x] = bl 1 (fun _ => x) := by simp [bl, List.range_succ]

/-- The call owns the slice v: n bytes f, from block 'base' on. -/
def Own (w : World) (base : Nat) (v : Value) (n : Nat) (f : Nat → Int) : Prop :=
  (∀ i, 0 ≤ f i ∧ f i < 256) ∧ w.ownsRow base 5 1 v n (bl n f)

theorem Own.shape {w : World} {base : Nat} {v : Value} {n : Nat} {f : Nat → Int} (h : Own w base v n f) :
    (v = .slice none 0 0 ∧ n = 0) ∨ ∃ g cap, v = .slice (some ⟨g, 0, none⟩) n cap ∧ base ≤ g ∧ g < w.heap.size ∧ n ≤ cap ∧ cap ≤ maxLen ∧
      (∀ i, i < n → w.cell? ⟨g, i, none⟩ = some (.int .u8 (f i))) ∧ ∀ i, w.frozen? ⟨g, i, none⟩ = false := by
  have h2 := h.2
  rcases h.2.2 with hn | ⟨g, cap, cur, rfl, hb, hg, hnc, hcm, hcs, ht⟩
  · exact .inl hn
  · refine .inr ⟨g, cap, rfl, hb, ?_, hnc, hcm, fun i hi => ?_, fun i => h2.frozenAt i⟩
    · exact (Array.getElem?_eq_some_iff.1 hg).1
    · rw [h2.cellAt i (by omega), bl_get _ _ _ hi]

theorem Own.reads {w : World} {base : Nat} {v : Value} {n : Nat} {f : Nat → Int} (h : Own w base v n f) : RB w v n f := by
  rcases h.shape with ⟨rfl, rfl⟩ | ⟨g, cap, rfl, _, _, hnc, hcm, hc, _⟩
  · exact ⟨h.1, none, 0, rfl, Nat.le_refl _, by simp [maxLen], .inl ⟨rfl, fun _ => rfl⟩⟩
  · exact ⟨h.1, _, _, rfl, hnc, hcm, .inr ⟨g, 0, rfl, fun i hi => by rw [Nat.zero_add]; exact hc i hi⟩⟩

theorem RB.lt {w : World} {v : Value} {n : Nat} {f : Nat → Int} {b off cap : Nat} (h : RB w v n f) (hv : v = .slice (some ⟨b, off, none⟩) n cap) (hn : 0 < n) : b < w.heap.size := by
  obtain ⟨_, a, cap', rfl, _, _, h0 | ⟨b', off', rfl, hc⟩⟩ := h
  · omega
  · simp at hv
    obtain ⟨⟨rfl, rfl⟩, rfl⟩ := hv
    have := hc 0 hn
    exact block_lt_of_cell this

theorem RB.congr {w : World} {v : Value} {n : Nat} {f g : Nat → Int} (h : RB w v n f) (hg : ∀ i, 0 ≤ g i ∧ g i < 256) (e : ∀ i, i < n → f i = g i) : RB w v n g := by
  obtain ⟨_, a, cap, rfl, h1, h2, h0 | ⟨b, off, rfl, hc⟩⟩ := h
  · exact ⟨hg, a, cap, rfl, h1, h2, .inl h0⟩
  · exact ⟨hg, _, cap, rfl, h1, h2, .inr ⟨b, off, rfl, fun i hi => by rw [← e i hi]; exact hc i hi⟩⟩

/-- Behind a call that only makes memory a slice reads as before. -/
theorem RB.below {w w' : World} {v : Value} {n : Nat} {f : Nat → Int} (h : RB w v n f) (hb : Below w.heap.size w w') : RB w' v n f := by
  have h' := h
  obtain ⟨hf, a, cap, rfl, h1, h2, h0 | ⟨b, off, rfl, hc⟩⟩ := h
  · exact ⟨hf, a, cap, rfl, h1, h2, .inl h0⟩
  · refine ⟨hf, _, cap, rfl, h1, h2, .inr ⟨b, off, rfl, fun i hi => ?_⟩⟩
    rw [hb.cell (p := ⟨b, off + i, none⟩) (h'.lt rfl (by omega))]
    exact hc i hi
theorem RB.drewN {w : World} {v : Value} {n : Nat} {f : Nat → Int} (h : RB w v n f) (k : Nat) : RB (w.drewN k) v n f := h
theorem Below.drewN' {B : Nat} {a w : World} (h : Below B a w) (k : Nat) : Below B a (w.drewN k) := ⟨h.os, h.tape, h.output, h.size, h.block⟩
theorem Below.of_grown {w w' : World} (h : w.grownBy w' none) : Below w.heap.size w w' := ⟨h.os, h.tape, h.output, h.size, fun k hk => h.block k hk (by simp)⟩

/-- The first k bytes of a list. -/
theorem RB.first {w : World} {a : Option Addr} {cap n : Nat} {f : Nat → Int} (h : RB w (.slice a n cap) n f) (k : Nat) (hk : k ≤ n) : RB w (.slice a k cap) k f := by
  obtain ⟨hf, a', cap', hv, h1, h2, h0⟩ := h
  simp at hv
  obtain ⟨rfl, rfl⟩ := hv
  refine ⟨hf, _, _, rfl, by omega, h2, ?_⟩
  rcases h0 with h0 | ⟨b, off, rfl, hc⟩
  · exact .inl ⟨by omega, h0.2⟩
  · exact .inr ⟨b, off, rfl, fun i hi => hc i (by omega)⟩

/-- The byte at a place; 0, where there is none. -/
def Byt (f : Nat → Int) (n : Nat) (p : Int) : Int := if 0 ≤ p ∧ p < n then f p.toNat else 0
theorem Byt_bound (f : Nat → Int) (n : Nat) (p : Int) (h : ∀ i, 0 ≤ f i ∧ f i < 256) : 0 ≤ Byt f n p ∧ Byt f n p < 256 := by
  unfold Byt; split
  · exact h _
  · omega
theorem Byt_out (f : Nat → Int) (n : Nat) (p : Int) (h : p < 0 ∨ (n : Int) ≤ p) : Byt f n p = 0 := by
  unfold Byt; rw [if_neg]; omega
theorem Byt_in (f : Nat → Int) (n : Nat) (p : Int) (h : 0 ≤ p) (h2 : p < n) : Byt f n p = f p.toNat := by
  unfold Byt; rw [if_pos ⟨h, h2⟩]

/-- k bytes as a number, the highest first. -/
def BE (g : Nat → Int) : Nat → Int
  | 0 => 0
  | k + 1 => BE g k * 256 + g k
/-- k bytes as a number, the lowest first. -/
def LE (g : Nat → Int) : Nat → Int
  | 0 => 0
  | k + 1 => LE g k + g k * 256 ^ k
theorem BE_bound (g : Nat → Int) (h : ∀ i, 0 ≤ g i ∧ g i < 256) (k : Nat) : 0 ≤ BE g k ∧ BE g k < 256 ^ k := by
  induction k with
  | zero => simp [BE]
  | succ k ih => have := h k; simp only [BE, Int.pow_succ]; omega
theorem LE_bound (g : Nat → Int) (h : ∀ i, 0 ≤ g i ∧ g i < 256) (k : Nat) : 0 ≤ LE g k ∧ LE g k < 256 ^ k := by
  induction k with
  | zero => simp [LE]
  | succ k ih =>
    have h1 := h k
    have hp : (0 : Int) < 256 ^ k := Int.pow_pos (by omega)
    have a1 : 0 ≤ g k * 256 ^ k := Int.mul_nonneg h1.1 (by omega)
    have a2 : g k * 256 ^ k ≤ 255 * 256 ^ k := Int.mul_le_mul_of_nonneg_right (by omega) (by omega)
    simp only [LE, Int.pow_succ]; omega
end Go.Proofs.YtnbmnpfpjhpifaaDoor.By
namespace Go.Proofs.YtnbmnpfpjhpifaaDoor.By
open Go.ChangeShapes Go.WideShapes Go.ChangeAt Go.RowKit
set_option maxHeartbeats 400000 in
theorem mark42 (k i : Int) (w : World) (h0 : 0 ≤ i) (h1 : i ≤ 140737488355999) (k0 : 0 ≤ k) (k1 : k ≤ 100) :
    Calls Tryd.prog 41 #[.int .i64 k, .int .i64 i] w fun e w' => e = .returned (.int .u8 ((7 * k + i + 1) % 256)) ∧ w' = w := by
  go_enter Tryd.func41, Tryd.ntmps41
  go_wp2
  go_ret
  exact ⟨rfl, rfl⟩
set_option maxHeartbeats 400000 in
theorem same_true (a b : Value) (n : Nat) (f g : Nat → Int) (w : World) (ha : RB w a n f) (hb : RB w b n g) (hn : n ≤ 140737488355999) (he : ∀ i, i < n → f i = g i) :
    Calls Tryd.prog 12 #[a, b] w fun e w' => e = .returned (.bool true) ∧ ∃ k, w' = w.drewN k := by
  obtain ⟨_, a, cap, rfl, h1, h2, hc⟩ := ha
  obtain ⟨_, b, cap', rfl, h1', h2', hc'⟩ := hb
  have HE : Hid (∀ i, i < n → f i = g i) := he
  clear he
  by_cases hz : n = 0
  · subst hz
    clear hc hc'
    go_enter Tryd.func12, Tryd.ntmps12
    go_wp2
    refine wp_loop_rounds 1 ?_
    rw [rounds_succ]
    go_wp2
    go_ret
    exact ⟨rfl, 0, rfl⟩
  · rcases hc with ⟨h, _⟩ | ⟨b1, o1, rfl, hc⟩
    · omega
    rcases hc' with ⟨h, _⟩ | ⟨b2, o2, rfl, hc'⟩
    · omega
    have HC : Hid (∀ i, i < n → w.cell? ⟨b1, o1 + i, none⟩ = some (.int .u8 (f i))) := hc
    have HC' : Hid (∀ i, i < n → w.cell? ⟨b2, o2 + i, none⟩ = some (.int .u8 (g i))) := hc'
    clear hc hc'
    go_enter Tryd.func12, Tryd.ntmps12
    go_wp2
    go_loopw [5] (fun i wr => ∃ k : Nat, k ≤ n ∧ i = .int .i64 k ∧ ∃ d, wr = w.drewN d) (fun i _ => n - (intOf i).toNat)
    case atStart => exact ⟨0, Nat.zero_le _, rfl, 0, rfl⟩
    case round =>
      obtain ⟨k, hk, rfl, d, rfl⟩ := hrel
      by_cases hlt : k < n
      · have c1 := HC.out k hlt
        have c2 := HC'.out k hlt
        rw [← HE.out k hlt] at c2
        go_wp2
        go_quiet (fail)
        go_wp2
        go_roundw
        case rel => exact ⟨k + 1, by omega, by go_num, _, rfl⟩
        case measure => simp [intOf]; omega
      · go_wp2
        go_ret
        exact ⟨rfl, d, rfl⟩
theorem add_plain (b off j : Nat) : (⟨b, off, none⟩ : Addr).add j = ⟨b, off + j, none⟩ := by
  unfold Addr.add
  split <;> simp_all
theorem info5 : (Tryd.prog.info? 5).map (fun i => (i.zero, i.size, i.bytes)) = some (some (.int .u8 0), 1, 1) := by kernel_rfl
theorem own_nil (w : World) (base : Nat) (f : Nat → Int) (hf : ∀ i, 0 ≤ f i ∧ f i < 256) : Own w base (.slice none 0 0) 0 f := ⟨hf, World.ownsRow_nil _ _ _ _⟩
set_option maxHeartbeats 400000 in
theorem copy16 (l : Value) (n : Nat) (f : Nat → Int) (w : World) (hr : RB w l n f) (hn : n ≤ 140737488355328) :
    Calls Tryd.prog 46 #[l] w fun e w' => ∃ v, e = .returned v ∧ Own w' w.heap.size v n f ∧ Below w.heap.size w w' := by
  obtain ⟨hf, a, cap, rfl, h1, h2, hc⟩ := hr
  obtain ⟨i0, hi, hz0, hz1, hz2⟩ := info_parts info5
  cases a with
  | none =>
    have hn0 : n = 0 := by rcases hc with ⟨h, _⟩ | ⟨_, _, h, _⟩; exact h; cases h
    have hc0 : cap = 0 := by rcases hc with ⟨_, h⟩ | ⟨_, _, h, _⟩; exact h rfl; cases h
    subst hn0 hc0
    have HF : Hid (∀ i, 0 ≤ f i ∧ f i < 256) := hf
    clear hf hc
    go_enter Tryd.func46, Tryd.ntmps46
    go_wp2_with (at_builtin; refine wpList_append_own_none rfl _ _ 39 rfl w.heap.size 5 i0 1 Tryd.underlying39 hi _ _ _ rfl (World.ownsRow_nil _ _ _ _) rfl ?_)
    go_ret
    exact ⟨_, rfl, own_nil _ _ _ HF.out, Below.refl _ _⟩
  | some ad =>
    have HF : Hid (∀ i, 0 ≤ f i ∧ f i < 256) := hf
    have HC : Hid (∀ j u, (bl n f)[j]? = some u → w.cell? (ad.add j) = some u) := by
      intro j u hj
      obtain ⟨hj1, rfl⟩ := bl_get_inv _ _ _ _ hj
      rcases hc with ⟨h, _⟩ | ⟨b, off, h, hc⟩
      · omega
      · cases h; rw [add_plain]; exact hc j hj1
    clear hf hc
    go_enter Tryd.func46, Tryd.ntmps46
    go_wp2_with (at_builtin; refine wpList_append_own _ rfl _ _ 39 rfl w.heap.size 5 i0 (.int .u8 0) 1 1 Tryd.underlying39 hi hz0 hz1 hz2 rfl (by decide) _ _ _ rfl (World.ownsRow_nil _ _ _ _) ad n cap (bl n f) rfl (by rw [bl_length]; omega) HC.out (bl_one n f) (by simp [maxLen]; omega) (by omega) (Nat.le_refl _) ?_)
    intro v' w1 hown hgrow _
    have R : Own w1 w.heap.size v' n f ∧ Below w.heap.size w w1 := by
      exact ⟨⟨HF.out, hown⟩, Below.of_grown hgrow⟩
    have HR : Hid (Own w1 w.heap.size v' n f ∧ Below w.heap.size w w1) := R
    clear R hown hgrow
    go_wp2
    go_ret
    exact ⟨_, rfl, HR.out⟩
/-- What a lent list holds: its bytes, then six marks. -/
def lent (n : Nat) (f : Nat → Int) (i : Nat) : Int := if i < n then f i else (50 + ((i - n : Nat) : Int)) % 256
theorem lent_bound (n : Nat) (f : Nat → Int) (hf : ∀ i, 0 ≤ f i ∧ f i < 256) (i : Nat) : 0 ≤ lent n f i ∧ lent n f i < 256 := by
  unfold lent; split
  · exact hf i
  · omega
theorem lent_snoc (n : Nat) (f : Nat → Int) (k : Nat) (x : Int) (hx : x = (50 + (k : Int)) % 256) : bl (n + k) (lent n f) ++ [.int .u8 x] = bl (n + k + 1) (lent n f) := by
  rw [bl_singleton, bl_append]
  apply bl_congr
  intro i hi
  by_cases h : i < n + k
  · rw [if_pos h]
  · rw [if_neg h, hx]; unfold lent; rw [if_neg (by omega), show i - n = k by omega]
theorem own_row {w : World} {B : Nat} {v : Value} {n : Nat} {f : Nat → Int} (ho : Own w B v n f) (k : Nat) (hk : v.ownBlock = some k) : B ≤ k := by
  rcases ho.shape with ⟨rfl, _⟩ | ⟨g, cap, rfl, hb, _⟩
  · simp [Value.ownBlock] at hk
  · simp [Value.ownBlock] at hk; omega
theorem below_push {w w' w1 : World} {B : Nat} {v : Value} {n : Nat} {f : Nat → Int} {o : Obj} (hb : Below B w w') (hB : B ≤ w'.heap.size) (ho : Own w' B v n f) (hg : (w'.alloc o).grownBy w1 v.ownBlock) : Below B w w1 :=
  (hb.alloc hB o).grown hg (by simp; omega) (own_row ho)
set_option maxRecDepth 4000 in
set_option maxHeartbeats 400000 in
theorem lent14 (l : Value) (n : Nat) (f : Nat → Int) (w : World) (hr : RB w l n f) (hn : n ≤ 140737488355000) :
    Calls Tryd.prog 21 #[l] w fun e w' => ∃ v, e = .returned v ∧ Own w' w.heap.size v (n + 6) (lent n f) ∧ Below w.heap.size w w' := by
  obtain ⟨i0, hi, hz0, hz1, hz2⟩ := info_parts info5
  have HR : Hid (RB w l n f) := hr
  clear hr
  go_enter Tryd.func21, Tryd.ntmps21
  go_wp2_with fail
  refine (copy16 l n f w HR.out (by omega)).mono ?_
  rintro e w1 ⟨v0, rfl, hown, hbel⟩
  have S : Own w1 w.heap.size v0 (n + 0) (lent n f) := ⟨lent_bound n f hown.1, by rw [bl_congr (n + 0) (lent n f) f (fun i hi => by unfold lent; rw [if_pos (by omega)])]; exact hown.2⟩
  have HS : Hid (Own w1 w.heap.size v0 (n + 0) (lent n f)) := S
  have HB : Hid (Below w.heap.size w w1) := hbel
  clear hown hbel S
  go_wp2
  go_loopw [3, 4] (fun v i wr => ∃ k : Nat, k ≤ 6 ∧ i = .int .i64 k ∧ Own wr w.heap.size v (n + k) (lent n f) ∧ Below w.heap.size w wr) (fun _ i _ => 6 - (intOf i).toNat)
  case atStart => exact ⟨0, Nat.zero_le _, rfl, HS.out, HB.out⟩
  case round =>
    obtain ⟨k, hk, rfl, hown, hbel⟩ := hrel
    clear HS HB
    have hsz : Hid (w.heap.size ≤ wr.heap.size) := hbel.size
    have HO : Hid (Own wr w.heap.size u3 (n + k) (lent n f)) := hown
    have HB : Hid (Below w.heap.size w wr) := hbel
    clear hown hbel
    by_cases hlt : k < 6
    · go_wp2_with (first | (go_at_call 41; refine (mark42 _ _ _ (by omega) (by omega) (by omega) (by omega)).mono ?_; rintro e w' ⟨rfl, rfl⟩) | (at_builtin; go_must (refine wpList_append_own _ rfl _ _ 39 rfl w.heap.size 5 i0 (.int .u8 0) 1 1 Tryd.underlying39 hi hz0 hz1 hz2 rfl (by decide) _ _ _ rfl (HO.out.2.alloc _) ⟨_, 0, none⟩ 1 1 [.int .u8 ((49 + (k : Int) + 1) % 256)] rfl rfl (cell_one_new _ _ _) ?c2 ?c3 ?c4 ?c5 ?_)))
      case c2 => intro u hu; simp at hu; subst hu; rfl
      case c3 => simp [maxLen]; omega
      case c4 => have h9 := hsz.out; omega
      case c5 => have h9 := hsz.out; simp; omega
      intro v' w1 hown hgrow _
      have R : Own w1 w.heap.size v' (n + (k + 1)) (lent n f) ∧ Below w.heap.size w w1 := by
        refine ⟨⟨HO.out.1, ?_⟩, below_push HB.out hsz.out HO.out hgrow⟩
        rw [← Nat.add_assoc, ← lent_snoc n f k _ (show (49 + (k : Int) + 1) % 256 = _ by omega)]
        exact hown
      have HR : Hid (Own w1 w.heap.size v' (n + (k + 1)) (lent n f) ∧ Below w.heap.size w w1) := R
      clear R hown hgrow HO HB
      go_wp2
      go_roundw
      case rel => exact ⟨k + 1, by omega, by go_num, HR.out⟩
      case measure => simp [intOf]; omega
    · go_wp2
      go_ret
      have e : k = 6 := by omega
      subst e
      exact ⟨_, rfl, HO.out, HB.out⟩
set_option maxHeartbeats 400000 in
theorem kept17 (full l : Value) (n : Nat) (f : Nat → Int) (w : World) (hf : RB w full (n + 6) (lent n f)) (hr : RB w l n f) (hn : n ≤ 140737488355000) :
    Calls Tryd.prog 24 #[full, l] w fun e w' => e = .returned (.bool true) ∧ Below w.heap.size w w' := by
  have HR : Hid (RB w l n f) := hr
  have HF : Hid (RB w full (n + 6) (lent n f)) := hf
  clear hr hf
  go_enter Tryd.func24, Tryd.ntmps24
  go_wp2_with fail
  refine (lent14 l n f w HR.out hn).mono ?_
  rintro e w1 ⟨v0, rfl, hown, hbel⟩
  have S1 : Hid (RB w1 full (n + 6) (lent n f)) := HF.out.below hbel
  have S2 : Hid (RB w1 v0 (n + 6) (lent n f)) := hown.reads
  have HB : Hid (Below w.heap.size w w1) := hbel
  clear hown hbel
  go_wp2_with fail
  refine (same_true _ _ (n + 6) _ _ _ S1.out S2.out (by omega) (fun _ _ => rfl)).mono ?_
  rintro e w2 ⟨rfl, d, rfl⟩
  go_wp2
  go_ret
  exact ⟨rfl, Below.drewN' HB.out d⟩
/-- What a list that was written over holds. -/
def over (i : Nat) : Int := (64 + (i : Int)) % 256
theorem over_bound (i : Nat) : 0 ≤ over i ∧ over i < 256 := by unfold over; omega
theorem grown_trans {a b c : World} {r : Option Nat} (h : a.grownBy b r) (k : b.grownBy c r) : a.grownBy c r :=
  ⟨k.os.trans h.os, k.tape.trans h.tape, k.output.trans h.output, Nat.le_trans h.size k.size, fun j hj hr => (k.block j (Nat.lt_of_lt_of_le hj h.size) hr).trans (h.block j hj hr)⟩
theorem own_congr {w : World} {base : Nat} {v : Value} {n : Nat} {f g : Nat → Int} (h : Own w base v n f) (hg : ∀ i, 0 ≤ g i ∧ g i < 256) (e : ∀ i, i < n → f i = g i) : Own w base v n g :=
  ⟨hg, by rw [← bl_congr n f g e]; exact h.2⟩
theorem own_store {w : World} {base g N cap : Nat} {f : Nat → Int} (h : Own w base (.slice (some ⟨g, 0, none⟩) N cap) N f) (k : Nat) (x : Int) (hx : 0 ≤ x ∧ x < 256) :
    Own (w.setCell ⟨g, k, none⟩ (.int .u8 x)) base (.slice (some ⟨g, 0, none⟩) N cap) N (fun i => if i = k then x else f i) ∧ w.grownBy (w.setCell ⟨g, k, none⟩ (.int .u8 x)) (some g) := by
  obtain ⟨h1, h2⟩ := h.2.stored k (.int .u8 x)
  rw [bl_set] at h1
  refine ⟨⟨fun i => ?_, h1⟩, h2⟩
  show 0 ≤ (if i = k then x else f i) ∧ (if i = k then x else f i) < 256
  split
  · exact hx
  · exact h.1 i
set_option maxHeartbeats 400000 in
theorem over18 (g cap N base : Nat) (f : Nat → Int) (w : World) (ho : Own w base (.slice (some ⟨g, 0, none⟩) N cap) N f) (hn : N ≤ 140737488355328) :
    Calls Tryd.prog 25 #[.slice (some ⟨g, 0, none⟩) N cap] w fun e w' => e = .returned (.tuple #[]) ∧ Own w' base (.slice (some ⟨g, 0, none⟩) N cap) N over ∧ w.grownBy w' (some g) := by
  have HO : Hid (Own w base (.slice (some ⟨g, 0, none⟩) N cap) N f) := ho
  clear ho
  go_enter Tryd.func25, Tryd.ntmps25
  go_wp2
  go_loopw [2] (fun i wr => ∃ k : Nat, k ≤ N ∧ i = .int .i64 k ∧ Own wr base (.slice (some ⟨g, 0, none⟩) N cap) N (fun i => if i < k then over i else f i) ∧ w.grownBy wr (some g)) (fun i _ => N - (intOf i).toNat)
  case atStart => exact ⟨0, Nat.zero_le _, rfl, HO.out, World.grownBy.refl _ _⟩
  case round =>
    obtain ⟨k, hk, rfl, hown, hgr⟩ := hrel
    have HW : Hid (Own wr base (.slice (some ⟨g, 0, none⟩) N cap) N (fun i => if i < k then over i else f i)) := hown
    have HG : Hid (w.grownBy wr (some g)) := hgr
    by_cases hlt : k < N
    · have hcell : wr.cell? ⟨g, k, none⟩ = some (.int .u8 (f k)) := by
        rw [hown.2.cellAt k (by omega), bl_get _ _ _ hlt, if_neg (by omega)]
      have hfz := hown.2.frozenAt k
      clear hown hgr
      go_wp2_with (go_at_call 41; refine (mark42 _ _ _ (by omega) (by omega) (by omega) (by omega)).mono ?_; rintro e w' ⟨rfl, rfl⟩)
      have S := own_store HW.out k ((63 + (k : Int) + 1) % 256) (by omega)
      refine ⟨⟨k + 1, by omega, by go_num, own_congr S.1 (fun i => ?_) (fun i hi => ?_), grown_trans HG.out S.2⟩, by simp [intOf]; omega⟩
      · show 0 ≤ (if i < k + 1 then over i else f i) ∧ (if i < k + 1 then over i else f i) < 256
        split
        · exact over_bound i
        · exact HO.out.1 i
      · show (if i = k then (63 + (k : Int) + 1) % 256 else if i < k then over i else f i) = if i < k + 1 then over i else f i
        by_cases h : i = k
        · subst h; rw [if_pos rfl, if_pos (by omega)]; unfold over; omega
        · rw [if_neg h]; by_cases h2 : i < k
          · rw [if_pos h2, if_pos (by omega)]
          · rw [if_neg h2, if_neg (by omega)]
    · clear hown hgr
      go_wp2
      go_end0
      exact ⟨rfl, own_congr HW.out over_bound (fun i hi => by rw [if_pos (by omega)]), HG.out⟩
theorem bl_zero (n : Nat) : (madeCells #[Value.int .u8 0] n).toList = bl n (fun _ => 0) := by
  rw [toList_madeCells_one]
  apply List.ext_getElem?
  intro i
  by_cases h : i < n
  · rw [bl_get _ _ _ h]; simp [h]
  · rw [List.getElem?_eq_none (l := bl n _) (by rw [bl_length]; omega)]; simp; omega
theorem own_lit (w : World) (cs : Array Value) (n : Nat) (f : Nat → Int) (hf : ∀ i, 0 ≤ f i ∧ f i < 256) (hn : n ≤ maxLen) (hs : cs.size = n) (hc : cs.toList = bl n f) :
    Own (w.alloc (.cells cs 5)) w.heap.size (.slice (some ⟨w.heap.size, 0, none⟩) n n) n f := by
  refine ⟨hf, ?_⟩
  have h := World.ownsRow_lit (base := w.heap.size) (e := 5) (size := 1) w cs n (Nat.le_refl _) hn (by omega)
  rw [← hc]
  exact h
theorem rb_lit (w : World) (cs : Array Value) (n : Nat) (f : Nat → Int) (hf : ∀ i, 0 ≤ f i ∧ f i < 256) (hn : n ≤ maxLen) (hs : cs.size = n) (hc : cs.toList = bl n f) :
    RB (w.alloc (.cells cs 5)) (.slice (some ⟨w.heap.size, 0, none⟩) n n) n f := (own_lit w cs n f hf hn hs hc).reads
theorem rb_lit' (w : World) (cs : Array Value) (g n : Nat) (f : Nat → Int) (hg : g = w.heap.size) (hf : ∀ i, 0 ≤ f i ∧ f i < 256) (hn : n ≤ maxLen) (hs : cs.size = n) (hc : cs.toList = bl n f) :
    RB (w.alloc (.cells cs 5)) (.slice (some ⟨g, 0, none⟩) n n) n f := by
  subst hg; exact rb_lit w cs n f hf hn hs hc
theorem RB.alloc {w : World} {v : Value} {n : Nat} {f : Nat → Int} (h : RB w v n f) (o : Obj) : RB (w.alloc o) v n f := h.below ((Below.refl _ _).alloc (Nat.le_refl _) o)
theorem below_alloc {B : Nat} {a w : World} (h : Below B a w) (hB : B = a.heap.size) (o : Obj) : Below B a (w.alloc o) := h.alloc (by subst hB; exact h.size) o
/-- A list out of numbers. -/
def lst (l : List Int) (i : Nat) : Int := l.getD i 0
theorem lst_bound (l : List Int) (h : l.all (fun z => decide (0 ≤ z ∧ z < 256)) = true) (i : Nat) : 0 ≤ lst l i ∧ lst l i < 256 := by
  unfold lst
  by_cases hi : i < l.length
  · have := List.all_eq_true.1 h l[i] (List.getElem_mem hi)
    simp [hi] at this ⊢
    omega
  · simp [List.getElem?_eq_none (Nat.le_of_not_lt hi)]
theorem own_below {w w' : World} {base : Nat} {v : Value} {n : Nat} {f : Nat → Int} (h : Own w base v n f) (hb : Below w.heap.size w w') : Own w' base v n f := by
  refine ⟨h.1, ?_⟩
  have hg : w.grownBy w' none := ⟨hb.os, hb.tape, hb.output, hb.size, fun k hk _ => hb.block k hk⟩
  rcases h.shape with ⟨rfl, _⟩ | ⟨g, cap, rfl, _⟩
  · exact h.2.kept hg (.inl rfl)
  · exact h.2.kept hg (.inr (by simp [Value.ownBlock]))
theorem bytes5 : Tryd.prog.bytesOf 5 = 1 := by kernel_rfl
theorem u8_bound {x : Int} (h : (Lit.int .u8 x).wf = true) : 0 ≤ x ∧ x < 256 := by
  simp [Lit.wf, IntKind.min, IntKind.max, IntKind.bits, IntKind.signed] at h; omega
theorem rb_of_row {w : World} {a : Option Addr} {len cap : Nat} {zs : List Int}
    (h : (a = none ∧ len = 0 ∧ cap = 0 ∧ zs = []) ∨
      ∃ x, a = some x ∧ len ≤ cap ∧ cap ≤ maxLen ∧ zs.length = cap ∧ (∀ i, i < zs.length → w.cell? (x.add i) = some (.int .u8 (zs.getD i 0))) ∧ ∀ n ∈ zs, (Lit.int .u8 n).wf = true) :
    RB w (.slice a len cap) len (lst zs) := by
  rcases h with ⟨rfl, rfl, rfl, rfl⟩ | ⟨x, rfl, hl, hm, hz, hcell, hwz⟩
  · exact ⟨lst_bound _ rfl, none, 0, rfl, Nat.le_refl _, by simp [maxLen], .inl ⟨rfl, fun _ => rfl⟩⟩
  · have hb : ∀ i, 0 ≤ lst zs i ∧ lst zs i < 256 := by
      intro i
      unfold lst
      by_cases hi : i < zs.length
      · have := u8_bound (hwz zs[i] (List.getElem_mem hi))
        simp [hi]; omega
      · simp [List.getElem?_eq_none (Nat.le_of_not_lt hi)]
    by_cases h0 : len = 0
    · subst h0
      exact ⟨hb, _, _, rfl, by omega, hm, .inl ⟨rfl, fun h => by cases h⟩⟩
    · obtain ⟨b, off, spot⟩ := x
      have hc := hcell 0 (by omega)
      have hspot : spot = none := by simpa [Addr.add] using World.cell?_spot hc
      subst hspot
      refine ⟨hb, _, _, rfl, hl, hm, .inr ⟨b, off, rfl, fun i hi => ?_⟩⟩
      have := hcell i (by omega)
      rw [add_plain] at this
      exact this
theorem own_cells {w : World} {base : Nat} {v : Value} {n : Nat} {f : Nat → Int} (h : Own w base v n f) (hn : 0 < n) : ∃ g cap, v = .slice (some ⟨g, 0, none⟩) n cap ∧ ∀ i, i < n → w.cell? ⟨g, i, none⟩ = some (.int .u8 (f i)) := by
  rcases h.shape with ⟨_, h0⟩ | ⟨g, cap, rfl, _, _, _, _, hc, _⟩
  · omega
  · exact ⟨g, cap, rfl, hc⟩
theorem rb_cap {w : World} {a : Option Addr} {n cap : Nat} {f : Nat → Int} (h : RB w (.slice a n cap) n f) : n ≤ cap := by
  obtain ⟨_, a', c', hv, h1, _⟩ := h
  simp at hv
  omega
end Go.Proofs.YtnbmnpfpjhpifaaDoor.By

namespace Go.Proofs.YtnbmnpfpjhpifaaDoor
open Go.ChangeShapes Go.WideShapes Go.ChangeAt Go.RowKit

theorem hid {p : Prop} (h : p) : Hid p := h
theorem below_drew' {B : Nat} {a w : World} (h : Below B a w) (k : Nat) : Below B a (w.drewN k) := ⟨h.os, h.tape, h.output, h.size, h.block⟩
theorem below_of_grown {w w' : World} (h : w.grownBy w' none) : Below w.heap.size w w' := ⟨h.os, h.tape, h.output, h.size, fun k hk => h.block k hk (by simp)⟩
theorem drewN_two (Z : World) (d x : Nat) : (Z.drewN d).drewN x = Z.drewN (d + x) := by simp
theorem below_drewN (w : World) (k : Nat) : Below w.heap.size w (w.drewN k) := below_drew' (Below.refl _ _) k
theorem below_alloc (w : World) (o : Obj) : Below w.heap.size w (w.alloc o) := (Below.refl _ w).alloc (Nat.le_refl _) o
/-- Two steps that only make memory. -/
theorem below_next {w w1 w2 : World} (h : Below w.heap.size w w1) (k : Below w1.heap.size w1 w2) : Below w.heap.size w w2 := h.trans (k.mono h.size)

/-- Which blocks a step may have turned: those of S. -/
structure Kp (S : Nat → Prop) (w w' : World) : Prop where
  os : w'.os = w.os
  tape : w'.tape = w.tape
  output : w'.output = w.output
  size : w.heap.size ≤ w'.heap.size
  block : ∀ k, k < w.heap.size → ¬ S k → w'.heap[k]? = w.heap[k]?

theorem Kp.refl (S : Nat → Prop) (w : World) : Kp S w w := ⟨rfl, rfl, rfl, Nat.le_refl _, fun _ _ _ => rfl⟩
theorem Kp.of_below {w w' : World} (S : Nat → Prop) (h : Below w.heap.size w w') : Kp S w w' := ⟨h.os, h.tape, h.output, h.size, fun k hk _ => h.block k hk⟩
theorem Kp.of_grown {w w' : World} {row : Option Nat} (h : w.grownBy w' row) : Kp (fun k => row = some k) w w' := ⟨h.os, h.tape, h.output, h.size, fun k hk hn => h.block k hk (fun e => hn e.symm)⟩
theorem Kp.mono {S T : Nat → Prop} {w w' : World} (h : Kp S w w') (hs : ∀ k, k < w.heap.size → S k → T k) : Kp T w w' := ⟨h.os, h.tape, h.output, h.size, fun k hk hn => h.block k hk (fun e => hn (hs k hk e))⟩
theorem Kp.trans {S T : Nat → Prop} {a b c : World} (h : Kp S a b) (k : Kp T b c) (ht : ∀ i, i < a.heap.size → T i → S i) : Kp S a c :=
  ⟨k.os.trans h.os, k.tape.trans h.tape, k.output.trans h.output, Nat.le_trans h.size k.size, fun i hi hn => (k.block i (Nat.lt_of_lt_of_le hi h.size) (fun e => hn (ht i hi e))).trans (h.block i hi hn)⟩
theorem Kp.below {S : Nat → Prop} {B : Nat} {w w' : World} (h : Kp S w w') (hB : B ≤ w.heap.size) (hs : ∀ k, k < B → ¬ S k) : Below B w w' := ⟨h.os, h.tape, h.output, h.size, fun k hk => h.block k (by omega) (hs k hk)⟩
theorem Kp.setCell {w : World} (g i : Nat) (u : Value) : Kp (fun k => k = g) w (w.setCell ⟨g, i, none⟩ u) := ⟨rfl, rfl, rfl, by simp [World.setCell], fun k _ hn => Below.heap_setCell _ _ _ _ hn⟩

end Go.Proofs.YtnbmnpfpjhpifaaDoor
namespace Go.Proofs.YtnbmnpfpjhpifaaDoor.Wd

/-- A number below 2 ^ W, its bits turned by l places (l below W). -/
def rotN (W l x : Nat) : Nat := x * 2 ^ l % 2 ^ W + x * 2 ^ l / 2 ^ W

theorem rotN_zero (W l : Nat) : rotN W l 0 = 0 := by simp [rotN]

theorem rot_div (W l x : Nat) (hl : l ≤ W) : x * 2 ^ l / 2 ^ W = x / 2 ^ (W - l) := by
  have e : (2 : Nat) ^ W = 2 ^ (W - l) * 2 ^ l := by rw [← Nat.pow_add]; congr 1; omega
  rw [e, Nat.mul_div_mul_right _ _ (Nat.two_pow_pos l)]

theorem rot_or (W l x : Nat) (hl : l ≤ W) (hx : x < 2 ^ W) : x * 2 ^ l % 2 ^ W ||| x / 2 ^ (W - l) = rotN W l x := by
  have e : (2 : Nat) ^ W = 2 ^ (W - l) * 2 ^ l := by rw [← Nat.pow_add]; congr 1; omega
  rw [nat_join l]
  · rw [rotN, rot_div W l x hl]
  · rw [e, Nat.mul_mod_mul_right]; exact Nat.mul_mod_left _ _
  · rw [Nat.div_lt_iff_lt_mul (Nat.two_pow_pos _), Nat.mul_comm, ← e]; exact hx

theorem rotN_lt (W l x : Nat) (hl : l ≤ W) (hx : x < 2 ^ W) : rotN W l x < 2 ^ W := by
  rw [← rot_or W l x hl hx]
  exact Nat.or_lt_two_pow (Nat.mod_lt _ (Nat.two_pow_pos _)) (Nat.lt_of_le_of_lt (Nat.div_le_self _ _) hx)

theorem rotN_step (W l x k : Nat) (hl : l < W) (hk : k < W) :
    rotN W l (x % 2 ^ (k + 1)) = rotN W l (x % 2 ^ k) + (x / 2 ^ k % 2) * 2 ^ ((k + l) % W) := by
  have hs : x % 2 ^ (k + 1) = x % 2 ^ k + (x / 2 ^ k % 2) * 2 ^ k := by
    rw [Nat.pow_succ, Nat.mod_mul]; rw [Nat.mul_comm (2 ^ k)]
  have ha : x % 2 ^ k < 2 ^ k := Nat.mod_lt _ (Nat.two_pow_pos _)
  have hb : x / 2 ^ k % 2 < 2 := Nat.mod_lt _ (by omega)
  rw [hs]
  generalize x % 2 ^ k = a at *
  generalize x / 2 ^ k % 2 = b at *
  have hm : (a + b * 2 ^ k) * 2 ^ l = a * 2 ^ l + b * 2 ^ (k + l) := by
    rw [Nat.add_mul, Nat.mul_assoc, ← Nat.pow_add]
  unfold rotN
  rw [hm]
  by_cases h : k + l < W
  · have e1 : (k + l) % W = k + l := Nat.mod_eq_of_lt h
    have h2 : (2 : Nat) ^ (k + l + 1) ≤ 2 ^ W := Nat.pow_le_pow_right (by omega) (by omega)
    have h3 : a * 2 ^ l < 2 ^ (k + l) := by rw [Nat.pow_add]; exact Nat.mul_lt_mul_of_pos_right ha (Nat.two_pow_pos _)
    have h4 : b * 2 ^ (k + l) ≤ 2 ^ (k + l) := by
      have : b * 2 ^ (k + l) ≤ 1 * 2 ^ (k + l) := Nat.mul_le_mul_right _ (by omega)
      simpa using this
    rw [Nat.pow_succ] at h2
    have h5 : a * 2 ^ l + b * 2 ^ (k + l) < 2 ^ W := by omega
    have h6 : a * 2 ^ l < 2 ^ W := by omega
    rw [Nat.mod_eq_of_lt h5, Nat.div_eq_of_lt h5, Nat.mod_eq_of_lt h6, Nat.div_eq_of_lt h6, e1]
    omega
  · have e1 : (k + l) % W = k + l - W := by
      rw [Nat.mod_eq_sub_mod (by omega)]; exact Nat.mod_eq_of_lt (by omega)
    have e2 : b * 2 ^ (k + l) = b * 2 ^ (k + l - W) * 2 ^ W := by
      rw [Nat.mul_assoc, ← Nat.pow_add]; congr 2; omega
    rw [e2, Nat.add_mul_mod_self_right, Nat.add_mul_div_right _ _ (Nat.two_pow_pos _), e1]
    omega

theorem rotN_bit (W l x j : Nat) (hl : l ≤ W) (hx : x < 2 ^ W) :
    (rotN W l x).testBit j = if j < l then x.testBit (j + (W - l)) else (decide (j < W) && x.testBit (j - l)) := by
  have hz : ∀ i, W ≤ i → x.testBit i = false := fun i hi => Nat.testBit_lt_two_pow (Nat.lt_of_lt_of_le hx (Nat.pow_le_pow_right (by omega) hi))
  rw [← rot_or W l x hl hx, Nat.testBit_or, Nat.testBit_mod_two_pow, Nat.mul_comm, Nat.testBit_two_pow_mul, Nat.testBit_div_two_pow]
  by_cases h : j < l
  · have hn : ¬ l ≤ j := by omega
    simp [h, hn]
  · have hz' : x.testBit (W - l + j) = false := hz _ (by omega)
    have hle : l ≤ j := by omega
    simp [h, hle]
    intro h2
    rw [Nat.add_comm] at hz'
    simp [hz'] at h2

theorem rotN_two64 (l m x : Nat) (hl : l < 64) (hm : m < 64) (hx : x < 2 ^ 64) : rotN 64 m (rotN 64 l x) = rotN 64 ((l + m) % 64) x := by
  apply Nat.eq_of_testBit_eq
  intro j
  have h1 := rotN_lt 64 l x (by omega) hx
  rw [rotN_bit 64 m _ j (by omega) h1, rotN_bit 64 ((l + m) % 64) x j (by omega) hx, rotN_bit 64 l x _ (by omega) hx, rotN_bit 64 l x _ (by omega) hx]
  by_cases h64 : j < 64
  · by_cases a : j < m <;> by_cases b : l + m < 64 <;> by_cases c : j < (l + m) % 64 <;> simp only [a, c, if_true, if_false, h64, decide_true, Bool.true_and]
    all_goals (first | (rw [if_pos (by omega)]) | (rw [if_neg (by omega)]))
    all_goals (first | (congr 1; omega) | (rw [decide_eq_true (by omega), Bool.true_and]; congr 1; omega) | (exfalso; omega))
  · simp [h64, show ¬ j < m from by omega, show ¬ j < (l + m) % 64 from by omega]

theorem rotN_two32 (l m x : Nat) (hl : l < 32) (hm : m < 32) (hx : x < 2 ^ 32) : rotN 32 m (rotN 32 l x) = rotN 32 ((l + m) % 32) x := by
  apply Nat.eq_of_testBit_eq
  intro j
  have h1 := rotN_lt 32 l x (by omega) hx
  rw [rotN_bit 32 m _ j (by omega) h1, rotN_bit 32 ((l + m) % 32) x j (by omega) hx, rotN_bit 32 l x _ (by omega) hx, rotN_bit 32 l x _ (by omega) hx]
  by_cases h64 : j < 32
  · by_cases a : j < m <;> by_cases b : l + m < 32 <;> by_cases c : j < (l + m) % 32 <;> simp only [a, c, if_true, if_false, h64, decide_true, Bool.true_and]
    all_goals (first | (rw [if_pos (by omega)]) | (rw [if_neg (by omega)]))
    all_goals (first | (congr 1; omega) | (rw [decide_eq_true (by omega), Bool.true_and]; congr 1; omega) | (exfalso; omega))
  · simp [h64, show ¬ j < m from by omega, show ¬ j < (l + m) % 32 from by omega]

/-- The same over whole numbers: a word x of W bits, turned by n places, whatever n is. -/
def Rot (W : Nat) (x n : Int) : Int := ((rotN W (n % W).toNat x.toNat : Nat) : Int)

theorem and_i64_low (n : Int) (j : Nat) (hj : j < 63) : bits .and .i64 n ((2 ^ j - 1 : Nat) : Int) = n % (2 ^ j : Nat) := by
  have hp : (0 : Int) < (2 ^ j : Nat) := by exact_mod_cast Nat.two_pow_pos j
  have hp' : 0 < 2 ^ j := Nat.two_pow_pos j
  have hle : 2 ^ j ≤ 2 ^ 62 := Nat.pow_le_pow_right (by omega) (by omega)
  have h2 : (BitVec.ofInt 64 ((2 ^ j - 1 : Nat) : Int)).toNat = 2 ^ j - 1 := by
    rw [BitVec.ofInt_natCast, BitVec.toNat_ofNat]; exact Nat.mod_eq_of_lt (by omega)
  have h1 : (BitVec.ofInt 64 n).toNat = (n % 2 ^ 64).toNat := by rw [BitVec.toNat_ofInt]; rfl
  show IntKind.i64.wrap ((BitVec.ofInt 64 n &&& BitVec.ofInt 64 ((2 ^ j - 1 : Nat) : Int)).toNat : Int) = _
  rw [BitVec.toNat_and, h1, h2, Nat.and_two_pow_sub_one_eq_mod]
  have hd : (2 : Int) ^ 64 = ((2 ^ j : Nat) : Int) * ((2 ^ (64 - j) : Nat) : Int) := by
    rw [← Int.natCast_mul, ← Nat.pow_add, show j + (64 - j) = 64 by omega]; rfl
  have hm : (((n % 2 ^ 64).toNat % 2 ^ j : Nat) : Int) = n % (2 ^ j : Nat) := by
    rw [Int.natCast_emod, Int.toNat_of_nonneg (Int.emod_nonneg _ (by decide)), Int.emod_emod_of_dvd _ ⟨_, hd⟩]
  rw [hm]
  have hlt := Int.emod_lt_of_pos n hp
  have h0 := Int.emod_nonneg n (show ((2 ^ j : Nat) : Int) ≠ 0 by omega)
  have hb : 2 ^ j ≤ 4611686018427387904 := hle
  rw [IntKind.wrap_i64]
  omega
theorem and_31 (n : Int) : bits .and .i64 n 31 = n % 32 := and_i64_low n 5 (by decide)
theorem and_63 (n : Int) : bits .and .i64 n 63 = n % 64 := and_i64_low n 6 (by decide)

theorem turned32 (x n : Int) (h0 : 0 ≤ x) (h1 : x < 4294967296) :
    bits .or .u32 (x * 2 ^ (n % 32).toNat % 4294967296) (x / 2 ^ (32 - n % 32).toNat) = Rot 32 x n := by
  have hl : (n % 32).toNat < 32 := by omega
  generalize hg : n % 32 = g at *
  obtain ⟨X, rfl⟩ := Int.eq_ofNat_of_zero_le h0
  obtain ⟨L, rfl⟩ := Int.eq_ofNat_of_zero_le (show 0 ≤ g by omega)
  rw [Int.toNat_natCast, show (32 - (L : Int)).toNat = 32 - L by omega]
  have e1 : (X : Int) * 2 ^ L % 4294967296 = ((X * 2 ^ L % 2 ^ 32 : Nat) : Int) := by rw [Int.natCast_emod, Int.natCast_mul, Int.natCast_pow]; rfl
  have e2 : (X : Int) / 2 ^ (32 - L) = ((X / 2 ^ (32 - L) : Nat) : Int) := by push_cast; rfl
  rw [e1, e2, u32_or_nat _ _ (Nat.mod_lt _ (by decide)) (Nat.lt_of_le_of_lt (Nat.div_le_self _ _) (by omega)), rot_or 32 L X (by omega) (by omega)]
  show _ = ((rotN 32 (n % (32 : Nat)).toNat (X : Int).toNat : Nat) : Int)
  rw [show n % ((32 : Nat) : Int) = (L : Int) from hg]; rfl
theorem turned64 (x n : Int) (h0 : 0 ≤ x) (h1 : x < 18446744073709551616) :
    bits .or .u64 (x * 2 ^ (n % 64).toNat % 18446744073709551616) (x / 2 ^ (64 - n % 64).toNat) = Rot 64 x n := by
  have hl : (n % 64).toNat < 64 := by omega
  generalize hg : n % 64 = g at *
  obtain ⟨X, rfl⟩ := Int.eq_ofNat_of_zero_le h0
  obtain ⟨L, rfl⟩ := Int.eq_ofNat_of_zero_le (show 0 ≤ g by omega)
  rw [Int.toNat_natCast, show (64 - (L : Int)).toNat = 64 - L by omega]
  have e1 : (X : Int) * 2 ^ L % 18446744073709551616 = ((X * 2 ^ L % 2 ^ 64 : Nat) : Int) := by rw [Int.natCast_emod, Int.natCast_mul, Int.natCast_pow]; rfl
  have e2 : (X : Int) / 2 ^ (64 - L) = ((X / 2 ^ (64 - L) : Nat) : Int) := by push_cast; rfl
  rw [e1, e2, u64_or_nat _ _ (Nat.mod_lt _ (by decide)) (Nat.lt_of_le_of_lt (Nat.div_le_self _ _) (by omega)), rot_or 64 L X (by omega) (by omega)]
  show _ = ((rotN 64 (n % (64 : Nat)).toNat (X : Int).toNat : Nat) : Int)
  rw [show n % ((64 : Nat) : Int) = (L : Int) from hg]; rfl

/-- What the turning has come to behind k bits. -/
def RotTo (W : Nat) (x l : Int) (k : Nat) : Int := ((rotN W l.toNat (x.toNat % 2 ^ k) : Nat) : Int)
theorem RotTo_zero (W : Nat) (x l : Int) : RotTo W x l 0 = 0 := by simp [RotTo, Nat.mod_one, rotN_zero]
theorem RotTo_bound (W : Nat) (x l : Int) (k : Nat) (hW : W ≤ 64) (hk : k ≤ W) (hl : l.toNat < W) : 0 ≤ RotTo W x l k ∧ RotTo W x l k < 18446744073709551616 := by
  have h := rotN_lt W l.toNat (x.toNat % 2 ^ k) (by omega) (Nat.lt_of_lt_of_le (Nat.mod_lt _ (Nat.two_pow_pos _)) (Nat.pow_le_pow_right (by omega) hk))
  have h2 : 2 ^ W ≤ 2 ^ 64 := Nat.pow_le_pow_right (by omega) hW
  unfold RotTo
  omega
theorem RotTo_end (W : Nat) (x l : Int) (hx : x.toNat < 2 ^ W) : RotTo W x l W = ((rotN W l.toNat x.toNat : Nat) : Int) := by
  unfold RotTo; rw [Nat.mod_eq_of_lt hx]
theorem bit_of (x : Int) (k : Nat) (h0 : 0 ≤ x) : (x / 2 ^ k).tmod 2 = ((x.toNat / 2 ^ k % 2 : Nat) : Int) := by
  obtain ⟨X, rfl⟩ := Int.eq_ofNat_of_zero_le h0
  rw [Int.toNat_natCast]
  have e2 : (X : Int) / 2 ^ k = ((X / 2 ^ k : Nat) : Int) := by push_cast; rfl
  rw [e2, Int.tmod_eq_emod_of_nonneg (Int.natCast_nonneg _)]; rfl
theorem RotTo_on (W : Nat) (x l : Int) (k : Nat) (hW : W ≤ 64) (hk : k < W) (h0 : 0 ≤ x) (hl0 : 0 ≤ l) (hl : l < W) (hb : ((x / 2 ^ k).tmod 2 == 1) = true) :
    IntKind.u64.wrap (RotTo W x l k + IntKind.u64.wrap (2 ^ (((k : Int) + l) % W).toNat)) = RotTo W x l (k + 1) := by
  have hs := rotN_step W l.toNat x.toNat k (by omega) hk
  have hbit : x.toNat / 2 ^ k % 2 = 1 := by
    rw [bit_of x k h0] at hb
    have := of_decide_eq_true hb
    omega
  have hbd := RotTo_bound W x l (k + 1) hW (by omega) (by omega)
  have e : ((k : Int) + l) % W = (((k + l.toNat) % W : Nat) : Int) := by
    rw [Int.natCast_emod]; congr 1; omega
  have hb1 : (2 : Nat) ^ ((k + l.toNat) % W) < 2 ^ 64 := Nat.pow_lt_pow_right (by omega) (Nat.lt_of_lt_of_le (Nat.mod_lt _ (by omega)) hW)
  rw [hbit, Nat.one_mul] at hs
  have hR : RotTo W x l (k + 1) = RotTo W x l k + ((2 ^ ((k + l.toNat) % W) : Nat) : Int) := by
    unfold RotTo; rw [hs]; exact Int.natCast_add _ _
  rw [e, Int.toNat_natCast]
  have e2 : (2 : Int) ^ ((k + l.toNat) % W) = ((2 ^ ((k + l.toNat) % W) : Nat) : Int) := by push_cast; rfl
  rw [e2, IntKind.wrap_u64, IntKind.wrap_u64]
  rw [hR] at hbd ⊢
  omega
theorem RotTo_off (W : Nat) (x l : Int) (k : Nat) (hk : k < W) (h0 : 0 ≤ x) (hl : l.toNat < W) (hb : ((x / 2 ^ k).tmod 2 == 1) = false) :
    RotTo W x l k = RotTo W x l (k + 1) := by
  have hs := rotN_step W l.toNat x.toNat k hl hk
  have hbit : x.toNat / 2 ^ k % 2 = 0 := by
    rw [bit_of x k h0] at hb
    have := of_decide_eq_false hb
    omega
  unfold RotTo; rw [hs, hbit]; simp

theorem Rot32_bound (x n : Int) (h0 : 0 ≤ x) (h1 : x < 4294967296) : 0 ≤ Rot 32 x n ∧ Rot 32 x n < 4294967296 := by
  have h := rotN_lt 32 (n % (32 : Nat)).toNat x.toNat (by omega) (by omega)
  unfold Rot
  omega
theorem Rot64_bound (x n : Int) (h0 : 0 ≤ x) (h1 : x < 18446744073709551616) : 0 ≤ Rot 64 x n ∧ Rot 64 x n < 18446744073709551616 := by
  have h := rotN_lt 64 (n % (64 : Nat)).toNat x.toNat (by omega) (by omega)
  unfold Rot
  omega
end Go.Proofs.YtnbmnpfpjhpifaaDoor.Wd
namespace Go.Proofs.YtnbmnpfpjhpifaaDoor.Kc
open Go.Proofs.YtnbmnpfpjhpifaaDoor.Wd

def W64 (x : Int) : Prop := 0 ≤ x ∧ x < 18446744073709551616
def xr (a b : Int) : Int := bits .xor .u64 a b
/-- The bits of a that are not in b. -/
def dn (a b : Int) : Int := bits .andNot .u64 a b
def rl (x n : Int) : Int := Rot 64 x n
theorem bits_w (op : BinOp) (a b : Int) : W64 (bits op .u64 a b) := by
  have h : ∀ n : Nat, W64 (IntKind.u64.wrap (n : Int)) := fun n => by rw [IntKind.wrap_u64]; unfold W64; omega
  unfold bits
  exact h _
theorem xr_w (a b : Int) : W64 (xr a b) := bits_w _ _ _
theorem dn_w (a b : Int) : W64 (dn a b) := bits_w _ _ _
theorem rl_w (x n : Int) (h : W64 x) : W64 (rl x n) := Rot64_bound x n h.1 h.2
theorem w0 : W64 0 := by unfold W64; decide

/-- Bit j of a word. -/
def bt (x : Int) (j : Nat) : Bool := x.toNat.testBit j
theorem bt_ext {x y : Int} (hx : W64 x) (hy : W64 y) (h : ∀ j, j < 64 → bt x j = bt y j) : x = y := by
  have h1 : x.toNat = y.toNat := by
    apply Nat.eq_of_testBit_eq
    intro j
    by_cases hj : j < 64
    · exact h j hj
    · have p : ∀ z : Int, W64 z → z.toNat.testBit j = false := fun z hz => Nat.testBit_lt_two_pow (Nat.lt_of_lt_of_le (show z.toNat < 2 ^ 64 by have := hz.1; have := hz.2; show z.toNat < 18446744073709551616; omega) (Nat.pow_le_pow_right (by omega) (by omega)))
      rw [p x hx, p y hy]
  have := hx.1; have := hy.1; omega
theorem bt_xr {a b : Int} (ha : W64 a) (hb : W64 b) (j : Nat) : bt (xr a b) j = (bt a j ^^ bt b j) := by
  obtain ⟨A, rfl⟩ := Int.eq_ofNat_of_zero_le ha.1
  obtain ⟨B, rfl⟩ := Int.eq_ofNat_of_zero_le hb.1
  have h1 := ha.2; have h2 := hb.2
  unfold xr bt
  rw [u64_xor_nat A B (by omega) (by omega)]
  simp [Nat.testBit_xor]
theorem bt_dn {a b : Int} (ha : W64 a) (hb : W64 b) (j : Nat) (hj : j < 64) : bt (dn a b) j = (bt a j && !bt b j) := by
  obtain ⟨A, rfl⟩ := Int.eq_ofNat_of_zero_le ha.1
  obtain ⟨B, rfl⟩ := Int.eq_ofNat_of_zero_le hb.1
  have h1 := ha.2; have h2 := hb.2
  unfold dn bt
  rw [u64_andNot_nat A B (by omega) (by omega)]
  simp only [Int.toNat_natCast, Nat.testBit_and]
  rw [show 18446744073709551615 - B = 2 ^ 64 - (B + 1) from by omega, Nat.testBit_two_pow_sub_succ (by show B < 18446744073709551616; omega)]
  simp [hj]
theorem bt_rl {x : Int} (hx : W64 x) (n : Nat) (j : Nat) (hj : j < 64) : bt (rl x n) j = bt x ((j + (64 - n % 64)) % 64) := by
  have hX : x.toNat < 2 ^ 64 := by have := hx.1; have := hx.2; show x.toNat < 18446744073709551616; omega
  unfold rl bt Rot
  rw [Int.toNat_natCast, show ((n : Int) % (64 : Nat)).toNat = n % 64 from by omega]
  have hl : n % 64 < 64 := Nat.mod_lt _ (by omega)
  generalize n % 64 = l at *
  rw [rotN_bit 64 l _ j (by omega) hX]
  split
  · congr 1; omega
  · rw [decide_eq_true hj, Bool.true_and]
    congr 1; omega
theorem rl_inj {x y : Int} (hx : W64 x) (hy : W64 y) (n : Nat) (h : rl x n = rl y n) : x = y := by
  refine bt_ext hx hy (fun j hj => ?_)
  have h1 := congrArg (fun z => bt z ((j + n % 64) % 64)) h
  rw [bt_rl hx n _ (Nat.mod_lt _ (by omega)), bt_rl hy n _ (Nat.mod_lt _ (by omega))] at h1
  rwa [show ((j + n % 64) % 64 + (64 - n % 64)) % 64 = j from by omega] at h1
theorem rl_zero {x : Int} (hx : W64 x) : rl x 0 = x := by
  refine bt_ext (rl_w x 0 hx) hx (fun j hj => ?_)
  have := bt_rl hx 0 j hj
  rw [show ((0 : Nat) : Int) = 0 from rfl] at this
  rw [this]; congr 1; omega

/-- Step 1: the columns, what each lane takes in, the lanes. -/
def col (a : Nat → Int) (x : Nat) : Int := xr (xr (xr (xr (a x) (a (x + 5))) (a (x + 10))) (a (x + 15))) (a (x + 20))
def dd (a : Nat → Int) (x : Nat) : Int := xr (col a ((x + 4) % 5)) (rl (col a ((x + 1) % 5)) 1)
def mix (a : Nat → Int) (i : Nat) : Int := xr (a i) (dd a (i % 5))
/-- Step 2: the places along the way, the lanes behind t of the moves. -/
def wyl : List Nat := [1, 10, 7, 11, 17, 18, 3, 5, 16, 8, 21, 24, 4, 15, 23, 19, 13, 12, 2, 20, 14, 22, 9, 6, 1]
def Wy (t : Nat) : Nat := wyl.getD t 0
def tri (t : Nat) : Nat := (t + 1) * (t + 2) / 2
def mvt (a : Nat → Int) : Nat → Nat → Int
  | 0 => fun i => if i = 0 then a 0 else 0
  | t + 1 => fun i => if i = Wy (t + 1) then rl (a (Wy t)) (tri t) else mvt a t i
def mv (a : Nat → Int) : Nat → Int := mvt a 24
/-- Step 3. -/
def n1 (i : Nat) : Nat := 5 * (i / 5) + (i % 5 + 1) % 5
def n2 (i : Nat) : Nat := 5 * (i / 5) + (i % 5 + 2) % 5
def jn (b : Nat → Int) (i : Nat) : Int := xr (b i) (dn (b (n2 i)) (b (n1 i)))
/-- Step 4. -/
def io (c : Int) (a : Nat → Int) (i : Nat) : Int := if i = 0 then xr (a 0) c else a i
def rd (c : Int) (a : Nat → Int) : Nat → Int := io c (jn (mv (mix a)))
def cl : List Int := [1, 32898, 9223372036854808714, 9223372039002292224, 32907, 2147483649, 9223372039002292353, 9223372036854808585, 138, 136, 2147516425, 2147483658, 2147516555, 9223372036854775947, 9223372036854808713, 9223372036854808579, 9223372036854808578, 9223372036854775936, 32778, 9223372039002259466, 9223372039002292353, 9223372036854808704, 2147483649, 9223372039002292232]
def RC (i : Nat) : Int := cl.getD i 0
def rds (a : Nat → Int) : Nat → Nat → Int
  | 0 => a
  | t + 1 => rd (RC t) (rds a t)
def perm (a : Nat → Int) : Nat → Int := rds a 24

def AW (a : Nat → Int) : Prop := ∀ i, W64 (a i)
theorem col_w (a : Nat → Int) (x : Nat) : W64 (col a x) := xr_w _ _
theorem dd_w (a : Nat → Int) (x : Nat) : W64 (dd a x) := xr_w _ _
theorem mix_w (a : Nat → Int) : AW (mix a) := fun _ => xr_w _ _
theorem mvt_w {a : Nat → Int} (h : AW a) (t : Nat) : AW (mvt a t) := by
  induction t with
  | zero => intro i; unfold mvt; split
            · exact h 0
            · exact w0
  | succ t ih => intro i; unfold mvt; split
                 · exact rl_w _ _ (h _)
                 · exact ih i
theorem mv_w {a : Nat → Int} (h : AW a) : AW (mv a) := mvt_w h 24
theorem jn_w (b : Nat → Int) : AW (jn b) := fun _ => xr_w _ _
theorem io_w {c : Int} {a : Nat → Int} (h : AW a) : AW (io c a) := fun i => by
  unfold io; split
  · exact xr_w _ _
  · exact h i
theorem rd_w (c : Int) (a : Nat → Int) : AW (rd c a) := io_w (jn_w _)
theorem rds_w {a : Nat → Int} (h : AW a) (t : Nat) : AW (rds a t) := by
  cases t with
  | zero => exact h
  | succ t => exact rd_w _ _
theorem perm_w {a : Nat → Int} (h : AW a) : AW (perm a) := rds_w h 24
theorem RC_w (i : Nat) : W64 (RC i) := by
  unfold RC
  by_cases h : i < 24
  · exact (show ∀ j, j < 24 → W64 (cl.getD j 0) from by unfold W64; decide) i h
  · rw [List.getD_eq_getElem?_getD, List.getElem?_eq_none (by show 24 ≤ i; omega)]; exact w0

/-- Of a plane of bits: C(x, j) with two others. -/
def FF (a b c : Nat) (C : Nat → Nat → Bool) (x j : Nat) : Bool := (C x j ^^ C (x + a) j) ^^ C (x + b) (j + c)
theorem FF_two (a b c : Nat) (C : Nat → Nat → Bool) (x j : Nat) : FF a b c (FF a b c C) x j = FF (2 * a) (2 * b) (2 * c) C x j := by
  unfold FF
  rw [show x + a + a = x + 2 * a from by omega, show x + b + a = x + a + b from by omega, show x + b + b = x + 2 * b from by omega, show j + c + c = j + 2 * c from by omega]
  generalize C x j = p
  generalize C (x + a) j = q
  generalize C (x + b) (j + c) = r
  generalize C (x + a + b) (j + c) = s
  generalize C (x + 2 * a) j = t
  generalize C (x + 2 * b) (j + 2 * c) = u
  revert p q r s t u
  decide
theorem FF_step {a b c : Nat} {C D : Nat → Nat → Bool} (h : ∀ x j, FF a b c C x j = FF a b c D x j) : ∀ x j, FF (2 * a) (2 * b) (2 * c) C x j = FF (2 * a) (2 * b) (2 * c) D x j := by
  intro x j
  have e : FF a b c C = FF a b c D := funext fun x => funext fun j => h x j
  rw [← FF_two, ← FF_two, e]
def Pd (C : Nat → Nat → Bool) : Prop := (∀ x j, C (x + 5) j = C x j) ∧ ∀ x j, C x (j + 64) = C x j
theorem Pd.x {C : Nat → Nat → Bool} (h : Pd C) (k x j : Nat) : C (x + 5 * k) j = C x j := by
  induction k with
  | zero => rfl
  | succ k ih => rw [show x + 5 * (k + 1) = x + 5 * k + 5 from by omega, h.1, ih]
theorem Pd.j {C : Nat → Nat → Bool} (h : Pd C) (k x j : Nat) : C x (j + 64 * k) = C x j := by
  induction k with
  | zero => rfl
  | succ k ih => rw [show j + 64 * (k + 1) = j + 64 * k + 64 from by omega, h.2, ih]
theorem FF_inj {C D : Nat → Nat → Bool} (hC : Pd C) (hD : Pd D) (h : ∀ x j, FF 4 1 63 C x j = FF 4 1 63 D x j) : ∀ x j, C x j = D x j := by
  have h6 : ∀ x j, FF 256 64 4032 C x j = FF 256 64 4032 D x j := FF_step (FF_step (FF_step (FF_step (FF_step (FF_step h)))))
  have r : ∀ {C : Nat → Nat → Bool}, Pd C → ∀ x j, FF 256 64 4032 C x j = FF 1 4 0 C x j := by
    intro C hC x j
    unfold FF
    rw [show x + 256 = x + 1 + 5 * 51 from by omega, show x + 64 = x + 4 + 5 * 12 from by omega, show j + 4032 = j + 64 * 63 from by omega, hC.x, hC.x, hC.j]; rfl
  have h1 : ∀ x j, FF 1 4 0 C x j = FF 1 4 0 D x j := fun x j => by rw [← r hC, ← r hD]; exact h6 x j
  have h2 : ∀ x j, FF 2 8 0 C x j = FF 2 8 0 D x j := FF_step h1
  have b : ∀ {C : Nat → Nat → Bool}, Pd C → ∀ x j, FF 1 4 0 (FF 2 8 0 C) x j = C x j := by
    intro C hC x j
    unfold FF
    simp only [Nat.add_zero]
    rw [show x + 8 = x + 3 + 5 from by omega, show x + 1 + 2 = x + 3 from by omega, show x + 1 + 8 = x + 4 + 5 from by omega, show x + 4 + 2 = x + 1 + 5 from by omega, show x + 4 + 8 = x + 2 + 5 + 5 from by omega]
    simp only [hC.1]
    generalize C x j = p
    generalize C (x + 1) j = q
    generalize C (x + 2) j = s
    generalize C (x + 3) j = t
    generalize C (x + 4) j = u
    revert p q s t u
    decide
  intro x j
  have e : FF 2 8 0 C = FF 2 8 0 D := funext fun x => funext fun j => h2 x j
  rw [← b hC, ← b hD, e]

theorem bt_col {a : Nat → Int} (h : AW a) (x j : Nat) : bt (col a x) j = ((((bt (a x) j ^^ bt (a (x + 5)) j) ^^ bt (a (x + 10)) j) ^^ bt (a (x + 15)) j) ^^ bt (a (x + 20)) j) := by
  unfold col
  rw [bt_xr (xr_w _ _) (h _), bt_xr (xr_w _ _) (h _), bt_xr (xr_w _ _) (h _), bt_xr (h _) (h _)]
/-- The columns' bits, as a plane. -/
def pl (a : Nat → Int) (x j : Nat) : Bool := bt (col a (x % 5)) (j % 64)
theorem pl_pd (a : Nat → Int) : Pd (pl a) := ⟨fun x j => by unfold pl; rw [Nat.add_mod_right], fun x j => by unfold pl; rw [Nat.add_mod_right]⟩
theorem pl_mix {a : Nat → Int} (h : AW a) (x j : Nat) : pl (mix a) x j = FF 4 1 63 (pl a) x j := by
  show bt (col (mix a) (x % 5)) (j % 64) = ((bt (col a (x % 5)) (j % 64) ^^ bt (col a ((x + 4) % 5)) (j % 64)) ^^ bt (col a ((x + 1) % 5)) ((j + 63) % 64))
  have hx : x % 5 < 5 := Nat.mod_lt _ (by omega)
  have hj : j % 64 < 64 := Nat.mod_lt _ (by omega)
  rw [show (x + 4) % 5 = (x % 5 + 4) % 5 from by omega, show (x + 1) % 5 = (x % 5 + 1) % 5 from by omega, show (j + 63) % 64 = (j % 64 + 63) % 64 from by omega]
  generalize x % 5 = X at *
  generalize j % 64 = J at *
  rw [bt_col (mix_w a), bt_col h X]
  have m : ∀ y, y < 5 → bt (mix a (X + 5 * y)) J = (bt (a (X + 5 * y)) J ^^ (bt (col a ((X + 4) % 5)) J ^^ bt (col a ((X + 1) % 5)) ((J + 63) % 64))) := by
    intro y hy
    unfold mix
    rw [show (X + 5 * y) % 5 = X from by omega, bt_xr (h _) (dd_w a X)]
    unfold dd
    have e := bt_rl (col_w a ((X + 1) % 5)) 1 J hj
    rw [show ((1 : Nat) : Int) = 1 from rfl] at e
    rw [bt_xr (col_w _ _) (rl_w _ _ (col_w _ _)), e]
  have m0 := m 0 (by omega)
  have m1 := m 1 (by omega)
  have m2 := m 2 (by omega)
  have m3 := m 3 (by omega)
  have m4 := m 4 (by omega)
  simp only [Nat.mul_zero, Nat.add_zero, Nat.mul_one, Nat.reduceMul] at m0 m1 m2 m3 m4
  rw [m0, m1, m2, m3, m4]
  generalize bt (a X) J = p
  generalize bt (a (X + 5)) J = q
  generalize bt (a (X + 10)) J = r
  generalize bt (a (X + 15)) J = s
  generalize bt (a (X + 20)) J = t
  generalize bt (col a ((X + 4) % 5)) J = u
  generalize bt (col a ((X + 1) % 5)) ((J + 63) % 64) = v
  revert p q r s t u v
  decide
theorem xr_cancel {a b d : Int} (ha : W64 a) (hb : W64 b) (hd : W64 d) (h : xr a d = xr b d) : a = b := by
  refine bt_ext ha hb (fun j hj => ?_)
  have h1 := congrArg (fun z => bt z j) h
  rw [bt_xr ha hd, bt_xr hb hd] at h1
  generalize bt a j = p at *
  generalize bt b j = q at *
  generalize bt d j = r at *
  revert p q r
  decide
/-- Alike at the 25 lanes. -/
def E25 (a b : Nat → Int) : Prop := ∀ i, i < 25 → a i = b i
theorem mix_inj {a b : Nat → Int} (ha : AW a) (hb : AW b) (h : E25 (mix a) (mix b)) : E25 a b := by
  have hc : ∀ x, x < 5 → col (mix a) x = col (mix b) x := fun x hx => by
    unfold col
    rw [h x (by omega), h (x + 5) (by omega), h (x + 10) (by omega), h (x + 15) (by omega), h (x + 20) (by omega)]
  have hp : ∀ x j, pl a x j = pl b x j := FF_inj (pl_pd a) (pl_pd b) (fun x j => by
    rw [← pl_mix ha, ← pl_mix hb]
    unfold pl
    rw [hc _ (Nat.mod_lt _ (by omega))])
  have hcol : ∀ x, x < 5 → col a x = col b x := fun x hx => bt_ext (col_w _ _) (col_w _ _) (fun j hj => by
    have := hp x j
    unfold pl at this
    rwa [Nat.mod_eq_of_lt hx, Nat.mod_eq_of_lt hj] at this)
  intro i hi
  have h1 := h i hi
  unfold mix at h1
  have hd : dd a (i % 5) = dd b (i % 5) := by
    unfold dd
    rw [hcol _ (Nat.mod_lt _ (by omega)), hcol _ (Nat.mod_lt _ (by omega))]
  rw [hd] at h1
  exact xr_cancel (ha i) (hb i) (dd_w _ _) h1

/-- Where a lane of step 2 comes from, and how far it is turned. -/
def srl : List Nat := [0, 6, 12, 18, 24, 3, 9, 10, 16, 22, 1, 7, 13, 19, 20, 4, 5, 11, 17, 23, 2, 8, 14, 15, 21]
def aml : List Nat := [0, 300, 171, 21, 78, 28, 276, 3, 45, 253, 1, 6, 153, 136, 210, 91, 36, 10, 15, 120, 190, 55, 231, 105, 66]
theorem mv_at (a : Nat → Int) : ∀ i, i < 25 → 0 < i → mv a i = rl (a (srl.getD i 0)) (aml.getD i 0 : Nat) := by
  intro i hi h0
  match i, hi, h0 with
  | 1, _, _ => rfl
  | 2, _, _ => rfl
  | 3, _, _ => rfl
  | 4, _, _ => rfl
  | 5, _, _ => rfl
  | 6, _, _ => rfl
  | 7, _, _ => rfl
  | 8, _, _ => rfl
  | 9, _, _ => rfl
  | 10, _, _ => rfl
  | 11, _, _ => rfl
  | 12, _, _ => rfl
  | 13, _, _ => rfl
  | 14, _, _ => rfl
  | 15, _, _ => rfl
  | 16, _, _ => rfl
  | 17, _, _ => rfl
  | 18, _, _ => rfl
  | 19, _, _ => rfl
  | 20, _, _ => rfl
  | 21, _, _ => rfl
  | 22, _, _ => rfl
  | 23, _, _ => rfl
  | 24, _, _ => rfl
  | i + 25, h, _ => omega
theorem mv_zero (a : Nat → Int) : mv a 0 = a 0 := rfl
theorem mv_inj {a b : Nat → Int} (ha : AW a) (hb : AW b) (h : E25 (mv a) (mv b)) : E25 a b := by
  intro i hi
  by_cases h0 : i = 0
  · subst h0; exact h 0 (by omega)
  · obtain ⟨k, hk, hk0, e⟩ : ∃ k, k < 25 ∧ 0 < k ∧ srl.getD k 0 = i := (show ∀ i, i < 25 → i ≠ 0 → ∃ k, k < 25 ∧ 0 < k ∧ srl.getD k 0 = i from by decide) i hi h0
    have h1 := h k hk
    rw [mv_at a k hk hk0, mv_at b k hk hk0, e] at h1
    exact rl_inj (ha i) (hb i) _ h1
theorem chi5 : ∀ a b c d e p q r s t : Bool, (a ^^ (c && !b)) = (p ^^ (r && !q)) → (b ^^ (d && !c)) = (q ^^ (s && !r)) → (c ^^ (e && !d)) = (r ^^ (t && !s)) → (d ^^ (a && !e)) = (s ^^ (p && !t)) → (e ^^ (b && !a)) = (t ^^ (q && !p)) → a = p ∧ b = q ∧ c = r ∧ d = s ∧ e = t := by decide +kernel
theorem bt_jn {b : Nat → Int} (hb : AW b) (i j : Nat) (hj : j < 64) : bt (jn b i) j = (bt (b i) j ^^ (bt (b (n2 i)) j && !bt (b (n1 i)) j)) := by
  unfold jn
  rw [bt_xr (hb _) (dn_w _ _), bt_dn (hb _) (hb _) j hj]
theorem jn_inj {a b : Nat → Int} (ha : AW a) (hb : AW b) (h : E25 (jn a) (jn b)) : E25 a b := by
  have row : ∀ y, y < 5 → ∀ x, x < 5 → a (5 * y + x) = b (5 * y + x) := by
    intro y hy x hx
    refine bt_ext (ha _) (hb _) (fun j hj => ?_)
    have e : ∀ x, x < 5 → (bt (a (5 * y + x)) j ^^ (bt (a (5 * y + (x + 2) % 5)) j && !bt (a (5 * y + (x + 1) % 5)) j)) = (bt (b (5 * y + x)) j ^^ (bt (b (5 * y + (x + 2) % 5)) j && !bt (b (5 * y + (x + 1) % 5)) j)) := by
      intro x hx
      have h1 := congrArg (fun z => bt z j) (h (5 * y + x) (by omega))
      rw [bt_jn ha _ j hj, bt_jn hb _ j hj] at h1
      rwa [show n2 (5 * y + x) = 5 * y + (x + 2) % 5 from by unfold n2; omega, show n1 (5 * y + x) = 5 * y + (x + 1) % 5 from by unfold n1; omega] at h1
    have c := chi5 _ _ _ _ _ _ _ _ _ _ (e 0 (by omega)) (e 1 (by omega)) (e 2 (by omega)) (e 3 (by omega)) (e 4 (by omega))
    match x, hx with
    | 0, _ => exact c.1
    | 1, _ => exact c.2.1
    | 2, _ => exact c.2.2.1
    | 3, _ => exact c.2.2.2.1
    | 4, _ => exact c.2.2.2.2
  intro i hi
  have := row (i / 5) (by omega) (i % 5) (by omega)
  rwa [show 5 * (i / 5) + i % 5 = i from by omega] at this
theorem io_inj {c : Int} {a b : Nat → Int} (hc : W64 c) (ha : AW a) (hb : AW b) (h : E25 (io c a) (io c b)) : E25 a b := by
  intro i hi
  have h1 := h i hi
  unfold io at h1
  by_cases h0 : i = 0
  · subst h0
    rw [if_pos rfl, if_pos rfl] at h1
    exact xr_cancel (ha 0) (hb 0) hc h1
  · rwa [if_neg h0, if_neg h0] at h1
theorem rd_inj {c : Int} {a b : Nat → Int} (hc : W64 c) (ha : AW a) (hb : AW b) (h : E25 (rd c a) (rd c b)) : E25 a b :=
  mix_inj ha hb (mv_inj (mix_w a) (mix_w b) (jn_inj (mv_w (mix_w a)) (mv_w (mix_w b)) (io_inj hc (jn_w _) (jn_w _) h)))
theorem rds_inj {a b : Nat → Int} (ha : AW a) (hb : AW b) (t : Nat) (h : E25 (rds a t) (rds b t)) : E25 a b := by
  induction t with
  | zero => exact h
  | succ t ih => exact ih (rd_inj (RC_w t) (rds_w ha t) (rds_w hb t) h)
theorem perm_inj {a b : Nat → Int} (ha : AW a) (hb : AW b) (h : E25 (perm a) (perm b)) : E25 a b := rds_inj ha hb 24 h
end Go.Proofs.YtnbmnpfpjhpifaaDoor.Kc
namespace Go.Proofs.YtnbmnpfpjhpifaaDoor.Kc
open Go.ChangeShapes Go.WideShapes Go.ChangeAt Go.RowKit
open Go.Proofs.YtnbmnpfpjhpifaaDoor.By Go.Proofs.YtnbmnpfpjhpifaaDoor.Wd
/-- n words as cells. -/
def wl (n : Nat) (g : Nat → Int) : List Value := (List.range n).map fun i => Value.int .u64 (g i)
theorem wl_length (n : Nat) (g : Nat → Int) : (wl n g).length = n := by simp [wl]
theorem wl_get (n : Nat) (g : Nat → Int) (i : Nat) (h : i < n) : (wl n g)[i]? = some (.int .u64 (g i)) := by simp [wl, h]
theorem wl_one (n : Nat) (g : Nat → Int) : ∀ u ∈ wl n g, u.oneCell' = true := by
  intro u hu
  simp [wl] at hu
  obtain ⟨i, _, rfl⟩ := hu
  rfl
theorem wl_congr (n : Nat) (f g : Nat → Int) (h : ∀ i, i < n → f i = g i) : wl n f = wl n g := by
  apply List.map_congr_left
  intro i hi
  rw [h i (List.mem_range.1 hi)]
theorem wl_set (n : Nat) (g : Nat → Int) (k : Nat) (x : Int) : (wl n g).set k (.int .u64 x) = wl n (fun i => if i = k then x else g i) := by
  apply List.ext_getElem?
  intro i
  rw [List.getElem?_set]
  by_cases h : i < n
  · by_cases e : k = i
    · subst e; rw [wl_get _ _ _ h]; simp [wl_length, h]; simp [wl]
    · have e' : ¬ i = k := fun h => e h.symm
      rw [wl_get _ _ _ h, wl_get _ _ _ h]; simp [e, e']
  · rw [List.getElem?_eq_none (by rw [wl_length]; omega), List.getElem?_eq_none (by rw [wl_length]; omega)]
    simp only [wl_length]; split
    · rw [if_neg (by omega)]
    · rfl
/-- Block g holds just the cells cs. -/
def Blk (w : World) (g : Nat) (cs : List Value) (t : TypeId) : Prop := w.heap[g]? = some (.cells cs.toArray t (0, 0))
theorem Blk.lt {w : World} {g : Nat} {cs : List Value} {t : TypeId} (h : Blk w g cs t) : g < w.heap.size := (Array.getElem?_eq_some_iff.1 h).1
theorem Blk.cell {w : World} {g : Nat} {cs : List Value} {t : TypeId} (h : Blk w g cs t) (i : Nat) (v : Value) (hi : cs[i]? = some v) : w.cell? ⟨g, i, none⟩ = some v := by
  rw [cell_of_row w g i _ t (0, 0) h]; simpa using hi
theorem Blk.range {w : World} {g : Nat} {cs : List Value} {t : TypeId} (h : Blk w g cs t) (o : Nat) (vs : List Value) (hv : ∀ j v, vs[j]? = some v → cs[o + j]? = some v) : w.rangeAt g o vs := fun j v hj => h.cell _ _ (hv j v hj)
theorem Blk.frozen {w : World} {g : Nat} {cs : List Value} {t : TypeId} (h : Blk w g cs t) (i : Nat) : w.frozen? ⟨g, i, none⟩ = false := frozen_of_row w g i _ t h
theorem Blk.there {w : World} {g : Nat} {cs : List Value} {t : TypeId} (h : Blk w g cs t) (o n : Nat) (hn : o + n ≤ cs.length) : w.there g o n := fun j hj => by
  refine ⟨?_, h.frozen _⟩
  rw [h.cell (o + j) _ (List.getElem?_eq_getElem (by omega))]; rfl
theorem Blk.kept {w w' : World} {g : Nat} {cs : List Value} {t : TypeId} {S : Nat → Prop} (h : Blk w g cs t) (hk : Kp S w w') (hn : ¬ S g) : Blk w' g cs t := (hk.block g h.lt hn).trans h
theorem Blk.below {w w' : World} {g : Nat} {cs : List Value} {t : TypeId} (h : Blk w g cs t) (hb : Below w.heap.size w w') : Blk w' g cs t := h.kept (Kp.of_below (fun _ => False) hb) id
theorem Blk.alloc {w : World} {g : Nat} {cs : List Value} {t : TypeId} (h : Blk w g cs t) (o : Obj) : Blk (w.alloc o) g cs t := h.below (below_alloc w o)
theorem Blk.new (w : World) (cs : List Value) (t : TypeId) : Blk (w.alloc (.cells cs.toArray t)) w.heap.size cs t := heap_alloc_last w _
theorem Blk.set {w : World} {g : Nat} {cs : List Value} {t : TypeId} (h : Blk w g cs t) (i : Nat) (u : Value) : Blk (w.setCell ⟨g, i, none⟩ u) g (cs.set i u) t := by
  have hb : w.heap[g]? = some (.cells cs.toArray t (0, 0)) := h
  simp only [Blk, World.setCell]
  rw [Array.getElem?_modify]
  simp [hb]
theorem Blk.other {w : World} {g g' : Nat} {cs : List Value} {t : TypeId} (h : Blk w g cs t) (hn : g ≠ g') (i : Nat) (u : Value) : Blk (w.setCell ⟨g', i, none⟩ u) g cs t := h.kept (Kp.setCell g' i u) hn
theorem Blk.drewN {w : World} {g : Nat} {cs : List Value} {t : TypeId} (h : Blk w g cs t) (d : Nat) : Blk (w.drewN d) g cs t := h
theorem Blk.ne {w : World} {g g' : Nat} {cs cs' : List Value} {t t' : TypeId} (h : Blk w g cs t) (h' : Blk w g' cs' t') (ht : t ≠ t') : g ≠ g' := by
  intro e; subst e
  have := Option.some.inj (h.symm.trans h')
  simp only [Obj.cells.injEq] at this
  exact ht this.2.1
theorem rb_blk {w : World} {g n : Nat} {f : Nat → Int} {t : TypeId} (h : Blk w g (bl n f) t) (hf : ∀ i, 0 ≤ f i ∧ f i < 256) (hn : n ≤ maxLen) : By.RB w (.slice (some ⟨g, 0, none⟩) n n) n f :=
  ⟨hf, _, _, rfl, Nat.le_refl _, hn, .inr ⟨g, 0, rfl, fun i hi => by rw [Nat.zero_add]; exact h.cell i _ (bl_get n f i hi)⟩⟩
theorem Kp.setRow {w : World} (g : Nat) (vs : Array Value) : Kp (fun k => k = g) w (w.setRow g vs) :=
  ⟨rfl, rfl, rfl, by simp [World.setRow], fun k _ hn => by simp only [World.setRow]; rw [Array.getElem?_modify, if_neg (fun e => hn e.symm)]⟩
theorem Blk.newAt (w : World) (a : Array Value) (cs : List Value) (t : TypeId) (g : Nat) (hg : g = w.heap.size) (ha : a = cs.toArray) : Blk (w.alloc (.cells a t)) g cs t := by
  subst hg; subst ha; exact Blk.new w cs t
theorem size_alloc (w : World) (o : Obj) : (w.alloc o).heap.size = w.heap.size + 1 := by simp
theorem below_set {B : Nat} {w w' : World} (h : Below B w w') (g i : Nat) (u : Value) (hg : B ≤ g) (hB : B ≤ w'.heap.size) : Below B w (w'.setCell ⟨g, i, none⟩ u) :=
  h.trans ((Kp.setCell g i u).below hB (fun k hk e => by omega))
theorem below_row {B : Nat} {w w' : World} (h : Below B w w') (g : Nat) (vs : Array Value) (hg : B ≤ g) (hB : B ≤ w'.heap.size) : Below B w (w'.setRow g vs) :=
  h.trans ((Kp.setRow g vs).below hB (fun k hk e => by omega))
theorem Blk.load {P : Program} {w : World} {g : Nat} {cs : List Value} {t ty : TypeId} (h : Blk w g cs t) (d : TypeDesc) (hu : P.underlying ty = some d) (hd : d.isRow = true) (hi : (P.info? ty).map (·.size) = some cs.length) :
    (Instr.loadAt ty (.pointer (some ⟨g, 0, none⟩))).run P w = .ok (.agg cs.toArray) w :=
  run_loadAt_mid w g 0 ty cs d (fun j v hv => by rw [Nat.zero_add]; exact h.cell j v hv) hu hd hi
theorem Blk.row {w : World} {g : Nat} {cs vs : List Value} {t : TypeId} (h : Blk w g cs t) : Blk (w.setRow g vs.toArray) g vs t := by
  have hb : w.heap[g]? = some (.cells cs.toArray t (0, 0)) := h
  simp only [Blk, World.setRow]
  rw [Array.getElem?_modify]
  simp [hb]
theorem Blk.store {P : Program} {w : World} {g : Nat} {cs vs : List Value} {t ty : TypeId} (h : Blk w g cs t) (hi : (P.info? ty).map (·.size) = some vs.length) (hl : cs.length = vs.length) (h1 : ∀ u ∈ vs, u.oneCell' = true) :
    (Instr.storeAt ty (.pointer (some ⟨g, 0, none⟩)) (.agg vs.toArray)).run P w = .ok () (w.setRow g vs.toArray) := by
  simp only [Instr.storeAt, Instr.sureAddr, Sem.run_bind, Sem.run_pure, Result.andThen_ok]
  exact run_storeVar_row w g t ty cs.toArray vs.toArray h (by simpa using hi) (by simpa using hl) (all_oneCell_toArray h1)
def LDt (a : Addr) : Sem Value := loadVar 91 a
def SVt (a : Addr) (v : Value) : Sem Unit := storeVar 91 a v
@[go_sem ↓ high] theorem ldt (a : Addr) : loadVar 91 a = LDt a := rfl
@[go_sem ↓ high] theorem svt (a : Addr) (v : Value) : storeVar 91 a v = SVt a v := rfl
theorem infot : (Tryd.prog.info? 91).map (·.size) = some 25 := by kernel_rfl
theorem LDt_run {w : World} {g o : Nat} {cs : List Value} (h : w.rangeAt g o cs) (hl : cs.length = 25) : (LDt ⟨g, o, none⟩).run Tryd.prog w = .ok (.agg cs.toArray) w :=
  run_loadVar_mid w g o _ cs _ h Tryd.underlying91 rfl (by rw [hl]; exact infot)
theorem SVt_run {w : World} {g o : Nat} {cs : List Value} (h : w.there g o 25) (hl : cs.length = 25) (h1 : ∀ u ∈ cs, u.oneCell' = true) : (SVt ⟨g, o, none⟩ (.agg cs.toArray)).run Tryd.prog w = .ok () (w.setCells g o cs) :=
  run_storeVar_mid w g o _ cs.toArray (by simpa [hl] using h) (by simpa [hl] using infot) (all_oneCell_toArray h1)
def LDk (a : Addr) : Sem Value := loadVar 96 a
def SVk (a : Addr) (v : Value) : Sem Unit := storeVar 96 a v
@[go_sem ↓ high] theorem ldk (a : Addr) : loadVar 96 a = LDk a := rfl
@[go_sem ↓ high] theorem svk (a : Addr) (v : Value) : storeVar 96 a v = SVk a v := rfl
theorem infok : (Tryd.prog.info? 96).map (·.size) = some 25 := by kernel_rfl
theorem LDk_run {w : World} {g o : Nat} {cs : List Value} (h : w.rangeAt g o cs) (hl : cs.length = 25) : (LDk ⟨g, o, none⟩).run Tryd.prog w = .ok (.agg cs.toArray) w :=
  run_loadVar_mid w g o _ cs _ h Tryd.underlying96 rfl (by rw [hl]; exact infok)
theorem SVk_run {w : World} {g o : Nat} {cs : List Value} (h : w.there g o 25) (hl : cs.length = 25) (h1 : ∀ u ∈ cs, u.oneCell' = true) : (SVk ⟨g, o, none⟩ (.agg cs.toArray)).run Tryd.prog w = .ok () (w.setCells g o cs) :=
  run_storeVar_mid w g o _ cs.toArray (by simpa [hl] using h) (by simpa [hl] using infok) (all_oneCell_toArray h1)
def LDb (a : Addr) : Sem Value := loadVar 78 a
def SVb (a : Addr) (v : Value) : Sem Unit := storeVar 78 a v
@[go_sem ↓ high] theorem ldb (a : Addr) : loadVar 78 a = LDb a := rfl
@[go_sem ↓ high] theorem svb (a : Addr) (v : Value) : storeVar 78 a v = SVb a v := rfl
theorem infob : (Tryd.prog.info? 78).map (·.size) = some 200 := by kernel_rfl
theorem LDb_run {w : World} {g o : Nat} {cs : List Value} (h : w.rangeAt g o cs) (hl : cs.length = 200) : (LDb ⟨g, o, none⟩).run Tryd.prog w = .ok (.agg cs.toArray) w :=
  run_loadVar_mid w g o _ cs _ h Tryd.underlying78 rfl (by rw [hl]; exact infob)
theorem SVb_run {w : World} {g o : Nat} {cs : List Value} (h : w.there g o 200) (hl : cs.length = 200) (h1 : ∀ u ∈ cs, u.oneCell' = true) : (SVb ⟨g, o, none⟩ (.agg cs.toArray)).run Tryd.prog w = .ok () (w.setCells g o cs) :=
  run_storeVar_mid w g o _ cs.toArray (by simpa [hl] using h) (by simpa [hl] using infob) (all_oneCell_toArray h1)
theorem results_cell1 {P : Program} {fn : Func} {p : Tmp} {ty : TypeId} {tmps : Array Value} {w : World} {a : Addr} {v : Value} (h : fn.results = #[.cell p ty]) (ha : tmps.getD p undef = .pointer (some a)) (hl : (loadVar ty a).run P w = .ok v w) :
    (results fn tmps).run P w = .ok v w := by
  have e1 : tmps[p]?.getD undef = .pointer (some a) := by rw [← ha]; simp [Array.getD_eq_getD_getElem?]
  simp only [results, h]
  simp [e1, asAddr, hl]
/-- Cells o, o + 1, .. of a list put in place of what was there. -/
def put (cs : List Value) (o : Nat) : List Value → List Value
  | [] => cs
  | v :: r => put (cs.set o v) (o + 1) r
theorem put_length (cs vs : List Value) (o : Nat) : (put cs o vs).length = cs.length := by
  induction vs generalizing cs o with
  | nil => rfl
  | cons v r ih => simp [put, ih]
theorem Blk.put {w : World} {g : Nat} {cs : List Value} {t : TypeId} (h : Blk w g cs t) (o : Nat) (vs : List Value) : Blk (w.setCells g o vs) g (put cs o vs) t := by
  induction vs generalizing w cs o with
  | nil => exact h
  | cons v r ih => exact ih (h.set o v) (o + 1)
theorem put_get (cs vs : List Value) (o i : Nat) (h : o + vs.length ≤ cs.length) : (put cs o vs)[i]? = if o ≤ i ∧ i < o + vs.length then vs[i - o]? else cs[i]? := by
  induction vs generalizing cs o with
  | nil => simp [Kc.put]; omega
  | cons v r ih =>
    simp only [List.length_cons] at h ⊢
    rw [Kc.put, ih _ _ (by simp; omega), List.getElem?_set]
    by_cases h1 : o = i
    · subst h1
      rw [if_neg (by omega), if_pos rfl, if_pos (by omega), if_pos (by omega)]; simp
    · by_cases h2 : o + 1 ≤ i ∧ i < o + 1 + r.length
      · rw [if_pos h2, if_pos (by omega)]
        rw [show i - o = (i - (o + 1)) + 1 from by omega]; rfl
      · rw [if_neg h2, if_neg h1, if_neg (by omega)]
theorem put_all (cs vs : List Value) (h : cs.length = vs.length) : put cs 0 vs = vs := by
  apply List.ext_getElem?
  intro i
  rw [put_get cs vs 0 i (by omega)]
  split
  · rfl
  · rw [List.getElem?_eq_none (by omega), List.getElem?_eq_none (by omega)]
theorem Kp.setCells {w : World} (g o : Nat) (vs : List Value) : Kp (fun k => k = g) w (w.setCells g o vs) := by
  induction vs generalizing w o with
  | nil => exact Kp.refl _ _
  | cons v r ih => exact (Kp.setCell g o v).trans (ih (o + 1)) (fun _ _ e => e)
theorem below_cells {B : Nat} {w w' : World} (h : Below B w w') (g o : Nat) (vs : List Value) (hg : B ≤ g) (hB : B ≤ w'.heap.size) : Below B w (w'.setCells g o vs) :=
  h.trans ((Kp.setCells g o vs).below hB (fun k hk e => by omega))
end Go.Proofs.YtnbmnpfpjhpifaaDoor.Kc
namespace Go.Proofs.YtnbmnpfpjhpifaaDoor.Kc
open Go.ChangeShapes Go.WideShapes Go.ChangeAt Go.RowKit
open Go.Proofs.YtnbmnpfpjhpifaaDoor.By

theorem own_kept {w w' : World} {base n : Nat} {v : Value} {f : Nat → Int} {S : Nat → Prop} (h : By.Own w base v n f) (hk : Kp S w w') (hne : ∀ g, v.ownBlock = some g → ¬ S g) : By.Own w' base v n f := by
  obtain ⟨hf, hl, h | ⟨g, cap, cur, rfl, hb, hc, h1, h2, h3, h4⟩⟩ := h
  · exact ⟨hf, hl, .inl h⟩
  · refine ⟨hf, hl, .inr ⟨g, cap, cur, rfl, hb, ?_, h1, h2, h3, h4⟩⟩
    rw [hk.block g (Array.getElem?_eq_some_iff.1 hc).1 (hne g rfl)]; exact hc
theorem own_mono {w : World} {B B' n : Nat} {v : Value} {f : Nat → Int} (h : By.Own w B v n f) (hb : B' ≤ B) : By.Own w B' v n f := by
  obtain ⟨hf, hl, h | ⟨g, cap, cur, rfl, h0, r⟩⟩ := h
  · exact ⟨hf, hl, .inl h⟩
  · exact ⟨hf, hl, .inr ⟨g, cap, cur, rfl, by omega, r⟩⟩
theorem own8_type {w : World} {base n : Nat} {v : Value} {f : Nat → Int} (h : By.Own w base v n f) {g : Nat} (hg : v.ownBlock = some g) : ∃ cs, w.heap[g]? = some (.cells cs 5 (0, 0)) := by
  obtain ⟨_, _, h | ⟨g', cap, cur, rfl, _, hc, _⟩⟩ := h
  · obtain ⟨rfl, _⟩ := h; simp [Value.ownBlock] at hg
  · simp [Value.ownBlock] at hg; subst hg; exact ⟨cur, hc⟩
/-- n bytes f, then g. -/
def cat (n : Nat) (f g : Nat → Int) (i : Nat) : Int := if i < n then f i else g (i - n)
theorem cat_bound {n : Nat} {f g : Nat → Int} (hf : ∀ i, 0 ≤ f i ∧ f i < 256) (hg : ∀ i, 0 ≤ g i ∧ g i < 256) (i : Nat) : 0 ≤ cat n f g i ∧ cat n f g i < 256 := by
  unfold cat; split
  · exact hf _
  · exact hg _
theorem wpList_cat {w : World} {ops : Array Oper} {rest : List Oper} {o : Oper} {a : Act} {Q : Exit → Act → World → Prop} (hgd : o.guard = none) (s x : Operand)
    (ho : o.op = .call { callee := .builtin .append, args := #[s, x], argTypes := #[39, 39] })
    (base n m : Nat) (v u : Value) (f g : Nat → Int) (hs : a.eval s = v) (hv : By.Own w base v n f) (hx : a.eval x = u) (hr : By.RB w u m g) (hn : n + m ≤ 140737488355328) (hb : base ≤ w.heap.size)
    (h : ∀ v' w', By.Own w' base v' (n + m) (cat n f g) → w.grownBy w' v.ownBlock → wpList Tryd.prog ops Q rest (a.put o.dst v') w') : wpList Tryd.prog ops Q (o :: rest) a w := by
  obtain ⟨hg, ad, cap, rfl, h1, h2, hc⟩ := hr
  obtain ⟨i0, hi, hz0, hz1, hz2⟩ := info_parts info5
  have hcat : bl n f ++ bl m g = bl (n + m) (cat n f g) := bl_append n m f g
  cases ad with
  | none =>
    have hm0 : m = 0 := by rcases hc with ⟨h, _⟩ | ⟨_, _, h, _⟩; exact h; cases h
    have hc0 : cap = 0 := by rcases hc with ⟨_, h⟩ | ⟨_, _, h, _⟩; exact h rfl; cases h
    subst hm0 hc0
    refine wpList_append_own_none hgd s x 39 ho base 5 i0 1 Tryd.underlying39 hi _ _ _ hs hv.2 hx ?_
    refine h v w ⟨cat_bound hv.1 hg, ?_⟩ (World.grownBy.refl _ _)
    rw [← hcat]; simpa [bl] using hv.2
  | some ad =>
    have HC : ∀ j u, (bl m g)[j]? = some u → w.cell? (ad.add j) = some u := by
      intro j u hj
      obtain ⟨hj1, rfl⟩ := bl_get_inv _ _ _ _ hj
      rcases hc with ⟨h, _⟩ | ⟨b, off, h, hc⟩
      · omega
      · cases h; rw [By.add_plain]; exact hc j hj1
    refine wpList_append_own _ hgd s x 39 ho base 5 i0 (.int .u8 0) 1 1 Tryd.underlying39 hi hz0 hz1 hz2 rfl (by decide) v n (bl n f) hs hv.2 ad m cap (bl m g) hx (by rw [bl_length]; omega) HC (bl_one m g) (by simp [maxLen]; omega) (by omega) hb ?_
    intro v' w' hown hgrow _
    exact h v' w' ⟨cat_bound hv.1 hg, by rw [← hcat]; exact hown⟩ hgrow
theorem below_grow {w w' w1 : World} {B n : Nat} {v : Value} {f : Nat → Int} (hb : Below B w w') (hB : B ≤ w'.heap.size) (ho : By.Own w' B v n f) (hg : w'.grownBy w1 v.ownBlock) : Below B w w1 := hb.grown hg hB (own_row ho)


end Go.Proofs.YtnbmnpfpjhpifaaDoor.Kc
