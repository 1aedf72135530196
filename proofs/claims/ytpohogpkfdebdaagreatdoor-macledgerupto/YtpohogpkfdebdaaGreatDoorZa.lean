/- Which blocks a step may have turned; no function of the program in it. Lists of bytes in memory: what a slice reads as (length and bytes), what the call itself owns, and how both stand behind further calls; no function of the program in it. What the statements' helpers on lists of bytes answer (lists lent, copied, held against each other, written over), for every list and world; and small facts on lists that were just built. The kit of lists of bytes, whole, under its shorter text's name. Plain facts on numbers: a word turned by l places, bit by bit and as a sum; no program in it. The program's words: turned, taken out of a list, laid as bytes (words of 32 bits, and a laid one of 64): what they answer, for every word, list, place and world. The program's words: turned, taken out of a list, laid as bytes (words of 64 bits): what they answer, for every word, list, place and world. A list of bytes of the call's own gone on with: another list behind it, noughts behind it. -/
import Derived.WalkKit
import Derived.ProofKit
import Derived.Below
import Derived.BigQuiet
import Derived.Deep.QuietTactic
import Derived.Test.YtpohogpkfdebdaaGreatDoorRows
import Derived.ArgAppend
import Derived.WalkSpells
import Derived.Deep.RegionHeld3
import Derived.Deep.DeepMust
import Derived.Laws.AppendOwnNone
import Derived.Laws.BitsAllLaws
import Derived.Laws.BitsLemmas
import Derived.WalkLawsBesides
import Derived.Lib.AppendZeros
namespace Go.Proofs.YtpohogpkfdebdaaGreatDoor
open Go.ChangeShapes Go.WideShapes Go.ChangeAt Go.RowKit

theorem hid {p : Prop} (h : p) : Hid p := h
theorem below_drew' {B : Nat} {a w : World} (h : Below B a w) (k : Nat) : Below B a (w.drewN k) := ⟨h.os, h.tape, h.output, h.size, h.block⟩
theorem drewN_two (Z : World) (d x : Nat) : (Z.drewN d).drewN x = Z.drewN (d + x) := by simp
theorem below_drewN (w : World) (k : Nat) : Below w.heap.size w (w.drewN k) := below_drew' (Below.refl _ _) k
theorem below_alloc (w : World) (o : Obj) : Below w.heap.size w (w.alloc o) := (Below.refl _ w).alloc (Nat.le_refl _) o
/-- Two steps that only make memory. -/
theorem below_next {w w1 w2 : World} (h : Below w.heap.size w w1) (k : Below w1.heap.size w1 w2) : Below w.heap.size w w2 := h.trans (k.mono h.size)

/-- Which blocks a step may have turned: those of S. -/
structure Kp (S : Nat → Prop) (w w' : World) : Prop where
  os : w'.os = w.os
  tape : w'.tape = w.tape
  output : w'.output = w.output
  size : w.heap.size ≤ w'.heap.size
  block : ∀ k, k < w.heap.size → ¬ S k → w'.heap[k]? = w.heap[k]?

theorem Kp.refl (S : Nat → Prop) (w : World) : Kp S w w := ⟨rfl, rfl, rfl, Nat.le_refl _, fun _ _ _ => rfl⟩
theorem Kp.of_below {w w' : World} (S : Nat → Prop) (h : Below w.heap.size w w') : Kp S w w' := ⟨h.os, h.tape, h.output, h.size, fun k hk _ => h.block k hk⟩
theorem Kp.of_grown {w w' : World} {row : Option Nat} (h : w.grownBy w' row) : Kp (fun k => row = some k) w w' := ⟨h.os, h.tape, h.output, h.size, fun k hk hn => h.block k hk (fun e => hn e.symm)⟩
theorem Kp.mono {S T : Nat → Prop} {w w' : World} (h : Kp S w w') (hs : ∀ k, k < w.heap.size → S k → T k) : Kp T w w' := ⟨h.os, h.tape, h.output, h.size, fun k hk hn => h.block k hk (fun e => hn (hs k hk e))⟩
theorem Kp.trans {S T : Nat → Prop} {a b c : World} (h : Kp S a b) (k : Kp T b c) (ht : ∀ i, i < a.heap.size → T i → S i) : Kp S a c :=
  ⟨k.os.trans h.os, k.tape.trans h.tape, k.output.trans h.output, Nat.le_trans h.size k.size, fun i hi hn => (k.block i (Nat.lt_of_lt_of_le hi h.size) (fun e => hn (ht i hi e))).trans (h.block i hi hn)⟩
theorem Kp.below {S : Nat → Prop} {B : Nat} {w w' : World} (h : Kp S w w') (hB : B ≤ w.heap.size) (hs : ∀ k, k < B → ¬ S k) : Below B w w' := ⟨h.os, h.tape, h.output, h.size, fun k hk => h.block k (by omega) (hs k hk)⟩
theorem Kp.setCell {w : World} (g i : Nat) (u : Value) : Kp (fun k => k = g) w (w.setCell ⟨g, i, none⟩ u) := ⟨rfl, rfl, rfl, by simp [World.setCell], fun k _ hn => Below.heap_setCell _ _ _ _ hn⟩

end Go.Proofs.YtpohogpkfdebdaaGreatDoor
namespace Go.Proofs.YtpohogpkfdebdaaGreatDoor.By
open Go.ChangeShapes Go.WideShapes Go.ChangeAt Go.RowKit
theorem hid {p : Prop} (h : p) : Hid p := h
/-- The slice v reads as n bytes, byte i being f i. -/
def RB (w : World) (v : Value) (n : Nat) (f : Nat → Int) : Prop :=
  (∀ i, 0 ≤ f i ∧ f i < 256) ∧ ∃ a cap, v = .slice a n cap ∧ n ≤ cap ∧ cap ≤ maxLen ∧
    ((n = 0 ∧ (a = none → cap = 0)) ∨ ∃ b off, a = some ⟨b, off, none⟩ ∧ ∀ i, i < n → w.cell? ⟨b, off + i, none⟩ = some (.int .u8 (f i)))

/-- n bytes as cells. -/
def bl (n : Nat) (f : Nat → Int) : List Value := (List.range n).map fun i => Value.int .u8 (f i)
theorem bl_length (n : Nat) (f : Nat → Int) : (bl n f).length = n := by simp [bl]
theorem bl_get (n : Nat) (f : Nat → Int) (i : Nat) (h : i < n) : (bl n f)[i]? = some (.int .u8 (f i)) := by
  simp [bl, h]
theorem bl_get_inv (n : Nat) (f : Nat → Int) (i : Nat) (u : Value) (h : (bl n f)[i]? = some u) : i < n ∧ u = .int .u8 (f i) := by
  have hi : i < n := by
    have := List.getElem?_eq_some_iff.1 h
    obtain ⟨h1, _⟩ := this
    simpa [bl_length] using h1
  rw [bl_get n f i hi] at h
  exact ⟨hi, (Option.some.inj h).symm⟩
theorem bl_one (n : Nat) (f : Nat → Int) : ∀ u ∈ bl n f, u.oneCell' = true := by
  intro u hu
  simp [bl] at hu
  obtain ⟨i, _, rfl⟩ := hu
  rfl
theorem bl_congr (n : Nat) (f g : Nat → Int) (h : ∀ i, i < n → f i = g i) : bl n f = bl n g := by
  apply List.map_congr_left
  intro i hi
  rw [h i (List.mem_range.1 hi)]
theorem bl_append (n m : Nat) (f g : Nat → Int) : bl n f ++ bl m g = bl (n + m) (fun i => if i < n then f i else g (i - n)) := by
  apply List.ext_getElem?
  intro i
  by_cases h : i < n
  · rw [List.getElem?_append_left (by rw [bl_length]; exact h), bl_get _ _ _ h, bl_get _ _ _ (by omega), if_pos h]
  · rw [List.getElem?_append_right (by rw [bl_length]; omega), bl_length]
    by_cases h2 : i < n + m
    · rw [bl_get _ _ _ (by omega), bl_get _ _ _ h2, if_neg h]
    · rw [List.getElem?_eq_none (by rw [bl_length]; omega), List.getElem?_eq_none (by rw [bl_length]; omega)]
theorem bl_set (n : Nat) (f : Nat → Int) (k : Nat) (x : Int) : (bl n f).set k (.int .u8 x) = bl n (fun i => if i = k then x else f i) := by
  apply List.ext_getElem?
  intro i
  rw [List.getElem?_set]
  by_cases h : i < n
  · by_cases e : k = i
    · subst e; rw [bl_get _ _ _ h]; simp [bl_length, h]; simp [bl]
    · have e' : ¬ i = k := fun h => e h.symm
      rw [bl_get _ _ _ h, bl_get _ _ _ h]; simp [e, e']
  · rw [List.getElem?_eq_none (by rw [bl_length]; omega), List.getElem?_eq_none (by rw [bl_length]; omega)]
    simp only [bl_length]; split
    · rw [if_neg (by omega)]
    · rfl
theorem bl_singleton (x : Int) : [Value.int .u8 x] = bl 1 (fun _ => x) := by simp [bl, List.range_succ]

/-- The call owns the slice v: n bytes f, from block 'base' on. -/
def Own (w : World) (base : Nat) (v : Value) (n : Nat) (f : Nat → Int) : Prop :=
  (∀ i, 0 ≤ f i ∧ f i < 256) ∧ w.ownsRow base 5 1 v n (bl n f)

theorem Own.shape {w : World} {base : Nat} {v : Value} {n : Nat} {f : Nat → Int} (h : Own w base v n f) :
    (v = .slice none 0 0 ∧ n = 0) ∨ ∃ g cap, v = .slice (some ⟨g, 0, none⟩) n cap ∧ base ≤ g ∧ g < w.heap.size ∧ n ≤ cap ∧ cap ≤ maxLen ∧
      (∀ i, i < n → w.cell? ⟨g, i, none⟩ = some (.int .u8 (f i))) ∧ ∀ i, w.frozen? ⟨g, i, none⟩ = false := by
  have h2 := h.2
  rcases h.2.2 with hn | ⟨g, cap, cur, rfl, hb, hg, hnc, hcm, hcs, ht⟩
  · exact .inl hn
  · refine .inr ⟨g, cap, rfl, hb, ?_, hnc, hcm, fun i hi => ?_, fun i => h2.frozenAt i⟩
    · exact (Array.getElem?_eq_some_iff.1 hg).1
    · rw [h2.cellAt i (by omega), bl_get _ _ _ hi]

theorem Own.reads {w : World} {base : Nat} {v : Value} {n : Nat} {f : Nat → Int} (h : Own w base v n f) : RB w v n f := by
  rcases h.shape with ⟨rfl, rfl⟩ | ⟨g, cap, rfl, _, _, hnc, hcm, hc, _⟩
  · exact ⟨h.1, none, 0, rfl, Nat.le_refl _, by simp [maxLen], .inl ⟨rfl, fun _ => rfl⟩⟩
  · exact ⟨h.1, _, _, rfl, hnc, hcm, .inr ⟨g, 0, rfl, fun i hi => by rw [Nat.zero_add]; exact hc i hi⟩⟩

theorem RB.lt {w : World} {v : Value} {n : Nat} {f : Nat → Int} {b off cap : Nat} (h : RB w v n f) (hv : v = .slice (some ⟨b, off, none⟩) n cap) (hn : 0 < n) : b < w.heap.size := by
  obtain ⟨_, a, cap', rfl, _, _, h0 | ⟨b', off', rfl, hc⟩⟩ := h
  · omega
  · simp at hv
    obtain ⟨⟨rfl, rfl⟩, rfl⟩ := hv
    have := hc 0 hn
    exact block_lt_of_cell this

/-- Behind a call that only makes memory a slice reads as before. -/
theorem RB.below {w w' : World} {v : Value} {n : Nat} {f : Nat → Int} (h : RB w v n f) (hb : Below w.heap.size w w') : RB w' v n f := by
  have h' := h
  obtain ⟨hf, a, cap, rfl, h1, h2, h0 | ⟨b, off, rfl, hc⟩⟩ := h
  · exact ⟨hf, a, cap, rfl, h1, h2, .inl h0⟩
  · refine ⟨hf, _, cap, rfl, h1, h2, .inr ⟨b, off, rfl, fun i hi => ?_⟩⟩
    rw [hb.cell (p := ⟨b, off + i, none⟩) (h'.lt rfl (by omega))]
    exact hc i hi
theorem RB.drewN {w : World} {v : Value} {n : Nat} {f : Nat → Int} (h : RB w v n f) (k : Nat) : RB (w.drewN k) v n f := h
theorem Below.of_grown {w w' : World} (h : w.grownBy w' none) : Below w.heap.size w w' := ⟨h.os, h.tape, h.output, h.size, fun k hk => h.block k hk (by simp)⟩

/-- The first k bytes of a list. -/
theorem RB.first {w : World} {a : Option Addr} {cap n : Nat} {f : Nat → Int} (h : RB w (.slice a n cap) n f) (k : Nat) (hk : k ≤ n) : RB w (.slice a k cap) k f := by
  obtain ⟨hf, a', cap', hv, h1, h2, h0⟩ := h
  simp at hv
  obtain ⟨rfl, rfl⟩ := hv
  refine ⟨hf, _, _, rfl, by omega, h2, ?_⟩
  rcases h0 with h0 | ⟨b, off, rfl, hc⟩
  · exact .inl ⟨by omega, h0.2⟩
  · exact .inr ⟨b, off, rfl, fun i hi => hc i (by omega)⟩

/-- The byte at a place; 0, where there is none. -/
def Byt (f : Nat → Int) (n : Nat) (p : Int) : Int := if 0 ≤ p ∧ p < n then f p.toNat else 0
theorem Byt_bound (f : Nat → Int) (n : Nat) (p : Int) (h : ∀ i, 0 ≤ f i ∧ f i < 256) : 0 ≤ Byt f n p ∧ Byt f n p < 256 := by
  unfold Byt; split
  · exact h _
  · omega
theorem Byt_out (f : Nat → Int) (n : Nat) (p : Int) (h : p < 0 ∨ (n : Int) ≤ p) : Byt f n p = 0 := by
  unfold Byt; rw [if_neg]; omega
theorem Byt_in (f : Nat → Int) (n : Nat) (p : Int) (h : 0 ≤ p) (h2 : p < n) : Byt f n p = f p.toNat := by
  unfold Byt; rw [if_pos ⟨h, h2⟩]

/-- k bytes as a number, the highest first. -/
def BE (g : Nat → Int) : Nat → Int
  | 0 => 0
  | k + 1 => BE g k * 256 + g k
/-- k bytes as a number, the lowest first. -/
def LE (g : Nat → Int) : Nat → Int
  | 0 => 0
  | k + 1 => LE g k + g k * 256 ^ k
theorem BE_bound (g : Nat → Int) (h : ∀ i, 0 ≤ g i ∧ g i < 256) (k : Nat) : 0 ≤ BE g k ∧ BE g k < 256 ^ k := by
  induction k with
  | zero => simp [BE]
  | succ k ih => have := h k; simp only [BE, Int.pow_succ]; omega
theorem LE_bound (g : Nat → Int) (h : ∀ i, 0 ≤ g i ∧ g i < 256) (k : Nat) : 0 ≤ LE g k ∧ LE g k < 256 ^ k := by
  induction k with
  | zero => simp [LE]
  | succ k ih =>
    have h1 := h k
    have hp : (0 : Int) < 256 ^ k := Int.pow_pos (by omega)
    have a1 : 0 ≤ g k * 256 ^ k := Int.mul_nonneg h1.1 (by omega)
    have a2 : g k * 256 ^ k ≤ 255 * 256 ^ k := Int.mul_le_mul_of_nonneg_right (by omega) (by omega)
    simp only [LE, Int.pow_succ]; omega
end Go.Proofs.YtpohogpkfdebdaaGreatDoor.By
namespace Go.Proofs.YtpohogpkfdebdaaGreatDoor.By
open Go.ChangeShapes Go.WideShapes Go.ChangeAt Go.RowKit
set_option maxHeartbeats 400000 in
theorem same_true (a b : Value) (n : Nat) (f g : Nat → Int) (w : World) (ha : RB w a n f) (hb : RB w b n g) (hn : n ≤ 140737488355999) (he : ∀ i, i < n → f i = g i) :
    Calls Tryz.prog 17 #[a, b] w fun e w' => e = .returned (.bool true) ∧ ∃ k, w' = w.drewN k := by
  obtain ⟨_, a, cap, rfl, h1, h2, hc⟩ := ha
  obtain ⟨_, b, cap', rfl, h1', h2', hc'⟩ := hb
  have HE : Hid (∀ i, i < n → f i = g i) := he
  clear he
  by_cases hz : n = 0
  · subst hz
    clear hc hc'
    go_enter Tryz.func17, Tryz.ntmps17
    go_wp2
    refine wp_loop_rounds 1 ?_
    rw [rounds_succ]
    go_wp2
    go_ret
    exact ⟨rfl, 0, rfl⟩
  · rcases hc with ⟨h, _⟩ | ⟨b1, o1, rfl, hc⟩
    · omega
    rcases hc' with ⟨h, _⟩ | ⟨b2, o2, rfl, hc'⟩
    · omega
    have HC : Hid (∀ i, i < n → w.cell? ⟨b1, o1 + i, none⟩ = some (.int .u8 (f i))) := hc
    have HC' : Hid (∀ i, i < n → w.cell? ⟨b2, o2 + i, none⟩ = some (.int .u8 (g i))) := hc'
    clear hc hc'
    go_enter Tryz.func17, Tryz.ntmps17
    go_wp2
    go_loopw [5] (fun i wr => ∃ k : Nat, k ≤ n ∧ i = .int .i64 k ∧ ∃ d, wr = w.drewN d) (fun i _ => n - (intOf i).toNat)
    case atStart => exact ⟨0, Nat.zero_le _, rfl, 0, rfl⟩
    case round =>
      obtain ⟨k, hk, rfl, d, rfl⟩ := hrel
      by_cases hlt : k < n
      · have c1 := HC.out k hlt
        have c2 := HC'.out k hlt
        rw [← HE.out k hlt] at c2
        go_wp2
        go_quiet (fail)
        go_wp2
        go_roundw
        case rel => exact ⟨k + 1, by omega, by go_num, _, rfl⟩
        case measure => simp [intOf]; omega
      · go_wp2
        go_ret
        exact ⟨rfl, d, rfl⟩
theorem add_plain (b off j : Nat) : (⟨b, off, none⟩ : Addr).add j = ⟨b, off + j, none⟩ := by
  unfold Addr.add
  split <;> simp_all
theorem info5 : (Tryz.prog.info? 5).map (fun i => (i.zero, i.size, i.bytes)) = some (some (.int .u8 0), 1, 1) := by kernel_rfl
theorem own_nil (w : World) (base : Nat) (f : Nat → Int) (hf : ∀ i, 0 ≤ f i ∧ f i < 256) : Own w base (.slice none 0 0) 0 f := ⟨hf, World.ownsRow_nil _ _ _ _⟩
set_option maxHeartbeats 400000 in
theorem copy16 (l : Value) (n : Nat) (f : Nat → Int) (w : World) (hr : RB w l n f) (hn : n ≤ 140737488355328) :
    Calls Tryz.prog 34 #[l] w fun e w' => ∃ v, e = .returned v ∧ Own w' w.heap.size v n f ∧ Below w.heap.size w w' := by
  obtain ⟨hf, a, cap, rfl, h1, h2, hc⟩ := hr
  obtain ⟨i0, hi, hz0, hz1, hz2⟩ := info_parts info5
  cases a with
  | none =>
    have hn0 : n = 0 := by rcases hc with ⟨h, _⟩ | ⟨_, _, h, _⟩; exact h; cases h
    have hc0 : cap = 0 := by rcases hc with ⟨_, h⟩ | ⟨_, _, h, _⟩; exact h rfl; cases h
    subst hn0 hc0
    have HF : Hid (∀ i, 0 ≤ f i ∧ f i < 256) := hf
    clear hf hc
    go_enter Tryz.func34, Tryz.ntmps34
    go_wp2_with (at_builtin; refine wpList_append_own_none rfl _ _ 23 rfl w.heap.size 5 i0 1 Tryz.underlying23 hi _ _ _ rfl (World.ownsRow_nil _ _ _ _) rfl ?_)
    go_ret
    exact ⟨_, rfl, own_nil _ _ _ HF.out, Below.refl _ _⟩
  | some ad =>
    have HF : Hid (∀ i, 0 ≤ f i ∧ f i < 256) := hf
    have HC : Hid (∀ j u, (bl n f)[j]? = some u → w.cell? (ad.add j) = some u) := by
      intro j u hj
      obtain ⟨hj1, rfl⟩ := bl_get_inv _ _ _ _ hj
      rcases hc with ⟨h, _⟩ | ⟨b, off, h, hc⟩
      · omega
      · cases h; rw [add_plain]; exact hc j hj1
    clear hf hc
    go_enter Tryz.func34, Tryz.ntmps34
    go_wp2_with (at_builtin; refine wpList_append_own _ rfl _ _ 23 rfl w.heap.size 5 i0 (.int .u8 0) 1 1 Tryz.underlying23 hi hz0 hz1 hz2 rfl (by decide) _ _ _ rfl (World.ownsRow_nil _ _ _ _) ad n cap (bl n f) rfl (by rw [bl_length]; omega) HC.out (bl_one n f) (by simp [maxLen]; omega) (by omega) (Nat.le_refl _) ?_)
    intro v' w1 hown hgrow _
    have R : Own w1 w.heap.size v' n f ∧ Below w.heap.size w w1 := by
      exact ⟨⟨HF.out, hown⟩, Below.of_grown hgrow⟩
    have HR : Hid (Own w1 w.heap.size v' n f ∧ Below w.heap.size w w1) := R
    clear R hown hgrow
    go_wp2
    go_ret
    exact ⟨_, rfl, HR.out⟩
/-- What a lent list holds: its bytes, then six marks. -/
def lent (n : Nat) (f : Nat → Int) (i : Nat) : Int := if i < n then f i else (50 + ((i - n : Nat) : Int)) % 256
theorem own_row {w : World} {B : Nat} {v : Value} {n : Nat} {f : Nat → Int} (ho : Own w B v n f) (k : Nat) (hk : v.ownBlock = some k) : B ≤ k := by
  rcases ho.shape with ⟨rfl, _⟩ | ⟨g, cap, rfl, hb, _⟩
  · simp [Value.ownBlock] at hk
  · simp [Value.ownBlock] at hk; omega
/-- What a list that was written over holds. -/
def over (i : Nat) : Int := (64 + (i : Int)) % 256
theorem own_congr {w : World} {base : Nat} {v : Value} {n : Nat} {f g : Nat → Int} (h : Own w base v n f) (hg : ∀ i, 0 ≤ g i ∧ g i < 256) (e : ∀ i, i < n → f i = g i) : Own w base v n g :=
  ⟨hg, by rw [← bl_congr n f g e]; exact h.2⟩
theorem own_store {w : World} {base g N cap : Nat} {f : Nat → Int} (h : Own w base (.slice (some ⟨g, 0, none⟩) N cap) N f) (k : Nat) (x : Int) (hx : 0 ≤ x ∧ x < 256) :
    Own (w.setCell ⟨g, k, none⟩ (.int .u8 x)) base (.slice (some ⟨g, 0, none⟩) N cap) N (fun i => if i = k then x else f i) ∧ w.grownBy (w.setCell ⟨g, k, none⟩ (.int .u8 x)) (some g) := by
  obtain ⟨h1, h2⟩ := h.2.stored k (.int .u8 x)
  rw [bl_set] at h1
  refine ⟨⟨fun i => ?_, h1⟩, h2⟩
  show 0 ≤ (if i = k then x else f i) ∧ (if i = k then x else f i) < 256
  split
  · exact hx
  · exact h.1 i
theorem bl_zero (n : Nat) : (madeCells #[Value.int .u8 0] n).toList = bl n (fun _ => 0) := by
  rw [toList_madeCells_one]
  apply List.ext_getElem?
  intro i
  by_cases h : i < n
  · rw [bl_get _ _ _ h]; simp [h]
  · rw [List.getElem?_eq_none (l := bl n _) (by rw [bl_length]; omega)]; simp; omega
theorem own_lit (w : World) (cs : Array Value) (n : Nat) (f : Nat → Int) (hf : ∀ i, 0 ≤ f i ∧ f i < 256) (hn : n ≤ maxLen) (hs : cs.size = n) (hc : cs.toList = bl n f) :
    Own (w.alloc (.cells cs 5)) w.heap.size (.slice (some ⟨w.heap.size, 0, none⟩) n n) n f := by
  refine ⟨hf, ?_⟩
  have h := World.ownsRow_lit (base := w.heap.size) (e := 5) (size := 1) w cs n (Nat.le_refl _) hn (by omega)
  rw [← hc]
  exact h
theorem RB.alloc {w : World} {v : Value} {n : Nat} {f : Nat → Int} (h : RB w v n f) (o : Obj) : RB (w.alloc o) v n f := h.below ((Below.refl _ _).alloc (Nat.le_refl _) o)
/-- A list out of numbers. -/
def lst (l : List Int) (i : Nat) : Int := l.getD i 0
theorem lst_bound (l : List Int) (h : l.all (fun z => decide (0 ≤ z ∧ z < 256)) = true) (i : Nat) : 0 ≤ lst l i ∧ lst l i < 256 := by
  unfold lst
  by_cases hi : i < l.length
  · have := List.all_eq_true.1 h l[i] (List.getElem_mem hi)
    simp [hi] at this ⊢
    omega
  · simp [List.getElem?_eq_none (Nat.le_of_not_lt hi)]
theorem own_below {w w' : World} {base : Nat} {v : Value} {n : Nat} {f : Nat → Int} (h : Own w base v n f) (hb : Below w.heap.size w w') : Own w' base v n f := by
  refine ⟨h.1, ?_⟩
  have hg : w.grownBy w' none := ⟨hb.os, hb.tape, hb.output, hb.size, fun k hk _ => hb.block k hk⟩
  rcases h.shape with ⟨rfl, _⟩ | ⟨g, cap, rfl, _⟩
  · exact h.2.kept hg (.inl rfl)
  · exact h.2.kept hg (.inr (by simp [Value.ownBlock]))
theorem bytes5 : Tryz.prog.bytesOf 5 = 1 := by kernel_rfl
theorem u8_bound {x : Int} (h : (Lit.int .u8 x).wf = true) : 0 ≤ x ∧ x < 256 := by
  simp [Lit.wf, IntKind.min, IntKind.max, IntKind.bits, IntKind.signed] at h; omega
theorem rb_of_row {w : World} {a : Option Addr} {len cap : Nat} {zs : List Int}
    (h : (a = none ∧ len = 0 ∧ cap = 0 ∧ zs = []) ∨
      ∃ x, a = some x ∧ len ≤ cap ∧ cap ≤ maxLen ∧ zs.length = cap ∧ (∀ i, i < zs.length → w.cell? (x.add i) = some (.int .u8 (zs.getD i 0))) ∧ ∀ n ∈ zs, (Lit.int .u8 n).wf = true) :
    RB w (.slice a len cap) len (lst zs) := by
  rcases h with ⟨rfl, rfl, rfl, rfl⟩ | ⟨x, rfl, hl, hm, hz, hcell, hwz⟩
  · exact ⟨lst_bound _ rfl, none, 0, rfl, Nat.le_refl _, by simp [maxLen], .inl ⟨rfl, fun _ => rfl⟩⟩
  · have hb : ∀ i, 0 ≤ lst zs i ∧ lst zs i < 256 := by
      intro i
      unfold lst
      by_cases hi : i < zs.length
      · have := u8_bound (hwz zs[i] (List.getElem_mem hi))
        simp [hi]; omega
      · simp [List.getElem?_eq_none (Nat.le_of_not_lt hi)]
    by_cases h0 : len = 0
    · subst h0
      exact ⟨hb, _, _, rfl, by omega, hm, .inl ⟨rfl, fun h => by cases h⟩⟩
    · obtain ⟨b, off, spot⟩ := x
      have hc := hcell 0 (by omega)
      have hspot : spot = none := by simpa [Addr.add] using World.cell?_spot hc
      subst hspot
      refine ⟨hb, _, _, rfl, hl, hm, .inr ⟨b, off, rfl, fun i hi => ?_⟩⟩
      have := hcell i (by omega)
      rw [add_plain] at this
      exact this
theorem own_cells {w : World} {base : Nat} {v : Value} {n : Nat} {f : Nat → Int} (h : Own w base v n f) (hn : 0 < n) : ∃ g cap, v = .slice (some ⟨g, 0, none⟩) n cap ∧ ∀ i, i < n → w.cell? ⟨g, i, none⟩ = some (.int .u8 (f i)) := by
  rcases h.shape with ⟨_, h0⟩ | ⟨g, cap, rfl, _, _, _, _, hc, _⟩
  · omega
  · exact ⟨g, cap, rfl, hc⟩
theorem rb_cap {w : World} {a : Option Addr} {n cap : Nat} {f : Nat → Int} (h : RB w (.slice a n cap) n f) : n ≤ cap := by
  obtain ⟨_, a', c', hv, h1, _⟩ := h
  simp at hv
  omega
end Go.Proofs.YtpohogpkfdebdaaGreatDoor.By

namespace Go.Proofs.YtpohogpkfdebdaaGreatDoor.Wd

/-- A number below 2 ^ W, its bits turned by l places (l below W). -/
def rotN (W l x : Nat) : Nat := x * 2 ^ l % 2 ^ W + x * 2 ^ l / 2 ^ W

theorem rot_div (W l x : Nat) (hl : l ≤ W) : x * 2 ^ l / 2 ^ W = x / 2 ^ (W - l) := by
  have e : (2 : Nat) ^ W = 2 ^ (W - l) * 2 ^ l := by rw [← Nat.pow_add]; congr 1; omega
  rw [e, Nat.mul_div_mul_right _ _ (Nat.two_pow_pos l)]

theorem rot_or (W l x : Nat) (hl : l ≤ W) (hx : x < 2 ^ W) : x * 2 ^ l % 2 ^ W ||| x / 2 ^ (W - l) = rotN W l x := by
  have e : (2 : Nat) ^ W = 2 ^ (W - l) * 2 ^ l := by rw [← Nat.pow_add]; congr 1; omega
  rw [nat_join l]
  · rw [rotN, rot_div W l x hl]
  · rw [e, Nat.mul_mod_mul_right]; exact Nat.mul_mod_left _ _
  · rw [Nat.div_lt_iff_lt_mul (Nat.two_pow_pos _), Nat.mul_comm, ← e]; exact hx

/-- The same over whole numbers: a word x of W bits, turned by n places, whatever n is. -/
def Rot (W : Nat) (x n : Int) : Int := ((rotN W (n % W).toNat x.toNat : Nat) : Int)

theorem and_i64_low (n : Int) (j : Nat) (hj : j < 63) : bits .and .i64 n ((2 ^ j - 1 : Nat) : Int) = n % (2 ^ j : Nat) := by
  have hp : (0 : Int) < (2 ^ j : Nat) := by exact_mod_cast Nat.two_pow_pos j
  have hp' : 0 < 2 ^ j := Nat.two_pow_pos j
  have hle : 2 ^ j ≤ 2 ^ 62 := Nat.pow_le_pow_right (by omega) (by omega)
  have h2 : (BitVec.ofInt 64 ((2 ^ j - 1 : Nat) : Int)).toNat = 2 ^ j - 1 := by
    rw [BitVec.ofInt_natCast, BitVec.toNat_ofNat]; exact Nat.mod_eq_of_lt (by omega)
  have h1 : (BitVec.ofInt 64 n).toNat = (n % 2 ^ 64).toNat := by rw [BitVec.toNat_ofInt]; rfl
  show IntKind.i64.wrap ((BitVec.ofInt 64 n &&& BitVec.ofInt 64 ((2 ^ j - 1 : Nat) : Int)).toNat : Int) = _
  rw [BitVec.toNat_and, h1, h2, Nat.and_two_pow_sub_one_eq_mod]
  have hd : (2 : Int) ^ 64 = ((2 ^ j : Nat) : Int) * ((2 ^ (64 - j) : Nat) : Int) := by
    rw [← Int.natCast_mul, ← Nat.pow_add, show j + (64 - j) = 64 by omega]; rfl
  have hm : (((n % 2 ^ 64).toNat % 2 ^ j : Nat) : Int) = n % (2 ^ j : Nat) := by
    rw [Int.natCast_emod, Int.toNat_of_nonneg (Int.emod_nonneg _ (by decide)), Int.emod_emod_of_dvd _ ⟨_, hd⟩]
  rw [hm]
  have hlt := Int.emod_lt_of_pos n hp
  have h0 := Int.emod_nonneg n (show ((2 ^ j : Nat) : Int) ≠ 0 by omega)
  have hb : 2 ^ j ≤ 4611686018427387904 := hle
  rw [IntKind.wrap_i64]
  omega
theorem and_31 (n : Int) : bits .and .i64 n 31 = n % 32 := and_i64_low n 5 (by decide)
theorem and_63 (n : Int) : bits .and .i64 n 63 = n % 64 := and_i64_low n 6 (by decide)

theorem turned32 (x n : Int) (h0 : 0 ≤ x) (h1 : x < 4294967296) :
    bits .or .u32 (x * 2 ^ (n % 32).toNat % 4294967296) (x / 2 ^ (32 - n % 32).toNat) = Rot 32 x n := by
  have hl : (n % 32).toNat < 32 := by omega
  generalize hg : n % 32 = g at *
  obtain ⟨X, rfl⟩ := Int.eq_ofNat_of_zero_le h0
  obtain ⟨L, rfl⟩ := Int.eq_ofNat_of_zero_le (show 0 ≤ g by omega)
  rw [Int.toNat_natCast, show (32 - (L : Int)).toNat = 32 - L by omega]
  have e1 : (X : Int) * 2 ^ L % 4294967296 = ((X * 2 ^ L % 2 ^ 32 : Nat) : Int) := by rw [Int.natCast_emod, Int.natCast_mul, Int.natCast_pow]; rfl
  have e2 : (X : Int) / 2 ^ (32 - L) = ((X / 2 ^ (32 - L) : Nat) : Int) := by push_cast; rfl
  rw [e1, e2, u32_or_nat _ _ (Nat.mod_lt _ (by decide)) (Nat.lt_of_le_of_lt (Nat.div_le_self _ _) (by omega)), rot_or 32 L X (by omega) (by omega)]
  show _ = ((rotN 32 (n % (32 : Nat)).toNat (X : Int).toNat : Nat) : Int)
  rw [show n % ((32 : Nat) : Int) = (L : Int) from hg]; rfl
theorem turned64 (x n : Int) (h0 : 0 ≤ x) (h1 : x < 18446744073709551616) :
    bits .or .u64 (x * 2 ^ (n % 64).toNat % 18446744073709551616) (x / 2 ^ (64 - n % 64).toNat) = Rot 64 x n := by
  have hl : (n % 64).toNat < 64 := by omega
  generalize hg : n % 64 = g at *
  obtain ⟨X, rfl⟩ := Int.eq_ofNat_of_zero_le h0
  obtain ⟨L, rfl⟩ := Int.eq_ofNat_of_zero_le (show 0 ≤ g by omega)
  rw [Int.toNat_natCast, show (64 - (L : Int)).toNat = 64 - L by omega]
  have e1 : (X : Int) * 2 ^ L % 18446744073709551616 = ((X * 2 ^ L % 2 ^ 64 : Nat) : Int) := by rw [Int.natCast_emod, Int.natCast_mul, Int.natCast_pow]; rfl
  have e2 : (X : Int) / 2 ^ (64 - L) = ((X / 2 ^ (64 - L) : Nat) : Int) := by push_cast; rfl
  rw [e1, e2, u64_or_nat _ _ (Nat.mod_lt _ (by decide)) (Nat.lt_of_le_of_lt (Nat.div_le_self _ _) (by omega)), rot_or 64 L X (by omega) (by omega)]
  show _ = ((rotN 64 (n % (64 : Nat)).toNat (X : Int).toNat : Nat) : Int)
  rw [show n % ((64 : Nat) : Int) = (L : Int) from hg]; rfl

/-- What the turning has come to behind k bits. -/
def RotTo (W : Nat) (x l : Int) (k : Nat) : Int := ((rotN W l.toNat (x.toNat % 2 ^ k) : Nat) : Int)
end Go.Proofs.YtpohogpkfdebdaaGreatDoor.Wd
namespace Go.Proofs.YtpohogpkfdebdaaGreatDoor.Wd
open Go.ChangeShapes Go.WideShapes Go.ChangeAt Go.RowKit
open Go.Proofs.YtpohogpkfdebdaaGreatDoor.By
set_option maxRecDepth 1000000 in
set_option maxHeartbeats 4000000 in
theorem len64_32 (w : World) : Calls Tryz.prog 289 #[.int .u64 4294967295] w fun e w' => e = .returned (.int .i64 32) ∧ w' = w := by
  go_enter Tryz.func289, Tryz.ntmps289
  go_wp2
  go_ret
  exact ⟨by kernel_rfl, rfl⟩
set_option maxRecDepth 1000000 in
set_option maxHeartbeats 4000000 in
theorem len64_64 (w : World) : Calls Tryz.prog 289 #[.int .u64 18446744073709551615] w fun e w' => e = .returned (.int .i64 64) ∧ w' = w := by
  go_enter Tryz.func289, Tryz.ntmps289
  go_wp2
  go_ret
  exact ⟨by kernel_rfl, rfl⟩
theorem ones32 : IntKind.u64.wrap (bits BinOp.xor IntKind.u32 IntKind.u32.max 0) = 4294967295 := by decide +kernel
theorem ones64 : bits BinOp.xor IntKind.u64 IntKind.u64.max 0 = 18446744073709551615 := by decide +kernel
theorem width38 (w : World) : Calls Tryz.prog 272 #[] w fun e w' => e = .returned (.int .i64 32) ∧ w' = w := by
  go_enter Tryz.func272, Tryz.ntmps272
  go_wp2_with (go_at_call 289; rw [ones32]; refine (len64_32 _).mono ?_; rintro e w' ⟨rfl, rfl⟩)
  go_ret
  exact ⟨rfl, rfl⟩
theorem width40 (w : World) : Calls Tryz.prog 301 #[] w fun e w' => e = .returned (.int .i64 64) ∧ w' = w := by
  go_enter Tryz.func301, Tryz.ntmps301
  go_wp2_with (go_at_call 289; rw [ones64]; refine (len64_64 _).mono ?_; rintro e w' ⟨rfl, rfl⟩)
  go_ret
  exact ⟨rfl, rfl⟩
theorem size49 (w : World) : Calls Tryz.prog 271 #[] w fun e w' => e = .returned (.int .i64 4) ∧ w' = w := by
  go_enter Tryz.func271, Tryz.ntmps271
  go_wp2_with (go_at_call 272; refine (width38 _).mono ?_; rintro e w' ⟨rfl, rfl⟩)
  go_ret
  exact ⟨rfl, rfl⟩
theorem size51 (w : World) : Calls Tryz.prog 297 #[] w fun e w' => e = .returned (.int .i64 8) ∧ w' = w := by
  go_enter Tryz.func297, Tryz.ntmps297
  go_wp2_with (go_at_call 301; refine (width40 _).mono ?_; rintro e w' ⟨rfl, rfl⟩)
  go_ret
  exact ⟨rfl, rfl⟩
set_option maxHeartbeats 400000 in
theorem turn9 (x n : Int) (w : World) (hx : 0 ≤ x) (hx2 : x < 4294967296) :
    Calls Tryz.prog 243 #[.int .u32 x, .int .i64 n] w fun e w' => e = .returned (.int .u32 (Rot 32 x n)) ∧ ∃ k, w' = w.drewN k := by
  have hfin := turned32 x n hx hx2
  have hl := and_31 n
  have h0 : 0 ≤ n % 32 := by omega
  have h1 : n % 32 < 32 := by omega
  generalize n % 32 = l at *
  have HF : Hid (bits .or .u32 (x * 2 ^ l.toNat % 4294967296) (x / 2 ^ (32 - l).toNat) = Rot 32 x n) := hfin
  clear hfin
  go_enter Tryz.func243, Tryz.ntmps243
  go_wp2_with (go_at_call 272; refine (width38 _).mono ?_; rintro e w' ⟨rfl, rfl⟩)
  go_quiet ((go_at_call 272; exact Calls.quiet_of_same (width38 _)))
  go_wp2
  go_ret
  exact ⟨congrArg (fun z => Ending.returned (Value.int IntKind.u32 z)) HF.out, _, rfl⟩
theorem or_be32 (p b : Int) (h0 : 0 ≤ p) (h1 : p < 16777216) (b0 : 0 ≤ b) (b1 : b < 256) : bits .or .u32 (p * 256 % 4294967296) b = p * 256 + b := by
  obtain ⟨P, rfl⟩ := Int.eq_ofNat_of_zero_le h0
  obtain ⟨B, rfl⟩ := Int.eq_ofNat_of_zero_le b0
  have e : (P : Int) * 256 % 4294967296 = ((P * 256 : Nat) : Int) := by omega
  rw [e, u32_or_nat _ _ (by omega) (by omega), nat_join 8 _ _ (by omega) (by omega)]
  omega
theorem or_be64 (p b : Int) (h0 : 0 ≤ p) (h1 : p < 72057594037927936) (b0 : 0 ≤ b) (b1 : b < 256) : bits .or .u64 (p * 256 % 18446744073709551616) b = p * 256 + b := by
  obtain ⟨P, rfl⟩ := Int.eq_ofNat_of_zero_le h0
  obtain ⟨B, rfl⟩ := Int.eq_ofNat_of_zero_le b0
  have e : (P : Int) * 256 % 18446744073709551616 = ((P * 256 : Nat) : Int) := by omega
  rw [e, u64_or_nat _ _ (by omega) (by omega), nat_join 8 _ _ (by omega) (by omega)]
  omega
theorem pow256 (k : Nat) : (256 : Nat) ^ k = 2 ^ (8 * k) := by rw [Nat.pow_mul]
theorem pow_le_of (k m : Nat) (h : k ≤ m) : (256 : Int) ^ k ≤ 256 ^ m := by
  have e : ∀ j : Nat, ((256 ^ j : Nat) : Int) = 256 ^ j := fun j => Int.natCast_pow 256 j
  have := Nat.pow_le_pow_right (n := 256) (by omega) h
  have h1 := e k
  have h2 := e m
  omega
theorem BE_congr (g h : Nat → Int) (k : Nat) (e : ∀ i, i < k → g i = h i) : BE g k = BE h k := by
  induction k with
  | zero => rfl
  | succ k ih => simp only [BE]; rw [ih (fun i hi => e i (by omega)), e k (by omega)]
set_option maxHeartbeats 400000 in
theorem byteBehind_any (v : Value) (n : Nat) (f : Nat → Int) (at' i : Int) (w : World) (hr : RB w v n f) (hn : n ≤ 140737488355328) (h0 : 0 ≤ i) (h7 : i ≤ 7) (a0 : -9223372036854775808 ≤ at') (a1 : at' < 9223372036854775808) :
    Calls Tryz.prog 273 #[v, .int .i64 at', .int .i64 i] w fun e w' => e = .returned (.int .u8 (Byt f n (at' + i))) ∧ w' = w := by
  obtain ⟨hf, a, cap, rfl, h1, h2, hc⟩ := hr
  by_cases c1 : at' < -i
  · rw [Byt_out f n _ (by omega)]
    clear hc hf
    go_enter Tryz.func273, Tryz.ntmps273
    go_wp2
    go_ret
    exact ⟨rfl, rfl⟩
  · by_cases c2 : (n : Int) - i ≤ at'
    · rw [Byt_out f n _ (by omega)]
      clear hc hf
      go_enter Tryz.func273, Tryz.ntmps273
      go_wp2
      go_ret
      exact ⟨rfl, rfl⟩
    · rcases hc with hz | ⟨b, off, rfl, hc⟩
      · omega
      · rw [Byt_in f n _ (by omega) (by omega)]
        have hcell := hc (at' + i).toNat (by omega)
        have hp0 : 0 ≤ at' + i := by omega
        have hp1 : at' + i < n := by omega
        clear hc hf
        go_enter Tryz.func273, Tryz.ntmps273
        go_wp2
        go_ret
        exact ⟨rfl, rfl⟩
set_option maxHeartbeats 400000 in
theorem take36_go (v : Value) (n : Nat) (f : Nat → Int) (at' : Int) (w : World) (hr : RB w v n f) (hn : n ≤ 140737488355328) (a0 : -9223372036854775808 ≤ at') (a1 : at' < 9223372036854775808)
    (P : Nat → Int) (hP0 : P 0 = 0) (hP : ∀ k, k ≤ 4 → 0 ≤ P k ∧ P k < 4294967296) (hst : Hid (∀ k, k < 4 → bits .or .u32 (P k * 256 % 4294967296) (Byt f n (at' + k)) = P (k + 1))) :
    Calls Tryz.prog 244 #[v, .int .i64 at'] w fun e w' => e = .returned (.int .u32 (P 4)) ∧ w' = w := by
  have hB := fun i => Byt_bound f n (at' + i) hr.1
  have HR : Hid (RB w v n f) := hr
  clear hr
  go_enter Tryz.func244, Tryz.ntmps244
  go_wp2_with (go_at_call 271; refine (size49 _).mono ?_; rintro e w' ⟨rfl, rfl⟩)
  go_loop [5, 8] (fun y i => ∃ k : Nat, k ≤ 4 ∧ i = .int .i64 k ∧ y = .int .u32 (P k)) (fun _ i => 4 - (intOf i).toNat)
  case atStart => exact ⟨0, Nat.zero_le _, rfl, by rw [hP0]⟩
  case round =>
    obtain ⟨k, hk, rfl, rfl⟩ := hrel
    have hb := hP k hk
    have hB := hB k
    clear hP hP0
    by_cases hlt : k < 4
    · go_wp2_with (go_at_call 273; refine (byteBehind_any _ _ f _ _ _ HR.out hn (by omega) (by omega) a0 a1).mono ?_; rintro e w' ⟨rfl, rfl⟩)
      exact ⟨⟨k + 1, by omega, by go_num, congrArg (Value.int IntKind.u32) (hst.out k hlt)⟩, by simp [intOf]; omega⟩
    · go_wp2
      go_ret
      exact ⟨by rw [show k = 4 from by omega]; rfl, rfl⟩
theorem take36 (v : Value) (n : Nat) (f : Nat → Int) (at' : Int) (w : World) (hr : RB w v n f) (hn : n ≤ 140737488355328) (a0 : -9223372036854775808 ≤ at') (a1 : at' < 9223372036854775808) :
    Calls Tryz.prog 244 #[v, .int .i64 at'] w fun e w' => e = .returned (.int .u32 (BE (fun i => Byt f n (at' + i)) 4)) ∧ w' = w := by
  have hB := fun i : Nat => Byt_bound f n (at' + i) hr.1
  have hb := fun k => BE_bound (fun i => Byt f n (at' + i)) hB k
  refine take36_go v n f at' w hr hn a0 a1 (BE (fun i => Byt f n (at' + i))) rfl (fun k hk => ⟨(hb k).1, ?_⟩) ?_
  · have h1 := hb k
    have h2 := pow_le_of k 4 hk
    omega
  · intro k hk
    have h1 := hb k
    have h2 := pow_le_of k 3 (by omega)
    exact or_be32 _ _ h1.1 (by omega) (hB k).1 (hB k).2
/-- Byte i of a word of W bytes, the highest first; the lowest first. -/
def beByte (W : Nat) (x : Int) (i : Nat) : Int := x / 256 ^ (W - 1 - i) % 256
def leByte (x : Int) (i : Nat) : Int := x / 256 ^ i % 256
theorem beByte_bound (W : Nat) (x : Int) (i : Nat) : 0 ≤ beByte W x i ∧ beByte W x i < 256 := by unfold beByte; omega
theorem leByte_bound (x : Int) (i : Nat) : 0 ≤ leByte x i ∧ leByte x i < 256 := by unfold leByte; omega
theorem make4 (w : World) : (Instr.makeSlice 23 (.int .i64 4) (.int .i64 4)).run Tryz.prog w = .ok (.slice (some ⟨w.heap.size, 0, none⟩) 4 4) (w.alloc (.cells #[.int .u8 0, .int .u8 0, .int .u8 0, .int .u8 0] 5)) := by kernel_rfl
theorem make8 (w : World) : (Instr.makeSlice 23 (.int .i64 8) (.int .i64 8)).run Tryz.prog w = .ok (.slice (some ⟨w.heap.size, 0, none⟩) 8 8) (w.alloc (.cells #[.int .u8 0, .int .u8 0, .int .u8 0, .int .u8 0, .int .u8 0, .int .u8 0, .int .u8 0, .int .u8 0] 5)) := by kernel_rfl
theorem bl4 (f : Nat → Int) : bl 4 f = [.int .u8 (f 0), .int .u8 (f 1), .int .u8 (f 2), .int .u8 (f 3)] := rfl
theorem bl8 (f : Nat → Int) : bl 8 f = [.int .u8 (f 0), .int .u8 (f 1), .int .u8 (f 2), .int .u8 (f 3), .int .u8 (f 4), .int .u8 (f 5), .int .u8 (f 6), .int .u8 (f 7)] := rfl
set_option maxHeartbeats 1000000 in
theorem lay19_go (x : Int) (w : World) (h0 : 0 ≤ x) (h1 : x < 4294967296) :
    Calls Tryz.prog 242 #[.int .u32 x] w fun e w' => e = .returned (.slice (some ⟨w.heap.size, 0, none⟩) 4 4) ∧ w' = w.alloc (.cells #[.int .u8 (x / 16777216), .int .u8 (x / 65536 % 256), .int .u8 (x / 256 % 256), .int .u8 (x % 256)] 5) := by
  have hmk := make4
  go_enter Tryz.func242, Tryz.ntmps242
  go_wp2_with (go_at_call 271; refine (size49 _).mono ?_; rintro e w' ⟨rfl, rfl⟩)
  refine wp_loop_rounds 5 ?_
  iterate 5 (rw [rounds_succ]; go_wp2)
  go_ret
  exact ⟨rfl, rfl⟩
theorem lay19 (x : Int) (w : World) (h0 : 0 ≤ x) (h1 : x < 4294967296) :
    Calls Tryz.prog 242 #[.int .u32 x] w fun e w' => ∃ v, e = .returned v ∧ Own w' w.heap.size v 4 (beByte 4 x) ∧ Below w.heap.size w w' := by
  refine (lay19_go x w h0 h1).mono ?_
  rintro e w' ⟨rfl, rfl⟩
  refine ⟨_, rfl, own_lit w _ 4 (beByte 4 x) (beByte_bound 4 x) (by simp [maxLen]) rfl ?_, (Below.refl _ _).alloc (Nat.le_refl _) _⟩
  have e0 : x / 16777216 = x / 16777216 % 256 := by omega
  rw [bl4]
  simp [beByte]
  omega
set_option maxHeartbeats 1000000 in
theorem lay23_go (x : Int) (w : World) (h0 : 0 ≤ x) (h1 : x < 18446744073709551616) :
    Calls Tryz.prog 287 #[.int .u64 x] w fun e w' => e = .returned (.slice (some ⟨w.heap.size, 0, none⟩) 8 8) ∧ w' = w.alloc (.cells #[.int .u8 (x / 72057594037927936), .int .u8 (x / 281474976710656 % 256), .int .u8 (x / 1099511627776 % 256), .int .u8 (x / 4294967296 % 256), .int .u8 (x / 16777216 % 256), .int .u8 (x / 65536 % 256), .int .u8 (x / 256 % 256), .int .u8 (x % 256)] 5) := by
  have hmk := make8
  go_enter Tryz.func287, Tryz.ntmps287
  go_wp2_with (go_at_call 297; refine (size51 _).mono ?_; rintro e w' ⟨rfl, rfl⟩)
  refine wp_loop_rounds 9 ?_
  iterate 9 (rw [rounds_succ]; go_wp2)
  go_ret
  exact ⟨rfl, rfl⟩
theorem lay23 (x : Int) (w : World) (h0 : 0 ≤ x) (h1 : x < 18446744073709551616) :
    Calls Tryz.prog 287 #[.int .u64 x] w fun e w' => ∃ v, e = .returned v ∧ Own w' w.heap.size v 8 (beByte 8 x) ∧ Below w.heap.size w w' := by
  refine (lay23_go x w h0 h1).mono ?_
  rintro e w' ⟨rfl, rfl⟩
  refine ⟨_, rfl, own_lit w _ 8 (beByte 8 x) (beByte_bound 8 x) (by simp [maxLen]) rfl ?_, (Below.refl _ _).alloc (Nat.le_refl _) _⟩
  have e0 : x / 72057594037927936 = x / 72057594037927936 % 256 := by omega
  rw [bl8]
  simp [beByte]
  omega
end Go.Proofs.YtpohogpkfdebdaaGreatDoor.Wd
namespace Go.Proofs.YtpohogpkfdebdaaGreatDoor.Wd
open Go.ChangeShapes Go.WideShapes Go.ChangeAt Go.RowKit
open Go.Proofs.YtpohogpkfdebdaaGreatDoor.By
set_option maxHeartbeats 400000 in
theorem turn64 (x n : Int) (w : World) (hx : 0 ≤ x) (hx2 : x < 18446744073709551616) :
    Calls Tryz.prog 300 #[.int .u64 x, .int .i64 n] w fun e w' => e = .returned (.int .u64 (Rot 64 x n)) ∧ ∃ k, w' = w.drewN k := by
  have hfin := turned64 x n hx hx2
  have hl := and_63 n
  have h0 : 0 ≤ n % 64 := by omega
  have h1 : n % 64 < 64 := by omega
  generalize n % 64 = l at *
  have HF : Hid (bits .or .u64 (x * 2 ^ l.toNat % 18446744073709551616) (x / 2 ^ (64 - l).toNat) = Rot 64 x n) := hfin
  clear hfin
  go_enter Tryz.func300, Tryz.ntmps300
  go_wp2_with (go_at_call 301; refine (width40 _).mono ?_; rintro e w' ⟨rfl, rfl⟩)
  go_quiet ((go_at_call 301; exact Calls.quiet_of_same (width40 _)))
  go_wp2
  go_ret
  exact ⟨congrArg (fun z => Ending.returned (Value.int IntKind.u64 z)) HF.out, _, rfl⟩
set_option maxHeartbeats 400000 in
theorem take64_go (v : Value) (n : Nat) (f : Nat → Int) (at' : Int) (w : World) (hr : RB w v n f) (hn : n ≤ 140737488355328) (a0 : -9223372036854775808 ≤ at') (a1 : at' < 9223372036854775808)
    (P : Nat → Int) (hP0 : P 0 = 0) (hP : ∀ k, k ≤ 8 → 0 ≤ P k ∧ P k < 18446744073709551616) (hst : Hid (∀ k, k < 8 → bits .or .u64 (P k * 256 % 18446744073709551616) (Byt f n (at' + k)) = P (k + 1))) :
    Calls Tryz.prog 302 #[v, .int .i64 at'] w fun e w' => e = .returned (.int .u64 (P 8)) ∧ w' = w := by
  have hB := fun i => Byt_bound f n (at' + i) hr.1
  have HR : Hid (RB w v n f) := hr
  clear hr
  go_enter Tryz.func302, Tryz.ntmps302
  go_wp2_with (go_at_call 297; refine (size51 _).mono ?_; rintro e w' ⟨rfl, rfl⟩)
  go_loop [5, 8] (fun y i => ∃ k : Nat, k ≤ 8 ∧ i = .int .i64 k ∧ y = .int .u64 (P k)) (fun _ i => 8 - (intOf i).toNat)
  case atStart => exact ⟨0, Nat.zero_le _, rfl, by rw [hP0]⟩
  case round =>
    obtain ⟨k, hk, rfl, rfl⟩ := hrel
    have hb := hP k hk
    have hB := hB k
    clear hP hP0
    by_cases hlt : k < 8
    · go_wp2_with (go_at_call 273; refine (byteBehind_any _ _ f _ _ _ HR.out hn (by omega) (by omega) a0 a1).mono ?_; rintro e w' ⟨rfl, rfl⟩)
      exact ⟨⟨k + 1, by omega, by go_num, congrArg (Value.int IntKind.u64) (hst.out k hlt)⟩, by simp [intOf]; omega⟩
    · go_wp2
      go_ret
      exact ⟨by rw [show k = 8 from by omega]; rfl, rfl⟩
theorem take64 (v : Value) (n : Nat) (f : Nat → Int) (at' : Int) (w : World) (hr : RB w v n f) (hn : n ≤ 140737488355328) (a0 : -9223372036854775808 ≤ at') (a1 : at' < 9223372036854775808) :
    Calls Tryz.prog 302 #[v, .int .i64 at'] w fun e w' => e = .returned (.int .u64 (BE (fun i => Byt f n (at' + i)) 8)) ∧ w' = w := by
  have hB := fun i : Nat => Byt_bound f n (at' + i) hr.1
  have hb := fun k => BE_bound (fun i => Byt f n (at' + i)) hB k
  refine take64_go v n f at' w hr hn a0 a1 (BE (fun i => Byt f n (at' + i))) rfl (fun k hk => ⟨(hb k).1, ?_⟩) ?_
  · have h1 := hb k
    have h2 := pow_le_of k 8 hk
    omega
  · intro k hk
    have h1 := hb k
    have h2 := pow_le_of k 7 (by omega)
    exact or_be64 _ _ h1.1 (by omega) (hB k).1 (hB k).2
end Go.Proofs.YtpohogpkfdebdaaGreatDoor.Wd
namespace Go.Proofs.YtpohogpkfdebdaaGreatDoor.Kc
open Go.ChangeShapes Go.WideShapes Go.ChangeAt Go.RowKit
open Go.Proofs.YtpohogpkfdebdaaGreatDoor.By

theorem own_kept {w w' : World} {base n : Nat} {v : Value} {f : Nat → Int} {S : Nat → Prop} (h : By.Own w base v n f) (hk : Kp S w w') (hne : ∀ g, v.ownBlock = some g → ¬ S g) : By.Own w' base v n f := by
  obtain ⟨hf, hl, h | ⟨g, cap, cur, rfl, hb, hc, h1, h2, h3, h4⟩⟩ := h
  · exact ⟨hf, hl, .inl h⟩
  · refine ⟨hf, hl, .inr ⟨g, cap, cur, rfl, hb, ?_, h1, h2, h3, h4⟩⟩
    rw [hk.block g (Array.getElem?_eq_some_iff.1 hc).1 (hne g rfl)]; exact hc
theorem own_mono {w : World} {B B' n : Nat} {v : Value} {f : Nat → Int} (h : By.Own w B v n f) (hb : B' ≤ B) : By.Own w B' v n f := by
  obtain ⟨hf, hl, h | ⟨g, cap, cur, rfl, h0, r⟩⟩ := h
  · exact ⟨hf, hl, .inl h⟩
  · exact ⟨hf, hl, .inr ⟨g, cap, cur, rfl, by omega, r⟩⟩
theorem own8_type {w : World} {base n : Nat} {v : Value} {f : Nat → Int} (h : By.Own w base v n f) {g : Nat} (hg : v.ownBlock = some g) : ∃ cs, w.heap[g]? = some (.cells cs 5 (0, 0)) := by
  obtain ⟨_, _, h | ⟨g', cap, cur, rfl, _, hc, _⟩⟩ := h
  · obtain ⟨rfl, _⟩ := h; simp [Value.ownBlock] at hg
  · simp [Value.ownBlock] at hg; subst hg; exact ⟨cur, hc⟩
/-- n bytes f, then g. -/
def cat (n : Nat) (f g : Nat → Int) (i : Nat) : Int := if i < n then f i else g (i - n)
theorem cat_bound {n : Nat} {f g : Nat → Int} (hf : ∀ i, 0 ≤ f i ∧ f i < 256) (hg : ∀ i, 0 ≤ g i ∧ g i < 256) (i : Nat) : 0 ≤ cat n f g i ∧ cat n f g i < 256 := by
  unfold cat; split
  · exact hf _
  · exact hg _
theorem wpList_cat {w : World} {ops : Array Oper} {rest : List Oper} {o : Oper} {a : Act} {Q : Exit → Act → World → Prop} (hgd : o.guard = none) (s x : Operand)
    (ho : o.op = .call { callee := .builtin .append, args := #[s, x], argTypes := #[23, 23] })
    (base n m : Nat) (v u : Value) (f g : Nat → Int) (hs : a.eval s = v) (hv : By.Own w base v n f) (hx : a.eval x = u) (hr : By.RB w u m g) (hn : n + m ≤ 140737488355328) (hb : base ≤ w.heap.size)
    (h : ∀ v' w', By.Own w' base v' (n + m) (cat n f g) → w.grownBy w' v.ownBlock → wpList Tryz.prog ops Q rest (a.put o.dst v') w') : wpList Tryz.prog ops Q (o :: rest) a w := by
  obtain ⟨hg, ad, cap, rfl, h1, h2, hc⟩ := hr
  obtain ⟨i0, hi, hz0, hz1, hz2⟩ := info_parts info5
  have hcat : bl n f ++ bl m g = bl (n + m) (cat n f g) := bl_append n m f g
  cases ad with
  | none =>
    have hm0 : m = 0 := by rcases hc with ⟨h, _⟩ | ⟨_, _, h, _⟩; exact h; cases h
    have hc0 : cap = 0 := by rcases hc with ⟨_, h⟩ | ⟨_, _, h, _⟩; exact h rfl; cases h
    subst hm0 hc0
    refine wpList_append_own_none hgd s x 23 ho base 5 i0 1 Tryz.underlying23 hi _ _ _ hs hv.2 hx ?_
    refine h v w ⟨cat_bound hv.1 hg, ?_⟩ (World.grownBy.refl _ _)
    rw [← hcat]; simpa [bl] using hv.2
  | some ad =>
    have HC : ∀ j u, (bl m g)[j]? = some u → w.cell? (ad.add j) = some u := by
      intro j u hj
      obtain ⟨hj1, rfl⟩ := bl_get_inv _ _ _ _ hj
      rcases hc with ⟨h, _⟩ | ⟨b, off, h, hc⟩
      · omega
      · cases h; rw [By.add_plain]; exact hc j hj1
    refine wpList_append_own _ hgd s x 23 ho base 5 i0 (.int .u8 0) 1 1 Tryz.underlying23 hi hz0 hz1 hz2 rfl (by decide) v n (bl n f) hs hv.2 ad m cap (bl m g) hx (by rw [bl_length]; omega) HC (bl_one m g) (by simp [maxLen]; omega) (by omega) hb ?_
    intro v' w' hown hgrow _
    exact h v' w' ⟨cat_bound hv.1 hg, by rw [← hcat]; exact hown⟩ hgrow
theorem below_grow {w w' w1 : World} {B n : Nat} {v : Value} {f : Nat → Int} (hb : Below B w w') (hB : B ≤ w'.heap.size) (ho : By.Own w' B v n f) (hg : w'.grownBy w1 v.ownBlock) : Below B w w1 := hb.grown hg hB (own_row ho)


end Go.Proofs.YtpohogpkfdebdaaGreatDoor.Kc
