/- Lists of bytes in memory: what a slice reads as (length and bytes), what the call itself owns, and how both stand behind further calls; no function of the program in it. What the statements' helpers on lists of bytes answer (lists lent, copied, held against each other, written over), for every list and world; and small facts on lists that were just built. Which blocks a step may have turned; no function of the program in it. A list of bytes of the call's own gone on with: another list behind it, noughts behind it. Numbers and lists written as SHAKE wants them, as functions; no function of the program in it. The bytes of a number: what digits (the program) and number (the document) answer. -/
import Derived.WalkKit
import Derived.ProofKit
import Derived.Below
import Derived.BigQuiet
import Derived.Deep.QuietTactic
import Derived.Test.YtnhhkoekghjogaaGreatDoorRows
import Derived.ArgAppend
import Derived.WalkSpells
import Derived.Deep.RegionHeld3
import Derived.Deep.DeepMust
import Derived.Laws.AppendOwnNone
import Derived.Lib.AppendZeros
import Derived.Deep.DeepCutAuto
namespace Go.Proofs.YtnhhkoekghjogaaGreatDoor.By
open Go.ChangeShapes Go.WideShapes Go.ChangeAt Go.RowKit
theorem hid {p : Prop} (h : p) : Hid p := h
/-- The slice v reads as n bytes, byte i being f i. -/
def RB (w : World) (v : Value) (n : Nat) (f : Nat → Int) : Prop :=
  (∀ i, 0 ≤ f i ∧ f i < 256) ∧ ∃ a cap, v = .slice a n cap ∧ n ≤ cap ∧ cap ≤ maxLen ∧
    ((n = 0 ∧ (a = none → cap = 0)) ∨ ∃ b off, a = some ⟨b, off, none⟩ ∧ ∀ i, i < n → w.cell? ⟨b, off + i, none⟩ = some (.int .u8 (f i)))

/-- n bytes as cells. -/
def bl (n : Nat) (f : Nat → Int) : List Value := (List.range n).map fun i => Value.int .u8 (f i)
theorem bl_length (n : Nat) (f : Nat → Int) : (bl n f).length = n := by simp [bl]
theorem bl_get (n : Nat) (f : Nat → Int) (i : Nat) (h : i < n) : (bl n f)[i]? = some (.int .u8 (f i)) := by
  simp [bl, h]
theorem bl_get_inv (n : Nat) (f : Nat → Int) (i : Nat) (u : Value) (h : (bl n f)[i]? = some u) : i < n ∧ u = .int .u8 (f i) := by
  have hi : i < n := by
    have := List.getElem?_eq_some_iff.1 h
    obtain ⟨h1, _⟩ := this
    simpa [bl_length] using h1
  rw [bl_get n f i hi] at h
  exact ⟨hi, (Option.some.inj h).symm⟩
theorem bl_one (n : Nat) (f : Nat → Int) : ∀ u ∈ bl n f, u.oneCell' = true := by
  intro u hu
  simp [bl] at hu
  obtain ⟨i, _, rfl⟩ := hu
  rfl
theorem bl_congr (n : Nat) (f g : Nat → Int) (h : ∀ i, i < n → f i = g i) : bl n f = bl n g := by
  apply List.map_congr_left
  intro i hi
  rw [h i (List.mem_range.1 hi)]
theorem bl_append (n m : Nat) (f g : Nat → Int) : bl n f ++ bl m g = bl (n + m) (fun i => if i < n then f i else g (i - n)) := by
  apply List.ext_getElem?
  intro i
  by_cases h : i < n
  · rw [List.getElem?_append_left (by rw [bl_length]; exact h), bl_get _ _ _ h, bl_get _ _ _ (by omega), if_pos h]
  · rw [List.getElem?_append_right (by rw [bl_length]; omega), bl_length]
    by_cases h2 : i < n + m
    · rw [bl_get _ _ _ (by omega), bl_get _ _ _ h2, if_neg h]
    · rw [List.getElem?_eq_none (by rw [bl_length]; omega), List.getElem?_eq_none (by rw [bl_length]; omega)]
theorem bl_set (n : Nat) (f : Nat → Int) (k : Nat) (x : Int) : (bl n f).set k (.int .u8 x) = bl n (fun i => if i = k then x else f i) := by
  apply List.ext_getElem?
  intro i
  rw [List.getElem?_set]
  by_cases h : i < n
  · by_cases e : k = i
    · subst e; rw [bl_get _ _ _ h]; simp [bl_length, h]; simp [bl]
    · have e' : ¬ i = k := fun h => e h.symm
      rw [bl_get _ _ _ h, bl_get _ _ _ h]; simp [e, e']
  · rw [List.getElem?_eq_none (by rw [bl_length]; omega), List.getElem?_eq_none (by rw [bl_length]; omega)]
    simp only [bl_length]; split
    · rw [if_neg (by omega)]
    · rfl
theorem bl_singleton (x : Int) : [Value.int .u8 x] = bl 1 (fun _ => x) := by simp [bl, List.range_succ]

/-- The call owns the slice v: n bytes f, from block 'base' on. -/
def Own (w : World) (base : Nat) (v : Value) (n : Nat) (f : Nat → Int) : Prop :=
  (∀ i, 0 ≤ f i ∧ f i < 256) ∧ w.ownsRow base 5 1 v n (bl n f)

theorem Own.shape {w : World} {base : Nat} {v : Value} {n : Nat} {f : Nat → Int} (h : Own w base v n f) :
    (v = .slice none 0 0 ∧ n = 0) ∨ ∃ g cap, v = .slice (some ⟨g, 0, none⟩) n cap ∧ base ≤ g ∧ g < w.heap.size ∧ n ≤ cap ∧ cap ≤ maxLen ∧
      (∀ i, i < n → w.cell? ⟨g, i, none⟩ = some (.int .u8 (f i))) ∧ ∀ i, w.frozen? ⟨g, i, none⟩ = false := by
  have h2 := h.2
  rcases h.2.2 with hn | ⟨g, cap, cur, rfl, hb, hg, hnc, hcm, hcs, ht⟩
  · exact .inl hn
  · refine .inr ⟨g, cap, rfl, hb, ?_, hnc, hcm, fun i hi => ?_, fun i => h2.frozenAt i⟩
    · exact (Array.getElem?_eq_some_iff.1 hg).1
    · rw [h2.cellAt i (by omega), bl_get _ _ _ hi]

theorem Own.reads {w : World} {base : Nat} {v : Value} {n : Nat} {f : Nat → Int} (h : Own w base v n f) : RB w v n f := by
  rcases h.shape with ⟨rfl, rfl⟩ | ⟨g, cap, rfl, _, _, hnc, hcm, hc, _⟩
  · exact ⟨h.1, none, 0, rfl, Nat.le_refl _, by simp [maxLen], .inl ⟨rfl, fun _ => rfl⟩⟩
  · exact ⟨h.1, _, _, rfl, hnc, hcm, .inr ⟨g, 0, rfl, fun i hi => by rw [Nat.zero_add]; exact hc i hi⟩⟩

theorem RB.lt {w : World} {v : Value} {n : Nat} {f : Nat → Int} {b off cap : Nat} (h : RB w v n f) (hv : v = .slice (some ⟨b, off, none⟩) n cap) (hn : 0 < n) : b < w.heap.size := by
  obtain ⟨_, a, cap', rfl, _, _, h0 | ⟨b', off', rfl, hc⟩⟩ := h
  · omega
  · simp at hv
    obtain ⟨⟨rfl, rfl⟩, rfl⟩ := hv
    have := hc 0 hn
    exact block_lt_of_cell this

theorem RB.congr {w : World} {v : Value} {n : Nat} {f g : Nat → Int} (h : RB w v n f) (hg : ∀ i, 0 ≤ g i ∧ g i < 256) (e : ∀ i, i < n → f i = g i) : RB w v n g := by
  obtain ⟨_, a, cap, rfl, h1, h2, h0 | ⟨b, off, rfl, hc⟩⟩ := h
  · exact ⟨hg, a, cap, rfl, h1, h2, .inl h0⟩
  · exact ⟨hg, _, cap, rfl, h1, h2, .inr ⟨b, off, rfl, fun i hi => by rw [← e i hi]; exact hc i hi⟩⟩

/-- Behind a call that only makes memory a slice reads as before. -/
theorem RB.below {w w' : World} {v : Value} {n : Nat} {f : Nat → Int} (h : RB w v n f) (hb : Below w.heap.size w w') : RB w' v n f := by
  have h' := h
  obtain ⟨hf, a, cap, rfl, h1, h2, h0 | ⟨b, off, rfl, hc⟩⟩ := h
  · exact ⟨hf, a, cap, rfl, h1, h2, .inl h0⟩
  · refine ⟨hf, _, cap, rfl, h1, h2, .inr ⟨b, off, rfl, fun i hi => ?_⟩⟩
    rw [hb.cell (p := ⟨b, off + i, none⟩) (h'.lt rfl (by omega))]
    exact hc i hi
theorem RB.drewN {w : World} {v : Value} {n : Nat} {f : Nat → Int} (h : RB w v n f) (k : Nat) : RB (w.drewN k) v n f := h
theorem Below.drewN' {B : Nat} {a w : World} (h : Below B a w) (k : Nat) : Below B a (w.drewN k) := ⟨h.os, h.tape, h.output, h.size, h.block⟩
theorem Below.of_grown {w w' : World} (h : w.grownBy w' none) : Below w.heap.size w w' := ⟨h.os, h.tape, h.output, h.size, fun k hk => h.block k hk (by simp)⟩

/-- The first k bytes of a list. -/
theorem RB.first {w : World} {a : Option Addr} {cap n : Nat} {f : Nat → Int} (h : RB w (.slice a n cap) n f) (k : Nat) (hk : k ≤ n) : RB w (.slice a k cap) k f := by
  obtain ⟨hf, a', cap', hv, h1, h2, h0⟩ := h
  simp at hv
  obtain ⟨rfl, rfl⟩ := hv
  refine ⟨hf, _, _, rfl, by omega, h2, ?_⟩
  rcases h0 with h0 | ⟨b, off, rfl, hc⟩
  · exact .inl ⟨by omega, h0.2⟩
  · exact .inr ⟨b, off, rfl, fun i hi => hc i (by omega)⟩

/-- The byte at a place; 0, where there is none. -/
def Byt (f : Nat → Int) (n : Nat) (p : Int) : Int := if 0 ≤ p ∧ p < n then f p.toNat else 0
theorem Byt_bound (f : Nat → Int) (n : Nat) (p : Int) (h : ∀ i, 0 ≤ f i ∧ f i < 256) : 0 ≤ Byt f n p ∧ Byt f n p < 256 := by
  unfold Byt; split
  · exact h _
  · omega
theorem Byt_out (f : Nat → Int) (n : Nat) (p : Int) (h : p < 0 ∨ (n : Int) ≤ p) : Byt f n p = 0 := by
  unfold Byt; rw [if_neg]; omega
theorem Byt_in (f : Nat → Int) (n : Nat) (p : Int) (h : 0 ≤ p) (h2 : p < n) : Byt f n p = f p.toNat := by
  unfold Byt; rw [if_pos ⟨h, h2⟩]

/-- k bytes as a number, the highest first. -/
def BE (g : Nat → Int) : Nat → Int
  | 0 => 0
  | k + 1 => BE g k * 256 + g k
/-- k bytes as a number, the lowest first. -/
def LE (g : Nat → Int) : Nat → Int
  | 0 => 0
  | k + 1 => LE g k + g k * 256 ^ k
theorem BE_bound (g : Nat → Int) (h : ∀ i, 0 ≤ g i ∧ g i < 256) (k : Nat) : 0 ≤ BE g k ∧ BE g k < 256 ^ k := by
  induction k with
  | zero => simp [BE]
  | succ k ih => have := h k; simp only [BE, Int.pow_succ]; omega
theorem LE_bound (g : Nat → Int) (h : ∀ i, 0 ≤ g i ∧ g i < 256) (k : Nat) : 0 ≤ LE g k ∧ LE g k < 256 ^ k := by
  induction k with
  | zero => simp [LE]
  | succ k ih =>
    have h1 := h k
    have hp : (0 : Int) < 256 ^ k := Int.pow_pos (by omega)
    have a1 : 0 ≤ g k * 256 ^ k := Int.mul_nonneg h1.1 (by omega)
    have a2 : g k * 256 ^ k ≤ 255 * 256 ^ k := Int.mul_le_mul_of_nonneg_right (by omega) (by omega)
    simp only [LE, Int.pow_succ]; omega
end Go.Proofs.YtnhhkoekghjogaaGreatDoor.By
namespace Go.Proofs.YtnhhkoekghjogaaGreatDoor.By
open Go.ChangeShapes Go.WideShapes Go.ChangeAt Go.RowKit
set_option maxHeartbeats 400000 in
theorem mark42 (k i : Int) (w : World) (h0 : 0 ≤ i) (h1 : i ≤ 140737488355999) (k0 : 0 ≤ k) (k1 : k ≤ 100) :
    Calls Tryz.prog 41 #[.int .i64 k, .int .i64 i] w fun e w' => e = .returned (.int .u8 ((7 * k + i + 1) % 256)) ∧ w' = w := by
  go_enter Tryz.func41, Tryz.ntmps41
  go_wp2
  go_ret
  exact ⟨rfl, rfl⟩
set_option maxHeartbeats 400000 in
theorem same_true (a b : Value) (n : Nat) (f g : Nat → Int) (w : World) (ha : RB w a n f) (hb : RB w b n g) (hn : n ≤ 140737488355999) (he : ∀ i, i < n → f i = g i) :
    Calls Tryz.prog 12 #[a, b] w fun e w' => e = .returned (.bool true) ∧ ∃ k, w' = w.drewN k := by
  obtain ⟨_, a, cap, rfl, h1, h2, hc⟩ := ha
  obtain ⟨_, b, cap', rfl, h1', h2', hc'⟩ := hb
  have HE : Hid (∀ i, i < n → f i = g i) := he
  clear he
  by_cases hz : n = 0
  · subst hz
    clear hc hc'
    go_enter Tryz.func12, Tryz.ntmps12
    go_wp2
    refine wp_loop_rounds 1 ?_
    rw [rounds_succ]
    go_wp2
    go_ret
    exact ⟨rfl, 0, rfl⟩
  · rcases hc with ⟨h, _⟩ | ⟨b1, o1, rfl, hc⟩
    · omega
    rcases hc' with ⟨h, _⟩ | ⟨b2, o2, rfl, hc'⟩
    · omega
    have HC : Hid (∀ i, i < n → w.cell? ⟨b1, o1 + i, none⟩ = some (.int .u8 (f i))) := hc
    have HC' : Hid (∀ i, i < n → w.cell? ⟨b2, o2 + i, none⟩ = some (.int .u8 (g i))) := hc'
    clear hc hc'
    go_enter Tryz.func12, Tryz.ntmps12
    go_wp2
    go_loopw [5] (fun i wr => ∃ k : Nat, k ≤ n ∧ i = .int .i64 k ∧ ∃ d, wr = w.drewN d) (fun i _ => n - (intOf i).toNat)
    case atStart => exact ⟨0, Nat.zero_le _, rfl, 0, rfl⟩
    case round =>
      obtain ⟨k, hk, rfl, d, rfl⟩ := hrel
      by_cases hlt : k < n
      · have c1 := HC.out k hlt
        have c2 := HC'.out k hlt
        rw [← HE.out k hlt] at c2
        go_wp2
        go_quiet (fail)
        go_wp2
        go_roundw
        case rel => exact ⟨k + 1, by omega, by go_num, _, rfl⟩
        case measure => simp [intOf]; omega
      · go_wp2
        go_ret
        exact ⟨rfl, d, rfl⟩
theorem add_plain (b off j : Nat) : (⟨b, off, none⟩ : Addr).add j = ⟨b, off + j, none⟩ := by
  unfold Addr.add
  split <;> simp_all
theorem info5 : (Tryz.prog.info? 5).map (fun i => (i.zero, i.size, i.bytes)) = some (some (.int .u8 0), 1, 1) := by kernel_rfl
theorem own_nil (w : World) (base : Nat) (f : Nat → Int) (hf : ∀ i, 0 ≤ f i ∧ f i < 256) : Own w base (.slice none 0 0) 0 f := ⟨hf, World.ownsRow_nil _ _ _ _⟩
set_option maxHeartbeats 400000 in
theorem copy16 (l : Value) (n : Nat) (f : Nat → Int) (w : World) (hr : RB w l n f) (hn : n ≤ 140737488355328) :
    Calls Tryz.prog 43 #[l] w fun e w' => ∃ v, e = .returned v ∧ Own w' w.heap.size v n f ∧ Below w.heap.size w w' := by
  obtain ⟨hf, a, cap, rfl, h1, h2, hc⟩ := hr
  obtain ⟨i0, hi, hz0, hz1, hz2⟩ := info_parts info5
  cases a with
  | none =>
    have hn0 : n = 0 := by rcases hc with ⟨h, _⟩ | ⟨_, _, h, _⟩; exact h; cases h
    have hc0 : cap = 0 := by rcases hc with ⟨_, h⟩ | ⟨_, _, h, _⟩; exact h rfl; cases h
    subst hn0 hc0
    have HF : Hid (∀ i, 0 ≤ f i ∧ f i < 256) := hf
    clear hf hc
    go_enter Tryz.func43, Tryz.ntmps43
    go_wp2_with (at_builtin; refine wpList_append_own_none rfl _ _ 22 rfl w.heap.size 5 i0 1 Tryz.underlying22 hi _ _ _ rfl (World.ownsRow_nil _ _ _ _) rfl ?_)
    go_ret
    exact ⟨_, rfl, own_nil _ _ _ HF.out, Below.refl _ _⟩
  | some ad =>
    have HF : Hid (∀ i, 0 ≤ f i ∧ f i < 256) := hf
    have HC : Hid (∀ j u, (bl n f)[j]? = some u → w.cell? (ad.add j) = some u) := by
      intro j u hj
      obtain ⟨hj1, rfl⟩ := bl_get_inv _ _ _ _ hj
      rcases hc with ⟨h, _⟩ | ⟨b, off, h, hc⟩
      · omega
      · cases h; rw [add_plain]; exact hc j hj1
    clear hf hc
    go_enter Tryz.func43, Tryz.ntmps43
    go_wp2_with (at_builtin; refine wpList_append_own _ rfl _ _ 22 rfl w.heap.size 5 i0 (.int .u8 0) 1 1 Tryz.underlying22 hi hz0 hz1 hz2 rfl (by decide) _ _ _ rfl (World.ownsRow_nil _ _ _ _) ad n cap (bl n f) rfl (by rw [bl_length]; omega) HC.out (bl_one n f) (by simp [maxLen]; omega) (by omega) (Nat.le_refl _) ?_)
    intro v' w1 hown hgrow _
    have R : Own w1 w.heap.size v' n f ∧ Below w.heap.size w w1 := by
      exact ⟨⟨HF.out, hown⟩, Below.of_grown hgrow⟩
    have HR : Hid (Own w1 w.heap.size v' n f ∧ Below w.heap.size w w1) := R
    clear R hown hgrow
    go_wp2
    go_ret
    exact ⟨_, rfl, HR.out⟩
/-- What a lent list holds: its bytes, then six marks. -/
def lent (n : Nat) (f : Nat → Int) (i : Nat) : Int := if i < n then f i else (50 + ((i - n : Nat) : Int)) % 256
theorem lent_bound (n : Nat) (f : Nat → Int) (hf : ∀ i, 0 ≤ f i ∧ f i < 256) (i : Nat) : 0 ≤ lent n f i ∧ lent n f i < 256 := by
  unfold lent; split
  · exact hf i
  · omega
theorem lent_snoc (n : Nat) (f : Nat → Int) (k : Nat) (x : Int) (hx : x = (50 + (k : Int)) % 256) : bl (n + k) (lent n f) ++ [.int .u8 x] = bl (n + k + 1) (lent n f) := by
  rw [bl_singleton, bl_append]
  apply bl_congr
  intro i hi
  by_cases h : i < n + k
  · rw [if_pos h]
  · rw [if_neg h, hx]; unfold lent; rw [if_neg (by omega), show i - n = k by omega]
theorem own_row {w : World} {B : Nat} {v : Value} {n : Nat} {f : Nat → Int} (ho : Own w B v n f) (k : Nat) (hk : v.ownBlock = some k) : B ≤ k := by
  rcases ho.shape with ⟨rfl, _⟩ | ⟨g, cap, rfl, hb, _⟩
  · simp [Value.ownBlock] at hk
  · simp [Value.ownBlock] at hk; omega
theorem below_push {w w' w1 : World} {B : Nat} {v : Value} {n : Nat} {f : Nat → Int} {o : Obj} (hb : Below B w w') (hB : B ≤ w'.heap.size) (ho : Own w' B v n f) (hg : (w'.alloc o).grownBy w1 v.ownBlock) : Below B w w1 :=
  (hb.alloc hB o).grown hg (by simp; omega) (own_row ho)
set_option maxRecDepth 4000 in
set_option maxHeartbeats 400000 in
theorem lent14 (l : Value) (n : Nat) (f : Nat → Int) (w : World) (hr : RB w l n f) (hn : n ≤ 140737488355000) :
    Calls Tryz.prog 21 #[l] w fun e w' => ∃ v, e = .returned v ∧ Own w' w.heap.size v (n + 6) (lent n f) ∧ Below w.heap.size w w' := by
  obtain ⟨i0, hi, hz0, hz1, hz2⟩ := info_parts info5
  have HR : Hid (RB w l n f) := hr
  clear hr
  go_enter Tryz.func21, Tryz.ntmps21
  go_wp2_with fail
  refine (copy16 l n f w HR.out (by omega)).mono ?_
  rintro e w1 ⟨v0, rfl, hown, hbel⟩
  have S : Own w1 w.heap.size v0 (n + 0) (lent n f) := ⟨lent_bound n f hown.1, by rw [bl_congr (n + 0) (lent n f) f (fun i hi => by unfold lent; rw [if_pos (by omega)])]; exact hown.2⟩
  have HS : Hid (Own w1 w.heap.size v0 (n + 0) (lent n f)) := S
  have HB : Hid (Below w.heap.size w w1) := hbel
  clear hown hbel S
  go_wp2
  go_loopw [3, 4] (fun v i wr => ∃ k : Nat, k ≤ 6 ∧ i = .int .i64 k ∧ Own wr w.heap.size v (n + k) (lent n f) ∧ Below w.heap.size w wr) (fun _ i _ => 6 - (intOf i).toNat)
  case atStart => exact ⟨0, Nat.zero_le _, rfl, HS.out, HB.out⟩
  case round =>
    obtain ⟨k, hk, rfl, hown, hbel⟩ := hrel
    clear HS HB
    have hsz : Hid (w.heap.size ≤ wr.heap.size) := hbel.size
    have HO : Hid (Own wr w.heap.size u3 (n + k) (lent n f)) := hown
    have HB : Hid (Below w.heap.size w wr) := hbel
    clear hown hbel
    by_cases hlt : k < 6
    · go_wp2_with (first | (go_at_call 41; refine (mark42 _ _ _ (by omega) (by omega) (by omega) (by omega)).mono ?_; rintro e w' ⟨rfl, rfl⟩) | (at_builtin; go_must (refine wpList_append_own _ rfl _ _ 22 rfl w.heap.size 5 i0 (.int .u8 0) 1 1 Tryz.underlying22 hi hz0 hz1 hz2 rfl (by decide) _ _ _ rfl (HO.out.2.alloc _) ⟨_, 0, none⟩ 1 1 [.int .u8 ((49 + (k : Int) + 1) % 256)] rfl rfl (cell_one_new _ _ _) ?c2 ?c3 ?c4 ?c5 ?_)))
      case c2 => intro u hu; simp at hu; subst hu; rfl
      case c3 => simp [maxLen]; omega
      case c4 => have h9 := hsz.out; omega
      case c5 => have h9 := hsz.out; simp; omega
      intro v' w1 hown hgrow _
      have R : Own w1 w.heap.size v' (n + (k + 1)) (lent n f) ∧ Below w.heap.size w w1 := by
        refine ⟨⟨HO.out.1, ?_⟩, below_push HB.out hsz.out HO.out hgrow⟩
        rw [← Nat.add_assoc, ← lent_snoc n f k _ (show (49 + (k : Int) + 1) % 256 = _ by omega)]
        exact hown
      have HR : Hid (Own w1 w.heap.size v' (n + (k + 1)) (lent n f) ∧ Below w.heap.size w w1) := R
      clear R hown hgrow HO HB
      go_wp2
      go_roundw
      case rel => exact ⟨k + 1, by omega, by go_num, HR.out⟩
      case measure => simp [intOf]; omega
    · go_wp2
      go_ret
      have e : k = 6 := by omega
      subst e
      exact ⟨_, rfl, HO.out, HB.out⟩
set_option maxHeartbeats 400000 in
theorem kept17 (full l : Value) (n : Nat) (f : Nat → Int) (w : World) (hf : RB w full (n + 6) (lent n f)) (hr : RB w l n f) (hn : n ≤ 140737488355000) :
    Calls Tryz.prog 24 #[full, l] w fun e w' => e = .returned (.bool true) ∧ Below w.heap.size w w' := by
  have HR : Hid (RB w l n f) := hr
  have HF : Hid (RB w full (n + 6) (lent n f)) := hf
  clear hr hf
  go_enter Tryz.func24, Tryz.ntmps24
  go_wp2_with fail
  refine (lent14 l n f w HR.out hn).mono ?_
  rintro e w1 ⟨v0, rfl, hown, hbel⟩
  have S1 : Hid (RB w1 full (n + 6) (lent n f)) := HF.out.below hbel
  have S2 : Hid (RB w1 v0 (n + 6) (lent n f)) := hown.reads
  have HB : Hid (Below w.heap.size w w1) := hbel
  clear hown hbel
  go_wp2_with fail
  refine (same_true _ _ (n + 6) _ _ _ S1.out S2.out (by omega) (fun _ _ => rfl)).mono ?_
  rintro e w2 ⟨rfl, d, rfl⟩
  go_wp2
  go_ret
  exact ⟨rfl, Below.drewN' HB.out d⟩
/-- What a list that was written over holds. -/
def over (i : Nat) : Int := (64 + (i : Int)) % 256
theorem over_bound (i : Nat) : 0 ≤ over i ∧ over i < 256 := by unfold over; omega
theorem grown_trans {a b c : World} {r : Option Nat} (h : a.grownBy b r) (k : b.grownBy c r) : a.grownBy c r :=
  ⟨k.os.trans h.os, k.tape.trans h.tape, k.output.trans h.output, Nat.le_trans h.size k.size, fun j hj hr => (k.block j (Nat.lt_of_lt_of_le hj h.size) hr).trans (h.block j hj hr)⟩
theorem own_congr {w : World} {base : Nat} {v : Value} {n : Nat} {f g : Nat → Int} (h : Own w base v n f) (hg : ∀ i, 0 ≤ g i ∧ g i < 256) (e : ∀ i, i < n → f i = g i) : Own w base v n g :=
  ⟨hg, by rw [← bl_congr n f g e]; exact h.2⟩
theorem own_store {w : World} {base g N cap : Nat} {f : Nat → Int} (h : Own w base (.slice (some ⟨g, 0, none⟩) N cap) N f) (k : Nat) (x : Int) (hx : 0 ≤ x ∧ x < 256) :
    Own (w.setCell ⟨g, k, none⟩ (.int .u8 x)) base (.slice (some ⟨g, 0, none⟩) N cap) N (fun i => if i = k then x else f i) ∧ w.grownBy (w.setCell ⟨g, k, none⟩ (.int .u8 x)) (some g) := by
  obtain ⟨h1, h2⟩ := h.2.stored k (.int .u8 x)
  rw [bl_set] at h1
  refine ⟨⟨fun i => ?_, h1⟩, h2⟩
  show 0 ≤ (if i = k then x else f i) ∧ (if i = k then x else f i) < 256
  split
  · exact hx
  · exact h.1 i
set_option maxHeartbeats 400000 in
theorem over18 (g cap N base : Nat) (f : Nat → Int) (w : World) (ho : Own w base (.slice (some ⟨g, 0, none⟩) N cap) N f) (hn : N ≤ 140737488355328) :
    Calls Tryz.prog 25 #[.slice (some ⟨g, 0, none⟩) N cap] w fun e w' => e = .returned (.tuple #[]) ∧ Own w' base (.slice (some ⟨g, 0, none⟩) N cap) N over ∧ w.grownBy w' (some g) := by
  have HO : Hid (Own w base (.slice (some ⟨g, 0, none⟩) N cap) N f) := ho
  clear ho
  go_enter Tryz.func25, Tryz.ntmps25
  go_wp2
  go_loopw [2] (fun i wr => ∃ k : Nat, k ≤ N ∧ i = .int .i64 k ∧ Own wr base (.slice (some ⟨g, 0, none⟩) N cap) N (fun i => if i < k then over i else f i) ∧ w.grownBy wr (some g)) (fun i _ => N - (intOf i).toNat)
  case atStart => exact ⟨0, Nat.zero_le _, rfl, HO.out, World.grownBy.refl _ _⟩
  case round =>
    obtain ⟨k, hk, rfl, hown, hgr⟩ := hrel
    have HW : Hid (Own wr base (.slice (some ⟨g, 0, none⟩) N cap) N (fun i => if i < k then over i else f i)) := hown
    have HG : Hid (w.grownBy wr (some g)) := hgr
    by_cases hlt : k < N
    · have hcell : wr.cell? ⟨g, k, none⟩ = some (.int .u8 (f k)) := by
        rw [hown.2.cellAt k (by omega), bl_get _ _ _ hlt, if_neg (by omega)]
      have hfz := hown.2.frozenAt k
      clear hown hgr
      go_wp2_with (go_at_call 41; refine (mark42 _ _ _ (by omega) (by omega) (by omega) (by omega)).mono ?_; rintro e w' ⟨rfl, rfl⟩)
      have S := own_store HW.out k ((63 + (k : Int) + 1) % 256) (by omega)
      refine ⟨⟨k + 1, by omega, by go_num, own_congr S.1 (fun i => ?_) (fun i hi => ?_), grown_trans HG.out S.2⟩, by simp [intOf]; omega⟩
      · show 0 ≤ (if i < k + 1 then over i else f i) ∧ (if i < k + 1 then over i else f i) < 256
        split
        · exact over_bound i
        · exact HO.out.1 i
      · show (if i = k then (63 + (k : Int) + 1) % 256 else if i < k then over i else f i) = if i < k + 1 then over i else f i
        by_cases h : i = k
        · subst h; rw [if_pos rfl, if_pos (by omega)]; unfold over; omega
        · rw [if_neg h]; by_cases h2 : i < k
          · rw [if_pos h2, if_pos (by omega)]
          · rw [if_neg h2, if_neg (by omega)]
    · clear hown hgr
      go_wp2
      go_end0
      exact ⟨rfl, own_congr HW.out over_bound (fun i hi => by rw [if_pos (by omega)]), HG.out⟩
theorem bl_zero (n : Nat) : (madeCells #[Value.int .u8 0] n).toList = bl n (fun _ => 0) := by
  rw [toList_madeCells_one]
  apply List.ext_getElem?
  intro i
  by_cases h : i < n
  · rw [bl_get _ _ _ h]; simp [h]
  · rw [List.getElem?_eq_none (l := bl n _) (by rw [bl_length]; omega)]; simp; omega
theorem own_lit (w : World) (cs : Array Value) (n : Nat) (f : Nat → Int) (hf : ∀ i, 0 ≤ f i ∧ f i < 256) (hn : n ≤ maxLen) (hs : cs.size = n) (hc : cs.toList = bl n f) :
    Own (w.alloc (.cells cs 5)) w.heap.size (.slice (some ⟨w.heap.size, 0, none⟩) n n) n f := by
  refine ⟨hf, ?_⟩
  have h := World.ownsRow_lit (base := w.heap.size) (e := 5) (size := 1) w cs n (Nat.le_refl _) hn (by omega)
  rw [← hc]
  exact h
theorem rb_lit (w : World) (cs : Array Value) (n : Nat) (f : Nat → Int) (hf : ∀ i, 0 ≤ f i ∧ f i < 256) (hn : n ≤ maxLen) (hs : cs.size = n) (hc : cs.toList = bl n f) :
    RB (w.alloc (.cells cs 5)) (.slice (some ⟨w.heap.size, 0, none⟩) n n) n f := (own_lit w cs n f hf hn hs hc).reads
theorem rb_lit' (w : World) (cs : Array Value) (g n : Nat) (f : Nat → Int) (hg : g = w.heap.size) (hf : ∀ i, 0 ≤ f i ∧ f i < 256) (hn : n ≤ maxLen) (hs : cs.size = n) (hc : cs.toList = bl n f) :
    RB (w.alloc (.cells cs 5)) (.slice (some ⟨g, 0, none⟩) n n) n f := by
  subst hg; exact rb_lit w cs n f hf hn hs hc
theorem RB.alloc {w : World} {v : Value} {n : Nat} {f : Nat → Int} (h : RB w v n f) (o : Obj) : RB (w.alloc o) v n f := h.below ((Below.refl _ _).alloc (Nat.le_refl _) o)
theorem below_alloc {B : Nat} {a w : World} (h : Below B a w) (hB : B = a.heap.size) (o : Obj) : Below B a (w.alloc o) := h.alloc (by subst hB; exact h.size) o
/-- A list out of numbers. -/
def lst (l : List Int) (i : Nat) : Int := l.getD i 0
theorem lst_bound (l : List Int) (h : l.all (fun z => decide (0 ≤ z ∧ z < 256)) = true) (i : Nat) : 0 ≤ lst l i ∧ lst l i < 256 := by
  unfold lst
  by_cases hi : i < l.length
  · have := List.all_eq_true.1 h l[i] (List.getElem_mem hi)
    simp [hi] at this ⊢
    omega
  · simp [List.getElem?_eq_none (Nat.le_of_not_lt hi)]
theorem own_below {w w' : World} {base : Nat} {v : Value} {n : Nat} {f : Nat → Int} (h : Own w base v n f) (hb : Below w.heap.size w w') : Own w' base v n f := by
  refine ⟨h.1, ?_⟩
  have hg : w.grownBy w' none := ⟨hb.os, hb.tape, hb.output, hb.size, fun k hk _ => hb.block k hk⟩
  rcases h.shape with ⟨rfl, _⟩ | ⟨g, cap, rfl, _⟩
  · exact h.2.kept hg (.inl rfl)
  · exact h.2.kept hg (.inr (by simp [Value.ownBlock]))
theorem bytes5 : Tryz.prog.bytesOf 5 = 1 := by kernel_rfl
theorem u8_bound {x : Int} (h : (Lit.int .u8 x).wf = true) : 0 ≤ x ∧ x < 256 := by
  simp [Lit.wf, IntKind.min, IntKind.max, IntKind.bits, IntKind.signed] at h; omega
theorem rb_of_row {w : World} {a : Option Addr} {len cap : Nat} {zs : List Int}
    (h : (a = none ∧ len = 0 ∧ cap = 0 ∧ zs = []) ∨
      ∃ x, a = some x ∧ len ≤ cap ∧ cap ≤ maxLen ∧ zs.length = cap ∧ (∀ i, i < zs.length → w.cell? (x.add i) = some (.int .u8 (zs.getD i 0))) ∧ ∀ n ∈ zs, (Lit.int .u8 n).wf = true) :
    RB w (.slice a len cap) len (lst zs) := by
  rcases h with ⟨rfl, rfl, rfl, rfl⟩ | ⟨x, rfl, hl, hm, hz, hcell, hwz⟩
  · exact ⟨lst_bound _ rfl, none, 0, rfl, Nat.le_refl _, by simp [maxLen], .inl ⟨rfl, fun _ => rfl⟩⟩
  · have hb : ∀ i, 0 ≤ lst zs i ∧ lst zs i < 256 := by
      intro i
      unfold lst
      by_cases hi : i < zs.length
      · have := u8_bound (hwz zs[i] (List.getElem_mem hi))
        simp [hi]; omega
      · simp [List.getElem?_eq_none (Nat.le_of_not_lt hi)]
    by_cases h0 : len = 0
    · subst h0
      exact ⟨hb, _, _, rfl, by omega, hm, .inl ⟨rfl, fun h => by cases h⟩⟩
    · obtain ⟨b, off, spot⟩ := x
      have hc := hcell 0 (by omega)
      have hspot : spot = none := by simpa [Addr.add] using World.cell?_spot hc
      subst hspot
      refine ⟨hb, _, _, rfl, hl, hm, .inr ⟨b, off, rfl, fun i hi => ?_⟩⟩
      have := hcell i (by omega)
      rw [add_plain] at this
      exact this
theorem own_cells {w : World} {base : Nat} {v : Value} {n : Nat} {f : Nat → Int} (h : Own w base v n f) (hn : 0 < n) : ∃ g cap, v = .slice (some ⟨g, 0, none⟩) n cap ∧ ∀ i, i < n → w.cell? ⟨g, i, none⟩ = some (.int .u8 (f i)) := by
  rcases h.shape with ⟨_, h0⟩ | ⟨g, cap, rfl, _, _, _, _, hc, _⟩
  · omega
  · exact ⟨g, cap, rfl, hc⟩
theorem rb_cap {w : World} {a : Option Addr} {n cap : Nat} {f : Nat → Int} (h : RB w (.slice a n cap) n f) : n ≤ cap := by
  obtain ⟨_, a', c', hv, h1, _⟩ := h
  simp at hv
  omega
end Go.Proofs.YtnhhkoekghjogaaGreatDoor.By
namespace Go.Proofs.YtnhhkoekghjogaaGreatDoor
open Go.ChangeShapes Go.WideShapes Go.ChangeAt Go.RowKit

theorem hid {p : Prop} (h : p) : Hid p := h
theorem below_drew' {B : Nat} {a w : World} (h : Below B a w) (k : Nat) : Below B a (w.drewN k) := ⟨h.os, h.tape, h.output, h.size, h.block⟩
theorem below_of_grown {w w' : World} (h : w.grownBy w' none) : Below w.heap.size w w' := ⟨h.os, h.tape, h.output, h.size, fun k hk => h.block k hk (by simp)⟩
theorem drewN_two (Z : World) (d x : Nat) : (Z.drewN d).drewN x = Z.drewN (d + x) := by simp
theorem below_drewN (w : World) (k : Nat) : Below w.heap.size w (w.drewN k) := below_drew' (Below.refl _ _) k
theorem below_alloc (w : World) (o : Obj) : Below w.heap.size w (w.alloc o) := (Below.refl _ w).alloc (Nat.le_refl _) o
/-- Two steps that only make memory. -/
theorem below_next {w w1 w2 : World} (h : Below w.heap.size w w1) (k : Below w1.heap.size w1 w2) : Below w.heap.size w w2 := h.trans (k.mono h.size)

/-- Which blocks a step may have turned: those of S. -/
structure Kp (S : Nat → Prop) (w w' : World) : Prop where
  os : w'.os = w.os
  tape : w'.tape = w.tape
  output : w'.output = w.output
  size : w.heap.size ≤ w'.heap.size
  block : ∀ k, k < w.heap.size → ¬ S k → w'.heap[k]? = w.heap[k]?

theorem Kp.refl (S : Nat → Prop) (w : World) : Kp S w w := ⟨rfl, rfl, rfl, Nat.le_refl _, fun _ _ _ => rfl⟩
theorem Kp.of_below {w w' : World} (S : Nat → Prop) (h : Below w.heap.size w w') : Kp S w w' := ⟨h.os, h.tape, h.output, h.size, fun k hk _ => h.block k hk⟩
theorem Kp.of_grown {w w' : World} {row : Option Nat} (h : w.grownBy w' row) : Kp (fun k => row = some k) w w' := ⟨h.os, h.tape, h.output, h.size, fun k hk hn => h.block k hk (fun e => hn e.symm)⟩
theorem Kp.mono {S T : Nat → Prop} {w w' : World} (h : Kp S w w') (hs : ∀ k, k < w.heap.size → S k → T k) : Kp T w w' := ⟨h.os, h.tape, h.output, h.size, fun k hk hn => h.block k hk (fun e => hn (hs k hk e))⟩
theorem Kp.trans {S T : Nat → Prop} {a b c : World} (h : Kp S a b) (k : Kp T b c) (ht : ∀ i, i < a.heap.size → T i → S i) : Kp S a c :=
  ⟨k.os.trans h.os, k.tape.trans h.tape, k.output.trans h.output, Nat.le_trans h.size k.size, fun i hi hn => (k.block i (Nat.lt_of_lt_of_le hi h.size) (fun e => hn (ht i hi e))).trans (h.block i hi hn)⟩
theorem Kp.below {S : Nat → Prop} {B : Nat} {w w' : World} (h : Kp S w w') (hB : B ≤ w.heap.size) (hs : ∀ k, k < B → ¬ S k) : Below B w w' := ⟨h.os, h.tape, h.output, h.size, fun k hk => h.block k (by omega) (hs k hk)⟩
theorem Kp.setCell {w : World} (g i : Nat) (u : Value) : Kp (fun k => k = g) w (w.setCell ⟨g, i, none⟩ u) := ⟨rfl, rfl, rfl, by simp [World.setCell], fun k _ hn => Below.heap_setCell _ _ _ _ hn⟩

end Go.Proofs.YtnhhkoekghjogaaGreatDoor
namespace Go.Proofs.YtnhhkoekghjogaaGreatDoor.Kc
open Go.ChangeShapes Go.WideShapes Go.ChangeAt Go.RowKit
open Go.Proofs.YtnhhkoekghjogaaGreatDoor.By

theorem own_kept {w w' : World} {base n : Nat} {v : Value} {f : Nat → Int} {S : Nat → Prop} (h : By.Own w base v n f) (hk : Kp S w w') (hne : ∀ g, v.ownBlock = some g → ¬ S g) : By.Own w' base v n f := by
  obtain ⟨hf, hl, h | ⟨g, cap, cur, rfl, hb, hc, h1, h2, h3, h4⟩⟩ := h
  · exact ⟨hf, hl, .inl h⟩
  · refine ⟨hf, hl, .inr ⟨g, cap, cur, rfl, hb, ?_, h1, h2, h3, h4⟩⟩
    rw [hk.block g (Array.getElem?_eq_some_iff.1 hc).1 (hne g rfl)]; exact hc
theorem own_mono {w : World} {B B' n : Nat} {v : Value} {f : Nat → Int} (h : By.Own w B v n f) (hb : B' ≤ B) : By.Own w B' v n f := by
  obtain ⟨hf, hl, h | ⟨g, cap, cur, rfl, h0, r⟩⟩ := h
  · exact ⟨hf, hl, .inl h⟩
  · exact ⟨hf, hl, .inr ⟨g, cap, cur, rfl, by omega, r⟩⟩
theorem own8_type {w : World} {base n : Nat} {v : Value} {f : Nat → Int} (h : By.Own w base v n f) {g : Nat} (hg : v.ownBlock = some g) : ∃ cs, w.heap[g]? = some (.cells cs 5 (0, 0)) := by
  obtain ⟨_, _, h | ⟨g', cap, cur, rfl, _, hc, _⟩⟩ := h
  · obtain ⟨rfl, _⟩ := h; simp [Value.ownBlock] at hg
  · simp [Value.ownBlock] at hg; subst hg; exact ⟨cur, hc⟩
/-- n bytes f, then g. -/
def cat (n : Nat) (f g : Nat → Int) (i : Nat) : Int := if i < n then f i else g (i - n)
theorem cat_bound {n : Nat} {f g : Nat → Int} (hf : ∀ i, 0 ≤ f i ∧ f i < 256) (hg : ∀ i, 0 ≤ g i ∧ g i < 256) (i : Nat) : 0 ≤ cat n f g i ∧ cat n f g i < 256 := by
  unfold cat; split
  · exact hf _
  · exact hg _
theorem wpList_cat {w : World} {ops : Array Oper} {rest : List Oper} {o : Oper} {a : Act} {Q : Exit → Act → World → Prop} (hgd : o.guard = none) (s x : Operand)
    (ho : o.op = .call { callee := .builtin .append, args := #[s, x], argTypes := #[22, 22] })
    (base n m : Nat) (v u : Value) (f g : Nat → Int) (hs : a.eval s = v) (hv : By.Own w base v n f) (hx : a.eval x = u) (hr : By.RB w u m g) (hn : n + m ≤ 140737488355328) (hb : base ≤ w.heap.size)
    (h : ∀ v' w', By.Own w' base v' (n + m) (cat n f g) → w.grownBy w' v.ownBlock → wpList Tryz.prog ops Q rest (a.put o.dst v') w') : wpList Tryz.prog ops Q (o :: rest) a w := by
  obtain ⟨hg, ad, cap, rfl, h1, h2, hc⟩ := hr
  obtain ⟨i0, hi, hz0, hz1, hz2⟩ := info_parts info5
  have hcat : bl n f ++ bl m g = bl (n + m) (cat n f g) := bl_append n m f g
  cases ad with
  | none =>
    have hm0 : m = 0 := by rcases hc with ⟨h, _⟩ | ⟨_, _, h, _⟩; exact h; cases h
    have hc0 : cap = 0 := by rcases hc with ⟨_, h⟩ | ⟨_, _, h, _⟩; exact h rfl; cases h
    subst hm0 hc0
    refine wpList_append_own_none hgd s x 22 ho base 5 i0 1 Tryz.underlying22 hi _ _ _ hs hv.2 hx ?_
    refine h v w ⟨cat_bound hv.1 hg, ?_⟩ (World.grownBy.refl _ _)
    rw [← hcat]; simpa [bl] using hv.2
  | some ad =>
    have HC : ∀ j u, (bl m g)[j]? = some u → w.cell? (ad.add j) = some u := by
      intro j u hj
      obtain ⟨hj1, rfl⟩ := bl_get_inv _ _ _ _ hj
      rcases hc with ⟨h, _⟩ | ⟨b, off, h, hc⟩
      · omega
      · cases h; rw [By.add_plain]; exact hc j hj1
    refine wpList_append_own _ hgd s x 22 ho base 5 i0 (.int .u8 0) 1 1 Tryz.underlying22 hi hz0 hz1 hz2 rfl (by decide) v n (bl n f) hs hv.2 ad m cap (bl m g) hx (by rw [bl_length]; omega) HC (bl_one m g) (by simp [maxLen]; omega) (by omega) hb ?_
    intro v' w' hown hgrow _
    exact h v' w' ⟨cat_bound hv.1 hg, by rw [← hcat]; exact hown⟩ hgrow
theorem below_grow {w w' w1 : World} {B n : Nat} {v : Value} {f : Nat → Int} (hb : Below B w w') (hB : B ≤ w'.heap.size) (ho : By.Own w' B v n f) (hg : w'.grownBy w1 v.ownBlock) : Below B w w1 := hb.grown hg hB (own_row ho)


end Go.Proofs.YtnhhkoekghjogaaGreatDoor.Kc
namespace Go.Proofs.YtnhhkoekghjogaaGreatDoor.Kc
open Go.Proofs.YtnhhkoekghjogaaGreatDoor.By
/-- How many bytes a number has, one at least. -/
def nbf : Nat → Nat → Nat
  | 0, _ => 1
  | k + 1, n => if n < 256 then 1 else nbf k (n / 256) + 1
def nb (n : Nat) : Nat := nbf 8 n
theorem nbf_eq (j : Nat) : ∀ (f n : Nat), j ≤ f → (j = 0 ∨ ¬ n / 256 ^ j = 0) → n / 256 ^ (j + 1) = 0 → nbf f n = j + 1 := by
  induction j with
  | zero =>
    intro f n _ _ h
    have hn : n < 256 := by simpa using h
    cases f with
    | zero => rfl
    | succ f => rw [nbf, if_pos hn]
  | succ j ih =>
    intro f n hf h0 h1
    obtain ⟨f, rfl⟩ : ∃ g, f = g + 1 := ⟨f - 1, by omega⟩
    have e : ∀ k, n / 256 / 256 ^ k = n / 256 ^ (k + 1) := fun k => by rw [Nat.div_div_eq_div_mul, Nat.pow_succ, Nat.mul_comm]
    have h2 : ¬ n / 256 ^ (j + 1) = 0 := by rcases h0 with h | h; · omega
                                            · exact h
    have hn : ¬ n < 256 := fun h => h2 (by rw [← e, Nat.div_eq_of_lt h, Nat.zero_div])
    rw [nbf, if_neg hn, ih f (n / 256) (by omega) (by right; rw [e]; exact h2) (by rw [e]; exact h1)]
theorem nb_eq (n j : Nat) (hj : j ≤ 8) (h0 : j = 0 ∨ ¬ n / 256 ^ j = 0) (h1 : n / 256 ^ (j + 1) = 0) : nb n = j + 1 := nbf_eq j 8 n hj h0 h1
theorem nbf_pos (f n : Nat) : 1 ≤ nbf f n ∧ nbf f n ≤ f + 1 := by
  induction f generalizing n with
  | zero => exact ⟨Nat.le_refl _, Nat.le_refl _⟩
  | succ f ih =>
    have := ih (n / 256)
    rw [nbf]; split <;> omega
theorem nb_pos (n : Nat) : 1 ≤ nb n ∧ nb n ≤ 9 := nbf_pos 8 n
/-- Byte i of a number in k bytes, the highest first. -/
def dg (n k i : Nat) : Int := ((n / 256 ^ (k - 1 - i) % 256 : Nat) : Int)
theorem dg_b (n k i : Nat) : 0 ≤ dg n k i ∧ dg n k i < 256 := by
  have := Nat.mod_lt (n / 256 ^ (k - 1 - i)) (show 0 < 256 by decide)
  unfold dg; omega
theorem one_b {x : Int} (h : 0 ≤ x ∧ x < 256) (i : Nat) : 0 ≤ (fun _ : Nat => x) i ∧ (fun _ : Nat => x) i < 256 := h
theorem dg_next (n j : Nat) (x : Int) (hx : x = ((n / 256 ^ j % 256 : Nat) : Int)) : cat 1 (fun _ => x) (dg n j) = dg n (j + 1) := by
  funext i
  unfold cat
  by_cases h : i < 1
  · rw [if_pos h, hx]
    have : i = 0 := by omega
    subst this
    rfl
  · rw [if_neg h]
    unfold dg
    rw [show j - 1 - (i - 1) = j + 1 - 1 - i from by omega]
/-- The bytes of a number. -/
def dnn (n : Nat) : Nat → Int := dg n (nb n)
theorem dnn_b (n i : Nat) : 0 ≤ dnn n i ∧ dnn n i < 256 := dg_b _ _ _
theorem nbi_b (n : Nat) : 0 ≤ ((nb n : Nat) : Int) ∧ ((nb n : Nat) : Int) < 256 := by have := nb_pos n; omega
/-- Left of a number: nb n + 1 bytes. -/
def lf (n : Nat) : Nat → Int := cat 1 (fun _ => ((nb n : Nat) : Int)) (dnn n)
theorem lf_b (n i : Nat) : 0 ≤ lf n i ∧ lf n i < 256 := cat_bound (one_b (nbi_b n)) (dnn_b n) i
/-- Right of a number. -/
def rt (n : Nat) : Nat → Int := cat (nb n) (dnn n) (fun _ => ((nb n : Nat) : Int))
theorem rt_b (n i : Nat) : 0 ≤ rt n i ∧ rt n i < 256 := cat_bound (dnn_b n) (one_b (nbi_b n)) i
/-- String of a list of m bytes f: how many, and they. -/
def sn (m : Nat) : Nat := nb (8 * m) + 1 + m
theorem sn_le' (m : Nat) : sn m ≤ m + 10 := by have := (nb_pos (8 * m)).2; unfold sn; omega
def sg (m : Nat) (f : Nat → Int) : Nat → Int := cat (nb (8 * m) + 1) (lf (8 * m)) f
theorem sg_b {m : Nat} {f : Nat → Int} (hf : ∀ i, 0 ≤ f i ∧ f i < 256) (i : Nat) : 0 ≤ sg m f i ∧ sg m f i < 256 := cat_bound (lf_b _) hf i
/-- Pad of a list of m bytes f: how many bytes stand ahead of the noughts, how many noughts, and all. -/
def pn (m w : Nat) : Nat := nb w + 1 + m
def pz (m w : Nat) : Nat := (w - pn m w % w) % w
def pg (m : Nat) (f : Nat → Int) (w : Nat) : Nat → Int := cat (pn m w) (cat (nb w + 1) (lf w) f) (fun _ => 0)
def pN (m w : Nat) : Nat := pn m w + pz m w
theorem pg_b {m w : Nat} {f : Nat → Int} (hf : ∀ i, 0 ≤ f i ∧ f i < 256) (i : Nat) : 0 ≤ pg m f w i ∧ pg m f w i < 256 := cat_bound (cat_bound (lf_b _) hf) (fun _ => by decide) i
theorem pz_lt (m w : Nat) (hw : 0 < w) : pz m w < w := Nat.mod_lt _ hw
theorem pz_zero (m w : Nat) (h : pn m w % w = 0) : pz m w = 0 := by unfold pz; rw [h]; simp
theorem pz_some (m w : Nat) (hw : 0 < w) (h : ¬ pn m w % w = 0) : pz m w = w - pn m w % w := by
  have := Nat.mod_lt (pn m w) hw
  unfold pz; exact Nat.mod_eq_of_lt (by omega)
theorem pN_mod (m w : Nat) (hw : 0 < w) : pN m w % w = 0 := by
  unfold pN
  by_cases h : pn m w % w = 0
  · rw [pz_zero m w h]; exact h
  · have h2 := Nat.mod_lt (pn m w) hw
    have e := Nat.div_add_mod (pn m w) w
    rw [pz_some m w hw h]
    rw [show pn m w + (w - pn m w % w) = w * (pn m w / w + 1) from by rw [Nat.mul_add, Nat.mul_one]; omega]
    exact Nat.mul_mod_right _ _
end Go.Proofs.YtnhhkoekghjogaaGreatDoor.Kc
namespace Go.Proofs.YtnhhkoekghjogaaGreatDoor.Kc
open Go.ChangeShapes Go.WideShapes Go.ChangeAt Go.RowKit
open Go.Proofs.YtnhhkoekghjogaaGreatDoor.By
theorem own_one (w : World) (x : Int) (hx : 0 ≤ x ∧ x < 256) : By.Own (w.alloc (.cells #[.int .u8 x] 5)) w.heap.size (.slice (some ⟨w.heap.size, 0, none⟩) 1 1) 1 (fun _ => x) :=
  own_lit w _ 1 _ (one_b hx) (by decide) rfl (bl_singleton x)
theorem own_slice {w : World} {base n : Nat} {v : Value} {f : Nat → Int} (h : By.Own w base v n f) : ∃ a c, v = .slice a n c := by
  rcases h.shape with ⟨rfl, rfl⟩ | ⟨g, cap, rfl, _⟩
  · exact ⟨_, _, rfl⟩
  · exact ⟨_, _, rfl⟩
theorem few (n k : Nat) (hn : n < 9223372036854775808) (h : ¬ n / 256 ^ k = 0) : k ≤ 7 := by
  apply Classical.byContradiction
  intro hk
  refine h (Nat.div_eq_of_lt (Nat.lt_of_lt_of_le hn ?_))
  exact Nat.le_trans (by decide : 9223372036854775808 ≤ 256 ^ 8) (Nat.pow_le_pow_right (by decide) (by omega))
set_option maxHeartbeats 1000000 in
theorem digits1 (n : Nat) (w : World) (hn : n < 9223372036854775808) :
    Calls Tryz.prog 85 #[.int .i64 n] w fun e w' => ∃ v, e = .returned v ∧ By.Own w' w.heap.size v (nb n) (dnn n) ∧ Below w.heap.size w w' := by
  have HN := hid hn
  clear hn
  go_enter Tryz.func85, Tryz.ntmps85
  go_wp2
  go_loopw [0, 3] (fun x v wr => ∃ j q : Nat, j ≤ 7 ∧ n / 256 ^ j = q ∧ x = .int .i64 q ∧ (j = 0 ∨ ¬ q = 0) ∧ By.Own wr w.heap.size v j (dg n j) ∧ Below w.heap.size w wr) (fun x _ _ => (intOf x).toNat)
  case atStart => exact ⟨0, n, by omega, by simp, rfl, .inl rfl, own_nil _ _ _ (dg_b n 0), Below.refl _ _⟩
  case round =>
    obtain ⟨j, q, hj, hq, rfl, h0, hown, hbel⟩ := hrel
    have hq2 : q < 9223372036854775808 := by rw [← hq]; exact Nat.lt_of_le_of_lt (Nat.div_le_self _ _) HN.out
    have HQ := hid hq
    have HO := hid hown
    have HB := hid hbel
    have H0 := hid h0
    clear hq hown hbel h0
    have HX : Hid (0 ≤ (q : Int) % 256 ∧ (q : Int) % 256 < 256) := by show 0 ≤ (q : Int) % 256 ∧ (q : Int) % 256 < 256; omega
    have OV := hid (own_below HO.out (below_alloc wr (.cells #[.int .u8 ((q : Int) % 256)] 5)))
    go_wp2_with (at_builtin; go_must (refine wpList_cat rfl _ _ rfl wr.heap.size 1 j _ _ (fun _ => (q : Int) % 256) (dg n j) rfl (own_one wr _ HX.out) rfl OV.out.reads (by omega) (by simp) ?_))
    intro v' w1 hown hgrow
    have HS : Hid (w.heap.size ≤ wr.heap.size) := HB.out.size
    have R1 : Hid (By.Own w1 w.heap.size v' (j + 1) (dg n (j + 1))) := by
      have h1 := own_mono hown HS.out
      rw [dg_next n j _ (by rw [HQ.out]; omega), Nat.add_comm] at h1
      exact h1
    have R2 : Hid (Below w.heap.size w w1) := (HB.out.alloc HS.out _).grown hgrow (by simp; have := HS.out; omega) (by intro k hk; simp [Value.ownBlock] at hk; have := HS.out; omega)
    clear hown hgrow HO HB OV HX HS
    by_cases hz : q / 256 = 0
    · go_wp2
      go_ret
      have e1 : n / 256 ^ (j + 1) = 0 := by rw [Nat.pow_succ, ← Nat.div_div_eq_div_mul, HQ.out]; exact hz
      have e2 : nb n = j + 1 := nb_eq n j (by omega) (by rw [HQ.out]; exact H0.out) e1
      refine ⟨_, rfl, ?_, R2.out⟩
      unfold dnn
      rw [e2]; exact R1.out
    · have e1 : n / 256 ^ (j + 1) = q / 256 := by rw [Nat.pow_succ, ← Nat.div_div_eq_div_mul, HQ.out]
      have e7 : Hid (j + 1 ≤ 7) := few n (j + 1) HN.out (by rw [e1]; exact hz)
      have E1 := hid e1
      clear e1
      go_wp2
      exact ⟨⟨j + 1, q / 256, e7.out, E1.out, rfl, .inr hz, R1.out, R2.out⟩, by simp [intOf]; omega⟩
set_option maxHeartbeats 1000000 in
theorem number1 (n : Nat) (w : World) (hn : n < 9223372036854775808) :
    Calls Tryz.prog 81 #[.int .i64 n] w fun e w' => ∃ v, e = .returned v ∧ By.Own w' w.heap.size v (nb n) (dnn n) ∧ Below w.heap.size w w' := by
  have HN := hid hn
  have HX : Hid (0 ≤ (n : Int) % 256 ∧ (n : Int) % 256 < 256) := by show 0 ≤ (n : Int) % 256 ∧ (n : Int) % 256 < 256; omega
  have O1 : Hid (By.Own (w.alloc (.cells #[.int .u8 ((n : Int) % 256)] 5)) w.heap.size (.slice (some ⟨w.heap.size, 0, none⟩) 1 1) 1 (dg n 1)) := by
    have h := own_one w _ HX.out
    exact own_congr h (dg_b n 1) (fun i hi => by
      obtain rfl : i = 0 := by omega
      show (n : Int) % 256 = ((n / 256 ^ 0 % 256 : Nat) : Int)
      rw [Nat.pow_zero, Nat.div_one]; omega)
  have B1 : Hid (Below w.heap.size w (w.alloc (.cells #[.int .u8 ((n : Int) % 256)] 5))) := below_alloc w _
  have t1 : ((n : Int)).tmod 256 = (n : Int) % 256 := Int.tmod_eq_emod_of_nonneg (by omega)
  have t2 : ((n : Int)).tdiv 256 = (n : Int) / 256 := Int.tdiv_eq_ediv_of_nonneg (by omega)
  go_enter Tryz.func81, Tryz.ntmps81
  go_wp2
  go_loopw [0, 3] (fun x v wr => ∃ j q : Nat, j ≤ 7 ∧ n / 256 ^ (j + 1) = q ∧ x = .int .i64 q ∧ (j = 0 ∨ ¬ n / 256 ^ j = 0) ∧ By.Own wr w.heap.size v (j + 1) (dg n (j + 1)) ∧ Below w.heap.size w wr) (fun x _ _ => (intOf x).toNat)
  case atStart => exact ⟨0, n / 256, by omega, by simp, rfl, .inl rfl, O1.out, B1.out⟩
  case round =>
    clear O1 B1 HX t1 t2
    obtain ⟨j, q, hj, hq, rfl, h0, hown, hbel⟩ := hrel
    have hq2 : q < 9223372036854775808 := by rw [← hq]; exact Nat.lt_of_le_of_lt (Nat.div_le_self _ _) HN.out
    have HQ := hid hq
    have HO := hid hown
    have HB := hid hbel
    have H0 := hid h0
    clear hq hown hbel h0
    by_cases hz : q = 0
    · subst hz
      have H1 : Hid (By.Own wr w.heap.size u3 (nb n) (dnn n)) := by
        have e2 : nb n = j + 1 := nb_eq n j (by omega) H0.out HQ.out
        show By.Own wr w.heap.size u3 (nb n) (dnn n)
        unfold dnn
        rw [e2]; exact HO.out
      clear HO
      go_wp2
      go_ret
      exact ⟨_, rfl, H1.out, HB.out⟩
    · have hz2 : (0 : Int) < q := by omega
      have t1 : ((q : Int)).tmod 256 = (q : Int) % 256 := Int.tmod_eq_emod_of_nonneg (by omega)
      have t2 : ((q : Int)).tdiv 256 = (q : Int) / 256 := Int.tdiv_eq_ediv_of_nonneg (by omega)
      have HX : Hid (0 ≤ (q : Int) % 256 ∧ (q : Int) % 256 < 256) := by show 0 ≤ (q : Int) % 256 ∧ (q : Int) % 256 < 256; omega
      have OV := hid (own_below HO.out (below_alloc wr (.cells #[.int .u8 ((q : Int) % 256)] 5)))
      go_wp2_with (at_builtin; go_must (refine wpList_cat rfl _ _ rfl wr.heap.size 1 (j + 1) _ _ (fun _ => (q : Int) % 256) (dg n (j + 1)) rfl (own_one wr _ HX.out) rfl OV.out.reads (by omega) (by simp) ?_))
      intro v' w1 hown hgrow
      have HS : Hid (w.heap.size ≤ wr.heap.size) := HB.out.size
      have R1 : Hid (By.Own w1 w.heap.size v' (j + 1 + 1) (dg n (j + 1 + 1))) := by
        have h1 := own_mono hown HS.out
        rw [dg_next n (j + 1) _ (by rw [HQ.out]; omega), Nat.add_comm] at h1
        exact h1
      have R2 : Hid (Below w.heap.size w w1) := (HB.out.alloc HS.out _).grown hgrow (by simp; have := HS.out; omega) (by intro k hk; simp [Value.ownBlock] at hk; have := HS.out; omega)
      clear hown hgrow HO HB OV HX HS
      have E1 : Hid (n / 256 ^ (j + 1 + 1) = q / 256) := by show n / 256 ^ (j + 1 + 1) = q / 256; rw [Nat.pow_succ 256 (j + 1), ← Nat.div_div_eq_div_mul, HQ.out]
      have e7 : Hid (j + 1 ≤ 7) := few n (j + 1) HN.out (by rw [HQ.out]; exact hz)
      go_wp2
      exact ⟨⟨j + 1, q / 256, e7.out, E1.out, rfl, .inr (by rw [HQ.out]; exact hz), R1.out, R2.out⟩, by simp [intOf]; omega⟩
end Go.Proofs.YtnhhkoekghjogaaGreatDoor.Kc
