/- What the statements' own helpers answer (lists lent, copied, held against each other, written over) and what the exclusive or of two lists answers: contracts over this seat's program, for every list and world. -/
import Derived.Test.YtfieheldneddeaaLay
import Derived.WalkSpells
import Derived.Deep.DeepMust
import Derived.Laws.AppendOwnNone
namespace Go.Proofs.Ytfieheldneddeaa
open Go.ChangeShapes Go.WideShapes Go.ChangeAt Go.RowKit
set_option maxHeartbeats 400000 in
theorem mark42 (k i : Int) (w : World) (h0 : 0 ≤ i) (h1 : i ≤ 140737488355999) (k0 : 0 ≤ k) (k1 : k ≤ 100) :
    Calls Try.prog 42 #[.int .i64 k, .int .i64 i] w fun e w' => e = .returned (.int .u8 ((7 * k + i + 1) % 256)) ∧ w' = w := by
  go_enter Try.func42, Try.ntmps42
  go_wp2
  go_ret
  exact ⟨rfl, rfl⟩
set_option maxHeartbeats 400000 in
theorem same_true (a b : Value) (n : Nat) (f g : Nat → Int) (w : World) (ha : RB w a n f) (hb : RB w b n g) (hn : n ≤ 140737488355999) (he : ∀ i, i < n → f i = g i) :
    Calls Try.prog 29 #[a, b] w fun e w' => e = .returned (.bool true) ∧ ∃ k, w' = w.drewN k := by
  obtain ⟨_, a, cap, rfl, h1, h2, hc⟩ := ha
  obtain ⟨_, b, cap', rfl, h1', h2', hc'⟩ := hb
  have HE : Hid (∀ i, i < n → f i = g i) := he
  clear he
  by_cases hz : n = 0
  · subst hz
    clear hc hc'
    go_enter Try.func29, Try.ntmps29
    go_wp2
    refine wp_loop_rounds 1 ?_
    rw [rounds_succ]
    go_wp2
    go_ret
    exact ⟨rfl, 0, rfl⟩
  · rcases hc with ⟨h, _⟩ | ⟨b1, o1, rfl, hc⟩
    · omega
    rcases hc' with ⟨h, _⟩ | ⟨b2, o2, rfl, hc'⟩
    · omega
    have HC : Hid (∀ i, i < n → w.cell? ⟨b1, o1 + i, none⟩ = some (.int .u8 (f i))) := hc
    have HC' : Hid (∀ i, i < n → w.cell? ⟨b2, o2 + i, none⟩ = some (.int .u8 (g i))) := hc'
    clear hc hc'
    go_enter Try.func29, Try.ntmps29
    go_wp2
    go_loopw [5] (fun i wr => ∃ k : Nat, k ≤ n ∧ i = .int .i64 k ∧ ∃ d, wr = w.drewN d) (fun i _ => n - (intOf i).toNat)
    case atStart => exact ⟨0, Nat.zero_le _, rfl, 0, rfl⟩
    case round =>
      obtain ⟨k, hk, rfl, d, rfl⟩ := hrel
      by_cases hlt : k < n
      · have c1 := HC.out k hlt
        have c2 := HC'.out k hlt
        rw [← HE.out k hlt] at c2
        go_wp2
        go_quiet (fail)
        go_wp2
        go_roundw
        case rel => exact ⟨k + 1, by omega, by go_num, _, rfl⟩
        case measure => simp [intOf]; omega
      · go_wp2
        go_ret
        exact ⟨rfl, d, rfl⟩
theorem add_plain (b off j : Nat) : (⟨b, off, none⟩ : Addr).add j = ⟨b, off + j, none⟩ := by
  unfold Addr.add
  split <;> simp_all
theorem info5 : (Try.prog.info? 5).map (fun i => (i.zero, i.size, i.bytes)) = some (some (.int .u8 0), 1, 1) := by kernel_rfl
theorem own_nil (w : World) (base : Nat) (f : Nat → Int) (hf : ∀ i, 0 ≤ f i ∧ f i < 256) : Own w base (.slice none 0 0) 0 f := ⟨hf, World.ownsRow_nil _ _ _ _⟩
set_option maxHeartbeats 400000 in
theorem copy16 (l : Value) (n : Nat) (f : Nat → Int) (w : World) (hr : RB w l n f) (hn : n ≤ 140737488355328) :
    Calls Try.prog 16 #[l] w fun e w' => ∃ v, e = .returned v ∧ Own w' w.heap.size v n f ∧ Below w.heap.size w w' := by
  obtain ⟨hf, a, cap, rfl, h1, h2, hc⟩ := hr
  obtain ⟨i0, hi, hz0, hz1, hz2⟩ := info_parts info5
  cases a with
  | none =>
    have hn0 : n = 0 := by rcases hc with ⟨h, _⟩ | ⟨_, _, h, _⟩; exact h; cases h
    have hc0 : cap = 0 := by rcases hc with ⟨_, h⟩ | ⟨_, _, h, _⟩; exact h rfl; cases h
    subst hn0 hc0
    have HF : Hid (∀ i, 0 ≤ f i ∧ f i < 256) := hf
    clear hf hc
    go_enter Try.func16, Try.ntmps16
    go_wp2_with (at_builtin; refine wpList_append_own_none rfl _ _ 32 rfl w.heap.size 5 i0 1 Try.underlying32 hi _ _ _ rfl (World.ownsRow_nil _ _ _ _) rfl ?_)
    go_ret
    exact ⟨_, rfl, own_nil _ _ _ HF.out, Below.refl _ _⟩
  | some ad =>
    have HF : Hid (∀ i, 0 ≤ f i ∧ f i < 256) := hf
    have HC : Hid (∀ j u, (bl n f)[j]? = some u → w.cell? (ad.add j) = some u) := by
      intro j u hj
      obtain ⟨hj1, rfl⟩ := bl_get_inv _ _ _ _ hj
      rcases hc with ⟨h, _⟩ | ⟨b, off, h, hc⟩
      · omega
      · cases h; rw [add_plain]; exact hc j hj1
    clear hf hc
    go_enter Try.func16, Try.ntmps16
    go_wp2_with (at_builtin; refine wpList_append_own _ rfl _ _ 32 rfl w.heap.size 5 i0 (.int .u8 0) 1 1 Try.underlying32 hi hz0 hz1 hz2 rfl (by decide) _ _ _ rfl (World.ownsRow_nil _ _ _ _) ad n cap (bl n f) rfl (by rw [bl_length]; omega) HC.out (bl_one n f) (by simp [maxLen]; omega) (by omega) (Nat.le_refl _) ?_)
    intro v' w1 hown hgrow _
    have R : Own w1 w.heap.size v' n f ∧ Below w.heap.size w w1 := by
      exact ⟨⟨HF.out, hown⟩, Below.of_grown hgrow⟩
    have HR : Hid (Own w1 w.heap.size v' n f ∧ Below w.heap.size w w1) := R
    clear R hown hgrow
    go_wp2
    go_ret
    exact ⟨_, rfl, HR.out⟩
/-- What a lent list holds: its bytes, then six marks. -/
def lent (n : Nat) (f : Nat → Int) (i : Nat) : Int := if i < n then f i else (50 + ((i - n : Nat) : Int)) % 256
theorem lent_bound (n : Nat) (f : Nat → Int) (hf : ∀ i, 0 ≤ f i ∧ f i < 256) (i : Nat) : 0 ≤ lent n f i ∧ lent n f i < 256 := by
  unfold lent; split
  · exact hf i
  · omega
theorem lent_snoc (n : Nat) (f : Nat → Int) (k : Nat) (x : Int) (hx : x = (50 + (k : Int)) % 256) : bl (n + k) (lent n f) ++ [.int .u8 x] = bl (n + k + 1) (lent n f) := by
  rw [bl_singleton, bl_append]
  apply bl_congr
  intro i hi
  by_cases h : i < n + k
  · rw [if_pos h]
  · rw [if_neg h, hx]; unfold lent; rw [if_neg (by omega), show i - n = k by omega]
theorem own_row {w : World} {B : Nat} {v : Value} {n : Nat} {f : Nat → Int} (ho : Own w B v n f) (k : Nat) (hk : v.ownBlock = some k) : B ≤ k := by
  rcases ho.shape with ⟨rfl, _⟩ | ⟨g, cap, rfl, hb, _⟩
  · simp [Value.ownBlock] at hk
  · simp [Value.ownBlock] at hk; omega
theorem below_push {w w' w1 : World} {B : Nat} {v : Value} {n : Nat} {f : Nat → Int} {o : Obj} (hb : Below B w w') (hB : B ≤ w'.heap.size) (ho : Own w' B v n f) (hg : (w'.alloc o).grownBy w1 v.ownBlock) : Below B w w1 :=
  (hb.alloc hB o).grown hg (by simp; omega) (own_row ho)
set_option maxHeartbeats 400000 in
theorem lent14 (l : Value) (n : Nat) (f : Nat → Int) (w : World) (hr : RB w l n f) (hn : n ≤ 140737488355000) :
    Calls Try.prog 14 #[l] w fun e w' => ∃ v, e = .returned v ∧ Own w' w.heap.size v (n + 6) (lent n f) ∧ Below w.heap.size w w' := by
  obtain ⟨i0, hi, hz0, hz1, hz2⟩ := info_parts info5
  have HR : Hid (RB w l n f) := hr
  clear hr
  go_enter Try.func14, Try.ntmps14
  go_wp2_with fail
  refine (copy16 l n f w HR.out (by omega)).mono ?_
  rintro e w1 ⟨v0, rfl, hown, hbel⟩
  have S : Own w1 w.heap.size v0 (n + 0) (lent n f) := ⟨lent_bound n f hown.1, by rw [bl_congr (n + 0) (lent n f) f (fun i hi => by unfold lent; rw [if_pos (by omega)])]; exact hown.2⟩
  have HS : Hid (Own w1 w.heap.size v0 (n + 0) (lent n f)) := S
  have HB : Hid (Below w.heap.size w w1) := hbel
  clear hown hbel S
  go_wp2
  go_loopw [3, 4] (fun v i wr => ∃ k : Nat, k ≤ 6 ∧ i = .int .i64 k ∧ Own wr w.heap.size v (n + k) (lent n f) ∧ Below w.heap.size w wr) (fun _ i _ => 6 - (intOf i).toNat)
  case atStart => exact ⟨0, Nat.zero_le _, rfl, HS.out, HB.out⟩
  case round =>
    obtain ⟨k, hk, rfl, hown, hbel⟩ := hrel
    clear HS HB
    have hsz := hbel.size
    have HO : Hid (Own wr w.heap.size u3 (n + k) (lent n f)) := hown
    have HB : Hid (Below w.heap.size w wr) := hbel
    clear hown hbel
    by_cases hlt : k < 6
    · go_wp2_with (first | (go_at_call 42; refine (mark42 _ _ _ (by omega) (by omega) (by omega) (by omega)).mono ?_; rintro e w' ⟨rfl, rfl⟩) | (at_builtin; go_must (refine wpList_append_own _ rfl _ _ 32 rfl w.heap.size 5 i0 (.int .u8 0) 1 1 Try.underlying32 hi hz0 hz1 hz2 rfl (by decide) _ _ _ rfl (HO.out.2.alloc _) ⟨_, 0, none⟩ 1 1 [.int .u8 ((49 + (k : Int) + 1) % 256)] rfl rfl (cell_one_new _ _ _) ?c2 ?c3 ?c4 ?c5 ?_)))
      case c2 => intro u hu; simp at hu; subst hu; rfl
      case c3 => simp [maxLen]; omega
      case c4 => omega
      case c5 => simp; omega
      intro v' w1 hown hgrow _
      have R : Own w1 w.heap.size v' (n + (k + 1)) (lent n f) ∧ Below w.heap.size w w1 := by
        refine ⟨⟨HO.out.1, ?_⟩, below_push HB.out hsz HO.out hgrow⟩
        rw [← Nat.add_assoc, ← lent_snoc n f k _ (show (49 + (k : Int) + 1) % 256 = _ by omega)]
        exact hown
      have HR : Hid (Own w1 w.heap.size v' (n + (k + 1)) (lent n f) ∧ Below w.heap.size w w1) := R
      clear R hown hgrow HO HB
      go_wp2
      go_roundw
      case rel => exact ⟨k + 1, by omega, by go_num, HR.out⟩
      case measure => simp [intOf]; omega
    · go_wp2
      go_ret
      have e : k = 6 := by omega
      subst e
      exact ⟨_, rfl, HO.out, HB.out⟩
set_option maxHeartbeats 400000 in
theorem kept17 (full l : Value) (n : Nat) (f : Nat → Int) (w : World) (hf : RB w full (n + 6) (lent n f)) (hr : RB w l n f) (hn : n ≤ 140737488355000) :
    Calls Try.prog 17 #[full, l] w fun e w' => e = .returned (.bool true) ∧ Below w.heap.size w w' := by
  have HR : Hid (RB w l n f) := hr
  have HF : Hid (RB w full (n + 6) (lent n f)) := hf
  clear hr hf
  go_enter Try.func17, Try.ntmps17
  go_wp2_with fail
  refine (lent14 l n f w HR.out hn).mono ?_
  rintro e w1 ⟨v0, rfl, hown, hbel⟩
  have S1 : Hid (RB w1 full (n + 6) (lent n f)) := HF.out.below hbel
  have S2 : Hid (RB w1 v0 (n + 6) (lent n f)) := hown.reads
  have HB : Hid (Below w.heap.size w w1) := hbel
  clear hown hbel
  go_wp2_with fail
  refine (same_true _ _ (n + 6) _ _ _ S1.out S2.out (by omega) (fun _ _ => rfl)).mono ?_
  rintro e w2 ⟨rfl, d, rfl⟩
  go_wp2
  go_ret
  exact ⟨rfl, Below.drewN' HB.out d⟩
/-- What a list that was written over holds. -/
def over (i : Nat) : Int := (64 + (i : Int)) % 256
theorem over_bound (i : Nat) : 0 ≤ over i ∧ over i < 256 := by unfold over; omega
theorem grown_trans {a b c : World} {r : Option Nat} (h : a.grownBy b r) (k : b.grownBy c r) : a.grownBy c r :=
  ⟨k.os.trans h.os, k.tape.trans h.tape, k.output.trans h.output, Nat.le_trans h.size k.size, fun j hj hr => (k.block j (Nat.lt_of_lt_of_le hj h.size) hr).trans (h.block j hj hr)⟩
theorem own_congr {w : World} {base : Nat} {v : Value} {n : Nat} {f g : Nat → Int} (h : Own w base v n f) (hg : ∀ i, 0 ≤ g i ∧ g i < 256) (e : ∀ i, i < n → f i = g i) : Own w base v n g :=
  ⟨hg, by rw [← bl_congr n f g e]; exact h.2⟩
theorem own_store {w : World} {base g N cap : Nat} {f : Nat → Int} (h : Own w base (.slice (some ⟨g, 0, none⟩) N cap) N f) (k : Nat) (x : Int) (hx : 0 ≤ x ∧ x < 256) :
    Own (w.setCell ⟨g, k, none⟩ (.int .u8 x)) base (.slice (some ⟨g, 0, none⟩) N cap) N (fun i => if i = k then x else f i) ∧ w.grownBy (w.setCell ⟨g, k, none⟩ (.int .u8 x)) (some g) := by
  obtain ⟨h1, h2⟩ := h.2.stored k (.int .u8 x)
  rw [bl_set] at h1
  refine ⟨⟨fun i => ?_, h1⟩, h2⟩
  show 0 ≤ (if i = k then x else f i) ∧ (if i = k then x else f i) < 256
  split
  · exact hx
  · exact h.1 i
set_option maxHeartbeats 400000 in
theorem over18 (g cap N base : Nat) (f : Nat → Int) (w : World) (ho : Own w base (.slice (some ⟨g, 0, none⟩) N cap) N f) (hn : N ≤ 140737488355328) :
    Calls Try.prog 18 #[.slice (some ⟨g, 0, none⟩) N cap] w fun e w' => e = .returned (.tuple #[]) ∧ Own w' base (.slice (some ⟨g, 0, none⟩) N cap) N over ∧ w.grownBy w' (some g) := by
  have HO : Hid (Own w base (.slice (some ⟨g, 0, none⟩) N cap) N f) := ho
  clear ho
  go_enter Try.func18, Try.ntmps18
  go_wp2
  go_loopw [2] (fun i wr => ∃ k : Nat, k ≤ N ∧ i = .int .i64 k ∧ Own wr base (.slice (some ⟨g, 0, none⟩) N cap) N (fun i => if i < k then over i else f i) ∧ w.grownBy wr (some g)) (fun i _ => N - (intOf i).toNat)
  case atStart => exact ⟨0, Nat.zero_le _, rfl, HO.out, World.grownBy.refl _ _⟩
  case round =>
    obtain ⟨k, hk, rfl, hown, hgr⟩ := hrel
    have HW : Hid (Own wr base (.slice (some ⟨g, 0, none⟩) N cap) N (fun i => if i < k then over i else f i)) := hown
    have HG : Hid (w.grownBy wr (some g)) := hgr
    by_cases hlt : k < N
    · have hcell : wr.cell? ⟨g, k, none⟩ = some (.int .u8 (f k)) := by
        rw [hown.2.cellAt k (by omega), bl_get _ _ _ hlt, if_neg (by omega)]
      have hfz := hown.2.frozenAt k
      clear hown hgr
      go_wp2_with (go_at_call 42; refine (mark42 _ _ _ (by omega) (by omega) (by omega) (by omega)).mono ?_; rintro e w' ⟨rfl, rfl⟩)
      have S := own_store HW.out k ((63 + (k : Int) + 1) % 256) (by omega)
      refine ⟨⟨k + 1, by omega, by go_num, own_congr S.1 (fun i => ?_) (fun i hi => ?_), grown_trans HG.out S.2⟩, by simp [intOf]; omega⟩
      · show 0 ≤ (if i < k + 1 then over i else f i) ∧ (if i < k + 1 then over i else f i) < 256
        split
        · exact over_bound i
        · exact HO.out.1 i
      · show (if i = k then (63 + (k : Int) + 1) % 256 else if i < k then over i else f i) = if i < k + 1 then over i else f i
        by_cases h : i = k
        · subst h; rw [if_pos rfl, if_pos (by omega)]; unfold over; omega
        · rw [if_neg h]; by_cases h2 : i < k
          · rw [if_pos h2, if_pos (by omega)]
          · rw [if_neg h2, if_neg (by omega)]
    · clear hown hgr
      go_wp2
      go_end0
      exact ⟨rfl, own_congr HW.out over_bound (fun i hi => by rw [if_pos (by omega)]), HG.out⟩
/-- The exclusive or of two bytes. -/
def xb (a b : Int) : Int := bits .xor .u8 a b
theorem xb_nat (a b : Nat) (ha : a < 256) (hb : b < 256) : xb (a : Int) (b : Int) = ((a ^^^ b : Nat) : Int) := u8_xor_nat a b ha hb
theorem xb_bound (a b : Int) (ha : 0 ≤ a ∧ a < 256) (hb : 0 ≤ b ∧ b < 256) : 0 ≤ xb a b ∧ xb a b < 256 := by
  obtain ⟨A, rfl⟩ := Int.eq_ofNat_of_zero_le ha.1
  obtain ⟨B, rfl⟩ := Int.eq_ofNat_of_zero_le hb.1
  rw [xb_nat A B (by omega) (by omega)]
  have : A ^^^ B < 2 ^ 8 := Nat.xor_lt_two_pow (by omega) (by omega)
  omega
theorem bl_zero (n : Nat) : (madeCells #[Value.int .u8 0] n).toList = bl n (fun _ => 0) := by
  rw [toList_madeCells_one]
  apply List.ext_getElem?
  intro i
  by_cases h : i < n
  · rw [bl_get _ _ _ h]; simp [h]
  · rw [List.getElem?_eq_none (l := bl n _) (by rw [bl_length]; omega)]; simp; omega
/-- Behind k bytes: the exclusive or so far, then noughts. -/
def xorTo (f g : Nat → Int) (k i : Nat) : Int := if i < k then xb (f i) (g i) else 0
theorem xorTo_bound (f g : Nat → Int) (hf : ∀ i, 0 ≤ f i ∧ f i < 256) (hg : ∀ i, 0 ≤ g i ∧ g i < 256) (k i : Nat) : 0 ≤ xorTo f g k i ∧ xorTo f g k i < 256 := by
  unfold xorTo; split
  · exact xb_bound _ _ (hf i) (hg i)
  · omega
theorem xorTo_step {k : Nat} {w : World} {B G N cap : Nat} {f g : Nat → Int} (h : Own w B (.slice (some ⟨G, 0, none⟩) N cap) N (xorTo f g k)) (hf : ∀ i, 0 ≤ f i ∧ f i < 256) (hg : ∀ i, 0 ≤ g i ∧ g i < 256) :
    Own (w.setCell ⟨G, k, none⟩ (.int .u8 (bits .xor .u8 (f k) (g k)))) B (.slice (some ⟨G, 0, none⟩) N cap) N (xorTo f g (k + 1)) ∧ w.grownBy (w.setCell ⟨G, k, none⟩ (.int .u8 (bits .xor .u8 (f k) (g k)))) (some G) := by
  have S := own_store h k (xb (f k) (g k)) (xb_bound _ _ (hf k) (hg k))
  refine ⟨own_congr S.1 (xorTo_bound f g hf hg (k + 1)) (fun i hi => ?_), S.2⟩
  show (if i = k then xb (f k) (g k) else xorTo f g k i) = xorTo f g (k + 1) i
  unfold xorTo
  by_cases h1 : i = k
  · subst h1; rw [if_pos rfl, if_pos (by omega)]
  · rw [if_neg h1]; by_cases h2 : i < k
    · rw [if_pos h2, if_pos (by omega)]
    · rw [if_neg h2, if_neg (by omega)]
set_option maxHeartbeats 1000000 in
theorem xor32_lt (b1 o1 c1 b2 o2 c2 n m : Nat) (f g : Nat → Int) (w : World) (hnm : m < n) (h0 : 0 < n) (h0' : 0 < m) (hf : ∀ i, 0 ≤ f i ∧ f i < 256) (hg : ∀ i, 0 ≤ g i ∧ g i < 256)
    (hn : n ≤ 140737488355999) (hm : m ≤ 140737488355999)
    (hc : Hid (∀ i, i < n → w.cell? ⟨b1, o1 + i, none⟩ = some (.int .u8 (f i)))) (hc' : Hid (∀ i, i < m → w.cell? ⟨b2, o2 + i, none⟩ = some (.int .u8 (g i)))) :
    Calls Try.prog 32 #[.slice (some ⟨b1, o1, none⟩) n c1, .slice (some ⟨b2, o2, none⟩) m c2] w fun e w' => ∃ v, e = .returned v ∧ Own w' w.heap.size v m (xorTo f g m) ∧ Below w.heap.size w w' := by
  obtain ⟨i0, hi, hz0, hz1, hz2⟩ := info_parts info5
  have HF : Hid (∀ i, 0 ≤ f i ∧ f i < 256) := hf
  have HG : Hid (∀ i, 0 ≤ g i ∧ g i < 256) := hg
  clear hf hg
  have hb1 : b1 < w.heap.size := block_lt_of_cell (hc.out 0 h0)
  have hb2 : b2 < w.heap.size := block_lt_of_cell (hc'.out 0 h0')
  go_enter Try.func32, Try.ntmps32
  go_wp2_with (at_make; go_must (refine wpList_make_full _ rfl _ _ 32 rfl w.heap.size 5 i0 (.int .u8 0) 1 Try.underlying32 hi hz0 hz1 .i64 .i64 _ _ m rfl rfl rfl rfl (by rw [hz2]; omega) (by simp [maxLen]; omega) (Nat.le_refl _) ?_))
  intro w1 hown hgrow
  have HO : Hid (Own w1 w.heap.size (.slice (some ⟨w.heap.size, 0, none⟩) m m) m (xorTo f g 0) ∧ Below w.heap.size w w1) := by
    refine ⟨⟨xorTo_bound f g HF.out HG.out 0, ?_⟩, Below.of_grown hgrow⟩
    rw [bl_zero] at hown
    exact hown
  clear hown hgrow
  go_wp2
  go_loopw [15] (fun i wr => ∃ k : Nat, k ≤ m ∧ i = .int .i64 k ∧ Own wr w.heap.size (.slice (some ⟨w.heap.size, 0, none⟩) m m) m (xorTo f g k) ∧ Below w.heap.size w wr) (fun i _ => m - (intOf i).toNat)
  case atStart => exact ⟨0, Nat.zero_le _, rfl, HO.out⟩
  case round =>
    obtain ⟨k, hk, rfl, hown, hbel⟩ := hrel
    clear HO
    have HO : Hid (Own wr w.heap.size (.slice (some ⟨w.heap.size, 0, none⟩) m m) m (xorTo f g k)) := hown
    have HB : Hid (Below w.heap.size w wr) := hbel
    by_cases hlt : k < m
    · have e1 : wr.cell? ⟨b1, o1 + k, none⟩ = some (.int .u8 (f k)) := (hbel.cell (p := ⟨b1, o1 + k, none⟩) hb1).trans (hc.out k (by omega))
      have e2 : wr.cell? ⟨b2, o2 + k, none⟩ = some (.int .u8 (g k)) := (hbel.cell (p := ⟨b2, o2 + k, none⟩) hb2).trans (hc'.out k (by omega))
      have e3 : wr.cell? ⟨w.heap.size, k, none⟩ = some (.int .u8 (xorTo f g k k)) := by rw [hown.2.cellAt k (by omega), bl_get _ _ _ hlt]
      have e4 := hown.2.frozenAt k
      have l1 : (k : Int) < n := by omega
      have l2 : (k : Int) < m := by omega
      have l3 : (k : Int) < m := by omega
      have l0 : (0 : Int) ≤ k := by omega
      clear hown hbel
      go_wp2
      go_region
      go_wp2
      have S := xorTo_step HO.out HF.out HG.out
      go_roundw
      case rel => exact ⟨k + 1, by omega, by go_num, ⟨S.1.1, S.1.2⟩, (HB.out.grown S.2 HB.out.size (fun j hj => by cases hj; exact Nat.le_refl _)).drew⟩
      case measure => simp [intOf]; omega
    · clear hown hbel
      go_wp2
      go_ret
      have e : k = m := by omega
      subst e
      exact ⟨_, rfl, HO.out, HB.out⟩
set_option maxHeartbeats 1000000 in
theorem xor32_ge (b1 o1 c1 b2 o2 c2 n m : Nat) (f g : Nat → Int) (w : World) (hnm : ¬ m < n) (h0 : 0 < n) (h0' : 0 < m) (hf : ∀ i, 0 ≤ f i ∧ f i < 256) (hg : ∀ i, 0 ≤ g i ∧ g i < 256)
    (hn : n ≤ 140737488355999) (hm : m ≤ 140737488355999)
    (hc : Hid (∀ i, i < n → w.cell? ⟨b1, o1 + i, none⟩ = some (.int .u8 (f i)))) (hc' : Hid (∀ i, i < m → w.cell? ⟨b2, o2 + i, none⟩ = some (.int .u8 (g i)))) :
    Calls Try.prog 32 #[.slice (some ⟨b1, o1, none⟩) n c1, .slice (some ⟨b2, o2, none⟩) m c2] w fun e w' => ∃ v, e = .returned v ∧ Own w' w.heap.size v n (xorTo f g n) ∧ Below w.heap.size w w' := by
  obtain ⟨i0, hi, hz0, hz1, hz2⟩ := info_parts info5
  have HF : Hid (∀ i, 0 ≤ f i ∧ f i < 256) := hf
  have HG : Hid (∀ i, 0 ≤ g i ∧ g i < 256) := hg
  clear hf hg
  have hb1 : b1 < w.heap.size := block_lt_of_cell (hc.out 0 h0)
  have hb2 : b2 < w.heap.size := block_lt_of_cell (hc'.out 0 h0')
  go_enter Try.func32, Try.ntmps32
  go_wp2_with (at_make; go_must (refine wpList_make_full _ rfl _ _ 32 rfl w.heap.size 5 i0 (.int .u8 0) 1 Try.underlying32 hi hz0 hz1 .i64 .i64 _ _ n rfl rfl rfl rfl (by rw [hz2]; omega) (by simp [maxLen]; omega) (Nat.le_refl _) ?_))
  intro w1 hown hgrow
  have HO : Hid (Own w1 w.heap.size (.slice (some ⟨w.heap.size, 0, none⟩) n n) n (xorTo f g 0) ∧ Below w.heap.size w w1) := by
    refine ⟨⟨xorTo_bound f g HF.out HG.out 0, ?_⟩, Below.of_grown hgrow⟩
    rw [bl_zero] at hown
    exact hown
  clear hown hgrow
  go_wp2
  go_loopw [15] (fun i wr => ∃ k : Nat, k ≤ n ∧ i = .int .i64 k ∧ Own wr w.heap.size (.slice (some ⟨w.heap.size, 0, none⟩) n n) n (xorTo f g k) ∧ Below w.heap.size w wr) (fun i _ => n - (intOf i).toNat)
  case atStart => exact ⟨0, Nat.zero_le _, rfl, HO.out⟩
  case round =>
    obtain ⟨k, hk, rfl, hown, hbel⟩ := hrel
    clear HO
    have HO : Hid (Own wr w.heap.size (.slice (some ⟨w.heap.size, 0, none⟩) n n) n (xorTo f g k)) := hown
    have HB : Hid (Below w.heap.size w wr) := hbel
    by_cases hlt : k < n
    · have e1 : wr.cell? ⟨b1, o1 + k, none⟩ = some (.int .u8 (f k)) := (hbel.cell (p := ⟨b1, o1 + k, none⟩) hb1).trans (hc.out k (by omega))
      have e2 : wr.cell? ⟨b2, o2 + k, none⟩ = some (.int .u8 (g k)) := (hbel.cell (p := ⟨b2, o2 + k, none⟩) hb2).trans (hc'.out k (by omega))
      have e3 : wr.cell? ⟨w.heap.size, k, none⟩ = some (.int .u8 (xorTo f g k k)) := by rw [hown.2.cellAt k (by omega), bl_get _ _ _ hlt]
      have e4 := hown.2.frozenAt k
      have l1 : (k : Int) < n := by omega
      have l2 : (k : Int) < m := by omega
      have l3 : (k : Int) < n := by omega
      have l0 : (0 : Int) ≤ k := by omega
      clear hown hbel
      go_wp2
      go_region
      go_wp2
      have S := xorTo_step HO.out HF.out HG.out
      go_roundw
      case rel => exact ⟨k + 1, by omega, by go_num, ⟨S.1.1, S.1.2⟩, (HB.out.grown S.2 HB.out.size (fun j hj => by cases hj; exact Nat.le_refl _)).drew⟩
      case measure => simp [intOf]; omega
    · clear hown hbel
      go_wp2
      go_ret
      have e : k = n := by omega
      subst e
      exact ⟨_, rfl, HO.out, HB.out⟩
set_option maxHeartbeats 1000000 in
theorem xor32_zlt (a1 a2 : Option Addr) (c1 c2 n m : Nat) (w : World) (hnm : m < n) (f : Nat → Int) (hf : ∀ i, 0 ≤ f i ∧ f i < 256) (h0 : m = 0) :
    Calls Try.prog 32 #[.slice a1 n c1, .slice a2 m c2] w fun e w' => ∃ v, e = .returned v ∧ Own w' w.heap.size v 0 f ∧ Below w.heap.size w w' := by
  obtain ⟨i0, hi, hz0, hz1, hz2⟩ := info_parts info5
  have HF : Hid (∀ i, 0 ≤ f i ∧ f i < 256) := hf
  clear hf
  subst h0
  go_enter Try.func32, Try.ntmps32
  go_wp2_with (at_make; go_must (refine wpList_make_full _ rfl _ _ 32 rfl w.heap.size 5 i0 (.int .u8 0) 1 Try.underlying32 hi hz0 hz1 .i64 .i64 _ _ 0 rfl rfl rfl rfl (by rw [hz2]; omega) (by simp [maxLen]) (Nat.le_refl _) ?_))
  intro w1 hown hgrow
  have HO : Hid (Own w1 w.heap.size (.slice (some ⟨w.heap.size, 0, none⟩) 0 0) 0 f ∧ Below w.heap.size w w1) := by
    refine ⟨⟨HF.out, ?_⟩, Below.of_grown hgrow⟩
    rw [bl_zero] at hown
    exact hown
  clear hown hgrow
  go_wp2
  refine wp_loop_rounds 1 ?_
  rw [rounds_succ]
  go_wp2
  go_ret
  exact ⟨_, rfl, HO.out⟩
set_option maxHeartbeats 1000000 in
theorem xor32_zge (a1 a2 : Option Addr) (c1 c2 n m : Nat) (w : World) (hnm : ¬ m < n) (f : Nat → Int) (hf : ∀ i, 0 ≤ f i ∧ f i < 256) (h0 : n = 0) :
    Calls Try.prog 32 #[.slice a1 n c1, .slice a2 m c2] w fun e w' => ∃ v, e = .returned v ∧ Own w' w.heap.size v 0 f ∧ Below w.heap.size w w' := by
  obtain ⟨i0, hi, hz0, hz1, hz2⟩ := info_parts info5
  have HF : Hid (∀ i, 0 ≤ f i ∧ f i < 256) := hf
  clear hf
  subst h0
  go_enter Try.func32, Try.ntmps32
  go_wp2_with (at_make; go_must (refine wpList_make_full _ rfl _ _ 32 rfl w.heap.size 5 i0 (.int .u8 0) 1 Try.underlying32 hi hz0 hz1 .i64 .i64 _ _ 0 rfl rfl rfl rfl (by rw [hz2]; omega) (by simp [maxLen]) (Nat.le_refl _) ?_))
  intro w1 hown hgrow
  have HO : Hid (Own w1 w.heap.size (.slice (some ⟨w.heap.size, 0, none⟩) 0 0) 0 f ∧ Below w.heap.size w w1) := by
    refine ⟨⟨HF.out, ?_⟩, Below.of_grown hgrow⟩
    rw [bl_zero] at hown
    exact hown
  clear hown hgrow
  go_wp2
  refine wp_loop_rounds 1 ?_
  rw [rounds_succ]
  go_wp2
  go_ret
  exact ⟨_, rfl, HO.out⟩

theorem xor32 (a b : Value) (n m : Nat) (f g : Nat → Int) (w : World) (ha : RB w a n f) (hb : RB w b m g) (hn : n ≤ 140737488355999) (hm : m ≤ 140737488355999) :
    Calls Try.prog 32 #[a, b] w fun e w' => ∃ v, e = .returned v ∧ Own w' w.heap.size v (min n m) (fun i => xb (f i) (g i)) ∧ Below w.heap.size w w' := by
  obtain ⟨hf, a, cap, rfl, h1, h2, hc⟩ := ha
  obtain ⟨hg, b, cap', rfl, h1', h2', hc'⟩ := hb
  have hx : ∀ i, 0 ≤ xb (f i) (g i) ∧ xb (f i) (g i) < 256 := fun i => xb_bound _ _ (hf i) (hg i)
  by_cases hz : n = 0 ∨ m = 0
  · have e : min n m = 0 := by omega
    rw [e]
    by_cases hl : m < n
    · exact xor32_zlt a b cap cap' n m w hl _ hx (by omega)
    · exact xor32_zge a b cap cap' n m w hl _ hx (by omega)
  · rcases hc with ⟨h, _⟩ | ⟨b1, o1, rfl, hc⟩
    · omega
    rcases hc' with ⟨h, _⟩ | ⟨b2, o2, rfl, hc'⟩
    · omega
    by_cases hl : m < n
    · refine (xor32_lt b1 o1 cap b2 o2 cap' n m f g w hl (by omega) (by omega) hf hg hn hm hc hc').mono ?_
      rintro e w' ⟨v, rfl, ho, hb⟩
      rw [show min n m = m by omega]
      exact ⟨v, rfl, own_congr ho hx (fun i hi => by unfold xorTo; rw [if_pos hi]), hb⟩
    · refine (xor32_ge b1 o1 cap b2 o2 cap' n m f g w hl (by omega) (by omega) hf hg hn hm hc hc').mono ?_
      rintro e w' ⟨v, rfl, ho, hb⟩
      rw [show min n m = n by omega]
      exact ⟨v, rfl, own_congr ho hx (fun i hi => by unfold xorTo; rw [if_pos hi]), hb⟩
end Go.Proofs.Ytfieheldneddeaa
