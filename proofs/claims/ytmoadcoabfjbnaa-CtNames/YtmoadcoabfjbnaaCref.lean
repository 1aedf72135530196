/- What the document's own functions on lists of bytes answer (Equal, Less, IsZero, Choose, Mask, Wiped), for every list, whatever the document's ledger does; and the program's Wipe. -/
import Derived.Test.YtmoadcoabfjbnaaCwalk
import Derived.Laws.BytesArg
import Derived.Lib.SliceRun
namespace Go.Proofs.Ytmoadcoabfjbnaa.By
open Go.ChangeShapes Go.WideShapes Go.ChangeAt Go.RowKit

/-- What the document's ledger does when an event is recorded, as far as the caller knows. -/
def RNotes (w : World) (lp : Value) (k s : Int) (R : World → Prop) : Prop :=
  Calls Try.prog 42 #[lp, .agg #[.int .u8 k, .int .i64 s]] w fun e w' => e = .returned (.tuple #[]) ∧ R w'

theorem drewN_three (Z : World) (d x y : Nat) : ((Z.drewN d).drewN x).drewN y = Z.drewN (d + x + y) := by simp
set_option maxHeartbeats 1200000 in
theorem compare40 (lp : Value) (s : Int) (w : World) (R : World → Prop) (hN : RNotes w lp 6 s R) :
    Calls Try.prog 40 #[lp, .int .i64 s] w fun e w' => e = .returned (.tuple #[]) ∧ R w' := by
  have HN := hid hN
  clear hN
  go_enter Try.func40, Try.ntmps40
  go_wp2_with fail
  refine HN.out.mono ?_
  rintro e w1 ⟨rfl, hR⟩
  have HR := hid hR
  clear hR HN
  go_wp2
  go_end0
  exact ⟨rfl, HR.out⟩

/-- n bytes as a string. -/
def str (n : Nat) (f : Nat → Int) : ByteArray := strOfNums ((List.range n).map f)
theorem rb_string {w : World} {v : Value} {n : Nat} {f : Nat → Int} (h : RB w v n f) : (convert 22 9 v).run Try.prog w = .ok (.string (str n f)) w := by
  obtain ⟨_, a, cap, rfl, h1, h2, hc⟩ := h
  have hs := Try.underlying22
  have he := Try.underlying5
  have hd := Try.underlying9
  rcases hc with ⟨h0, _⟩ | ⟨b, off, rfl, hc⟩
  · subst h0
    cases a with
    | none => rw [run_convert_bytes_nil w _ _ hs he _ _ _ hd]; rfl
    | some a =>
      rw [run_convert_bytes_string w _ _ _ _ 0 cap hs he hd, run_bytesToString w a 0 cap [] (by
        have := run_loadCells_list (P := Try.prog) w a [] (fun j v hj => by simp at hj)
        simpa using this)]
      rfl
  · exact run_convert_bytes_arg w _ _ hs he b off n cap ((List.range n).map f) (by simp) (fun i hi => by rw [hc i hi]; simp [hi]) _ hd
theorem str_eq (n : Nat) (f g : Nat → Int) (hf : ∀ i, 0 ≤ f i ∧ f i < 256) (hg : ∀ i, 0 ≤ g i ∧ g i < 256) : ((str n f).toList == (str n g).toList) = eqB f g n := by
  rw [Bool.eq_iff_iff, beq_iff_eq, eqB_iff]
  have e : ∀ f : Nat → Int, (str n f).toList = (List.range n).map fun i => UInt8.ofNat (f i).toNat := by
    intro f
    rw [ByteArray.toList_eq]
    simp [str, strOfNums]
  rw [e, e]
  constructor
  · intro h i hi
    have h1 := congrArg (fun l => l[i]?) h
    simp [hi] at h1
    have a := hf i
    have b := hg i
    have h2 := congrArg UInt8.toNat h1
    simp at h2
    omega
  · intro h
    apply List.map_congr_left
    intro i hi
    rw [h i (List.mem_range.1 hi)]
set_option maxHeartbeats 1200000 in
theorem refEqual13 (lp va vb : Value) (n : Nat) (f g : Nat → Int) (w : World) (R : World → Prop) (hN : RNotes w lp 6 n R) (sa : ∃ a c, va = .slice a n c) (sb : ∃ a c, vb = .slice a n c)
    (ha : ∀ w', R w' → RB w' va n f) (hb : ∀ w', R w' → RB w' vb n g) :
    Calls Try.prog 13 #[lp, va, vb] w fun e w' => e = .returned (.bool (eqB f g n)) ∧ R w' := by
  obtain ⟨a, c, rfl⟩ := sa
  obtain ⟨b, c', rfl⟩ := sb
  have HN := hid hN
  have HA := hid ha
  have HB := hid hb
  clear hN ha hb
  go_enter Try.func13, Try.ntmps13
  go_wp2_with fail
  refine (compare40 lp n w R HN.out).mono ?_
  rintro e w1 ⟨rfl, hR⟩
  have HR := hid hR
  have s1 := rb_string (HA.out w1 hR)
  have s2 := rb_string (HB.out w1 hR)
  have E := hid (str_eq n f g (HA.out w1 hR).1 (HB.out w1 hR).1)
  obtain ⟨x, hx⟩ : ∃ x, str n f = x := ⟨_, rfl⟩
  obtain ⟨y, hy⟩ : ∃ y, str n g = y := ⟨_, rfl⟩
  rw [hx] at s1 E
  rw [hy] at s2 E
  clear hR HA HB HN hx hy
  go_wp2
  go_ret
  exact ⟨by rw [← E.out]; rfl, HR.out⟩
set_option maxHeartbeats 1200000 in
theorem refEqual13x (lp va vb : Value) (n m : Nat) (w : World) (sa : ∃ a c, va = .slice a n c) (sb : ∃ a c, vb = .slice a m c) (hnm : n ≠ m) :
    Calls Try.prog 13 #[lp, va, vb] w fun e w' => e = .returned (.bool false) ∧ w' = w := by
  obtain ⟨a, c, rfl⟩ := sa
  obtain ⟨b, c', rfl⟩ := sb
  have h : ¬ (n : Int) = m := by omega
  go_enter Try.func13, Try.ntmps13
  go_wp2
  go_ret
  exact ⟨rfl, rfl⟩
set_option maxRecDepth 100000 in
set_option maxHeartbeats 1200000 in
theorem refZero17 (lp va : Value) (n : Nat) (f : Nat → Int) (w : World) (R : World → Prop) (hN : RNotes w lp 6 n R) (sa : ∃ a c, va = .slice a n c)
    (ha : ∀ w', R w' → RB w' va n f) (hn : n ≤ 140737488355999) :
    Calls Try.prog 17 #[lp, va] w fun e w' => e = .returned (.bool (zeroB f n)) ∧ R w' := by
  obtain ⟨a, c, rfl⟩ := sa
  have HN := hid hN
  have HA := hid ha
  clear hN ha
  go_enter Try.func17, Try.ntmps17
  go_wp2_with fail
  refine (compare40 lp n w R HN.out).mono ?_
  rintro e w1 ⟨rfl, hR⟩
  have HR := hid hR
  have RA := hid (HA.out w1 hR)
  clear hR HA HN
  go_wp2
  go_loopw [5] (fun x wr => ∃ k : Nat, k ≤ n ∧ x = .int .i64 k ∧ (∀ i, i < k → f i = 0) ∧ wr = w1) (fun x _ => n - (intOf x).toNat)
  case atStart => exact ⟨0, Nat.zero_le _, rfl, fun i hi => by omega, rfl⟩
  case round =>
    obtain ⟨k, hk, rfl, hz, rfl⟩ := hrel
    have HZ := hid hz
    clear hz
    by_cases hlt : k < n
    · obtain ⟨b1, o1, rfl, c1⟩ := RA.out.cellsAt hlt
      have l1 : (k : Int) < n := by omega
      have l0 : (0 : Int) ≤ k := by omega
      by_cases h0 : f k = 0
      · rw [h0] at c1
        have H0 := hid h0
        clear h0
        go_wp2
        go_roundw
        case rel =>
          refine ⟨k + 1, by omega, by go_num, fun i hi => ?_, by trivial⟩
          by_cases e : i = k
          · subst e; exact H0.out
          · exact HZ.out i (by omega)
        case measure => simp [intOf]; omega
      · have E : Hid (zeroB f n = false) := eqB_false.2 (fun h => h0 (h k hlt))
        go_wp2
        go_ret
        exact ⟨by rw [E.out]; rfl, HR.out⟩
    · have e : k = n := by omega
      subst e
      have E : Hid (zeroB f k = true) := eqB_iff.2 HZ.out
      go_wp2
      go_ret
      exact ⟨by rw [E.out]; rfl, HR.out⟩
set_option maxRecDepth 100000 in
set_option maxHeartbeats 1200000 in
theorem refLess15 (lp va vb : Value) (n : Nat) (f g : Nat → Int) (w : World) (R : World → Prop) (hN : RNotes w lp 6 n R) (sa : ∃ a c, va = .slice a n c) (sb : ∃ a c, vb = .slice a n c)
    (ha : ∀ w', R w' → RB w' va n f) (hb : ∀ w', R w' → RB w' vb n g) (hn : n ≤ 140737488355999) :
    Calls Try.prog 15 #[lp, va, vb] w fun e w' => e = .returned (.tuple #[.bool (less f g n), .int .i64 0]) ∧ ∃ w1 d, R w1 ∧ w' = w1.drewN d := by
  obtain ⟨a, c, rfl⟩ := sa
  obtain ⟨b, c', rfl⟩ := sb
  have HN := hid hN
  have HA := hid ha
  have HB := hid hb
  clear hN ha hb
  go_enter Try.func15, Try.ntmps15
  go_wp2_with fail
  refine (compare40 lp n w R HN.out).mono ?_
  rintro e w1 ⟨rfl, hR⟩
  have HR := hid hR
  have RA := hid (HA.out w1 hR)
  have RBb := hid (HB.out w1 hR)
  clear hR HA HB HN
  go_wp2
  go_loopw [8] (fun x wr => ∃ k : Nat, k ≤ n ∧ x = .int .i64 k ∧ (∀ i, i < k → f i = g i) ∧ ∃ d, wr = w1.drewN d) (fun x _ => n - (intOf x).toNat)
  case atStart => exact ⟨0, Nat.zero_le _, rfl, fun i hi => by omega, 0, rfl⟩
  case round =>
    obtain ⟨k, hk, rfl, hz, d, rfl⟩ := hrel
    have HZ := hid hz
    clear hz
    by_cases hlt : k < n
    · obtain ⟨b1, o1, rfl, c1⟩ := RA.out.cellsAt hlt
      obtain ⟨b2, o2, rfl, c2⟩ := RBb.out.cellsAt hlt
      have l1 : (k : Int) < n := by omega
      have l0 : (0 : Int) ≤ k := by omega
      by_cases h0 : f k = g k
      · rw [← h0] at c2
        have H0 := hid h0
        clear h0
        go_wp2
        go_quiet (fail)
        go_wp2
        go_roundw
        case rel =>
          refine ⟨k + 1, by omega, by go_num, fun i hi => ?_, _, rfl⟩
          by_cases e : i = k
          · subst e; exact H0.out
          · exact HZ.out i (by omega)
        case measure => simp [intOf]; omega
      · have E := hid (less_at HZ.out hlt h0)
        go_wp2
        go_quiet (fail)
        go_wp2
        go_quiet (fail)
        go_wp2
        go_ret2
        exact ⟨by rw [E.out]; rfl, w1, _, HR.out, drewN_three _ _ _ _⟩
    · have e : k = n := by omega
      subst e
      have E := hid (less_same HZ.out)
      go_wp2
      go_ret2
      exact ⟨by rw [E.out]; rfl, w1, d, HR.out, rfl⟩
set_option maxHeartbeats 1200000 in
theorem refLess15x (lp va vb : Value) (n m : Nat) (w : World) (sa : ∃ a c, va = .slice a n c) (sb : ∃ a c, vb = .slice a m c) (hnm : n ≠ m) :
    Calls Try.prog 15 #[lp, va, vb] w fun e w' => e = .returned (.tuple #[.bool false, .int .i64 2]) ∧ w' = w := by
  obtain ⟨a, c, rfl⟩ := sa
  obtain ⟨b, c', rfl⟩ := sb
  have h : ¬ (n : Int) = m := by omega
  go_enter Try.func15, Try.ntmps15
  go_wp2
  go_ret2
  exact ⟨rfl, rfl⟩
set_option maxHeartbeats 1200000 in
theorem refMask25 (y : Bool) (w : World) : Calls Try.prog 25 #[.bool y] w fun e w' => e = .returned (.int .u8 (msk y)) ∧ w' = w := by
  cases y
  · go_enter Try.func25, Try.ntmps25
    go_wp2
    go_ret
    exact ⟨rfl, rfl⟩
  · go_enter Try.func25, Try.ntmps25
    go_wp2
    go_ret
    exact ⟨rfl, rfl⟩
set_option maxHeartbeats 1200000 in
theorem refChoose23x (lp va vb : Value) (y : Bool) (n m : Nat) (w : World) (sa : ∃ a c, va = .slice a n c) (sb : ∃ a c, vb = .slice a m c) (hnm : n ≠ m) :
    Calls Try.prog 23 #[lp, .bool y, va, vb] w fun e w' => e = .returned (.tuple #[.slice none 0 0, .int .i64 2]) ∧ w' = w := by
  obtain ⟨a, c, rfl⟩ := sa
  obtain ⟨b, c', rfl⟩ := sb
  have h : ¬ (n : Int) = m := by omega
  go_enter Try.func23, Try.ntmps23
  go_wp2
  go_ret2
  exact ⟨rfl, rfl⟩
theorem rb_cells {w : World} {ad : Addr} {cap n : Nat} {f : Nat → Int} (h : RB w (.slice (some ad) n cap) n f) : ∀ j u, (bl n f)[j]? = some u → w.cell? (ad.add j) = some u := by
  intro j u hj
  obtain ⟨hj1, rfl⟩ := bl_get_inv _ _ _ _ hj
  obtain ⟨b, off, e, hc⟩ := h.cellsAt hj1
  cases e
  rw [add_plain]
  exact hc
theorem rb_nil {w : World} {cap n : Nat} {f : Nat → Int} (h : RB w (.slice none n cap) n f) : n = 0 ∧ cap = 0 := by
  obtain ⟨_, a', cap', he, _, _, ⟨h0, h1⟩ | ⟨b, off, rfl, _⟩⟩ := h
  · simp only [Value.slice.injEq] at he
    obtain ⟨rfl, _, rfl⟩ := he
    exact ⟨h0, h1 rfl⟩
  · simp at he
set_option maxRecDepth 100000 in
set_option maxHeartbeats 1200000 in
theorem refChoose23 (lp va vb : Value) (y : Bool) (n : Nat) (f g : Nat → Int) (w : World) (R : World → Prop) (hN : RNotes w lp 7 n R) (sa : ∃ a c, va = .slice a n c) (sb : ∃ a c, vb = .slice a n c)
    (ha : ∀ w', R w' → RB w' va n f) (hb : ∀ w', R w' → RB w' vb n g) (hn : n ≤ 140737488355328) :
    Calls Try.prog 23 #[lp, .bool y, va, vb] w fun e w' => ∃ v, e = .returned (.tuple #[v, .int .i64 0]) ∧ ∃ w1, R w1 ∧ Own w' w1.heap.size v n (sel y f g) ∧ Below w1.heap.size w1 w' := by
  obtain ⟨a, c, rfl⟩ := sa
  obtain ⟨b, c', rfl⟩ := sb
  obtain ⟨i0, hi, hz0, hz1, hz2⟩ := info_parts info5
  have HN := hid hN
  have HA := hid ha
  have HB := hid hb
  clear hN ha hb
  cases y
  · go_enter Try.func23, Try.ntmps23
    go_wp2_with fail
    refine HN.out.mono ?_
    rintro e w1 ⟨rfl, hR⟩
    have HR := hid hR
    have RA := hid (HA.out w1 hR)
    have RBb := hid (HB.out w1 hR)
    clear hR HA HB HN
    cases b with
    | none =>
      obtain ⟨rfl, rfl⟩ := rb_nil RBb.out
      go_wp2_with (at_builtin; refine wpList_append_own_none rfl _ _ 22 rfl w1.heap.size 5 i0 1 Try.underlying22 hi _ _ _ rfl (World.ownsRow_nil _ _ _ _) rfl ?_)
      go_ret2
      exact ⟨_, rfl, w1, HR.out, own_nil _ _ _ (sel_bound _ f g RA.out.1 RBb.out.1), Below.refl _ _⟩
    | some ad =>
      have HC := hid (rb_cells RBb.out)
      go_wp2_with (at_builtin; refine wpList_append_own _ rfl _ _ 22 rfl w1.heap.size 5 i0 (.int .u8 0) 1 1 Try.underlying22 hi hz0 hz1 hz2 rfl (by decide) _ _ _ rfl (World.ownsRow_nil _ _ _ _) ad n c' (bl n g) rfl (by rw [bl_length]; omega) HC.out (bl_one n g) (by simp [maxLen]; omega) (by omega) (Nat.le_refl _) ?_)
      intro v' w2 hown hgrow _
      have S : Hid (Own w2 w1.heap.size v' n (sel false f g) ∧ Below w1.heap.size w1 w2) := ⟨⟨sel_bound _ f g RA.out.1 RBb.out.1, hown⟩, Below.of_grown hgrow⟩
      clear hown hgrow
      go_wp2
      go_ret2
      exact ⟨_, rfl, w1, HR.out, S.out⟩
  · go_enter Try.func23, Try.ntmps23
    go_wp2_with fail
    refine HN.out.mono ?_
    rintro e w1 ⟨rfl, hR⟩
    have HR := hid hR
    have RA := hid (HA.out w1 hR)
    have RBb := hid (HB.out w1 hR)
    clear hR HA HB HN
    cases a with
    | none =>
      obtain ⟨rfl, rfl⟩ := rb_nil RA.out
      go_wp2_with (at_builtin; refine wpList_append_own_none rfl _ _ 22 rfl w1.heap.size 5 i0 1 Try.underlying22 hi _ _ _ rfl (World.ownsRow_nil _ _ _ _) rfl ?_)
      go_ret2
      exact ⟨_, rfl, w1, HR.out, own_nil _ _ _ (sel_bound _ f g RA.out.1 RBb.out.1), Below.refl _ _⟩
    | some ad =>
      have HC := hid (rb_cells RA.out)
      go_wp2_with (at_builtin; refine wpList_append_own _ rfl _ _ 22 rfl w1.heap.size 5 i0 (.int .u8 0) 1 1 Try.underlying22 hi hz0 hz1 hz2 rfl (by decide) _ _ _ rfl (World.ownsRow_nil _ _ _ _) ad n c (bl n f) rfl (by rw [bl_length]; omega) HC.out (bl_one n f) (by simp [maxLen]; omega) (by omega) (Nat.le_refl _) ?_)
      intro v' w2 hown hgrow _
      have S : Hid (Own w2 w1.heap.size v' n (sel true f g) ∧ Below w1.heap.size w1 w2) := ⟨⟨sel_bound _ f g RA.out.1 RBb.out.1, hown⟩, Below.of_grown hgrow⟩
      clear hown hgrow
      go_wp2
      go_ret2
      exact ⟨_, rfl, w1, HR.out, S.out⟩
set_option maxHeartbeats 1200000 in
theorem refWiped32 (lp va : Value) (n : Nat) (w : World) (R : World → Prop) (hN : RNotes w lp 8 n R) (sa : ∃ a c, va = .slice a n c) (hn : n ≤ 140737488355328) :
    Calls Try.prog 32 #[lp, va] w fun e w' => ∃ v, e = .returned v ∧ ∃ w1, R w1 ∧ Own w' w1.heap.size v n (fun _ => 0) ∧ Below w1.heap.size w1 w' := by
  obtain ⟨a, c, rfl⟩ := sa
  obtain ⟨i0, hi, hz0, hz1, hz2⟩ := info_parts info5
  have HN := hid hN
  clear hN
  go_enter Try.func32, Try.ntmps32
  go_wp2_with fail
  refine HN.out.mono ?_
  rintro e w1 ⟨rfl, hR⟩
  have HR := hid hR
  clear hR HN
  go_wp2_with (at_make; go_must (refine wpList_make_full _ rfl _ _ 22 rfl w1.heap.size 5 i0 (.int .u8 0) 1 Try.underlying22 hi hz0 hz1 .i64 .i64 _ _ n rfl rfl rfl rfl (by rw [hz2]; omega) (by simp [maxLen]; omega) (Nat.le_refl _) ?_))
  intro w2 hown hgrow
  have HO : Hid (Own w2 w1.heap.size (.slice (some ⟨w1.heap.size, 0, none⟩) n n) n (fun _ => 0) ∧ Below w1.heap.size w1 w2) := by
    refine ⟨⟨fun _ => ⟨Int.le_refl _, show (0 : Int) < 256 by omega⟩, ?_⟩, Below.of_grown hgrow⟩
    rw [bl_zero] at hown
    exact hown
  clear hown hgrow
  go_wp2
  go_ret
  exact ⟨_, rfl, w1, HR.out, HO.out⟩

theorem zero5 (w : World) : (zeroValue 5).run Try.prog w = .ok (.int .u8 0) w := by kernel_rfl
/-- A part of a list that the call owns, written over with noughts. -/
def wiped (o n : Nat) (f : Nat → Int) (i : Nat) : Int := if o ≤ i ∧ i < o + n then 0 else f i
theorem wiped_bound (o n : Nat) (f : Nat → Int) (hf : ∀ i, 0 ≤ f i ∧ f i < 256) (i : Nat) : 0 ≤ wiped o n f i ∧ wiped o n f i < 256 := by
  have := hf i
  unfold wiped; split <;> omega
theorem own_wipe {base g N cap : Nat} : ∀ (n o : Nat) (w : World) (f : Nat → Int), Own w base (.slice (some ⟨g, 0, none⟩) N cap) N f →
    Own (w.setCells g o (List.replicate n (.int .u8 0))) base (.slice (some ⟨g, 0, none⟩) N cap) N (wiped o n f) ∧ w.grownBy (w.setCells g o (List.replicate n (.int .u8 0))) (some g) := by
  intro n
  induction n with
  | zero =>
    intro o w f h
    refine ⟨own_congr h (wiped_bound o 0 f h.1) (fun i _ => ?_), World.grownBy.refl _ _⟩
    unfold wiped; rw [if_neg (by omega)]
  | succ n ih =>
    intro o w f h
    obtain ⟨s1, s2⟩ := own_store h o 0 (by omega)
    obtain ⟨t1, t2⟩ := ih (o + 1) _ _ s1
    refine ⟨own_congr t1 (wiped_bound o (n + 1) f h.1) (fun i _ => ?_), grown_trans s2 t2⟩
    show (if o + 1 ≤ i ∧ i < o + 1 + n then 0 else if i = o then 0 else f i) = if o ≤ i ∧ i < o + (n + 1) then 0 else f i
    by_cases h1 : i = o
    · subst h1
      rw [if_neg (by omega), if_pos rfl, if_pos (by omega)]
    · rw [if_neg h1]
      by_cases h2 : o + 1 ≤ i ∧ i < o + 1 + n
      · rw [if_pos h2, if_pos (by omega)]
      · rw [if_neg h2, if_neg (by omega)]
set_option maxHeartbeats 1200000 in
theorem wipe31_z (lp : Value) (a : Option Addr) (c : Nat) (w : World) (R : World → Prop) (hN : Notes w lp 8 0 R) :
    Calls Try.prog 31 #[lp, .slice a 0 c] w fun e w' => e = .returned (.tuple #[]) ∧ R w' := by
  have HN := hid hN
  clear hN
  go_enter Try.func31, Try.ntmps31
  go_wp2_with fail
  refine HN.out.mono ?_
  rintro e w1 ⟨rfl, hR⟩
  have HR := hid hR
  clear hR HN
  have hcl : ∀ ty, (Builtin.clear_ #[22] ty #[.slice a 0 c]).run Try.prog w1 = .ok (.tuple #[]) w1 := fun ty => by
    cases a <;> simp [Builtin.clear_, run_underlying Try.underlying22]
  go_wp2
  go_end0
  exact ⟨rfl, HR.out⟩
set_option maxHeartbeats 1200000 in
theorem wipe31_any (lp : Value) (b off n c : Nat) (w : World) (R : World → Prop) (hN : Notes w lp 8 n R) (hn : 0 < n)
    (hc : ∀ w', R w' → ∀ j, j < n → (w'.cell? ⟨b, off + j, none⟩).isSome = true) (hf : ∀ w', R w' → ∀ j, j < n → w'.frozen? ⟨b, off + j, none⟩ = false) :
    Calls Try.prog 31 #[lp, .slice (some ⟨b, off, none⟩) n c] w fun e w' => e = .returned (.tuple #[]) ∧ ∃ w1, R w1 ∧ w' = w1.setCells b off (List.replicate n (.int .u8 0)) := by
  have HN := hid hN
  have HC := hid hc
  have HF := hid hf
  clear hN hc hf
  go_enter Try.func31, Try.ntmps31
  go_wp2_with fail
  refine HN.out.mono ?_
  rintro e w1 ⟨rfl, hR⟩
  have HR := hid hR
  have hcl : ∀ ty, (Builtin.clear_ #[22] ty #[.slice (some ⟨b, off, none⟩) n c]).run Try.prog w1 = .ok (.tuple #[]) (w1.setCells b off (List.replicate n (.int .u8 0))) :=
    fun ty => Lib.run_clear_slice w1 22 5 ty (.int .u8 0) Try.underlying22 zero5 rfl rfl b off n c hn (HC.out w1 hR) (HF.out w1 hR)
  clear hR HN HC HF
  go_wp2
  go_end0
  exact ⟨rfl, w1, HR.out, rfl⟩
/-- Wipe of a part of a list that the call owns. -/
theorem wipe31 (lp : Value) (base g N cap o n c : Nat) (f : Nat → Int) (w : World) (R : World → Prop) (hN : Notes w lp 8 n R) (ho : ∀ w', R w' → Own w' base (.slice (some ⟨g, 0, none⟩) N cap) N f) (hn : o + n ≤ N) :
    Calls Try.prog 31 #[lp, .slice (some ⟨g, o, none⟩) n c] w fun e w' => e = .returned (.tuple #[]) ∧ ∃ w1, R w1 ∧ Own w' base (.slice (some ⟨g, 0, none⟩) N cap) N (wiped o n f) ∧ w1.grownBy w' (some g) := by
  by_cases h0 : n = 0
  · subst h0
    refine (wipe31_z lp (some ⟨g, o, none⟩) c w R hN).mono ?_
    rintro e w1 ⟨rfl, hR⟩
    have S := own_wipe (base := base) (g := g) (N := N) (cap := cap) 0 o w1 f (ho w1 hR)
    exact ⟨rfl, w1, hR, S⟩
  · refine (wipe31_any lp g o n c w R hN (by omega) (fun w' hR j hj => ?_) (fun w' hR j _ => ?_)).mono ?_
    · rw [(ho w' hR).2.cellAt (o + j) (by omega), bl_get _ _ _ (by omega)]; rfl
    · exact (ho w' hR).2.frozenAt _
    · rintro e w' ⟨rfl, w1, hR, rfl⟩
      exact ⟨rfl, w1, hR, own_wipe n o w1 f (ho w1 hR)⟩
end Go.Proofs.Ytmoadcoabfjbnaa.By
