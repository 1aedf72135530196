/- What the program's functions on lists of bytes answer (Equal, Less, IsZero, Mask), for every list, whatever the ledger's note does: the note's own contract is a premise. -/
import Derived.Test.YtmoadcoabfjbnaaBkit
import Derived.Test.YtmoadcoabfjbnaaCmath
namespace Go.Proofs.Ytmoadcoabfjbnaa.By
open Go.ChangeShapes Go.WideShapes Go.ChangeAt Go.RowKit

/-- What the ledger's note does, as far as the caller knows: it returns, and R holds then. -/
def Notes (w : World) (lp : Value) (k s : Int) (R : World → Prop) : Prop :=
  Calls Try.prog 39 #[lp, .int .u8 k, .int .i64 s] w fun e w' => e = .returned (.tuple #[]) ∧ R w'

theorem RB.cellsAt {w : World} {a : Option Addr} {n m cap k : Nat} {f : Nat → Int} (h : RB w (.slice a m cap) n f) (hk : k < n) : ∃ b off, a = some ⟨b, off, none⟩ ∧ w.cell? ⟨b, off + k, none⟩ = some (.int .u8 (f k)) := by
  obtain ⟨_, a', cap', he, _, _, h0 | ⟨b, off, rfl, hc⟩⟩ := h
  · omega
  · simp only [Value.slice.injEq] at he
    obtain ⟨rfl, _, _⟩ := he
    exact ⟨b, off, rfl, hc k hk⟩
theorem RB.isSlice {w : World} {v : Value} {n : Nat} {f : Nat → Int} (h : RB w v n f) : ∃ a cap, v = .slice a n cap := by
  obtain ⟨_, a, cap, e, _⟩ := h
  exact ⟨a, cap, e⟩

set_option maxRecDepth 100000 in
set_option maxHeartbeats 1200000 in
theorem equal12 (lp va vb : Value) (n : Nat) (f g : Nat → Int) (w : World) (R : World → Prop) (hN : Notes w lp 6 n R) (sa : ∃ a c, va = .slice a n c) (sb : ∃ a c, vb = .slice a n c)
    (ha : ∀ w', R w' → RB w' va n f) (hb : ∀ w', R w' → RB w' vb n g) (hn : n ≤ 140737488355999) :
    Calls Try.prog 12 #[lp, va, vb] w fun e w' => e = .returned (.bool (eqB f g n)) ∧ ∃ w1 d, R w1 ∧ w' = w1.drewN d := by
  obtain ⟨a, c, rfl⟩ := sa
  obtain ⟨b, c', rfl⟩ := sb
  have HN := hid hN
  have HA := hid ha
  have HB := hid hb
  clear hN ha hb
  go_enter Try.func12, Try.ntmps12
  go_wp2_with fail
  refine HN.out.mono ?_
  rintro e w1 ⟨rfl, hR⟩
  have HR := hid hR
  have RA := hid (HA.out w1 hR)
  have RBb := hid (HB.out w1 hR)
  clear hR HA HB HN
  go_wp2
  go_loopw [7, 20] (fun u x wr => ∃ k : Nat, k ≤ n ∧ x = .int .i64 k ∧ (∃ z, u = .int .u8 z ∧ (0 ≤ z ∧ z < 256) ∧ (z = 0 ↔ ∀ i, i < k → f i = g i)) ∧ ∃ d, wr = w1.drewN d) (fun _ x _ => n - (intOf x).toNat)
  case atStart => exact ⟨0, Nat.zero_le _, rfl, ⟨0, rfl, by omega, by simp⟩, 0, rfl⟩
  case round =>
    obtain ⟨k, hk, rfl, ⟨z, rfl, hz, hiff⟩, d, rfl⟩ := hrel
    have HZ := hid hz
    have HI := hid hiff
    clear hz hiff
    by_cases hlt : k < n
    · obtain ⟨b1, o1, rfl, c1⟩ := RA.out.cellsAt hlt
      obtain ⟨b2, o2, rfl, c2⟩ := RBb.out.cellsAt hlt
      have l1 : (k : Int) < n := by omega
      have l0 : (0 : Int) ≤ k := by omega
      go_wp2
      go_quiet (fail)
      go_wp2
      go_roundw
      case rel =>
        have hf := RA.out.1 k
        have hg := RBb.out.1 k
        refine ⟨k + 1, by omega, by go_num, ⟨_, rfl, or_bound _ _ HZ.out (xor_bound _ _ hf hg), ?_⟩, _, rfl⟩
        rw [or_zero _ _ HZ.out (xor_bound _ _ hf hg), xor_zero _ _ hf hg, HI.out]
        constructor
        · rintro ⟨h1, h2⟩ i hi
          by_cases e : i = k
          · subst e; exact h2
          · exact h1 i (by omega)
        · intro h; exact ⟨fun i hi => h i (by omega), h k (by omega)⟩
      case measure => simp [intOf]; omega
    · have e : k = n := by omega
      subst e
      have E : Hid ((z == 0) = eqB f g k) := by show _ = _; rw [Bool.eq_iff_iff, beq_iff_eq, eqB_iff]; exact HI.out
      go_wp2
      go_ret
      exact ⟨by rw [← E.out]; rfl, w1, d, HR.out, rfl⟩
set_option maxHeartbeats 1200000 in
theorem equal12x (lp va vb : Value) (n m : Nat) (w : World) (sa : ∃ a c, va = .slice a n c) (sb : ∃ a c, vb = .slice a m c) (hnm : n ≠ m) :
    Calls Try.prog 12 #[lp, va, vb] w fun e w' => e = .returned (.bool false) ∧ w' = w := by
  obtain ⟨a, c, rfl⟩ := sa
  obtain ⟨b, c', rfl⟩ := sb
  have h : ¬ (n : Int) = m := by omega
  go_enter Try.func12, Try.ntmps12
  go_wp2
  go_ret
  exact ⟨rfl, rfl⟩
set_option maxRecDepth 100000 in
set_option maxHeartbeats 1200000 in
theorem zero16 (lp va : Value) (n : Nat) (f : Nat → Int) (w : World) (R : World → Prop) (hN : Notes w lp 6 n R) (sa : ∃ a c, va = .slice a n c)
    (ha : ∀ w', R w' → RB w' va n f) (hn : n ≤ 140737488355999) :
    Calls Try.prog 16 #[lp, va] w fun e w' => e = .returned (.bool (zeroB f n)) ∧ R w' := by
  obtain ⟨a, c, rfl⟩ := sa
  have HN := hid hN
  have HA := hid ha
  clear hN ha
  go_enter Try.func16, Try.ntmps16
  go_wp2_with fail
  refine HN.out.mono ?_
  rintro e w1 ⟨rfl, hR⟩
  have HR := hid hR
  have RA := hid (HA.out w1 hR)
  clear hR HA HN
  go_wp2
  go_loopw [5, 14] (fun u x wr => ∃ k : Nat, k ≤ n ∧ x = .int .i64 k ∧ (∃ z, u = .int .u8 z ∧ (0 ≤ z ∧ z < 256) ∧ (z = 0 ↔ ∀ i, i < k → f i = 0)) ∧ wr = w1) (fun _ x _ => n - (intOf x).toNat)
  case atStart => exact ⟨0, Nat.zero_le _, rfl, ⟨0, rfl, by omega, by simp⟩, rfl⟩
  case round =>
    obtain ⟨k, hk, rfl, ⟨z, rfl, hz, hiff⟩, rfl⟩ := hrel
    have HZ := hid hz
    have HI := hid hiff
    clear hz hiff
    by_cases hlt : k < n
    · obtain ⟨b1, o1, rfl, c1⟩ := RA.out.cellsAt hlt
      have l1 : (k : Int) < n := by omega
      have l0 : (0 : Int) ≤ k := by omega
      go_wp2
      go_roundw
      case rel =>
        have hf := RA.out.1 k
        refine ⟨k + 1, by omega, by go_num, ⟨_, rfl, or_bound _ _ HZ.out hf, ?_⟩, by trivial⟩
        rw [or_zero _ _ HZ.out hf, HI.out]
        constructor
        · rintro ⟨h1, h2⟩ i hi
          by_cases e : i = k
          · subst e; exact h2
          · exact h1 i (by omega)
        · intro h; exact ⟨fun i hi => h i (by omega), h k (by omega)⟩
      case measure => simp [intOf]; omega
    · have e : k = n := by omega
      subst e
      have E : Hid ((z == 0) = zeroB f k) := by show _ = eqB f _ k; rw [Bool.eq_iff_iff, beq_iff_eq, eqB_iff]; exact HI.out
      go_wp2
      go_ret
      exact ⟨by rw [← E.out]; rfl, HR.out⟩
set_option maxRecDepth 100000 in
set_option maxHeartbeats 1200000 in
theorem less14 (lp va vb : Value) (n : Nat) (f g : Nat → Int) (w : World) (R : World → Prop) (hN : Notes w lp 6 n R) (sa : ∃ a c, va = .slice a n c) (sb : ∃ a c, vb = .slice a n c)
    (ha : ∀ w', R w' → RB w' va n f) (hb : ∀ w', R w' → RB w' vb n g) (hn : n ≤ 140737488355999) :
    Calls Try.prog 14 #[lp, va, vb] w fun e w' => e = .returned (.tuple #[.bool (less f g n), .int .i64 0]) ∧ ∃ w1 d, R w1 ∧ w' = w1.drewN d := by
  obtain ⟨a, c, rfl⟩ := sa
  obtain ⟨b, c', rfl⟩ := sb
  have HN := hid hN
  have HA := hid ha
  have HB := hid hb
  clear hN ha hb
  go_enter Try.func14, Try.ntmps14
  go_wp2_with fail
  refine HN.out.mono ?_
  rintro e w1 ⟨rfl, hR⟩
  have HR := hid hR
  have RA := hid (HA.out w1 hR)
  have RBb := hid (HB.out w1 hR)
  clear hR HA HB HN
  go_wp2
  go_loopw [8, 9] (fun u x wr => ∃ j : Nat, j ≤ n ∧ x = .int .i64 ((n : Int) - 1 - j) ∧ u = .int .u16 (bo (lsB f g n j)) ∧ ∃ d, wr = w1.drewN d) (fun _ x _ => (intOf x + 1).toNat)
  case atStart => exact ⟨0, Nat.zero_le _, by simp, rfl, 0, rfl⟩
  case round =>
    obtain ⟨j, hj, rfl, rfl, d, rfl⟩ := hrel
    by_cases hlt : j < n
    · obtain ⟨k, hk⟩ : ∃ k, n - 1 - j = k := ⟨_, rfl⟩
      have hkn : k < n := by omega
      obtain ⟨b1, o1, rfl, c1⟩ := RA.out.cellsAt hkn
      obtain ⟨b2, o2, rfl, c2⟩ := RBb.out.cellsAt hkn
      have ST := hid (lsB_step f g n j RA.out.1 RBb.out.1)
      have ek : (n : Int) - 1 - j = k := by omega
      have hf := RA.out.1 k
      have hg := RBb.out.1 k
      have hbo := bo_bound (lsB f g n j)
      rw [hk] at ST
      rw [ek]
      have l1 : (k : Int) < n := by omega
      have l0 : (0 : Int) ≤ k := by omega
      go_wp2
      go_quiet (fail)
      go_wp2
      go_roundw
      case rel =>
        refine ⟨j + 1, by omega, ?_, ?_, _, rfl⟩
        · go_num
        · rw [← ST.out]
          congr 1
          rw [IntKind.wrap_u16, IntKind.wrap_u16]
          omega
      case measure => simp [intOf]
    · have e : j = n := by omega
      subst e
      have E : Hid ((bo (lsB f g j j) == 1) = less f g j) := bo_one _
      go_wp2
      go_ret2
      exact ⟨by rw [← E.out]; rfl, w1, d, HR.out, rfl⟩
set_option maxHeartbeats 1200000 in
theorem less14x (lp va vb : Value) (n m : Nat) (w : World) (sa : ∃ a c, va = .slice a n c) (sb : ∃ a c, vb = .slice a m c) (hnm : n ≠ m) :
    Calls Try.prog 14 #[lp, va, vb] w fun e w' => e = .returned (.tuple #[.bool false, .int .i64 2]) ∧ w' = w := by
  obtain ⟨a, c, rfl⟩ := sa
  obtain ⟨b, c', rfl⟩ := sb
  have h : ¬ (n : Int) = m := by omega
  go_enter Try.func14, Try.ntmps14
  go_wp2
  go_ret2
  exact ⟨rfl, rfl⟩
/-- The mask. -/
def msk (y : Bool) : Int := if y then 255 else 0
set_option maxHeartbeats 1200000 in
theorem mask24 (y : Bool) (w : World) : Calls Try.prog 24 #[.bool y] w fun e w' => e = .returned (.int .u8 (msk y)) ∧ w' = w := by
  cases y
  · go_enter Try.func24, Try.ntmps24
    go_wp2
    go_ret
    exact ⟨rfl, rfl⟩
  · go_enter Try.func24, Try.ntmps24
    go_wp2
    go_ret
    exact ⟨rfl, rfl⟩
/-- One of two bytes, as the mask lets it pass. -/
def pick (y : Bool) (a b : Int) : Int := bits .xor .u8 (bits .and .u8 (bits .xor .u8 a b) (msk y)) b
theorem pick_eq (y : Bool) (a b : Int) (ha : 0 ≤ a ∧ a < 256) (hb : 0 ≤ b ∧ b < 256) : pick y a b = (if y then a else b) := by
  cases y
  · exact pick_no a b ha hb
  · exact pick_yes a b ha hb
/-- One of two lists. -/
def sel (y : Bool) (f g : Nat → Int) (i : Nat) : Int := if y then f i else g i
theorem sel_bound (y : Bool) (f g : Nat → Int) (hf : ∀ i, 0 ≤ f i ∧ f i < 256) (hg : ∀ i, 0 ≤ g i ∧ g i < 256) (i : Nat) : 0 ≤ sel y f g i ∧ sel y f g i < 256 := by
  unfold sel; split
  · exact hf i
  · exact hg i
/-- Behind k bytes. -/
def pickTo (y : Bool) (f g : Nat → Int) (k i : Nat) : Int := if i < k then sel y f g i else 0
theorem pickTo_bound (y : Bool) (f g : Nat → Int) (hf : ∀ i, 0 ≤ f i ∧ f i < 256) (hg : ∀ i, 0 ≤ g i ∧ g i < 256) (k i : Nat) : 0 ≤ pickTo y f g k i ∧ pickTo y f g k i < 256 := by
  have := sel_bound y f g hf hg i
  unfold pickTo; split <;> omega
theorem pickTo_step {k : Nat} {w : World} {B G N cap : Nat} {y : Bool} {f g : Nat → Int} (h : Own w B (.slice (some ⟨G, 0, none⟩) N cap) N (pickTo y f g k)) (hf : ∀ i, 0 ≤ f i ∧ f i < 256) (hg : ∀ i, 0 ≤ g i ∧ g i < 256) (x : Int) (hx : x = pick y (f k) (g k)) :
    Own (w.setCell ⟨G, k, none⟩ (.int .u8 x)) B (.slice (some ⟨G, 0, none⟩) N cap) N (pickTo y f g (k + 1)) ∧ w.grownBy (w.setCell ⟨G, k, none⟩ (.int .u8 x)) (some G) := by
  have e : x = sel y f g k := by rw [hx]; exact pick_eq y _ _ (hf k) (hg k)
  have S := own_store h k x (by rw [e]; exact sel_bound y f g hf hg k)
  refine ⟨own_congr S.1 (pickTo_bound y f g hf hg (k + 1)) (fun i hi => ?_), S.2⟩
  show (if i = k then x else pickTo y f g k i) = pickTo y f g (k + 1) i
  unfold pickTo
  by_cases h : i = k
  · subst h; rw [if_pos rfl, if_pos (show i < i + 1 by omega), e]
  · rw [if_neg h]
    by_cases h2 : i < k
    · rw [if_pos h2, if_pos (show i < k + 1 by omega)]
    · rw [if_neg h2, if_neg (show ¬ i < k + 1 by omega)]
set_option maxHeartbeats 1200000 in
theorem choose22x (lp va vb : Value) (y : Bool) (n m : Nat) (w : World) (sa : ∃ a c, va = .slice a n c) (sb : ∃ a c, vb = .slice a m c) (hnm : n ≠ m) :
    Calls Try.prog 22 #[lp, .bool y, va, vb] w fun e w' => e = .returned (.tuple #[.slice none 0 0, .int .i64 2]) ∧ w' = w := by
  obtain ⟨a, c, rfl⟩ := sa
  obtain ⟨b, c', rfl⟩ := sb
  have h : ¬ (n : Int) = m := by omega
  go_enter Try.func22, Try.ntmps22
  go_wp2
  go_ret2
  exact ⟨rfl, rfl⟩
set_option maxRecDepth 100000 in
set_option maxHeartbeats 1200000 in
theorem choose22 (lp va vb : Value) (y : Bool) (n : Nat) (f g : Nat → Int) (w : World) (R : World → Prop) (hN : Notes w lp 7 n R) (sa : ∃ a c, va = .slice a n c) (sb : ∃ a c, vb = .slice a n c)
    (ha : ∀ w', R w' → RB w' va n f) (hb : ∀ w', R w' → RB w' vb n g) (hn : n ≤ 140737488355328) :
    Calls Try.prog 22 #[lp, .bool y, va, vb] w fun e w' => ∃ v, e = .returned (.tuple #[v, .int .i64 0]) ∧ ∃ w1, R w1 ∧ Own w' w1.heap.size v n (sel y f g) ∧ Below w1.heap.size w1 w' := by
  obtain ⟨a, c, rfl⟩ := sa
  obtain ⟨b, c', rfl⟩ := sb
  obtain ⟨i0, hi, hz0, hz1, hz2⟩ := info_parts info5
  have HN := hid hN
  have HA := hid ha
  have HB := hid hb
  clear hN ha hb
  go_enter Try.func22, Try.ntmps22
  go_wp2_with fail
  refine HN.out.mono ?_
  rintro e w1 ⟨rfl, hR⟩
  have HR := hid hR
  have RA := hid (HA.out w1 hR)
  have RBb := hid (HB.out w1 hR)
  clear hR HA HB HN
  go_wp2_with fail
  refine (mask24 y w1).mono ?_
  rintro e w1 ⟨rfl, rfl⟩
  obtain ⟨mk, hmk⟩ : ∃ mk : Int, msk y = mk := ⟨_, rfl⟩
  have HM := hid hmk
  rw [hmk]
  clear hmk
  go_wp2_with (at_make; go_must (refine wpList_make_full _ rfl _ _ 22 rfl w1.heap.size 5 i0 (.int .u8 0) 1 Try.underlying22 hi hz0 hz1 .i64 .i64 _ _ n rfl rfl rfl rfl (by rw [hz2]; omega) (by simp [maxLen]; omega) (Nat.le_refl _) ?_))
  intro w2 hown hgrow
  have HO : Hid (Own w2 w1.heap.size (.slice (some ⟨w1.heap.size, 0, none⟩) n n) n (pickTo y f g 0) ∧ Below w1.heap.size w1 w2) := by
    refine ⟨⟨pickTo_bound y f g RA.out.1 RBb.out.1 0, ?_⟩, Below.of_grown hgrow⟩
    rw [bl_zero] at hown
    exact hown
  clear hown hgrow
  go_wp2
  go_loopw [30] (fun i wr => ∃ k : Nat, k ≤ n ∧ i = .int .i64 k ∧ Own wr w1.heap.size (.slice (some ⟨w1.heap.size, 0, none⟩) n n) n (pickTo y f g k) ∧ Below w1.heap.size w1 wr) (fun i _ => n - (intOf i).toNat)
  case atStart => exact ⟨0, Nat.zero_le _, rfl, HO.out⟩
  case round =>
    obtain ⟨k, hk, rfl, hown, hbel⟩ := hrel
    clear HO
    have HO := hid hown
    have HB := hid hbel
    by_cases hlt : k < n
    · obtain ⟨b1, o1, rfl, e1⟩ := (RA.out.below hbel).cellsAt hlt
      obtain ⟨b2, o2, rfl, e2⟩ := (RBb.out.below hbel).cellsAt hlt
      have e3 : wr.cell? ⟨w1.heap.size, k, none⟩ = some (.int .u8 (pickTo y f g k k)) := by rw [hown.2.cellAt k (by omega), bl_get _ _ _ hlt]
      have e4 := hown.2.frozenAt k
      have l1 : (k : Int) < n := by omega
      have l0 : (0 : Int) ≤ k := by omega
      clear hown hbel
      go_wp2
      have S := pickTo_step HO.out RA.out.1 RBb.out.1 (bits .xor .u8 (bits .and .u8 (bits .xor .u8 (f k) (g k)) mk) (g k)) (by rw [← HM.out]; rfl)
      go_roundw
      case rel => exact ⟨k + 1, by omega, by go_num, S.1, HB.out.grown S.2 HB.out.size (fun j hj => by cases hj; exact Nat.le_refl _)⟩
      case measure => simp [intOf]; omega
    · clear hown hbel
      have e : k = n := by omega
      subst e
      have O2 := hid (own_congr HO.out (sel_bound y f g RA.out.1 RBb.out.1) (fun i hi => by unfold pickTo; rw [if_pos hi]))
      go_wp2
      go_ret2
      exact ⟨_, rfl, w1, HR.out, O2.out, HB.out⟩
end Go.Proofs.Ytmoadcoabfjbnaa.By
