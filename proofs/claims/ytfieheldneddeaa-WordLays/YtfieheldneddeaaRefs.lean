/- What the document's own answers for laying a word are, and plain facts on the exclusive or: contracts over this seat's program. -/
import Derived.Test.YtfieheldneddeaaApart
import Derived.Deep.AppendLies
namespace Go.Proofs.Ytfieheldneddeaa
open Go.ChangeShapes Go.WideShapes Go.ChangeAt Go.RowKit
theorem own_base {w : World} {base base' : Nat} {v : Value} {n : Nat} {f : Nat → Int} (h : Own w base v n f) (hb : base' ≤ base) : Own w base' v n f := by
  obtain ⟨h0, h1, h2⟩ := h
  refine ⟨h0, h1, ?_⟩
  rcases h2 with h2 | ⟨g, cap, cur, e1, e2, e3⟩
  · exact .inl h2
  · exact .inr ⟨g, cap, cur, e1, by omega, e3⟩
theorem le_next (x : Int) (k : Nat) : x / 256 ^ k / 256 = x / 256 ^ (k + 1) := by
  rw [Int.ediv_ediv_of_nonneg (Int.pow_nonneg (by omega)), ← Int.pow_succ]
set_option maxHeartbeats 1000000 in
theorem refLayLE28 (x : Int) (B : Nat) (w : World) (h0 : 0 ≤ x) (h1 : x < 18446744073709551616) (hB : B ≤ 8) :
    Calls Try.prog 28 #[.int .u64 x, .int .i64 B] w fun e w' => ∃ v, e = .returned v ∧ Own w' w.heap.size v B (leByte x) ∧ Below w.heap.size w w' := by
  obtain ⟨i0, hi, hz0, hz1, hz2⟩ := info_parts info5
  go_enter Try.func28, Try.ntmps28
  go_wp2
  go_loopw [0, 5, 6] (fun z v i wr => ∃ k : Nat, k ≤ B ∧ i = .int .i64 k ∧ z = .int .u64 (x / 256 ^ k) ∧ Own wr w.heap.size v k (leByte x) ∧ Below w.heap.size w wr) (fun _ _ i _ => B - (intOf i).toNat)
  case atStart => exact ⟨0, Nat.zero_le _, rfl, by simp, own_nil _ _ _ (leByte_bound x), Below.refl _ _⟩
  case round =>
    obtain ⟨k, hk, rfl, rfl, hown, hbel⟩ := hrel
    have hsz := hbel.size
    have HO := hid hown
    have HB := hid hbel
    clear hown hbel
    have hq0 : 0 ≤ x / 256 ^ k := Int.ediv_nonneg h0 (Int.pow_nonneg (by omega))
    have hq1 : x / 256 ^ k < 18446744073709551616 := Int.lt_of_le_of_lt (Int.ediv_le_self _ h0) h1
    have HN := hid (le_next x k)
    have HV : Hid (x / 256 ^ k % 256 = leByte x k) := rfl
    generalize x / 256 ^ k = y at *
    by_cases hlt : k < B
    · go_wp2_with (at_builtin; go_must (refine wpList_append_own _ rfl _ _ 32 rfl w.heap.size 5 i0 (.int .u8 0) 1 1 Try.underlying32 hi hz0 hz1 hz2 rfl (by decide) _ _ _ rfl (HO.out.2.alloc _) ⟨_, 0, none⟩ 1 1 [.int .u8 (y % 256)] rfl rfl (cell_one_new _ _ _) ?c2 ?c3 ?c4 ?c5 ?_))
      case c2 => intro u hu; simp at hu; subst hu; rfl
      case c3 => simp [maxLen]; omega
      case c4 => omega
      case c5 => simp; omega
      intro v' w1 hown hgrow _
      have R : Hid (Own w1 w.heap.size v' (k + 1) (leByte x) ∧ Below w.heap.size w w1) := by
        refine ⟨⟨leByte_bound x, ?_⟩, below_push HB.out hsz HO.out hgrow⟩
        rw [HV.out, bl_snoc] at hown
        exact hown
      clear hown hgrow HO HB
      go_wp2
      go_roundw
      case rel => exact ⟨k + 1, by omega, by go_num, congrArg (Value.int IntKind.u64) HN.out, R.out⟩
      case measure => simp [intOf]; omega
    · have e : k = B := by omega
      subst e
      go_wp2
      go_ret
      exact ⟨_, rfl, HO.out, HB.out⟩
set_option maxHeartbeats 1000000 in
theorem refLay27 (x : Int) (B : Nat) (w : World) (h0 : 0 ≤ x) (h1 : x < 18446744073709551616) (hB : B ≤ 8) (hB0 : 0 < B) :
    Calls Try.prog 27 #[.int .u64 x, .int .i64 B] w fun e w' => ∃ v, e = .returned v ∧ Own w' w.heap.size v B (beByte B x) ∧ Below w.heap.size w w' := by
  obtain ⟨i0, hi, hz0, hz1, hz2⟩ := info_parts info5
  go_enter Try.func27, Try.ntmps27
  go_wp2_with fail
  refine (refLayLE28 x B w h0 h1 hB).mono ?_
  rintro e w1 ⟨v1, rfl, ho, hb⟩
  obtain ⟨g, cap, hv, hc⟩ := own_cells ho hB0
  have HC := hid hc
  have hgl : g < w1.heap.size := block_lt_of_cell (hc 0 hB0)
  have HB1 := hid hb
  clear ho hb hc
  rw [hv]
  clear hv v1
  go_wp2
  go_loopw [6, 7] (fun v i wr => ∃ k : Nat, k ≤ B ∧ i = .int .i64 ((B : Int) - 1 - k) ∧ Own wr w1.heap.size v k (beByte B x) ∧ Below w1.heap.size w1 wr) (fun _ i _ => (intOf i + 1).toNat)
  case atStart => exact ⟨0, Nat.zero_le _, by simp, own_nil _ _ _ (beByte_bound B x), Below.refl _ _⟩
  case round =>
    obtain ⟨k, hk, rfl, hown, hbel⟩ := hrel
    have hsz := hbel.size
    have HO := hid hown
    have HB := hid hbel
    clear hown
    by_cases hlt : k < B
    · have ec : ((B : Int) - 1 - k).toNat = B - 1 - k := by omega
      have hcell : wr.cell? ⟨g, B - 1 - k, none⟩ = some (.int .u8 (beByte B x k)) := (hbel.cell (p := ⟨g, B - 1 - k, none⟩) hgl).trans (HC.out (B - 1 - k) (by omega))
      have p0 : (0 : Int) ≤ (B : Int) - 1 - k := by omega
      have p1 : (B : Int) - 1 - k < B := by omega
      clear hbel
      go_wp2_with (at_builtin; go_must (refine wpList_append_own _ rfl _ _ 32 rfl w1.heap.size 5 i0 (.int .u8 0) 1 1 Try.underlying32 hi hz0 hz1 hz2 rfl (by decide) _ _ _ rfl (HO.out.2.alloc _) ⟨_, 0, none⟩ 1 1 [.int .u8 (beByte B x k)] rfl rfl (cell_one_new _ _ _) ?c2 ?c3 ?c4 ?c5 ?_))
      case c2 => intro u hu; simp at hu; subst hu; rfl
      case c3 => simp [maxLen]; omega
      case c4 => omega
      case c5 => simp; omega
      intro v' w2 hown hgrow _
      have R : Hid (Own w2 w1.heap.size v' (k + 1) (beByte B x) ∧ Below w1.heap.size w1 w2) := by
        refine ⟨⟨beByte_bound B x, ?_⟩, below_push HB.out hsz HO.out hgrow⟩
        rw [bl_snoc] at hown
        exact hown
      clear hown hgrow HO HB
      go_wp2
      go_roundw
      case rel => exact ⟨k + 1, by omega, by go_num, R.out⟩
      case measure => simp [intOf]; omega
    · clear hbel
      have e : k = B := by omega
      subst e
      go_wp2
      go_ret
      refine ⟨_, rfl, own_base HO.out HB1.out.size, HB1.out.trans (HB.out.mono HB1.out.size)⟩
set_option maxRecDepth 100000 in
theorem or_sub_and : ∀ a : Fin 256, ∀ b : Fin 256, (a.val ||| b.val) - (a.val &&& b.val) = a.val ^^^ b.val ∧ (a.val &&& b.val) ≤ (a.val ||| b.val) := by decide +kernel
theorem xb_ref (a b : Int) (ha : 0 ≤ a ∧ a < 256) (hb : 0 ≤ b ∧ b < 256) : (bits .or .u8 a b - bits .and .u8 a b) % 256 = xb a b := by
  obtain ⟨A, rfl⟩ := Int.eq_ofNat_of_zero_le ha.1
  obtain ⟨B, rfl⟩ := Int.eq_ofNat_of_zero_le hb.1
  obtain ⟨h1, h2⟩ := or_sub_and ⟨A, by omega⟩ ⟨B, by omega⟩
  have h3 : A ^^^ B < 2 ^ 8 := Nat.xor_lt_two_pow (by omega) (by omega)
  rw [u8_or_nat A B (by omega) (by omega), u8_and_nat A B (by omega) (by omega), xb_nat A B (by omega) (by omega)]
  simp only at h1 h2
  omega
theorem cell_past_push {w w1 : World} {o : Obj} {B : Nat} {v : Value} {a : Addr} {x : Value} (hg : ((w.alloc o).drew).grownBy w1 v.ownBlock) (hr : ∀ q, v.ownBlock = some q → B ≤ q) (h : w.cell? a = some x) (ha : a.block < B) : w1.cell? a = some x := by
  have g1 : (w.alloc o).grownBy w1 v.ownBlock := ⟨hg.os, hg.tape, hg.output, hg.size, hg.block⟩
  exact grown_cell (grown_of_alloc g1) h (fun e => by have := hr _ e; omega)
theorem below_push_drew {w w' w1 : World} {B : Nat} {v : Value} {n : Nat} {f : Nat → Int} {o : Obj} (hb : Below B w w') (hB : B ≤ w'.heap.size) (ho : Own w' B v n f) (hg : ((w'.alloc o).drew).grownBy w1 v.ownBlock) : Below B w w1 :=
  below_push hb hB ho (o := o) ⟨hg.os, hg.tape, hg.output, hg.size, hg.block⟩
end Go.Proofs.Ytfieheldneddeaa
