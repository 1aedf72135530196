/- The statements' helpers that lend lists of runs, look whether they were kept, and write them over; and what is told of two lists, held against the document's answers. -/
import Derived.Test.YtonggccbgiecmaaRefJoin
import Derived.Test.YtonggccbgiecmaaSince
namespace Go.Proofs.Ytonggccbgiecmaa
open Go.ChangeShapes Go.WideShapes Go.ChangeAt Go.RowKit

theorem markAt (k i c : Int) (w : World) (hk : 0 ≤ k ∧ k < 1000000) (hi : 0 ≤ i ∧ i < 1000000000000000000) (hc : c = -1000 * k - i - 7) :
    Calls Try.prog 45 #[.int .i64 k, .int .i64 i] w fun e w' => e = .returned (.agg #[.int .u8 0, .int .i64 0, .int .i64 c]) ∧ w' = w.alloc (.cells #[.int .u8 0, .int .i64 0, .int .i64 c] 70) := by
  subst hc; exact mark45 k i w hk hi
theorem lent_room {L : List Rn} {k : Nat} (h : (L.length + 6) * 24 ≤ 140737488355328) (hk : k < 6) : ((L ++ mks 7 k).length + 1) * 24 ≤ 140737488355328 := by
  rw [List.length_append, mks_length]
  exact Nat.le_trans (Nat.mul_le_mul_right 24 (by rw [Nat.add_assoc]; exact Nat.add_le_add_left hk _)) h
set_option maxHeartbeats 1200000 in
theorem lent25 (l : Value) (L : List Rn) (w : World) (hr : RB w l L) (hn : (L.length + 6) * 24 ≤ 140737488355328) :
    Calls Try.prog 25 #[l] w fun e w' => ∃ v, e = .returned v ∧ Own w' w.heap.size v (L ++ mks 7 6) ∧ Below w.heap.size w w' := by
  have HR := hid hr
  have HN := hid hn
  clear hr hn
  go_enter Try.func25, Try.ntmps25
  go_wp2_with fail
  refine (copy31 l L w HR.out (by have := HN.out; omega)).mono ?_
  rintro e w1 ⟨v0, rfl, hown, hbel⟩
  have HS : Hid (Own w1 w.heap.size v0 (L ++ mks 7 0)) := by show Own _ _ _ _; rw [show mks 7 0 = [] from rfl, List.append_nil]; exact hown
  have HB := hid hbel
  clear hown hbel
  go_wp2
  go_loopw [3, 4] (fun v i wr => ∃ k : Nat, k ≤ 6 ∧ i = .int .i64 k ∧ Own wr w.heap.size v (L ++ mks 7 k) ∧ Below w.heap.size w wr) (fun _ i _ => 6 - (intOf i).toNat)
  case atStart => exact ⟨0, Nat.zero_le _, rfl, HS.out, HB.out⟩
  case round =>
    obtain ⟨k, hk, rfl, hown, hbel⟩ := hrel
    clear HS HB
    have hsz := hbel.size
    have HO := hid hown
    have HB := hid hbel
    clear hown hbel
    by_cases hlt : k < 6
    · have Hlen : Hid (((L ++ mks 7 k).length + 1) * 24 ≤ 140737488355328) := lent_room HN.out hlt
      have Hsz : Hid (w.heap.size ≤ wr.heap.size) := hsz
      have HMo := hid (Mk_ok 7 (k : Int) (by omega) (by omega))
      have HM := hid (fun W => markAt 7 (k : Int) (Mk 7 k).c W (by omega) (by omega) rfl)
      go_wp2_with (first | (go_at_call 45; refine (HM.out _).mono ?_; rintro e w' ⟨rfl, rfl⟩) | (at_builtin; go_must (refine wpList_push rfl _ _ rfl w.heap.size _ (L ++ mks 7 k) (Mk 7 k) ((HO.out.alloc _).alloc _) HMo.out ?c1 Hlen.out ⟨_, 0, none⟩ rfl rfl ?c3 ?_)))
      case c1 => exact Nat.le_trans Hsz.out (by simp <;> omega)
      case c3 => exact cells_new' _ (Mk 7 k) _ (by simp)
      intro v' w1 hown hkp _
      have R : Hid (Own w1 w.heap.size v' (L ++ mks 7 (k + 1)) ∧ Below w.heap.size w w1) := by
        refine ⟨?_, ((HB.out.alloc Hsz.out _).alloc (Nat.le_trans Hsz.out (by simp <;> omega)) _).trans (hkp.below (Nat.le_trans Hsz.out (by simp <;> omega)) (fun q hq e => Nat.not_le.2 hq (HO.out.lt q e).1))⟩
        rw [mks_succ]; exact hown
      clear hown hkp HO HB
      go_wp2
      go_roundw
      case rel => exact ⟨k + 1, by omega, by go_num, R.out⟩
      case measure => simp [intOf]; omega
    · have e : k = 6 := by omega
      subst e
      go_wp2
      go_ret
      exact ⟨_, rfl, HO.out, HB.out⟩

set_option maxHeartbeats 1200000 in
theorem kept29 (x l : Value) (L : List Rn) (w : World) (hx : RB w x (L ++ mks 7 6)) (hr : RB w l L) (hn : (L.length + 6) * 24 ≤ 140737488355328) :
    Calls Try.prog 29 #[x, l] w fun e w' => e = .returned (.bool true) ∧ Below w.heap.size w w' := by
  have HR := hid hr
  have HX := hid hx
  have HN := hid hn
  clear hr hx hn
  go_enter Try.func29, Try.ntmps29
  go_wp2_with fail
  refine (lent25 l L w HR.out HN.out).mono ?_
  rintro e w1 ⟨v, rfl, ho, hb⟩
  have HO := hid ho
  have HB := hid hb
  clear ho hb
  go_wp2_with fail
  refine (same14 _ _ _ _ _ (HX.out.below HB.out) HO.out.reads ?_ ?_).mono ?_
  · have := HN.out; rw [List.length_append, mks_length]; omega
  · have := HN.out; rw [List.length_append, mks_length]; omega
  rintro e w2 ⟨rfl, d, rfl⟩
  go_wp2
  go_ret
  exact ⟨by simp, below_drew' HB.out _⟩

theorem mks_set (k i : Nat) (L : List Rn) (h : i < L.length) : (mks k i ++ L.drop i).set i (Mk k i) = mks k (i + 1) ++ L.drop (i + 1) := by
  obtain ⟨r, hr⟩ := get_of_lt h
  rw [drop_cons hr, List.set_append_right _ _ (by rw [mks_length]; exact Nat.le_refl _), mks_length, Nat.sub_self, List.set_cons_zero, mks_succ, List.append_assoc]
  rfl

set_option maxHeartbeats 1200000 in
theorem over30 (g cap N base : Nat) (L : List Rn) (w : World) (ho : Own w base (.slice (some ⟨g, 0, none⟩) N cap) L) (hL : L.length = N) (hn : N < 1000000000000) :
    Calls Try.prog 30 #[.slice (some ⟨g, 0, none⟩) N cap] w fun e w' => e = .returned (.tuple #[]) ∧ Own w' base (.slice (some ⟨g, 0, none⟩) N cap) (mks 9 N) ∧ Kp (fun k => k = g) w w' := by
  have HO := hid ho
  have HL := hid hL
  have hgl : g < w.heap.size := (ho.lt g rfl).2
  clear ho hL
  go_enter Try.func30, Try.ntmps30
  go_wp2
  go_loopw [2] (fun i wr => ∃ k : Nat, k ≤ N ∧ i = .int .i64 k ∧ Own wr base (.slice (some ⟨g, 0, none⟩) N cap) (mks 9 k ++ L.drop k) ∧ Kp (fun k => k = g) w wr) (fun i _ => N - (intOf i).toNat)
  case atStart => exact ⟨0, Nat.zero_le _, rfl, HO.out, Kp.refl _ _⟩
  case round =>
    obtain ⟨k, hk, rfl, hown, hkp⟩ := hrel
    have HW := hid hown
    have HK := hid hkp
    by_cases hlt : k < N
    · have hlen : Hid ((mks 9 k ++ L.drop k).length = N) := by show _ = _; rw [List.length_append, mks_length, List.length_drop, HL.out]; omega
      obtain ⟨r, hr⟩ := get_of_lt (L := mks 9 k ++ L.drop k) (k := k) (by rw [hlen.out]; exact hlt)
      rcases hown.shape with ⟨h1, _⟩ | ⟨g', cap', hv, hx1, hgl2, hx2, hx3, hc, hfz⟩
      · simp at h1
      · simp only [Value.slice.injEq, Option.some.injEq, Addr.mk.injEq, and_true] at hv
        obtain ⟨rfl, hx4, rfl⟩ := hv
        clear hx1 hx2 hx3 hx4
        obtain ⟨c1, c2, c3⟩ := hc k r hr
        have f1 := hfz (k * 3)
        have f2 := hfz (k * 3 + 1)
        have f3 := hfz (k * 3 + 2)
        clear hown hkp hc hfz hr
        have l1 : (k : Int) < N := by omega
        have HM := hid (fun W => markAt 9 (k : Int) (Mk 9 k).c W (by omega) (by omega) rfl)
        have S := Own.setR (i := k) (Mk 9 k) (L := mks 9 k ++ L.drop k) (cap := cap) (g := g) (base := base) (by rw [hlen.out]; exact HW.out) (by rw [hlen.out]; exact hlt) (Mk_ok _ _ (by omega) (by omega))
        have e1 : (mks 9 k ++ L.drop k).set k (Mk 9 k) = mks 9 (k + 1) ++ L.drop (k + 1) := mks_set 9 k L (by rw [HL.out]; exact hlt)
        rw [hlen.out, e1] at S
        have HS := hid S
        clear S e1
        go_wp2_with (go_at_call 45; refine (HM.out _).mono ?_; rintro e w' ⟨rfl, rfl⟩)
        go_roundw
        case rel => exact ⟨k + 1, by omega, by go_num, HS.out.1.alloc _, (HK.out.trans HS.out.2 (fun _ _ e => e)).trans (Kp.of_below _ (below_alloc _ _)) (fun _ _ e => e)⟩
        case measure => simp [intOf]; omega
    · have e : k = N := by omega
      subst e
      clear hown hkp
      go_wp2
      go_end0
      refine ⟨rfl, ?_, HK.out⟩
      have := HW.out
      rw [List.drop_eq_nil_of_le (by rw [HL.out]; exact Nat.le_refl _), List.append_nil] at this
      exact this

/-- Runs that may be: the two answers of Check are one. -/
theorem chk_same {L : List Rn} {z z' : Int} (h : (z = 0 ∧ Chk L) ∨ (z = 120 ∧ ¬ Chk L)) (h' : (z' = 0 ∧ Chk L) ∨ (z' = 120 ∧ ¬ Chk L)) : z = z' := by
  rcases h with ⟨rfl, h⟩ | ⟨rfl, h⟩ <;> rcases h' with ⟨rfl, h'⟩ | ⟨rfl, h'⟩
  · rfl
  · exact absurd h h'
  · exact absurd h' h
  · rfl

set_option maxHeartbeats 1200000 in
theorem lists28 (x y a b : Value) (L M : List Rn) (w : World) (hx : RB w x L) (hy : RB w y M) (ha : RB w a L) (hb : RB w b M) (hL : L.length < 1000000000000000000) (hM : M.length < 1000000000000000000) :
    Calls Try.prog 28 #[x, y, a, b] w fun e w' => e = .returned (.bool true) ∧ Below w.heap.size w w' := by
  have HX := hid hx
  have HY := hid hy
  have HA := hid ha
  have HB := hid hb
  clear hx hy ha hb
  go_enter Try.func28, Try.ntmps28
  go_wp2_with fail
  refine (same51 _ _ L M _ HX.out HY.out hL hM).mono ?_
  rintro e w' ⟨rfl, d1, rfl⟩
  go_wp2_with fail
  refine (same52 _ _ L M _ (HA.out.drewN _) (HB.out.drewN _) hL hM).mono ?_
  rintro e w' ⟨rfl, d2, rfl⟩
  go_wp2_with fail
  refine (same51 _ _ M L _ (HY.out.drewN _) (HX.out.drewN _) hM hL).mono ?_
  rintro e w' ⟨rfl, d3, rfl⟩
  go_wp2_with fail
  refine (same52 _ _ M L _ (HB.out.drewN _) (HA.out.drewN _) hM hL).mono ?_
  rintro e w' ⟨rfl, d4, rfl⟩
  go_wp2_with fail
  refine (same51 _ _ L L _ (HX.out.drewN _) (HX.out.drewN _) hL hL).mono ?_
  rintro e w' ⟨rfl, d5, rfl⟩
  go_wp2_with fail
  refine (total33 _ L _ (HX.out.drewN _) hL).mono ?_
  rintro e w1 ⟨rfl, hb1⟩
  have B1 : Hid (Below w.heap.size w w1) := below_next (below_drewN w _) hb1
  clear hb1
  go_wp2_with fail
  refine (total53 _ L _ (HA.out.below B1.out) hL).mono ?_
  rintro e w' ⟨rfl, rfl⟩
  go_wp2_with fail
  refine (total33 _ M _ (HY.out.below B1.out) hM).mono ?_
  rintro e w2 ⟨rfl, hb2⟩
  have B2 := hid (below_next B1.out hb2)
  clear hb2 B1
  go_wp2_with fail
  refine (total53 _ M _ (HB.out.below B2.out) hM).mono ?_
  rintro e w' ⟨rfl, rfl⟩
  go_wp2_with fail
  refine (check32 _ L _ (HX.out.below B2.out) hL).mono ?_
  rintro e w3 ⟨z1, rfl, hz1, hb3⟩
  have B3 := hid (below_next B2.out hb3)
  have Z1 := hid hz1
  clear hb3 B2 hz1
  go_wp2_with fail
  refine (check54 _ L _ (HA.out.below B3.out) hL).mono ?_
  rintro e w' ⟨z2, rfl, hz2, d6, rfl⟩
  obtain rfl := chk_same Z1.out hz2
  clear hz2 Z1
  have B4 := hid (below_drew' B3.out d6)
  clear B3
  go_wp2_with fail
  refine (check32 _ M _ (HY.out.below B4.out) hM).mono ?_
  rintro e w5 ⟨z3, rfl, hz3, hb5⟩
  have B5 := hid (below_next B4.out hb5)
  have Z3 := hid hz3
  clear hb5 B4 hz3
  go_wp2_with fail
  refine (check54 _ M _ (HB.out.below B5.out) hM).mono ?_
  rintro e w' ⟨z4, rfl, hz4, d7, rfl⟩
  obtain rfl := chk_same Z3.out hz4
  clear hz4 Z3
  go_wp2
  go_ret
  exact ⟨rfl, below_drew' B5.out _⟩
end Go.Proofs.Ytonggccbgiecmaa
