/- The document's HMAC: inner, Of, blocks, Begins, Ends, Tag. -/
import Derived.Test.YtjhhnajgfngbhaaGreatDoorZme
import Derived.Deep.RegionHeld3
namespace Go.Proofs.YtjhhnajgfngbhaaGreatDoor.Dg
open Go.ChangeShapes Go.WideShapes Go.ChangeAt Go.RowKit
open Go.Proofs.YtjhhnajgfngbhaaGreatDoor.By
open Go.Proofs.YtjhhnajgfngbhaaGreatDoor.Sh (Blk size_alloc)
/-- The blocks of the document's ledger. -/
def SM (mb : Nat) (rv : Value) (j : Nat) : Prop := j = mb ∨ rv.ownBlock = some j
/-- What is left of it. -/
def RW (w w' : World) (mb : Nat) (rv : Value) (L : List Rn) : Prop := (∃ rv', RLed w' mb rv' L ∧ SameOrNew w rv rv') ∧ Kp (SM mb rv) w w'
theorem RW.below {w w' w2 : World} {mb : Nat} {rv : Value} {L : List Rn} (h : RW w w' mb rv L) (hb : Below w'.heap.size w' w2) : RW w w2 mb rv L := by
  obtain ⟨⟨rv', h1, h2⟩, hk⟩ := h
  exact ⟨⟨rv', h1.below hb, h2⟩, hk.trans (Kp.of_below _ hb) (fun _ _ e => e)⟩
theorem RW.refl {w : World} {mb : Nat} {rv : Value} {L : List Rn} (h : RLed w mb rv L) : RW w w mb rv L := ⟨⟨rv, h, .inl rfl⟩, Kp.refl _ _⟩
theorem RW.trans {w w1 w2 : World} {mb : Nat} {rv rv1 : Value} {L : List Rn} (hk : Kp (SM mb rv) w w1) (hs : SameOrNew w rv rv1) (h : RW w1 w2 mb rv1 L) : RW w w2 mb rv L := by
  obtain ⟨⟨rv', h1, h2⟩, hk2⟩ := h
  refine ⟨⟨rv', h1, ?_⟩, hk.trans hk2 (fun i hi e => ?_)⟩
  · rcases h2 with h2 | h2
    · rcases hs with hs | hs
      · exact .inl (h2.trans hs)
      · exact .inr (fun g hg => hs g (h2 ▸ hg))
    · exact .inr (fun g hg => Nat.le_trans hk.size (h2 g hg))
  · rcases e with e | e
    · exact .inl e
    · rcases hs with hs | hs
      · exact .inr (hs ▸ e)
      · have := hs i e; omega
theorem RW.start {w w1 w2 : World} {mb : Nat} {rv : Value} {L : List Rn} (hb : Below w.heap.size w w1) (h : RW w1 w2 mb rv L) : RW w w2 mb rv L := RW.trans (Kp.of_below _ hb) (.inl rfl) h
theorem wrap_small (d : Nat) (h : d ≤ 281474976710656) : IntKind.i64.wrap (d : Int) = d := by rw [IntKind.wrap_i64]; omega
theorem wrap_two (n b l N : Nat) (hn : n ≤ 140737488353328) (hl : l ≤ 2) (h : n / b + l = N) : IntKind.i64.wrap (IntKind.i64.wrap ((n : Int) / (b : Int)) + (l : Int)) = (N : Int) := by
  have e : (n : Int) / (b : Int) = ((n / b : Nat) : Int) := (Int.natCast_ediv n b).symm
  have h1 : n / b ≤ n := Nat.div_le_self n b
  rw [e]
  generalize n / b = d at *
  rw [wrap_small d (by omega), ← Int.natCast_add, h]
  exact wrap_small N (by omega)
theorem rtimes256 (mb n : Nat) (rv : Value) (L : List Rn) (w : World) (h : RLed w mb rv L) (hn : n ≤ 2300000000000) (ht : tq L ≤ 4400000000000) :
    Calls Tryz.prog 53 #[.pointer (some ⟨mb, 0, none⟩), .agg #[.int .u8 1, .int .i64 64], .int .i64 n] w fun e w' => e = .returned (.tuple #[]) ∧ RW w w' mb rv (evs false L n) := by
  refine (Sh.rtimes (some (mb, rv)) L n w ⟨h, by show tq L ≤ 5800000000000; omega⟩ (by omega)).mono ?_
  rintro e w' ⟨rfl, h1, h2⟩
  exact ⟨rfl, h1, h2⟩
theorem rtimes512 (mb n : Nat) (rv : Value) (L : List Rn) (w : World) (h : RLed w mb rv L) (hn : n ≤ 2300000000000) (ht : tq L ≤ 4400000000000) :
    Calls Tryz.prog 53 #[.pointer (some ⟨mb, 0, none⟩), .agg #[.int .u8 2, .int .i64 128], .int .i64 n] w fun e w' => e = .returned (.tuple #[]) ∧ RW w w' mb rv (evs true L n) := by
  match n with
  | 0 =>
    refine (Sg.noteTimes0 mb 2 128 w).mono ?_
    rintro e w' ⟨rfl, hb⟩
    exact ⟨rfl, (RW.refl h).below hb⟩
  | k + 1 =>
    have h2 := len_tot h.pos
    have hqq := tq_tot L
    refine (refNoteTimes45 mb rv L 2 128 ((k + 1 : Nat) : Int) w h ⟨by show (0 : Int) ≤ 2 ∧ (2 : Int) < 256; decide, by show (-9223372036854775808 : Int) ≤ 128 ∧ (128 : Int) ≤ 9223372036854775807; decide, by show -9223372036854775808 ≤ (((k + 1 : Nat) : Int)) ∧ (((k + 1 : Nat) : Int)) ≤ 9223372036854775807; omega⟩ (by omega) (by omega) (by have := Nat.mul_le_mul_right 24 (show L.length + 1 ≤ 5000000000000 by omega); omega)).mono ?_
    rintro e w' ⟨rfl, rv', h3, h4, h5⟩
    rw [Sg.putL_many L h.pos k (by omega)] at h3
    exact ⟨rfl, ⟨rv', h3, h5⟩, h4⟩
theorem rkeyed256 (n : Nat) (v : Value) (g : Nat → Int) (x : Int) (w : World) (hr : By.RB w v n g) (hn : n ≤ 140737488353328) :
    Calls Tryz.prog 67 #[.int .u8 1, v, .int .u8 x] w fun e w' => ∃ u, e = .returned u ∧ By.Own w' w.heap.size u 64 (msk x (kb false n g)) ∧ Below w.heap.size w w' := by
  by_cases h : 64 < n
  · exact rkeyedL256 n v g x w hr hn h
  · exact rkeyedS256 n v g x w hr h
theorem rblocks256 (mb n : Nat) (rv : Value) (L : List Rn) (w : World) (h : RLed w mb rv L) (hn : n ≤ 2300000000000) (ht : tq L ≤ 4400000000000) :
    Calls Tryz.prog 41 #[.pointer (some ⟨mb, 0, none⟩), .int .u8 1, .int .i64 n] w fun e w' => e = .returned (.tuple #[]) ∧ RW w w' mb rv (evs false L n) := by
  have HC := hid (fun w1 (hb : Below w.heap.size w w1) => rtimes256 mb n rv L w1 (h.below hb) hn ht)
  clear h
  go_enter Tryz.func41, Tryz.ntmps41
  go_wp2_with fail
  refine (HC.out _ (below_alloc w _)).mono ?_
  rintro e w1 ⟨rfl, h1⟩
  have R := hid (RW.start (below_alloc w _) h1)
  clear h1
  go_wp2
  go_end0
  exact ⟨rfl, R.out⟩
set_option maxHeartbeats 2000000 in
theorem rinner256 (n m : Nat) (v v2 : Value) (g f : Nat → Int) (w : World) (hr : By.RB w v n g) (hr2 : By.RB w v2 m f) (hn : n ≤ 140737488353328) (hmm : m ≤ 140737488353328) :
    Calls Tryz.prog 69 #[.int .u8 1, v, v2] w fun e w' => ∃ u, e = .returned u ∧ By.Own w' w.heap.size u (64 + m) (inr false (kb false n g) f) ∧ Below w.heap.size w w' := by
  have HR2 := hid hr2
  have HC := hid (rkeyed256 n v g 54 w hr hn)
  clear hr hr2
  go_enter Tryz.func69, Tryz.ntmps69
  go_wp2_with fail
  refine HC.out.mono ?_
  rintro e w1 ⟨u, rfl, hu, hb⟩
  have U := hid hu
  have B := hid hb
  have R := hid (HR2.out.below hb)
  clear hu hb HC HR2
  go_wp2_with (at_builtin; go_must (refine Sg.wpList_cat rfl _ _ rfl w.heap.size 64 m _ _ (msk 54 (kb false n g)) f rfl U.out rfl R.out (by omega) B.out.size ?_))
  intro u3 w3 h3 hg3
  have U3 := hid h3
  have B3 := hid (Sh.below_grow B.out B.out.size U.out hg3)
  clear h3 hg3
  go_wp2
  go_ret
  exact ⟨_, rfl, U3.out, B3.out⟩
set_option maxHeartbeats 2000000 in
theorem rof256 (n m : Nat) (v v2 : Value) (g f : Nat → Int) (w : World) (hr : By.RB w v n g) (hr2 : By.RB w v2 m f) (hn : n ≤ 140737488353328) (hmm : m ≤ 140737488352328) :
    Calls Tryz.prog 57 #[.int .u8 1, v, v2] w fun e w' => ∃ u, e = .returned u ∧ By.Own w' w.heap.size u 32 (hm false (kb false n g) m f) ∧ Below w.heap.size w w' := by
  have HR := hid hr
  have HR2 := hid hr2
  clear hr hr2
  go_enter Tryz.func57, Tryz.ntmps57
  go_wp2_with fail
  refine (rkeyed256 n v g 92 w HR.out hn).mono ?_
  rintro e w1 ⟨u, rfl, hu, hb⟩
  have U := hid hu
  have B := hid hb
  clear hu hb
  have HC := hid (rinner256 n m v v2 g f w1 (HR.out.below B.out) (HR2.out.below B.out) hn (by omega))
  go_wp2_with fail
  refine HC.out.mono ?_
  rintro e w2 ⟨u2, rfl, hu2, hb2⟩
  have U2 := hid hu2.reads
  have B2 := hid (below_next B.out hb2)
  have V2 := hid (own_below U.out hb2)
  clear hu2 hb2 HC U B HR HR2
  have HC := hid (rdigest256 (64 + m) u2 _ w2 U2.out (by omega))
  go_wp2_with fail
  refine HC.out.mono ?_
  rintro e w3 ⟨u3, rfl, hu3, hb3⟩
  have U3 := hid hu3.reads
  have B3 := hid (below_next B2.out hb3)
  have V3 := hid (own_below V2.out hb3)
  clear hu3 hb3 HC U2 B2 V2
  go_wp2_with (at_builtin; go_must (refine Sg.wpList_cat rfl _ _ rfl w.heap.size 64 32 _ _ (msk 92 (kb false n g)) (dig false (64 + m) (inr false (kb false n g) f)) rfl V3.out rfl U3.out (by omega) B3.out.size ?_))
  intro u4 w4 h4 hg4
  have U4 := hid h4.reads
  have B4 := hid (Sh.below_grow B3.out B3.out.size V3.out hg4)
  clear h4 hg4 U3 V3 B3
  have HC := hid (rdigest256 (64 + 32) u4 _ w4 U4.out (by omega))
  go_wp2_with fail
  refine HC.out.mono ?_
  rintro e w5 ⟨u5, rfl, hu5, hb5⟩
  have R := hid (Sg.own_mono hu5 B4.out.size)
  have B5 := hid (below_next B4.out hb5)
  clear hu5 hb5 HC
  go_wp2
  go_ret
  exact ⟨u5, rfl, R.out, B5.out⟩
set_option maxRecDepth 8000 in
theorem rbegins256 (mb n : Nat) (rv : Value) (L : List Rn) (w : World) (h : RLed w mb rv L) (hn : n ≤ 140737488353328) (ht : tq L ≤ 2200000000000) :
    Calls Tryz.prog 34 #[.pointer (some ⟨mb, 0, none⟩), .int .u8 1, .int .i64 n] w fun e w' => e = .returned (.tuple #[]) ∧ RW w w' mb rv (kev false L n) := by
  have H := hid h
  have hp := h.pos
  have kt := keT false hp n hn (by omega)
  have hll := (last_le false n).1
  clear h hp
  by_cases hlong : 64 < n
  · have hlong' : (64 : Int) < n := by omega
    rw [ke_long false L n hlong] at kt
    have e0 : n / bk false = n / 64 := rfl
    rw [e0] at kt
    obtain ⟨l, hl⟩ : ∃ l, last false n = l := ⟨_, rfl⟩
    obtain ⟨N, hN⟩ : ∃ N, n / 64 + l = N := ⟨_, rfl⟩
    rw [hl] at kt hll
    rw [hN] at kt
    have hw : IntKind.i64.wrap (IntKind.i64.wrap ((n : Int) / 64) + (l : Int)) = (N : Int) := wrap_two n 64 l N (by omega) (by omega) hN
    have RL := hid (fun w => rlast256 n w hn)
    rw [hl] at RL
    have hN2 : N ≤ 2300000000000 := by omega
    have EN := hid (show ke false L n = evs false L N by rw [ke_long false L n hlong, ← hN, ← hl]; rfl)
    clear hN hl e0
    go_enter Tryz.func34, Tryz.ntmps34
    go_wp2_with fail
    refine (rblock256 _).mono ?_
    rintro e w1 ⟨rfl, hw1⟩
    subst w1
    go_upto_region 1 with fail
    go_region_held3 (fun _ => True) (trivial) (first
      | (go_at_call 33; go_must (refine (rblock256 _).mono ?_; rintro e w1 ⟨rfl, hw1⟩; subst w1))
      | (go_at_call 42; go_must (refine (RL.out _).mono ?_; rintro e w1 ⟨rfl, hw1⟩; subst w1))
      | (go_at_call 41; go_must (refine (rblocks256 mb N rv L _ (H.out.below (below_drewN w 1)) hN2 (by omega)).mono ?_; rintro e w2 ⟨rfl, h2⟩; have R2 := hid (RW.start (below_drewN w 1) h2); clear h2)))
    obtain ⟨⟨rv2, h2, s2⟩, k2⟩ := R2.out
    have H2 := hid h2
    have K2 := hid k2
    have S2 := hid s2
    clear h2 k2 s2 R2
    go_wp2_with fail
    refine (rblocks256 mb 2 rv2 _ _ H2.out (by omega) (by omega)).mono ?_
    rintro e w3 ⟨rfl, h3⟩
    have R := hid (RW.trans K2.out S2.out h3)
    clear h3
    go_wp2
    go_end0
    refine ⟨rfl, ?_⟩
    unfold kev
    rw [EN.out]
    exact R.out
  · have hlong' : ¬ (64 : Int) < n := by omega
    go_enter Tryz.func34, Tryz.ntmps34
    go_wp2_with fail
    refine (rblock256 _).mono ?_
    rintro e w1 ⟨rfl, hw1⟩
    subst w1
    go_wp2_with fail
    refine (rblocks256 mb 2 rv L _ H.out (by omega) (by omega)).mono ?_
    rintro e w3 ⟨rfl, h3⟩
    have R := hid h3
    clear h3
    go_wp2
    go_end0
    refine ⟨rfl, ?_⟩
    unfold kev
    rw [ke_short false L n hlong]
    exact R.out
theorem rends256 (mb n : Nat) (rv : Value) (L : List Rn) (w : World) (h : RLed w mb rv L) (hn : n ≤ 140737488353328) (ht : tq L ≤ 4400000000000) :
    Calls Tryz.prog 56 #[.pointer (some ⟨mb, 0, none⟩), .int .u8 1, .int .i64 n] w fun e w' => e = .returned (.tuple #[]) ∧ RW w w' mb rv (sev false L n) := by
  have H := hid h
  have hll := (last_le false n).1
  obtain ⟨l, hl⟩ : ∃ l, last false n = l := ⟨_, rfl⟩
  rw [hl] at hll
  have RL := hid (fun w => rlast256 n w hn)
  rw [hl] at RL
  obtain ⟨N, hN⟩ : ∃ N, l + 1 = N := ⟨_, rfl⟩
  have hw : IntKind.i64.wrap ((l : Int) + 1) = (N : Int) := by rw [IntKind.wrap_i64]; omega
  have hw2 : ((l : Int) + 1) = (N : Int) := by omega
  have ES := hid (show sev false L n = evs false L N by rw [← hN, ← hl]; rfl)
  clear h hl hN
  go_enter Tryz.func56, Tryz.ntmps56
  go_wp2_with fail
  refine (RL.out _).mono ?_
  rintro e w1 ⟨rfl, hw1⟩
  subst w1
  go_wp2_with fail
  refine (rblocks256 mb N rv L _ H.out (by omega) (by omega)).mono ?_
  rintro e w3 ⟨rfl, h3⟩
  have R := hid h3
  clear h3
  go_wp2
  go_end0
  rw [ES.out]
  exact ⟨rfl, R.out⟩
theorem rkeyed512 (n : Nat) (v : Value) (g : Nat → Int) (x : Int) (w : World) (hr : By.RB w v n g) (hn : n ≤ 140737488353328) :
    Calls Tryz.prog 67 #[.int .u8 2, v, .int .u8 x] w fun e w' => ∃ u, e = .returned u ∧ By.Own w' w.heap.size u 128 (msk x (kb true n g)) ∧ Below w.heap.size w w' := by
  by_cases h : 128 < n
  · exact rkeyedL512 n v g x w hr hn h
  · exact rkeyedS512 n v g x w hr h
theorem rblocks512 (mb n : Nat) (rv : Value) (L : List Rn) (w : World) (h : RLed w mb rv L) (hn : n ≤ 2300000000000) (ht : tq L ≤ 4400000000000) :
    Calls Tryz.prog 41 #[.pointer (some ⟨mb, 0, none⟩), .int .u8 2, .int .i64 n] w fun e w' => e = .returned (.tuple #[]) ∧ RW w w' mb rv (evs true L n) := by
  have HC := hid (fun w1 (hb : Below w.heap.size w w1) => rtimes512 mb n rv L w1 (h.below hb) hn ht)
  clear h
  go_enter Tryz.func41, Tryz.ntmps41
  go_wp2_with fail
  refine (HC.out _ (below_alloc w _)).mono ?_
  rintro e w1 ⟨rfl, h1⟩
  have R := hid (RW.start (below_alloc w _) h1)
  clear h1
  go_wp2
  go_end0
  exact ⟨rfl, R.out⟩
set_option maxHeartbeats 2000000 in
theorem rinner512 (n m : Nat) (v v2 : Value) (g f : Nat → Int) (w : World) (hr : By.RB w v n g) (hr2 : By.RB w v2 m f) (hn : n ≤ 140737488353328) (hmm : m ≤ 140737488353328) :
    Calls Tryz.prog 69 #[.int .u8 2, v, v2] w fun e w' => ∃ u, e = .returned u ∧ By.Own w' w.heap.size u (128 + m) (inr true (kb true n g) f) ∧ Below w.heap.size w w' := by
  have HR2 := hid hr2
  have HC := hid (rkeyed512 n v g 54 w hr hn)
  clear hr hr2
  go_enter Tryz.func69, Tryz.ntmps69
  go_wp2_with fail
  refine HC.out.mono ?_
  rintro e w1 ⟨u, rfl, hu, hb⟩
  have U := hid hu
  have B := hid hb
  have R := hid (HR2.out.below hb)
  clear hu hb HC HR2
  go_wp2_with (at_builtin; go_must (refine Sg.wpList_cat rfl _ _ rfl w.heap.size 128 m _ _ (msk 54 (kb true n g)) f rfl U.out rfl R.out (by omega) B.out.size ?_))
  intro u3 w3 h3 hg3
  have U3 := hid h3
  have B3 := hid (Sh.below_grow B.out B.out.size U.out hg3)
  clear h3 hg3
  go_wp2
  go_ret
  exact ⟨_, rfl, U3.out, B3.out⟩
set_option maxHeartbeats 2000000 in
theorem rof512 (n m : Nat) (v v2 : Value) (g f : Nat → Int) (w : World) (hr : By.RB w v n g) (hr2 : By.RB w v2 m f) (hn : n ≤ 140737488353328) (hmm : m ≤ 140737488352328) :
    Calls Tryz.prog 57 #[.int .u8 2, v, v2] w fun e w' => ∃ u, e = .returned u ∧ By.Own w' w.heap.size u 64 (hm true (kb true n g) m f) ∧ Below w.heap.size w w' := by
  have HR := hid hr
  have HR2 := hid hr2
  clear hr hr2
  go_enter Tryz.func57, Tryz.ntmps57
  go_wp2_with fail
  refine (rkeyed512 n v g 92 w HR.out hn).mono ?_
  rintro e w1 ⟨u, rfl, hu, hb⟩
  have U := hid hu
  have B := hid hb
  clear hu hb
  have HC := hid (rinner512 n m v v2 g f w1 (HR.out.below B.out) (HR2.out.below B.out) hn (by omega))
  go_wp2_with fail
  refine HC.out.mono ?_
  rintro e w2 ⟨u2, rfl, hu2, hb2⟩
  have U2 := hid hu2.reads
  have B2 := hid (below_next B.out hb2)
  have V2 := hid (own_below U.out hb2)
  clear hu2 hb2 HC U B HR HR2
  have HC := hid (rdigest512 (128 + m) u2 _ w2 U2.out (by omega))
  go_wp2_with fail
  refine HC.out.mono ?_
  rintro e w3 ⟨u3, rfl, hu3, hb3⟩
  have U3 := hid hu3.reads
  have B3 := hid (below_next B2.out hb3)
  have V3 := hid (own_below V2.out hb3)
  clear hu3 hb3 HC U2 B2 V2
  go_wp2_with (at_builtin; go_must (refine Sg.wpList_cat rfl _ _ rfl w.heap.size 128 64 _ _ (msk 92 (kb true n g)) (dig true (128 + m) (inr true (kb true n g) f)) rfl V3.out rfl U3.out (by omega) B3.out.size ?_))
  intro u4 w4 h4 hg4
  have U4 := hid h4.reads
  have B4 := hid (Sh.below_grow B3.out B3.out.size V3.out hg4)
  clear h4 hg4 U3 V3 B3
  have HC := hid (rdigest512 (128 + 64) u4 _ w4 U4.out (by omega))
  go_wp2_with fail
  refine HC.out.mono ?_
  rintro e w5 ⟨u5, rfl, hu5, hb5⟩
  have R := hid (Sg.own_mono hu5 B4.out.size)
  have B5 := hid (below_next B4.out hb5)
  clear hu5 hb5 HC
  go_wp2
  go_ret
  exact ⟨u5, rfl, R.out, B5.out⟩
set_option maxRecDepth 8000 in
theorem rbegins512 (mb n : Nat) (rv : Value) (L : List Rn) (w : World) (h : RLed w mb rv L) (hn : n ≤ 140737488353328) (ht : tq L ≤ 2200000000000) :
    Calls Tryz.prog 34 #[.pointer (some ⟨mb, 0, none⟩), .int .u8 2, .int .i64 n] w fun e w' => e = .returned (.tuple #[]) ∧ RW w w' mb rv (kev true L n) := by
  have H := hid h
  have hp := h.pos
  have kt := keT true hp n hn (by omega)
  have hll := (last_le true n).1
  clear h hp
  by_cases hlong : 128 < n
  · have hlong' : (128 : Int) < n := by omega
    rw [ke_long true L n hlong] at kt
    have e0 : n / bk true = n / 128 := rfl
    rw [e0] at kt
    obtain ⟨l, hl⟩ : ∃ l, last true n = l := ⟨_, rfl⟩
    obtain ⟨N, hN⟩ : ∃ N, n / 128 + l = N := ⟨_, rfl⟩
    rw [hl] at kt hll
    rw [hN] at kt
    have hw : IntKind.i64.wrap (IntKind.i64.wrap ((n : Int) / 128) + (l : Int)) = (N : Int) := wrap_two n 128 l N (by omega) (by omega) hN
    have RL := hid (fun w => rlast512 n w hn)
    rw [hl] at RL
    have hN2 : N ≤ 2300000000000 := by omega
    have EN := hid (show ke true L n = evs true L N by rw [ke_long true L n hlong, ← hN, ← hl]; rfl)
    clear hN hl e0
    go_enter Tryz.func34, Tryz.ntmps34
    go_wp2_with fail
    refine (rblock512 _).mono ?_
    rintro e w1 ⟨rfl, hw1⟩
    subst w1
    go_upto_region 1 with fail
    go_region_held3 (fun _ => True) (trivial) (first
      | (go_at_call 33; go_must (refine (rblock512 _).mono ?_; rintro e w1 ⟨rfl, hw1⟩; subst w1))
      | (go_at_call 42; go_must (refine (RL.out _).mono ?_; rintro e w1 ⟨rfl, hw1⟩; subst w1))
      | (go_at_call 41; go_must (refine (rblocks512 mb N rv L _ (H.out.below (below_drewN w 1)) hN2 (by omega)).mono ?_; rintro e w2 ⟨rfl, h2⟩; have R2 := hid (RW.start (below_drewN w 1) h2); clear h2)))
    obtain ⟨⟨rv2, h2, s2⟩, k2⟩ := R2.out
    have H2 := hid h2
    have K2 := hid k2
    have S2 := hid s2
    clear h2 k2 s2 R2
    go_wp2_with fail
    refine (rblocks512 mb 2 rv2 _ _ H2.out (by omega) (by omega)).mono ?_
    rintro e w3 ⟨rfl, h3⟩
    have R := hid (RW.trans K2.out S2.out h3)
    clear h3
    go_wp2
    go_end0
    refine ⟨rfl, ?_⟩
    unfold kev
    rw [EN.out]
    exact R.out
  · have hlong' : ¬ (128 : Int) < n := by omega
    go_enter Tryz.func34, Tryz.ntmps34
    go_wp2_with fail
    refine (rblock512 _).mono ?_
    rintro e w1 ⟨rfl, hw1⟩
    subst w1
    go_wp2_with fail
    refine (rblocks512 mb 2 rv L _ H.out (by omega) (by omega)).mono ?_
    rintro e w3 ⟨rfl, h3⟩
    have R := hid h3
    clear h3
    go_wp2
    go_end0
    refine ⟨rfl, ?_⟩
    unfold kev
    rw [ke_short true L n hlong]
    exact R.out
theorem rends512 (mb n : Nat) (rv : Value) (L : List Rn) (w : World) (h : RLed w mb rv L) (hn : n ≤ 140737488353328) (ht : tq L ≤ 4400000000000) :
    Calls Tryz.prog 56 #[.pointer (some ⟨mb, 0, none⟩), .int .u8 2, .int .i64 n] w fun e w' => e = .returned (.tuple #[]) ∧ RW w w' mb rv (sev true L n) := by
  have H := hid h
  have hll := (last_le true n).1
  obtain ⟨l, hl⟩ : ∃ l, last true n = l := ⟨_, rfl⟩
  rw [hl] at hll
  have RL := hid (fun w => rlast512 n w hn)
  rw [hl] at RL
  obtain ⟨N, hN⟩ : ∃ N, l + 1 = N := ⟨_, rfl⟩
  have hw : IntKind.i64.wrap ((l : Int) + 1) = (N : Int) := by rw [IntKind.wrap_i64]; omega
  have hw2 : ((l : Int) + 1) = (N : Int) := by omega
  have ES := hid (show sev true L n = evs true L N by rw [← hN, ← hl]; rfl)
  clear h hl hN
  go_enter Tryz.func56, Tryz.ntmps56
  go_wp2_with fail
  refine (RL.out _).mono ?_
  rintro e w1 ⟨rfl, hw1⟩
  subst w1
  go_wp2_with fail
  refine (rblocks512 mb N rv L _ H.out (by omega) (by omega)).mono ?_
  rintro e w3 ⟨rfl, h3⟩
  have R := hid h3
  clear h3
  go_wp2
  go_end0
  rw [ES.out]
  exact ⟨rfl, R.out⟩
end Go.Proofs.YtjhhnajgfngbhaaGreatDoor.Dg
