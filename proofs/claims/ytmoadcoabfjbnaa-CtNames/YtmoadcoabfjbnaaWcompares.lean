/- The statement's walk: of any two lists Equal, Less and IsZero answer as the document does, with a ledger and without one; what was handed in stays. -/
import Derived.Test.YtmoadcoabfjbnaaCst
namespace Go.Proofs.Ytmoadcoabfjbnaa
open Go.ChangeShapes Go.WideShapes Go.ChangeAt Go.RowKit

/-- Both ledgers' runs are the same. -/
theorem same_runs {W : World} {v v' : Value} {L : List Rn} (hv : RB W v L) (hv' : RB W v' L) (hL : L.length < 1000000000000000000) : Calls Try.prog 18 #[v, v'] W fun e w' => e = .returned (.bool true) ∧ ∃ d, w' = W.drewN d := by
  refine (same14 v v' L L W hv hv' hL hL).mono ?_
  rintro e w' ⟨rfl, h⟩
  exact ⟨by rw [decide_eq_true rfl], h⟩

set_option maxRecDepth 100000 in
set_option maxHeartbeats 4000000 in
theorem compares_same (a0 a1 : Option Addr) (n cap0 cap1 : Nat) (f g : Nat → Int) (w : World) (w0 : By.RB w (.slice a0 n cap0) n f) (w1 : By.RB w (.slice a1 n cap1) n g) (q0 : n ≤ 140737488351232) :
    Calls Try.prog 3 #[.slice a0 n cap0, .slice a1 n cap1] w fun e w' => e = .returned (.bool true) ∧ Below w.heap.size w w' := by
  have HP := hid w0
  have HQ := hid w1
  clear w0 w1
  go_enter Try.func3, Try.ntmps3
  go_wp2_with fail
  refine (new9 w).mono ?_
  rintro e W1 ⟨rfl, hl, hb⟩
  have L1 := hid hl
  have B1 := hid hb
  clear hl hb
  go_wp2_with fail
  refine (refNew10 W1).mono ?_
  rintro e W2 ⟨rfl, hl, hb⟩
  have ST := hid (St.start L1.out B1.out hl hb)
  clear hl hb L1 B1
  go_wp2_with fail
  refine (By.lent14 _ n f W2 (HP.out.below ST.out.bel) (by omega)).mono ?_
  rintro e W3 ⟨v1, rfl, ho, hb⟩
  have O1 := hid ho
  have S3 := hid (Nat.le_trans ST.out.bel.size (Nat.le_refl _))
  replace ST := hid (ST.out.below hb)
  clear ho hb
  go_wp2_with fail
  refine (By.lent14 _ n g W3 (HQ.out.below ST.out.bel) (by omega)).mono ?_
  rintro e W4 ⟨v2, rfl, ho, hb⟩
  have A12 := hid (By.own_apart O1.out (Nat.le_refl _) ho)
  have S4 := hid ST.out.bel.size
  have O2 := hid ho
  replace O1 := hid (By.own_below O1.out hb)
  replace ST := hid (ST.out.below hb)
  clear ho hb
  obtain ⟨g1, c1, hv1, hg1, hc1⟩ : ∃ g cap, v1 = .slice (some ⟨g, 0, none⟩) (n + 6) cap ∧ w.heap.size ≤ g ∧ n + 6 ≤ cap := by
    rcases O1.out.shape with ⟨_, h⟩ | ⟨g, cap, h, h1, h2, h3, _⟩
    · omega
    · exact ⟨g, cap, h, Nat.le_trans S3.out h1, h3⟩
  obtain ⟨g2, c2, hv2, hg2, hc2⟩ : ∃ g cap, v2 = .slice (some ⟨g, 0, none⟩) (n + 6) cap ∧ w.heap.size ≤ g ∧ n + 6 ≤ cap := by
    rcases O2.out.shape with ⟨_, h⟩ | ⟨g, cap, h, h1, h2, h3, _⟩
    · omega
    · exact ⟨g, cap, h, Nat.le_trans S4.out h1, h3⟩
  subst hv1 hv2
  have i1 : (n : Int) ≤ c1 := by omega
  have i2 : (n : Int) ≤ c2 := by omega
  go_wp2
  go_quiet (fail)
  replace ST := hid (ST.out.drewN nq)
  replace O1 := hid (By.own_drewN O1.out nq)
  replace O2 := hid (By.own_drewN O2.out nq)
  go_wp2_with fail
  refine (By.equal12 _ _ _ n f g _ _ (ST.out.notes 6 n (by omega) (by omega) (by omega)) ⟨_, _, rfl⟩ ⟨_, _, rfl⟩ (fun w' h => h.elim fun _ h => By.rb_lent (own_kb O1.out h.2) HP.out.1) (fun w' h => h.elim fun _ h => By.rb_lent (own_kb O2.out h.2) HQ.out.1) (by omega)).mono ?_
  rintro e W5 ⟨rfl, w5, d5, ⟨r5, hs, hk⟩, rfl⟩
  replace ST := hid (hs.drewN d5)
  replace O1 := hid (By.own_drewN (own_kb O1.out hk) d5)
  replace O2 := hid (By.own_drewN (own_kb O2.out hk) d5)
  clear hs hk
  go_wp2_with fail
  refine (By.refEqual13 _ _ _ n f g _ _ (ST.out.rnotes 6 n (by omega) (by omega) (by omega)) ⟨_, _, rfl⟩ ⟨_, _, rfl⟩ (fun w' h => h.elim fun _ h => HP.out.below h.1.bel) (fun w' h => h.elim fun _ h => HQ.out.below h.1.bel)).mono ?_
  rintro e W6 ⟨rfl, ⟨r6, hs, hk⟩⟩
  replace ST := hid (hs)
  replace O1 := hid (own_kb O1.out hk)
  replace O2 := hid (own_kb O2.out hk)
  clear hs hk
  go_wp2_with fail
  refine (By.equal12 _ _ _ n f g _ _ (note39n 6 n _) ⟨_, _, rfl⟩ ⟨_, _, rfl⟩ (fun w' h => By.rb_lent (By.own_below O1.out h) HP.out.1) (fun w' h => By.rb_lent (By.own_below O2.out h) HQ.out.1) (by omega)).mono ?_
  rintro e W7 ⟨rfl, w7, d7, hb, rfl⟩
  replace ST := hid ((ST.out.below hb).drewN d7)
  replace O1 := hid (By.own_drewN (By.own_below O1.out hb) d7)
  replace O2 := hid (By.own_drewN (By.own_below O2.out hb) d7)
  clear hb
  go_wp2_with fail
  refine (By.less14 _ _ _ n f g _ _ (ST.out.notes 6 n (by omega) (by omega) (by omega)) ⟨_, _, rfl⟩ ⟨_, _, rfl⟩ (fun w' h => h.elim fun _ h => By.rb_lent (own_kb O1.out h.2) HP.out.1) (fun w' h => h.elim fun _ h => By.rb_lent (own_kb O2.out h.2) HQ.out.1) (by omega)).mono ?_
  rintro e W8 ⟨rfl, w8, d8, ⟨r8, hs, hk⟩, rfl⟩
  replace ST := hid (hs.drewN d8)
  replace O1 := hid (By.own_drewN (own_kb O1.out hk) d8)
  replace O2 := hid (By.own_drewN (own_kb O2.out hk) d8)
  clear hs hk
  go_wp2_with fail
  refine (By.refLess15 _ _ _ n f g _ _ (ST.out.rnotes 6 n (by omega) (by omega) (by omega)) ⟨_, _, rfl⟩ ⟨_, _, rfl⟩ (fun w' h => h.elim fun _ h => HP.out.below h.1.bel) (fun w' h => h.elim fun _ h => HQ.out.below h.1.bel) (by omega)).mono ?_
  rintro e W9 ⟨rfl, w9, d9, ⟨r9, hs, hk⟩, rfl⟩
  replace ST := hid (hs.drewN d9)
  replace O1 := hid (By.own_drewN (own_kb O1.out hk) d9)
  replace O2 := hid (By.own_drewN (own_kb O2.out hk) d9)
  clear hs hk
  go_wp2_with fail
  refine (By.less14 _ _ _ n f g _ _ (note39n 6 n _) ⟨_, _, rfl⟩ ⟨_, _, rfl⟩ (fun w' h => By.rb_lent (By.own_below O1.out h) HP.out.1) (fun w' h => By.rb_lent (By.own_below O2.out h) HQ.out.1) (by omega)).mono ?_
  rintro e W10 ⟨rfl, w10, d10, hb, rfl⟩
  replace ST := hid ((ST.out.below hb).drewN d10)
  replace O1 := hid (By.own_drewN (By.own_below O1.out hb) d10)
  replace O2 := hid (By.own_drewN (By.own_below O2.out hb) d10)
  clear hb
  go_wp2_with fail
  refine (By.zero16 _ _ n f _ _ (ST.out.notes 6 n (by omega) (by omega) (by omega)) ⟨_, _, rfl⟩ (fun w' h => h.elim fun _ h => By.rb_lent (own_kb O1.out h.2) HP.out.1) (by omega)).mono ?_
  rintro e W11 ⟨rfl, ⟨r11, hs, hk⟩⟩
  replace ST := hid (hs)
  replace O1 := hid (own_kb O1.out hk)
  replace O2 := hid (own_kb O2.out hk)
  clear hs hk
  go_wp2_with fail
  refine (By.refZero17 _ _ n f _ _ (ST.out.rnotes 6 n (by omega) (by omega) (by omega)) ⟨_, _, rfl⟩ (fun w' h => h.elim fun _ h => HP.out.below h.1.bel) (by omega)).mono ?_
  rintro e W12 ⟨rfl, ⟨r12, hs, hk⟩⟩
  replace ST := hid (hs)
  replace O1 := hid (own_kb O1.out hk)
  replace O2 := hid (own_kb O2.out hk)
  clear hs hk
  go_wp2_with fail
  refine (By.zero16 _ _ n f _ _ (note39n 6 n _) ⟨_, _, rfl⟩ (fun w' h => By.rb_lent (By.own_below O1.out h) HP.out.1) (by omega)).mono ?_
  rintro e W13 ⟨rfl, hb⟩
  replace ST := hid (ST.out.below hb)
  replace O1 := hid (By.own_below O1.out hb)
  replace O2 := hid (By.own_below O2.out hb)
  clear hb
  go_wp2_with fail
  refine (By.zero16 _ _ n g _ _ (ST.out.notes 6 n (by omega) (by omega) (by omega)) ⟨_, _, rfl⟩ (fun w' h => h.elim fun _ h => By.rb_lent (own_kb O2.out h.2) HQ.out.1) (by omega)).mono ?_
  rintro e W14 ⟨rfl, ⟨r14, hs, hk⟩⟩
  replace ST := hid (hs)
  replace O1 := hid (own_kb O1.out hk)
  replace O2 := hid (own_kb O2.out hk)
  clear hs hk
  go_wp2_with fail
  refine (By.refZero17 _ _ n g _ _ (ST.out.rnotes 6 n (by omega) (by omega) (by omega)) ⟨_, _, rfl⟩ (fun w' h => h.elim fun _ h => HQ.out.below h.1.bel) (by omega)).mono ?_
  rintro e W15 ⟨rfl, ⟨r15, hs, hk⟩⟩
  replace ST := hid (hs)
  replace O1 := hid (own_kb O1.out hk)
  replace O2 := hid (own_kb O2.out hk)
  clear hs hk
  go_wp2_with fail
  refine (ST.out.runs (by omega)).mono ?_
  rintro e W16 ⟨rl1, rfl, hr, hb⟩
  have R1 := hid hr
  replace ST := hid (ST.out.below hb)
  replace O1 := hid (By.own_below O1.out hb)
  replace O2 := hid (By.own_below O2.out hb)
  clear hr hb
  go_wp2_with fail
  refine (ST.out.rruns (by omega)).mono ?_
  rintro e W17 ⟨rl2, rfl, hr, hb⟩
  replace R1 := hid (R1.out.below hb)
  have R2 := hid hr
  replace ST := hid (ST.out.below hb)
  replace O1 := hid (By.own_below O1.out hb)
  replace O2 := hid (By.own_below O2.out hb)
  clear hr hb
  go_wp2_with fail
  refine (same_runs R1.out R2.out (few_len ST.out.led (by rw [ST.out.ti]; omega))).mono ?_
  rintro e W18 ⟨rfl, d18, rfl⟩
  replace ST := hid (ST.out.drewN d18)
  replace O1 := hid (By.own_drewN O1.out d18)
  replace O2 := hid (By.own_drewN O2.out d18)
  clear R1 R2
  go_wp2_with fail
  refine (By.kept17 _ _ n f _ O1.out.reads (HP.out.below ST.out.bel) (by omega)).mono ?_
  rintro e W19 ⟨rfl, hb⟩
  replace ST := hid (ST.out.below hb)
  replace O1 := hid (By.own_below O1.out hb)
  replace O2 := hid (By.own_below O2.out hb)
  clear hb
  go_wp2_with fail
  refine (By.kept17 _ _ n g _ O2.out.reads (HQ.out.below ST.out.bel) (by omega)).mono ?_
  rintro e W20 ⟨rfl, hb⟩
  replace ST := hid (ST.out.below hb)
  replace O1 := hid (By.own_below O1.out hb)
  replace O2 := hid (By.own_below O2.out hb)
  clear hb
  go_wp2
  go_ret
  exact ⟨rfl, ST.out.bel⟩
set_option maxRecDepth 100000 in
set_option maxHeartbeats 4000000 in
theorem compares_apart (a0 a1 : Option Addr) (n m cap0 cap1 : Nat) (f g : Nat → Int) (w : World) (w0 : By.RB w (.slice a0 n cap0) n f) (w1 : By.RB w (.slice a1 m cap1) m g) (q0 : n ≤ 140737488351232) (q1 : m ≤ 140737488351232) (hnm : n ≠ m) :
    Calls Try.prog 3 #[.slice a0 n cap0, .slice a1 m cap1] w fun e w' => e = .returned (.bool true) ∧ Below w.heap.size w w' := by
  have HP := hid w0
  have HQ := hid w1
  clear w0 w1
  go_enter Try.func3, Try.ntmps3
  go_wp2_with fail
  refine (new9 w).mono ?_
  rintro e W1 ⟨rfl, hl, hb⟩
  have L1 := hid hl
  have B1 := hid hb
  clear hl hb
  go_wp2_with fail
  refine (refNew10 W1).mono ?_
  rintro e W2 ⟨rfl, hl, hb⟩
  have ST := hid (St.start L1.out B1.out hl hb)
  clear hl hb L1 B1
  go_wp2_with fail
  refine (By.lent14 _ n f W2 (HP.out.below ST.out.bel) (by omega)).mono ?_
  rintro e W3 ⟨v1, rfl, ho, hb⟩
  have O1 := hid ho
  have S3 := hid (Nat.le_trans ST.out.bel.size (Nat.le_refl _))
  replace ST := hid (ST.out.below hb)
  clear ho hb
  go_wp2_with fail
  refine (By.lent14 _ m g W3 (HQ.out.below ST.out.bel) (by omega)).mono ?_
  rintro e W4 ⟨v2, rfl, ho, hb⟩
  have A12 := hid (By.own_apart O1.out (Nat.le_refl _) ho)
  have S4 := hid ST.out.bel.size
  have O2 := hid ho
  replace O1 := hid (By.own_below O1.out hb)
  replace ST := hid (ST.out.below hb)
  clear ho hb
  obtain ⟨g1, c1, hv1, hg1, hc1⟩ : ∃ g cap, v1 = .slice (some ⟨g, 0, none⟩) (n + 6) cap ∧ w.heap.size ≤ g ∧ n + 6 ≤ cap := by
    rcases O1.out.shape with ⟨_, h⟩ | ⟨g, cap, h, h1, h2, h3, _⟩
    · omega
    · exact ⟨g, cap, h, Nat.le_trans S3.out h1, h3⟩
  obtain ⟨g2, c2, hv2, hg2, hc2⟩ : ∃ g cap, v2 = .slice (some ⟨g, 0, none⟩) (m + 6) cap ∧ w.heap.size ≤ g ∧ m + 6 ≤ cap := by
    rcases O2.out.shape with ⟨_, h⟩ | ⟨g, cap, h, h1, h2, h3, _⟩
    · omega
    · exact ⟨g, cap, h, Nat.le_trans S4.out h1, h3⟩
  subst hv1 hv2
  have i1 : (n : Int) ≤ c1 := by omega
  have i2 : (m : Int) ≤ c2 := by omega
  go_wp2
  go_quiet (fail)
  replace ST := hid (ST.out.drewN nq)
  replace O1 := hid (By.own_drewN O1.out nq)
  replace O2 := hid (By.own_drewN O2.out nq)
  go_wp2_with fail
  refine (By.equal12x _ _ _ n m _ ⟨_, _, rfl⟩ ⟨_, _, rfl⟩ hnm).mono ?_
  rintro e W5 ⟨rfl, h⟩
  subst h
  go_wp2_with fail
  refine (By.refEqual13x _ _ _ n m _ ⟨_, _, rfl⟩ ⟨_, _, rfl⟩ hnm).mono ?_
  rintro e W6 ⟨rfl, h⟩
  subst h
  go_wp2_with fail
  refine (By.equal12x _ _ _ n m _ ⟨_, _, rfl⟩ ⟨_, _, rfl⟩ hnm).mono ?_
  rintro e W7 ⟨rfl, h⟩
  subst h
  go_wp2_with fail
  refine (By.less14x _ _ _ n m _ ⟨_, _, rfl⟩ ⟨_, _, rfl⟩ hnm).mono ?_
  rintro e W8 ⟨rfl, h⟩
  subst h
  go_wp2_with fail
  refine (By.refLess15x _ _ _ n m _ ⟨_, _, rfl⟩ ⟨_, _, rfl⟩ hnm).mono ?_
  rintro e W9 ⟨rfl, h⟩
  subst h
  go_wp2_with fail
  refine (By.less14x _ _ _ n m _ ⟨_, _, rfl⟩ ⟨_, _, rfl⟩ hnm).mono ?_
  rintro e W10 ⟨rfl, h⟩
  subst h
  go_wp2_with fail
  refine (By.zero16 _ _ n f _ _ (ST.out.notes 6 n (by omega) (by omega) (by omega)) ⟨_, _, rfl⟩ (fun w' h => h.elim fun _ h => By.rb_lent (own_kb O1.out h.2) HP.out.1) (by omega)).mono ?_
  rintro e W11 ⟨rfl, ⟨r11, hs, hk⟩⟩
  replace ST := hid (hs)
  replace O1 := hid (own_kb O1.out hk)
  replace O2 := hid (own_kb O2.out hk)
  clear hs hk
  go_wp2_with fail
  refine (By.refZero17 _ _ n f _ _ (ST.out.rnotes 6 n (by omega) (by omega) (by omega)) ⟨_, _, rfl⟩ (fun w' h => h.elim fun _ h => HP.out.below h.1.bel) (by omega)).mono ?_
  rintro e W12 ⟨rfl, ⟨r12, hs, hk⟩⟩
  replace ST := hid (hs)
  replace O1 := hid (own_kb O1.out hk)
  replace O2 := hid (own_kb O2.out hk)
  clear hs hk
  go_wp2_with fail
  refine (By.zero16 _ _ n f _ _ (note39n 6 n _) ⟨_, _, rfl⟩ (fun w' h => By.rb_lent (By.own_below O1.out h) HP.out.1) (by omega)).mono ?_
  rintro e W13 ⟨rfl, hb⟩
  replace ST := hid (ST.out.below hb)
  replace O1 := hid (By.own_below O1.out hb)
  replace O2 := hid (By.own_below O2.out hb)
  clear hb
  go_wp2_with fail
  refine (By.zero16 _ _ m g _ _ (ST.out.notes 6 m (by omega) (by omega) (by omega)) ⟨_, _, rfl⟩ (fun w' h => h.elim fun _ h => By.rb_lent (own_kb O2.out h.2) HQ.out.1) (by omega)).mono ?_
  rintro e W14 ⟨rfl, ⟨r14, hs, hk⟩⟩
  replace ST := hid (hs)
  replace O1 := hid (own_kb O1.out hk)
  replace O2 := hid (own_kb O2.out hk)
  clear hs hk
  go_wp2_with fail
  refine (By.refZero17 _ _ m g _ _ (ST.out.rnotes 6 m (by omega) (by omega) (by omega)) ⟨_, _, rfl⟩ (fun w' h => h.elim fun _ h => HQ.out.below h.1.bel) (by omega)).mono ?_
  rintro e W15 ⟨rfl, ⟨r15, hs, hk⟩⟩
  replace ST := hid (hs)
  replace O1 := hid (own_kb O1.out hk)
  replace O2 := hid (own_kb O2.out hk)
  clear hs hk
  go_wp2_with fail
  refine (ST.out.runs (by omega)).mono ?_
  rintro e W16 ⟨rl1, rfl, hr, hb⟩
  have R1 := hid hr
  replace ST := hid (ST.out.below hb)
  replace O1 := hid (By.own_below O1.out hb)
  replace O2 := hid (By.own_below O2.out hb)
  clear hr hb
  go_wp2_with fail
  refine (ST.out.rruns (by omega)).mono ?_
  rintro e W17 ⟨rl2, rfl, hr, hb⟩
  replace R1 := hid (R1.out.below hb)
  have R2 := hid hr
  replace ST := hid (ST.out.below hb)
  replace O1 := hid (By.own_below O1.out hb)
  replace O2 := hid (By.own_below O2.out hb)
  clear hr hb
  go_wp2_with fail
  refine (same_runs R1.out R2.out (few_len ST.out.led (by rw [ST.out.ti]; omega))).mono ?_
  rintro e W18 ⟨rfl, d18, rfl⟩
  replace ST := hid (ST.out.drewN d18)
  replace O1 := hid (By.own_drewN O1.out d18)
  replace O2 := hid (By.own_drewN O2.out d18)
  clear R1 R2
  go_wp2_with fail
  refine (By.kept17 _ _ n f _ O1.out.reads (HP.out.below ST.out.bel) (by omega)).mono ?_
  rintro e W19 ⟨rfl, hb⟩
  replace ST := hid (ST.out.below hb)
  replace O1 := hid (By.own_below O1.out hb)
  replace O2 := hid (By.own_below O2.out hb)
  clear hb
  go_wp2_with fail
  refine (By.kept17 _ _ m g _ O2.out.reads (HQ.out.below ST.out.bel) (by omega)).mono ?_
  rintro e W20 ⟨rfl, hb⟩
  replace ST := hid (ST.out.below hb)
  replace O1 := hid (By.own_below O1.out hb)
  replace O2 := hid (By.own_below O2.out hb)
  clear hb
  go_wp2
  go_ret
  exact ⟨rfl, ST.out.bel⟩
theorem compares (a0 a1 : Option Addr) (n m cap0 cap1 : Nat) (f g : Nat → Int) (w : World) (w0 : By.RB w (.slice a0 n cap0) n f) (w1 : By.RB w (.slice a1 m cap1) m g) (q0 : n ≤ 140737488351232) (q1 : m ≤ 140737488351232) :
    Calls Try.prog 3 #[.slice a0 n cap0, .slice a1 m cap1] w fun e w' => e = .returned (.bool true) ∧ Below w.heap.size w w' := by
  by_cases h : n = m
  · subst h; exact compares_same a0 a1 n cap0 cap1 f g w w0 w1 q0
  · exact compares_apart a0 a1 n m cap0 cap1 f g w w0 w1 q0 q1 h
end Go.Proofs.Ytmoadcoabfjbnaa
