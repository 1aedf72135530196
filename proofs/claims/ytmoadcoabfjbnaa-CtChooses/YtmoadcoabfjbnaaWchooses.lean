/- The statement's walk: of any two lists Choose answers as the document does, with a ledger and without one; each answer is new memory; what was handed in stays, and may be written over; Mask. -/
import Derived.Test.YtmoadcoabfjbnaaWcompares
namespace Go.Proofs.Ytmoadcoabfjbnaa
open Go.ChangeShapes Go.WideShapes Go.ChangeAt Go.RowKit

theorem St.drew {w0 W : World} {b c : Nat} {rv ru : Value} {L M : List Rn} {i j : Int} (h : St w0 W b rv L i c ru M j) : St w0 W.drew b rv L i c ru M j := h.below (Below.refl _ _).drew
theorem own_drew {w : World} {base : Nat} {v : Value} {n : Nat} {f : Nat → Int} (h : By.Own w base v n f) : By.Own w.drew base v n f := By.own_below h (Below.refl _ _).drew

set_option maxRecDepth 100000 in
set_option maxHeartbeats 4000000 in
theorem chooses_same (y : Bool) (a0 a1 : Option Addr) (n cap0 cap1 : Nat) (f g : Nat → Int) (w : World) (w0 : By.RB w (.slice a0 n cap0) n f) (w1 : By.RB w (.slice a1 n cap1) n g) (q0 : n ≤ 140737488351232) :
    Calls Try.prog 4 #[.bool y, .slice a0 n cap0, .slice a1 n cap1] w fun e w' => e = .returned (.bool true) ∧ Below w.heap.size w w' := by
  have HP := hid w0
  have HQ := hid w1
  clear w0 w1
  go_enter Try.func4, Try.ntmps4
  go_wp2_with fail
  refine (new9 w).mono ?_
  rintro e W1 ⟨rfl, hl, hb⟩
  have L1 := hid hl
  have B1 := hid hb
  clear hl hb
  go_wp2_with fail
  refine (refNew10 W1).mono ?_
  rintro e W2 ⟨rfl, hl, hb⟩
  have ST := hid (St.start L1.out B1.out hl hb)
  clear hl hb L1 B1
  go_wp2_with fail
  refine (By.lent14 _ n f W2 (HP.out.below ST.out.bel) (by omega)).mono ?_
  rintro e W3 ⟨v1, rfl, ho, hb⟩
  have O1 := hid ho
  have S3 := hid (Nat.le_trans ST.out.bel.size (Nat.le_refl _))
  replace ST := hid (ST.out.below hb)
  clear ho hb
  go_wp2_with fail
  refine (By.lent14 _ n g W3 (HQ.out.below ST.out.bel) (by omega)).mono ?_
  rintro e W4 ⟨v2, rfl, ho, hb⟩
  have A12 := hid (By.own_apart O1.out (Nat.le_refl _) ho)
  have S4 := hid ST.out.bel.size
  have O2 := hid ho
  replace O1 := hid (By.own_below O1.out hb)
  replace ST := hid (ST.out.below hb)
  clear ho hb
  obtain ⟨g1, c1, hv1, hg1, hc1⟩ : ∃ g cap, v1 = .slice (some ⟨g, 0, none⟩) (n + 6) cap ∧ w.heap.size ≤ g ∧ n + 6 ≤ cap := by
    rcases O1.out.shape with ⟨_, h⟩ | ⟨g, cap, h, h1, h2, h3, _⟩
    · omega
    · exact ⟨g, cap, h, Nat.le_trans S3.out h1, h3⟩
  obtain ⟨g2, c2, hv2, hg2, hc2⟩ : ∃ g cap, v2 = .slice (some ⟨g, 0, none⟩) (n + 6) cap ∧ w.heap.size ≤ g ∧ n + 6 ≤ cap := by
    rcases O2.out.shape with ⟨_, h⟩ | ⟨g, cap, h, h1, h2, h3, _⟩
    · omega
    · exact ⟨g, cap, h, Nat.le_trans S4.out h1, h3⟩
  subst hv1 hv2
  have i1 : (n : Int) ≤ c1 := by omega
  have i2 : (n : Int) ≤ c2 := by omega
  go_wp2
  go_region_held3 (fun _ => True) (trivial) (first | (go_at_call 22; refine (By.choose22 _ _ _ y n f g _ _ (ST.out.drew.notes 7 n (by omega) (by omega) (by omega)) ⟨_, _, rfl⟩ ⟨_, _, rfl⟩ (fun w' h => h.elim fun _ h => By.rb_lent (own_kb (own_drew O1.out) h.2) HP.out.1) (fun w' h => h.elim fun _ h => By.rb_lent (own_kb (own_drew O2.out) h.2) HQ.out.1) (by omega)).mono ?_; rintro e W5 ⟨v3, rfl, w5, ⟨r5, hs, hk⟩, ho, hb⟩; obtain ⟨a3, d3, hv3⟩ := By.own_lit_slice ho; subst hv3; have S5 := hid hs.bel.size; have A13 := hid (By.own_apart (own_drew O1.out) hk.1 ho); have A23 := hid (By.own_apart (own_drew O2.out) hk.1 ho); have X3 := hid ho; replace ST := hid (hs.below hb); replace O1 := hid (By.own_below (own_kb (own_drew O1.out) hk) hb); replace O2 := hid (By.own_below (own_kb (own_drew O2.out) hk) hb); clear hs hk ho hb))
  go_wp2
  go_region_held3 (fun _ => True) (trivial) (first | (go_at_call 22; refine (By.choose22 _ _ _ y n f g _ _ (note39n 7 n _) ⟨_, _, rfl⟩ ⟨_, _, rfl⟩ (fun w' h => By.rb_lent (By.own_below (own_drew O1.out) h) HP.out.1) (fun w' h => By.rb_lent (By.own_below (own_drew O2.out) h) HQ.out.1) (by omega)).mono ?_; rintro e W6 ⟨v4, rfl, w6, hk, ho, hb⟩; obtain ⟨a4, d4, hv4⟩ := By.own_lit_slice ho; subst hv4; have S6 := hid ((ST.out.drew).below hk).bel.size; have A14 := hid (By.own_apart (own_drew O1.out) hk.size ho); have A24 := hid (By.own_apart (own_drew O2.out) hk.size ho); have A34 := hid (By.own_apart (own_drew X3.out) hk.size ho); have X4 := hid ho; replace ST := hid (((ST.out.drew).below hk).below hb); replace O1 := hid (By.own_below (By.own_below (own_drew O1.out) hk) hb); replace O2 := hid (By.own_below (By.own_below (own_drew O2.out) hk) hb); replace X3 := hid (By.own_below (By.own_below (own_drew X3.out) hk) hb); clear hk ho hb))
  go_wp2_with fail
  refine (By.refChoose23 _ _ _ y n f g _ _ (ST.out.rnotes 7 n (by omega) (by omega) (by omega)) ⟨_, _, rfl⟩ ⟨_, _, rfl⟩ (fun w' h => h.elim fun _ h => HP.out.below h.1.bel) (fun w' h => h.elim fun _ h => HQ.out.below h.1.bel) (by omega)).mono ?_
  rintro e W7 ⟨v5, rfl, w7, ⟨r7, hs, hk⟩, ho, hb⟩
  obtain ⟨a5, d5, hv5⟩ := By.own_lit_slice ho
  subst hv5
  have A15 := hid (By.own_apart O1.out hk.1 ho)
  have A25 := hid (By.own_apart O2.out hk.1 ho)
  have X5 := hid ho
  replace ST := hid (hs.below hb)
  replace O1 := hid (By.own_below (own_kb O1.out hk) hb)
  replace O2 := hid (By.own_below (own_kb O2.out hk) hb)
  replace X3 := hid (By.own_below (own_kb X3.out hk) hb)
  replace X4 := hid (By.own_below (own_kb X4.out hk) hb)
  clear hs hk ho hb
  go_wp2_with fail
  refine (By.kept17 _ _ n f _ O1.out.reads (HP.out.below ST.out.bel) (by omega)).mono ?_
  rintro e W8 ⟨rfl, hb⟩
  replace ST := hid (ST.out.below hb)
  replace O1 := hid (By.own_below O1.out hb)
  replace O2 := hid (By.own_below O2.out hb)
  replace X3 := hid (By.own_below X3.out hb)
  replace X4 := hid (By.own_below X4.out hb)
  replace X5 := hid (By.own_below X5.out hb)
  clear hb
  go_wp2_with fail
  refine (By.kept17 _ _ n g _ O2.out.reads (HQ.out.below ST.out.bel) (by omega)).mono ?_
  rintro e W9 ⟨rfl, hb⟩
  replace ST := hid (ST.out.below hb)
  replace O1 := hid (By.own_below O1.out hb)
  replace O2 := hid (By.own_below O2.out hb)
  replace X3 := hid (By.own_below X3.out hb)
  replace X4 := hid (By.own_below X4.out hb)
  replace X5 := hid (By.own_below X5.out hb)
  clear hb
  go_wp2_with fail
  refine (By.mask24 y _).mono ?_
  rintro e WM ⟨rfl, h⟩
  subst h
  go_wp2_with fail
  refine (By.refMask25 y _).mono ?_
  rintro e WM ⟨rfl, h⟩
  subst h
  go_wp2_with fail
  refine (By.over18 g1 c1 (n + 6) _ (By.lent n f) _ O1.out (by omega)).mono ?_
  rintro e W10 ⟨rfl, ho, hg⟩
  replace ST := hid (ST.out.wrote hg (own_cellsB O1.out) hg1)
  replace O2 := hid (By.own_kept O2.out hg (By.apart_symm A12.out))
  replace X3 := hid (By.own_kept X3.out hg (By.apart_symm A13.out))
  replace X4 := hid (By.own_kept X4.out hg (By.apart_symm A14.out))
  replace X5 := hid (By.own_kept X5.out hg (By.apart_symm A15.out))
  replace O1 := hid ho
  clear ho hg
  go_wp2_with fail
  refine (By.over18 g2 c2 (n + 6) _ (By.lent n g) _ O2.out (by omega)).mono ?_
  rintro e W11 ⟨rfl, ho, hg⟩
  replace ST := hid (ST.out.wrote hg (own_cellsB O2.out) hg2)
  replace O1 := hid (By.own_kept O1.out hg A12.out)
  replace X3 := hid (By.own_kept X3.out hg (By.apart_symm A23.out))
  replace X4 := hid (By.own_kept X4.out hg (By.apart_symm A24.out))
  replace X5 := hid (By.own_kept X5.out hg (By.apart_symm A25.out))
  replace O2 := hid ho
  clear ho hg
  go_wp2_with fail
  refine (By.same_true _ _ n _ _ _ X3.out.reads X5.out.reads (by omega) (fun _ _ => rfl)).mono ?_
  rintro e Wx ⟨rfl, d12, rfl⟩
  go_wp2_with fail
  refine (By.same_true _ _ n _ _ _ (By.RB.drewN X4.out.reads _) (By.RB.drewN X5.out.reads _) (by omega) (fun _ _ => rfl)).mono ?_
  rintro e Wx ⟨rfl, d13, rfl⟩
  replace ST := hid (ST.out.drewN (d12 + d13))
  replace O1 := hid (By.own_drewN O1.out (d12 + d13))
  replace O2 := hid (By.own_drewN O2.out (d12 + d13))
  replace X3 := hid (By.own_drewN X3.out (d12 + d13))
  replace X4 := hid (By.own_drewN X4.out (d12 + d13))
  replace X5 := hid (By.own_drewN X5.out (d12 + d13))
  go_wp2_with fail
  refine (ST.out.runs (by omega)).mono ?_
  rintro e W14 ⟨rl1, rfl, hr, hb⟩
  have R1 := hid hr
  replace ST := hid (ST.out.below hb)
  replace O1 := hid (By.own_below O1.out hb)
  replace O2 := hid (By.own_below O2.out hb)
  replace X3 := hid (By.own_below X3.out hb)
  replace X4 := hid (By.own_below X4.out hb)
  replace X5 := hid (By.own_below X5.out hb)
  clear hr hb
  go_wp2_with fail
  refine (ST.out.rruns (by omega)).mono ?_
  rintro e W15 ⟨rl2, rfl, hr, hb⟩
  replace R1 := hid (R1.out.below hb)
  have R2 := hid hr
  replace ST := hid (ST.out.below hb)
  replace O1 := hid (By.own_below O1.out hb)
  replace O2 := hid (By.own_below O2.out hb)
  replace X3 := hid (By.own_below X3.out hb)
  replace X4 := hid (By.own_below X4.out hb)
  replace X5 := hid (By.own_below X5.out hb)
  clear hr hb
  go_wp2_with fail
  refine (same_runs R1.out R2.out (few_len ST.out.led (by rw [ST.out.ti]; omega))).mono ?_
  rintro e W16 ⟨rfl, d16, rfl⟩
  replace ST := hid (ST.out.drewN d16)
  replace O1 := hid (By.own_drewN O1.out d16)
  replace O2 := hid (By.own_drewN O2.out d16)
  replace X3 := hid (By.own_drewN X3.out d16)
  replace X4 := hid (By.own_drewN X4.out d16)
  replace X5 := hid (By.own_drewN X5.out d16)
  clear R1 R2
  go_wp2_with fail
  obtain ⟨WL, hWL⟩ : ∃ x, x = W15.drewN d16 := ⟨_, rfl⟩
  rw [← hWL] at ST O1 O2 X3 X4
  have hsz : w.heap.size ≤ WL.heap.size := ST.out.bel.size
  have hO : ∀ j, j < 4 → By.Own WL w.heap.size (By.lv [.slice (some ⟨g1, 0, none⟩) (n + 6) c1, .slice (some ⟨g2, 0, none⟩) (n + 6) c2, .slice a3 n d3, .slice a4 n d4] j) ((fun j => if j = 0 then n + 6 else if j = 1 then n + 6 else n) j) ((fun j => if j < 2 then By.over else (By.sel y f g)) j) := by
    intro j hj
    rcases (show j = 0 ∨ j = 1 ∨ j = 2 ∨ j = 3 by omega) with rfl | rfl | rfl | rfl
    · exact By.own_base O1.out S3.out
    · exact By.own_base O2.out S4.out
    · exact By.own_base X3.out S5.out
    · exact By.own_base X4.out S6.out
  have hAP : By.AP 4 WL.heap.size (By.lv [.slice (some ⟨g1, 0, none⟩) (n + 6) c1, .slice (some ⟨g2, 0, none⟩) (n + 6) c2, .slice a3 n d3, .slice a4 n d4]) := by
    refine By.ap_of [.slice (some ⟨g1, 0, none⟩) (n + 6) c1, .slice (some ⟨g2, 0, none⟩) (n + 6) c2, .slice a3 n d3, .slice a4 n d4] _ (fun i j hij hj => ?_) (fun j hj q hq => By.own_lt (hO j hj) q hq)
    rcases (show (i = 0 ∧ j = 1) ∨ (i = 0 ∧ j = 2) ∨ (i = 0 ∧ j = 3) ∨ (i = 1 ∧ j = 2) ∨ (i = 1 ∧ j = 3) ∨ (i = 2 ∧ j = 3) by simp at hj; omega) with ⟨rfl, rfl⟩ | ⟨rfl, rfl⟩ | ⟨rfl, rfl⟩ | ⟨rfl, rfl⟩ | ⟨rfl, rfl⟩ | ⟨rfl, rfl⟩
    · exact A12.out
    · exact A13.out
    · exact A14.out
    · exact A23.out
    · exact A24.out
    · exact A34.out
  have hF : ∀ j i, 0 ≤ ((fun j => if j < 2 then By.over else (By.sel y f g)) j : Nat → Int) i ∧ ((fun j => if j < 2 then By.over else (By.sel y f g)) j : Nat → Int) i < 256 := by
    intro j i
    by_cases h : j < 2
    · simp only [h, if_true]; exact By.over_bound i
    · simp only [h, if_false]; exact By.sel_bound y f g HP.out.1 HQ.out.1 i
  have hNb : ∀ j, j < 4 → (fun j => if j = 0 then n + 6 else if j = 1 then n + 6 else n) j ≤ 140737488355000 := by
    intro j hj
    rcases (show j = 0 ∨ j = 1 ∨ j = 2 ∨ j = 3 by omega) with rfl | rfl | rfl | rfl
    · show n + 6 ≤ _; omega
    · show n + 6 ≤ _; omega
    · show n ≤ _; omega
    · show n ≤ _; omega
  have hI := By.inv1_lit WL w.heap.size [.slice (some ⟨g1, 0, none⟩) (n + 6) c1, .slice (some ⟨g2, 0, none⟩) (n + 6) c2, .slice a3 n d3, .slice a4 n d4] _ rfl (fun j => if j = 0 then n + 6 else if j = 1 then n + 6 else n) _ hO
  have hAL := By.apart30 w.heap.size 4 WL.heap.size 4 _ (fun j => if j = 0 then n + 6 else if j = 1 then n + 6 else n) _ _ hAP hI hF (by omega) (by omega) hNb (by simp; omega)
  subst hWL
  refine hAL.mono ?_
  rintro e WE ⟨rfl, hb⟩
  have BE : Hid (Below w.heap.size w WE) := (By.below_alloc ST.out.bel rfl _).trans hb
  clear hb hO hAP hF hI hAL hNb
  go_wp2
  go_ret
  exact ⟨rfl, BE.out⟩
set_option maxRecDepth 100000 in
set_option maxHeartbeats 4000000 in
theorem chooses_apart (y : Bool) (a0 a1 : Option Addr) (n m cap0 cap1 : Nat) (f g : Nat → Int) (w : World) (w0 : By.RB w (.slice a0 n cap0) n f) (w1 : By.RB w (.slice a1 m cap1) m g) (q0 : n ≤ 140737488351232) (q1 : m ≤ 140737488351232) (hnm : n ≠ m) :
    Calls Try.prog 4 #[.bool y, .slice a0 n cap0, .slice a1 m cap1] w fun e w' => e = .returned (.bool true) ∧ Below w.heap.size w w' := by
  have HP := hid w0
  have HQ := hid w1
  clear w0 w1
  go_enter Try.func4, Try.ntmps4
  go_wp2_with fail
  refine (new9 w).mono ?_
  rintro e W1 ⟨rfl, hl, hb⟩
  have L1 := hid hl
  have B1 := hid hb
  clear hl hb
  go_wp2_with fail
  refine (refNew10 W1).mono ?_
  rintro e W2 ⟨rfl, hl, hb⟩
  have ST := hid (St.start L1.out B1.out hl hb)
  clear hl hb L1 B1
  go_wp2_with fail
  refine (By.lent14 _ n f W2 (HP.out.below ST.out.bel) (by omega)).mono ?_
  rintro e W3 ⟨v1, rfl, ho, hb⟩
  have O1 := hid ho
  have S3 := hid (Nat.le_trans ST.out.bel.size (Nat.le_refl _))
  replace ST := hid (ST.out.below hb)
  clear ho hb
  go_wp2_with fail
  refine (By.lent14 _ m g W3 (HQ.out.below ST.out.bel) (by omega)).mono ?_
  rintro e W4 ⟨v2, rfl, ho, hb⟩
  have A12 := hid (By.own_apart O1.out (Nat.le_refl _) ho)
  have S4 := hid ST.out.bel.size
  have O2 := hid ho
  replace O1 := hid (By.own_below O1.out hb)
  replace ST := hid (ST.out.below hb)
  clear ho hb
  obtain ⟨g1, c1, hv1, hg1, hc1⟩ : ∃ g cap, v1 = .slice (some ⟨g, 0, none⟩) (n + 6) cap ∧ w.heap.size ≤ g ∧ n + 6 ≤ cap := by
    rcases O1.out.shape with ⟨_, h⟩ | ⟨g, cap, h, h1, h2, h3, _⟩
    · omega
    · exact ⟨g, cap, h, Nat.le_trans S3.out h1, h3⟩
  obtain ⟨g2, c2, hv2, hg2, hc2⟩ : ∃ g cap, v2 = .slice (some ⟨g, 0, none⟩) (m + 6) cap ∧ w.heap.size ≤ g ∧ m + 6 ≤ cap := by
    rcases O2.out.shape with ⟨_, h⟩ | ⟨g, cap, h, h1, h2, h3, _⟩
    · omega
    · exact ⟨g, cap, h, Nat.le_trans S4.out h1, h3⟩
  subst hv1 hv2
  have i1 : (n : Int) ≤ c1 := by omega
  have i2 : (m : Int) ≤ c2 := by omega
  go_wp2
  go_region_held3 (fun _ => True) (trivial) (first | (go_at_call 22; refine (By.choose22x _ _ _ y n m _ ⟨_, _, rfl⟩ ⟨_, _, rfl⟩ hnm).mono ?_; rintro e W5 ⟨rfl, h⟩; subst h))
  replace ST := hid ST.out.drew
  replace O1 := hid (own_drew O1.out)
  replace O2 := hid (own_drew O2.out)
  go_wp2
  go_region_held3 (fun _ => True) (trivial) (first | (go_at_call 22; refine (By.choose22x _ _ _ y n m _ ⟨_, _, rfl⟩ ⟨_, _, rfl⟩ hnm).mono ?_; rintro e W5 ⟨rfl, h⟩; subst h))
  replace ST := hid ST.out.drew
  replace O1 := hid (own_drew O1.out)
  replace O2 := hid (own_drew O2.out)
  go_wp2_with fail
  refine (By.refChoose23x _ _ _ y n m _ ⟨_, _, rfl⟩ ⟨_, _, rfl⟩ hnm).mono ?_
  rintro e W5 ⟨rfl, h⟩
  subst h
  have X3 := hid (By.own_nil W4.drew.drew w.heap.size (fun _ => 0) (fun _ => ⟨Int.le_refl _, show (0 : Int) < 256 by omega⟩))
  have X4 := X3
  have X5 := X3
  have S5 := hid (Nat.le_refl w.heap.size)
  have S6 := S5
  have A13 : Hid ((Value.slice (some ⟨g1, 0, none⟩) (n + 6) c1).ownBlock = none ∨ (Value.slice (some ⟨g1, 0, none⟩) (n + 6) c1).ownBlock ≠ (Value.slice none 0 0).ownBlock) := .inr (by simp [Value.ownBlock])
  have A14 := A13
  have A15 := A13
  have A23 : Hid ((Value.slice (some ⟨g2, 0, none⟩) (m + 6) c2).ownBlock = none ∨ (Value.slice (some ⟨g2, 0, none⟩) (m + 6) c2).ownBlock ≠ (Value.slice none 0 0).ownBlock) := .inr (by simp [Value.ownBlock])
  have A24 := A23
  have A25 := A23
  have A34 : Hid ((Value.slice none 0 0).ownBlock = none ∨ (Value.slice none 0 0).ownBlock ≠ (Value.slice none 0 0).ownBlock) := .inl rfl
  go_wp2_with fail
  refine (By.kept17 _ _ n f _ O1.out.reads (HP.out.below ST.out.bel) (by omega)).mono ?_
  rintro e W8 ⟨rfl, hb⟩
  replace ST := hid (ST.out.below hb)
  replace O1 := hid (By.own_below O1.out hb)
  replace O2 := hid (By.own_below O2.out hb)
  replace X3 := hid (By.own_below X3.out hb)
  replace X4 := hid (By.own_below X4.out hb)
  replace X5 := hid (By.own_below X5.out hb)
  clear hb
  go_wp2_with fail
  refine (By.kept17 _ _ m g _ O2.out.reads (HQ.out.below ST.out.bel) (by omega)).mono ?_
  rintro e W9 ⟨rfl, hb⟩
  replace ST := hid (ST.out.below hb)
  replace O1 := hid (By.own_below O1.out hb)
  replace O2 := hid (By.own_below O2.out hb)
  replace X3 := hid (By.own_below X3.out hb)
  replace X4 := hid (By.own_below X4.out hb)
  replace X5 := hid (By.own_below X5.out hb)
  clear hb
  go_wp2_with fail
  refine (By.mask24 y _).mono ?_
  rintro e WM ⟨rfl, h⟩
  subst h
  go_wp2_with fail
  refine (By.refMask25 y _).mono ?_
  rintro e WM ⟨rfl, h⟩
  subst h
  go_wp2_with fail
  refine (By.over18 g1 c1 (n + 6) _ (By.lent n f) _ O1.out (by omega)).mono ?_
  rintro e W10 ⟨rfl, ho, hg⟩
  replace ST := hid (ST.out.wrote hg (own_cellsB O1.out) hg1)
  replace O2 := hid (By.own_kept O2.out hg (By.apart_symm A12.out))
  replace X3 := hid (By.own_kept X3.out hg (By.apart_symm A13.out))
  replace X4 := hid (By.own_kept X4.out hg (By.apart_symm A14.out))
  replace X5 := hid (By.own_kept X5.out hg (By.apart_symm A15.out))
  replace O1 := hid ho
  clear ho hg
  go_wp2_with fail
  refine (By.over18 g2 c2 (m + 6) _ (By.lent m g) _ O2.out (by omega)).mono ?_
  rintro e W11 ⟨rfl, ho, hg⟩
  replace ST := hid (ST.out.wrote hg (own_cellsB O2.out) hg2)
  replace O1 := hid (By.own_kept O1.out hg A12.out)
  replace X3 := hid (By.own_kept X3.out hg (By.apart_symm A23.out))
  replace X4 := hid (By.own_kept X4.out hg (By.apart_symm A24.out))
  replace X5 := hid (By.own_kept X5.out hg (By.apart_symm A25.out))
  replace O2 := hid ho
  clear ho hg
  go_wp2_with fail
  refine (By.same_true _ _ 0 _ _ _ X3.out.reads X5.out.reads (by omega) (fun _ _ => rfl)).mono ?_
  rintro e Wx ⟨rfl, d12, rfl⟩
  go_wp2_with fail
  refine (By.same_true _ _ 0 _ _ _ (By.RB.drewN X4.out.reads _) (By.RB.drewN X5.out.reads _) (by omega) (fun _ _ => rfl)).mono ?_
  rintro e Wx ⟨rfl, d13, rfl⟩
  replace ST := hid (ST.out.drewN (d12 + d13))
  replace O1 := hid (By.own_drewN O1.out (d12 + d13))
  replace O2 := hid (By.own_drewN O2.out (d12 + d13))
  replace X3 := hid (By.own_drewN X3.out (d12 + d13))
  replace X4 := hid (By.own_drewN X4.out (d12 + d13))
  replace X5 := hid (By.own_drewN X5.out (d12 + d13))
  go_wp2_with fail
  refine (ST.out.runs (by omega)).mono ?_
  rintro e W14 ⟨rl1, rfl, hr, hb⟩
  have R1 := hid hr
  replace ST := hid (ST.out.below hb)
  replace O1 := hid (By.own_below O1.out hb)
  replace O2 := hid (By.own_below O2.out hb)
  replace X3 := hid (By.own_below X3.out hb)
  replace X4 := hid (By.own_below X4.out hb)
  replace X5 := hid (By.own_below X5.out hb)
  clear hr hb
  go_wp2_with fail
  refine (ST.out.rruns (by omega)).mono ?_
  rintro e W15 ⟨rl2, rfl, hr, hb⟩
  replace R1 := hid (R1.out.below hb)
  have R2 := hid hr
  replace ST := hid (ST.out.below hb)
  replace O1 := hid (By.own_below O1.out hb)
  replace O2 := hid (By.own_below O2.out hb)
  replace X3 := hid (By.own_below X3.out hb)
  replace X4 := hid (By.own_below X4.out hb)
  replace X5 := hid (By.own_below X5.out hb)
  clear hr hb
  go_wp2_with fail
  refine (same_runs R1.out R2.out (few_len ST.out.led (by rw [ST.out.ti]; omega))).mono ?_
  rintro e W16 ⟨rfl, d16, rfl⟩
  replace ST := hid (ST.out.drewN d16)
  replace O1 := hid (By.own_drewN O1.out d16)
  replace O2 := hid (By.own_drewN O2.out d16)
  replace X3 := hid (By.own_drewN X3.out d16)
  replace X4 := hid (By.own_drewN X4.out d16)
  replace X5 := hid (By.own_drewN X5.out d16)
  clear R1 R2
  go_wp2_with fail
  obtain ⟨WL, hWL⟩ : ∃ x, x = W15.drewN d16 := ⟨_, rfl⟩
  rw [← hWL] at ST O1 O2 X3 X4
  have hsz : w.heap.size ≤ WL.heap.size := ST.out.bel.size
  have hO : ∀ j, j < 4 → By.Own WL w.heap.size (By.lv [.slice (some ⟨g1, 0, none⟩) (n + 6) c1, .slice (some ⟨g2, 0, none⟩) (m + 6) c2, .slice none 0 0, .slice none 0 0] j) ((fun j => if j = 0 then n + 6 else if j = 1 then m + 6 else 0) j) ((fun j => if j < 2 then By.over else (fun _ => 0)) j) := by
    intro j hj
    rcases (show j = 0 ∨ j = 1 ∨ j = 2 ∨ j = 3 by omega) with rfl | rfl | rfl | rfl
    · exact By.own_base O1.out S3.out
    · exact By.own_base O2.out S4.out
    · exact By.own_base X3.out S5.out
    · exact By.own_base X4.out S6.out
  have hAP : By.AP 4 WL.heap.size (By.lv [.slice (some ⟨g1, 0, none⟩) (n + 6) c1, .slice (some ⟨g2, 0, none⟩) (m + 6) c2, .slice none 0 0, .slice none 0 0]) := by
    refine By.ap_of [.slice (some ⟨g1, 0, none⟩) (n + 6) c1, .slice (some ⟨g2, 0, none⟩) (m + 6) c2, .slice none 0 0, .slice none 0 0] _ (fun i j hij hj => ?_) (fun j hj q hq => By.own_lt (hO j hj) q hq)
    rcases (show (i = 0 ∧ j = 1) ∨ (i = 0 ∧ j = 2) ∨ (i = 0 ∧ j = 3) ∨ (i = 1 ∧ j = 2) ∨ (i = 1 ∧ j = 3) ∨ (i = 2 ∧ j = 3) by simp at hj; omega) with ⟨rfl, rfl⟩ | ⟨rfl, rfl⟩ | ⟨rfl, rfl⟩ | ⟨rfl, rfl⟩ | ⟨rfl, rfl⟩ | ⟨rfl, rfl⟩
    · exact A12.out
    · exact A13.out
    · exact A14.out
    · exact A23.out
    · exact A24.out
    · exact A34.out
  have hF : ∀ j i, 0 ≤ ((fun j => if j < 2 then By.over else (fun _ => 0)) j : Nat → Int) i ∧ ((fun j => if j < 2 then By.over else (fun _ => 0)) j : Nat → Int) i < 256 := by
    intro j i
    by_cases h : j < 2
    · simp only [h, if_true]; exact By.over_bound i
    · simp only [h, if_false]; exact ⟨Int.le_refl _, show (0 : Int) < 256 by omega⟩
  have hNb : ∀ j, j < 4 → (fun j => if j = 0 then n + 6 else if j = 1 then m + 6 else 0) j ≤ 140737488355000 := by
    intro j hj
    rcases (show j = 0 ∨ j = 1 ∨ j = 2 ∨ j = 3 by omega) with rfl | rfl | rfl | rfl
    · show n + 6 ≤ _; omega
    · show m + 6 ≤ _; omega
    · show 0 ≤ _; omega
    · show 0 ≤ _; omega
  have hI := By.inv1_lit WL w.heap.size [.slice (some ⟨g1, 0, none⟩) (n + 6) c1, .slice (some ⟨g2, 0, none⟩) (m + 6) c2, .slice none 0 0, .slice none 0 0] _ rfl (fun j => if j = 0 then n + 6 else if j = 1 then m + 6 else 0) _ hO
  have hAL := By.apart30 w.heap.size 4 WL.heap.size 4 _ (fun j => if j = 0 then n + 6 else if j = 1 then m + 6 else 0) _ _ hAP hI hF (by omega) (by omega) hNb (by simp; omega)
  subst hWL
  refine hAL.mono ?_
  rintro e WE ⟨rfl, hb⟩
  have BE : Hid (Below w.heap.size w WE) := (By.below_alloc ST.out.bel rfl _).trans hb
  clear hb hO hAP hF hI hAL hNb
  go_wp2
  go_ret
  exact ⟨rfl, BE.out⟩
theorem chooses (y : Bool) (a0 a1 : Option Addr) (n m cap0 cap1 : Nat) (f g : Nat → Int) (w : World) (w0 : By.RB w (.slice a0 n cap0) n f) (w1 : By.RB w (.slice a1 m cap1) m g) (q0 : n ≤ 140737488351232) (q1 : m ≤ 140737488351232) :
    Calls Try.prog 4 #[.bool y, .slice a0 n cap0, .slice a1 m cap1] w fun e w' => e = .returned (.bool true) ∧ Below w.heap.size w w' := by
  by_cases h : n = m
  · subst h; exact chooses_same y a0 a1 n cap0 cap1 f g w w0 w1 q0
  · exact chooses_apart y a0 a1 n m cap0 cap1 f g w w0 w1 q0 q1 h
end Go.Proofs.Ytmoadcoabfjbnaa
