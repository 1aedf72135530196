/- The statement's walk: of three lists, cut to one length, just one of three holds of two of them; Equal both ways alike; both go through; Choose is one of the two. -/
import Derived.Test.YtmoadcoabfjbnaaCsg
import Derived.Test.YtmoadcoabfjbnaaWcompares
import Derived.Laws.Cover1
namespace Go.Proofs.Ytmoadcoabfjbnaa
open Go.ChangeShapes Go.WideShapes Go.ChangeAt Go.RowKit
set_option linter.unusedVariables false

/-- A list that came in, cut to n bytes; all since then was made anew. -/
def Here (w W : World) (v : Value) (n : Nat) (f : Nat → Int) : Prop := (∃ a c, v = .slice a n c) ∧ By.RB w v n f ∧ Below w.heap.size w W
theorem nilEqual {w w2 W : World} {va vb : Value} {n : Nat} {f g : Nat → Int} (ha : Here w W va n f) (hb : Here w2 W vb n g) (hn : n ≤ 140737488355999) :
    Calls Try.prog 12 #[.pointer none, va, vb] W fun e w' => e = .returned (.bool (By.eqB f g n)) ∧ Below W.heap.size W w' := by
  refine (By.equal12 _ va vb n f g W _ (note39n 6 n W) ha.1 hb.1 (fun w' r => (ha.2.1.below ha.2.2).below r) (fun w' r => (hb.2.1.below hb.2.2).below r) hn).mono ?_
  rintro e w' ⟨rfl, w1, d, hr, rfl⟩
  exact ⟨rfl, below_drew' hr d⟩
theorem nilLess {w W : World} {va vb : Value} {n : Nat} {f g : Nat → Int} (ha : Here w W va n f) (hb : Here w W vb n g) (hn : n ≤ 140737488355999) :
    Calls Try.prog 14 #[.pointer none, va, vb] W fun e w' => e = .returned (.tuple #[.bool (By.less f g n), .int .i64 0]) ∧ Below W.heap.size W w' := by
  refine (By.less14 _ va vb n f g W _ (note39n 6 n W) ha.1 hb.1 (fun w' r => (ha.2.1.below ha.2.2).below r) (fun w' r => (hb.2.1.below hb.2.2).below r) hn).mono ?_
  rintro e w' ⟨rfl, w1, d, hr, rfl⟩
  exact ⟨rfl, below_drew' hr d⟩
theorem nilChoose {w W : World} {va vb : Value} (y : Bool) {n : Nat} {f g : Nat → Int} (ha : Here w W va n f) (hb : Here w W vb n g) (hn : n ≤ 140737488355328) :
    Calls Try.prog 22 #[.pointer none, .bool y, va, vb] W fun e w' => ∃ v, e = .returned (.tuple #[v, .int .i64 0]) ∧ By.RB w' v n (By.sel y f g) ∧ Below W.heap.size W w' := by
  refine (By.choose22 _ va vb y n f g W _ (note39n 7 n W) ha.1 hb.1 (fun w' r => (ha.2.1.below ha.2.2).below r) (fun w' r => (hb.2.1.below hb.2.2).below r) hn).mono ?_
  rintro e w' ⟨v, rfl, w1, hr, ho, hb'⟩
  exact ⟨v, rfl, ho.reads, hr.trans (hb'.mono hr.size)⟩
theorem Here.below {w W W' : World} {v : Value} {n : Nat} {f : Nat → Int} (h : Here w W v n f) (hb : Below W.heap.size W W') : Here w W' v n f := ⟨h.1, h.2.1, h.2.2.trans (hb.mono h.2.2.size)⟩

/-- The least of three. -/
def m3 (a b c : Nat) : Nat := min a (min b c)
theorem m3_le (a b c : Nat) : m3 a b c ≤ a ∧ m3 a b c ≤ b ∧ m3 a b c ≤ c := by unfold m3; omega
@[go_sem high] theorem min3 (w : World) (ts : Array TypeId) (t : TypeId) (a b c : Nat) : (Builtin.min_ ts t #[.int .i64 (a : Int), .int .i64 (b : Int), .int .i64 (c : Int)]).run Try.prog w = .ok (.int .i64 ((m3 a b c : Nat) : Int)) w := by
  rw [run_min_int3]
  congr 2
  unfold m3
  split <;> split <;> omega
theorem here_first {w : World} {a : Option Addr} {l c n : Nat} {f : Nat → Int} (h : By.RB w (.slice a l c) l f) (hn : n ≤ l) : Here w w (.slice a n c) n f := ⟨⟨_, _, rfl⟩, h.first n hn, Below.refl _ _⟩

set_option maxRecDepth 100000 in
set_option maxHeartbeats 4000000 in
theorem orders (a0 a1 a2 : Option Addr) (l0 l1 l2 c0 c1 c2 : Nat) (f g h : Nat → Int) (y : Bool) (w : World) (w0 : By.RB w (.slice a0 l0 c0) l0 f) (w1 : By.RB w (.slice a1 l1 c1) l1 g) (w2 : By.RB w (.slice a2 l2 c2) l2 h)
    (q0 : l0 ≤ 140737488351232) :
    Calls Try.prog 7 #[.slice a0 l0 c0, .slice a1 l1 c1, .slice a2 l2 c2, .bool y] w fun e w' => e = .returned (.bool true) ∧ Below w.heap.size w w' := by
  have hm := m3_le l0 l1 l2
  have k0 := By.rb_cap w0
  have k1 := By.rb_cap w1
  have k2 := By.rb_cap w2
  obtain ⟨n, hn⟩ : ∃ n, m3 l0 l1 l2 = n := ⟨_, rfl⟩
  rw [hn] at hm
  have HA := hid (here_first w0 hm.1)
  have HB := hid (here_first w1 hm.2.1)
  have HC := hid (here_first w2 hm.2.2)
  have n0 : (n : Int) ≤ c0 := by omega
  have n1 : (n : Int) ≤ c1 := by omega
  have n2 : (n : Int) ≤ c2 := by omega
  have nb : n ≤ 140737488351232 := by omega
  have O3 := hid (By.one_of_three f g n)
  clear w0 w1 w2 hm k0 k1 k2
  go_enter Try.func7, Try.ntmps7
  go_wp2
  go_quiet (fail)
  replace HA := hid (HA.out.below (below_drewN w nq))
  replace HB := hid (HB.out.below (below_drewN w nq))
  replace HC := hid (HC.out.below (below_drewN w nq))
  go_wp2_with fail
  refine (nilLess HA.out HB.out (by omega)).mono ?_
  rintro e W1 ⟨rfl, hb⟩
  replace HA := hid (HA.out.below hb)
  replace HB := hid (HB.out.below hb)
  replace HC := hid (HC.out.below hb)
  clear hb
  go_wp2_with fail
  refine (nilLess HB.out HA.out (by omega)).mono ?_
  rintro e W2 ⟨rfl, hb⟩
  replace HA := hid (HA.out.below hb)
  replace HB := hid (HB.out.below hb)
  replace HC := hid (HC.out.below hb)
  clear hb
  go_wp2_with fail
  refine (nilLess HB.out HC.out (by omega)).mono ?_
  rintro e W3 ⟨rfl, hb⟩
  replace HA := hid (HA.out.below hb)
  replace HB := hid (HB.out.below hb)
  replace HC := hid (HC.out.below hb)
  clear hb
  go_wp2_with fail
  refine (nilLess HA.out HC.out (by omega)).mono ?_
  rintro e W4 ⟨rfl, hb⟩
  replace HA := hid (HA.out.below hb)
  replace HB := hid (HB.out.below hb)
  replace HC := hid (HC.out.below hb)
  clear hb
  go_wp2_with fail
  refine (nilEqual HA.out HB.out (by omega)).mono ?_
  rintro e W5 ⟨rfl, hb⟩
  replace HA := hid (HA.out.below hb)
  replace HB := hid (HB.out.below hb)
  replace HC := hid (HC.out.below hb)
  clear hb
  go_wp2_with fail
  refine (nilEqual HB.out HC.out (by omega)).mono ?_
  rintro e W6 ⟨rfl, hb⟩
  replace HA := hid (HA.out.below hb)
  replace HB := hid (HB.out.below hb)
  replace HC := hid (HC.out.below hb)
  clear hb
  go_wp2_with fail
  refine (awake36 _).mono ?_
  rintro e W7 ⟨rfl, hb⟩
  replace HA := hid (HA.out.below hb)
  replace HB := hid (HB.out.below hb)
  replace HC := hid (HC.out.below hb)
  clear hb
  go_wp2_with fail
  refine (nilEqual HB.out HA.out (by omega)).mono ?_
  rintro e W8 ⟨rfl, hb⟩
  replace HA := hid (HA.out.below hb)
  replace HB := hid (HB.out.below hb)
  replace HC := hid (HC.out.below hb)
  clear hb
  have EC := hid (By.eqB_comm g f n)
  rw [EC.out]
  clear EC
  have LC : Hid (By.eqB f g n = true → By.less f h n = By.less g h n) := fun e => By.less_congr (By.eqB_iff.1 e)
  have LT : Hid (By.less f g n = true → By.less g h n = true → By.less f h n = true) := fun e1 e2 => By.less_trans e1 e2
  have ET : Hid (By.eqB f g n = true → By.eqB g h n = true → By.eqB f h n = true) := fun e1 e2 => By.eqB_trans e1 e2
  rcases O3.out with ⟨e1, e2, e3⟩ | ⟨e1, e2, e3⟩ | ⟨e1, e2, e3⟩
  · rw [e1, e2, e3, LC.out e1]
    obtain ⟨qr, hqr⟩ : ∃ b, By.less g h n = b := ⟨_, rfl⟩
    rw [hqr]
    cases h2 : By.eqB g h n
    · clear h2 hqr e1 e2 e3 LC LT ET O3
      go_wp2_with fail
      refine (nilChoose y HA.out HB.out (by omega)).mono ?_
      rintro e WC ⟨v, rfl, hv, hb⟩
      have HX : Hid (Here WC WC v n (By.sel y f g)) := ⟨By.RB.isSlice hv, hv, Below.refl _ _⟩
      replace HA := hid (HA.out.below hb)
      replace HB := hid (HB.out.below hb)
      clear hb hv
      cases y
      · have EX := hid (show By.eqB (By.sel false f g) g n = true from By.eqB_iff.2 (fun _ _ => rfl))
        go_wp2_with fail
        refine (nilEqual HX.out HB.out (by omega)).mono ?_
        rintro e WD ⟨rfl, hb⟩
        rw [EX.out]
        have BE := hid (HA.out.below hb).2.2
        clear hb
        go_wp2
        go_ret
        exact ⟨rfl, BE.out⟩
      · have EX := hid (show By.eqB (By.sel true f g) f n = true from By.eqB_iff.2 (fun _ _ => rfl))
        go_wp2_with fail
        refine (nilEqual HX.out HA.out (by omega)).mono ?_
        rintro e WD ⟨rfl, hb⟩
        rw [EX.out]
        have BE := hid (HA.out.below hb).2.2
        clear hb
        go_wp2
        go_ret
        exact ⟨rfl, BE.out⟩
    · have e4 := hid (ET.out e1 h2)
      clear h2 hqr e1 e2 e3 LC LT ET O3
      go_wp2_with fail
      refine (nilEqual HA.out HC.out (by omega)).mono ?_
      rintro e W9 ⟨rfl, hb⟩
      rw [e4.out]
      replace HA := hid (HA.out.below hb)
      replace HB := hid (HB.out.below hb)
      clear hb
      go_wp2_with fail
      refine (nilChoose y HA.out HB.out (by omega)).mono ?_
      rintro e WC ⟨v, rfl, hv, hb⟩
      have HX : Hid (Here WC WC v n (By.sel y f g)) := ⟨By.RB.isSlice hv, hv, Below.refl _ _⟩
      replace HA := hid (HA.out.below hb)
      replace HB := hid (HB.out.below hb)
      clear hb hv
      cases y
      · have EX := hid (show By.eqB (By.sel false f g) g n = true from By.eqB_iff.2 (fun _ _ => rfl))
        go_wp2_with fail
        refine (nilEqual HX.out HB.out (by omega)).mono ?_
        rintro e WD ⟨rfl, hb⟩
        rw [EX.out]
        have BE := hid (HA.out.below hb).2.2
        clear hb
        go_wp2
        go_ret
        exact ⟨rfl, BE.out⟩
      · have EX := hid (show By.eqB (By.sel true f g) f n = true from By.eqB_iff.2 (fun _ _ => rfl))
        go_wp2_with fail
        refine (nilEqual HX.out HA.out (by omega)).mono ?_
        rintro e WD ⟨rfl, hb⟩
        rw [EX.out]
        have BE := hid (HA.out.below hb).2.2
        clear hb
        go_wp2
        go_ret
        exact ⟨rfl, BE.out⟩
  · rw [e1, e2, e3]
    cases h2 : By.less g h n
    · clear h2 e1 e2 e3 LC LT ET O3
      go_wp2_with fail
      refine (nilChoose y HA.out HB.out (by omega)).mono ?_
      rintro e WC ⟨v, rfl, hv, hb⟩
      have HX : Hid (Here WC WC v n (By.sel y f g)) := ⟨By.RB.isSlice hv, hv, Below.refl _ _⟩
      replace HA := hid (HA.out.below hb)
      replace HB := hid (HB.out.below hb)
      clear hb hv
      cases y
      · have EX := hid (show By.eqB (By.sel false f g) g n = true from By.eqB_iff.2 (fun _ _ => rfl))
        go_wp2_with fail
        refine (nilEqual HX.out HB.out (by omega)).mono ?_
        rintro e WD ⟨rfl, hb⟩
        rw [EX.out]
        have BE := hid (HA.out.below hb).2.2
        clear hb
        go_wp2
        go_ret
        exact ⟨rfl, BE.out⟩
      · have EX := hid (show By.eqB (By.sel true f g) f n = true from By.eqB_iff.2 (fun _ _ => rfl))
        go_wp2_with fail
        refine (nilEqual HX.out HA.out (by omega)).mono ?_
        rintro e WD ⟨rfl, hb⟩
        rw [EX.out]
        have BE := hid (HA.out.below hb).2.2
        clear hb
        go_wp2
        go_ret
        exact ⟨rfl, BE.out⟩
    · rw [LT.out e2 h2]
      clear h2 e1 e2 e3 LC LT ET O3
      go_wp2_with fail
      refine (nilChoose y HA.out HB.out (by omega)).mono ?_
      rintro e WC ⟨v, rfl, hv, hb⟩
      have HX : Hid (Here WC WC v n (By.sel y f g)) := ⟨By.RB.isSlice hv, hv, Below.refl _ _⟩
      replace HA := hid (HA.out.below hb)
      replace HB := hid (HB.out.below hb)
      clear hb hv
      cases y
      · have EX := hid (show By.eqB (By.sel false f g) g n = true from By.eqB_iff.2 (fun _ _ => rfl))
        go_wp2_with fail
        refine (nilEqual HX.out HB.out (by omega)).mono ?_
        rintro e WD ⟨rfl, hb⟩
        rw [EX.out]
        have BE := hid (HA.out.below hb).2.2
        clear hb
        go_wp2
        go_ret
        exact ⟨rfl, BE.out⟩
      · have EX := hid (show By.eqB (By.sel true f g) f n = true from By.eqB_iff.2 (fun _ _ => rfl))
        go_wp2_with fail
        refine (nilEqual HX.out HA.out (by omega)).mono ?_
        rintro e WD ⟨rfl, hb⟩
        rw [EX.out]
        have BE := hid (HA.out.below hb).2.2
        clear hb
        go_wp2
        go_ret
        exact ⟨rfl, BE.out⟩
  · rw [e1, e2, e3]
    clear e1 e2 e3 LC LT ET O3
    go_wp2_with fail
    refine (nilChoose y HA.out HB.out (by omega)).mono ?_
    rintro e WC ⟨v, rfl, hv, hb⟩
    have HX : Hid (Here WC WC v n (By.sel y f g)) := ⟨By.RB.isSlice hv, hv, Below.refl _ _⟩
    replace HA := hid (HA.out.below hb)
    replace HB := hid (HB.out.below hb)
    clear hb hv
    cases y
    · have EX := hid (show By.eqB (By.sel false f g) g n = true from By.eqB_iff.2 (fun _ _ => rfl))
      go_wp2_with fail
      refine (nilEqual HX.out HB.out (by omega)).mono ?_
      rintro e WD ⟨rfl, hb⟩
      rw [EX.out]
      have BE := hid (HA.out.below hb).2.2
      clear hb
      go_wp2
      go_ret
      exact ⟨rfl, BE.out⟩
    · have EX := hid (show By.eqB (By.sel true f g) f n = true from By.eqB_iff.2 (fun _ _ => rfl))
      go_wp2_with fail
      refine (nilEqual HX.out HA.out (by omega)).mono ?_
      rintro e WD ⟨rfl, hb⟩
      rw [EX.out]
      have BE := hid (HA.out.below hb).2.2
      clear hb
      go_wp2
      go_ret
      exact ⟨rfl, BE.out⟩
end Go.Proofs.Ytmoadcoabfjbnaa
