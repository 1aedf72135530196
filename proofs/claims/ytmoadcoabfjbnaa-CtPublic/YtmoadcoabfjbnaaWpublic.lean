/- The statement's walk: of two pairs of lists of the same lengths all calls record the same, whatever their bytes are. -/
import Derived.Test.YtmoadcoabfjbnaaCsg
import Derived.Test.YtmoadcoabfjbnaaWcompares
namespace Go.Proofs.Ytmoadcoabfjbnaa
open Go.ChangeShapes Go.WideShapes Go.ChangeAt Go.RowKit
set_option linter.unusedVariables false

theorem led_far {W : World} {b c : Nat} {rv ru : Value} {L M : List Rn} (h : Led W b rv L) (k : Led W c ru M) : rv.ownBlock ≠ some c := by
  intro e
  rcases h.own.2.2 with ⟨rfl, _⟩ | ⟨g, cap, cur, rfl, _, hg, _⟩
  · simp [Value.ownBlock] at e
  · simp [Value.ownBlock] at e
    subst e
    rw [k.here] at hg
    simp at hg
theorem Sg.fresh {W : World} {b : Nat} (h : Led W b (.slice none 0 0) []) : Sg (fun j => j = b) W W b (.slice none 0 0) [] 0 :=
  ⟨Kp.refl _ _, h, rfl, fun _ => rfl, fun g hg => by simp [Value.ownBlock] at hg⟩
theorem rb_far {w W w' : World} {b : Nat} {v : Value} {n : Nat} {f : Nat → Int} (h : By.RB w v n f) (hb : Below w.heap.size w W) (hk : Kp (fun j => j = b) W w') (hw : w.heap.size ≤ b) : By.RB w' v n f :=
  h.below (hb.trans (hk.below hb.size (fun k hk' e => by omega)))

set_option maxRecDepth 100000 in
set_option maxHeartbeats 4000000 in
theorem public_00 (a0 a1 a2 a3 : Option Addr) (l0 l1 l2 l3 c0 c1 c2 c3 : Nat) (f0 f1 f2 f3 : Nat → Int) (y z : Bool) (w : World) (w0 : By.RB w (.slice a0 l0 c0) l0 f0) (w1 : By.RB w (.slice a1 l1 c1) l1 f1) (w2 : By.RB w (.slice a2 l2 c2) l2 f2) (w3 : By.RB w (.slice a3 l3 c3) l3 f3)
    (q0 : l0 ≤ 140737488351232) (q1 : l1 ≤ 140737488351232) (q2 : l2 ≤ 140737488351232) (q3 : l3 ≤ 140737488351232) (hn : ¬ l2 < l0) (hm : ¬ l3 < l1) :
    Calls Try.prog 8 #[.slice a0 l0 c0, .slice a1 l1 c1, .slice a2 l2 c2, .slice a3 l3 c3, .bool y, .bool z] w fun e w' => e = .returned (.bool true) ∧ Below w.heap.size w w' := by
  have H0 := hid w0
  have H1 := hid w1
  have H2 := hid w2
  have H3 := hid w3
  have k0 := By.rb_cap w0
  have k1 := By.rb_cap w1
  have k2 := By.rb_cap w2
  have k3 := By.rb_cap w3
  have n0 : (l0 : Int) ≤ c0 := by omega
  have n1 : (l1 : Int) ≤ c1 := by omega
  have n2 : (l0 : Int) ≤ c2 := by omega
  have n3 : (l1 : Int) ≤ c3 := by omega
  clear w0 w1 w2 w3
  go_enter Try.func8, Try.ntmps8
  go_wp2_with fail
  refine (new9 w).mono ?_
  rintro e W1 ⟨rfl, hl, hb⟩
  have L1 := hid hl
  have hs1 := hid hl.lt
  have B1 := hid hb
  clear hl hb
  go_wp2_with fail
  refine (new9 W1).mono ?_
  rintro e W2 ⟨rfl, hl, hb⟩
  have L2 := hid (hl.below (Below.refl _ W2).drew)
  replace L1 := hid ((L1.out.below hb).below (Below.refl _ W2).drew)
  have BE : Hid (Below w.heap.size w W2.drew) := (B1.out.trans (hb.mono B1.out.size)).drew
  clear hl hb B1
  go_wp2
  go_region_held3 (fun _ => True) (trivial) (first | (go_at_call 37; refine (record37 (fun j => j = w.heap.size) _ _ _ _ y l0 l1 f0 f1 _ (Sg.fresh L1.out) ⟨_, _, rfl⟩ ⟨_, _, rfl⟩ (fun w' k => (rb_far H0.out BE.out k (Nat.le_refl _)).first l0 (by omega)) (fun w' k => (rb_far H1.out BE.out k (Nat.le_refl _)).first l1 (by omega)) (by omega) (by omega)).mono ?_; rintro e W3 ⟨rfl, rv, i3, hi3, hs⟩; have L3 := hid (hs.led.below (Below.refl _ W3).drew); have T3 := hid hs.ti; have I3 := hid hi3; replace L2 := hid ((L2.out.kept hs.kp (fun e => by have := hs1.out; omega) (fun g hg => by simp [Value.ownBlock] at hg)).below (Below.refl _ W3).drew); replace BE : Hid (Below w.heap.size w W3.drew) := (BE.out.trans (hs.kp.below BE.out.size (fun k hk e => by omega))).drew; clear hs hi3))
  clear L1
  go_wp2
  go_region_held3 (fun _ => True) (trivial) (first | (go_at_call 37; refine (record37 (fun j => j = W1.heap.size) _ _ _ _ z l0 l1 f2 f3 _ (Sg.fresh L2.out) ⟨_, _, rfl⟩ ⟨_, _, rfl⟩ (fun w' k => (rb_far H2.out BE.out k (Nat.le_of_lt hs1.out)).first l0 (by omega)) (fun w' k => (rb_far H3.out BE.out k (Nat.le_of_lt hs1.out)).first l1 (by omega)) (by omega) (by omega)).mono ?_; rintro e W4 ⟨rfl, ru, i4, hi4, hs⟩; have L4 := hid hs.led; replace L3 := hid (L3.out.kept hs.kp (fun e => by have := hs1.out; omega) (fun g hg e => led_far L3.out L2.out (by rw [← e]; exact hg))); replace BE : Hid (Below w.heap.size w W4) := BE.out.trans (hs.kp.below BE.out.size (fun k hk e => by have := hs1.out; omega)); clear hs hi4))
  clear L2
  go_wp2_with fail
  refine (awake36 W4).mono ?_
  rintro e W5 ⟨rfl, hb⟩
  replace L3 := hid (L3.out.below hb)
  replace L4 := hid (L4.out.below hb)
  replace BE : Hid (Below w.heap.size w W5) := BE.out.trans (hb.mono BE.out.size)
  clear hb
  have FW := hid (few_runs L3.out.pos (by rw [T3.out]; exact I3.out))
  have FL := hid (few_len L3.out (by rw [T3.out]; exact I3.out))
  go_wp2_with fail
  refine (runs22 _ _ _ _ L3.out (Nat.le_trans (Nat.mul_le_mul_right 24 (Nat.le_succ _)) FW.out)).mono ?_
  rintro e W6 ⟨v6, rfl, ho, hb⟩
  have R6 := hid ho.reads
  replace L4 := hid (L4.out.below hb)
  replace BE : Hid (Below w.heap.size w W6) := BE.out.trans (hb.mono BE.out.size)
  clear ho hb L3
  go_wp2_with fail
  refine (runs22 _ _ _ _ L4.out (Nat.le_trans (Nat.mul_le_mul_right 24 (Nat.le_succ _)) FW.out)).mono ?_
  rintro e W7 ⟨v7, rfl, ho, hb⟩
  replace R6 := hid (R6.out.below hb)
  have R7 := hid ho.reads
  replace BE : Hid (Below w.heap.size w W7) := BE.out.trans (hb.mono BE.out.size)
  clear ho hb L4
  go_wp2_with fail
  refine (same_runs R6.out R7.out FL.out).mono ?_
  rintro e W8 ⟨rfl, d, rfl⟩
  go_wp2
  go_ret
  exact ⟨rfl, below_drew' BE.out d⟩
set_option maxRecDepth 100000 in
set_option maxHeartbeats 4000000 in
theorem public_01 (a0 a1 a2 a3 : Option Addr) (l0 l1 l2 l3 c0 c1 c2 c3 : Nat) (f0 f1 f2 f3 : Nat → Int) (y z : Bool) (w : World) (w0 : By.RB w (.slice a0 l0 c0) l0 f0) (w1 : By.RB w (.slice a1 l1 c1) l1 f1) (w2 : By.RB w (.slice a2 l2 c2) l2 f2) (w3 : By.RB w (.slice a3 l3 c3) l3 f3)
    (q0 : l0 ≤ 140737488351232) (q1 : l1 ≤ 140737488351232) (q2 : l2 ≤ 140737488351232) (q3 : l3 ≤ 140737488351232) (hn : ¬ l2 < l0) (hm : l3 < l1) :
    Calls Try.prog 8 #[.slice a0 l0 c0, .slice a1 l1 c1, .slice a2 l2 c2, .slice a3 l3 c3, .bool y, .bool z] w fun e w' => e = .returned (.bool true) ∧ Below w.heap.size w w' := by
  have H0 := hid w0
  have H1 := hid w1
  have H2 := hid w2
  have H3 := hid w3
  have k0 := By.rb_cap w0
  have k1 := By.rb_cap w1
  have k2 := By.rb_cap w2
  have k3 := By.rb_cap w3
  have n0 : (l0 : Int) ≤ c0 := by omega
  have n1 : (l3 : Int) ≤ c1 := by omega
  have n2 : (l0 : Int) ≤ c2 := by omega
  have n3 : (l3 : Int) ≤ c3 := by omega
  clear w0 w1 w2 w3
  go_enter Try.func8, Try.ntmps8
  go_wp2_with fail
  refine (new9 w).mono ?_
  rintro e W1 ⟨rfl, hl, hb⟩
  have L1 := hid hl
  have hs1 := hid hl.lt
  have B1 := hid hb
  clear hl hb
  go_wp2_with fail
  refine (new9 W1).mono ?_
  rintro e W2 ⟨rfl, hl, hb⟩
  have L2 := hid (hl.below (Below.refl _ W2).drew)
  replace L1 := hid ((L1.out.below hb).below (Below.refl _ W2).drew)
  have BE : Hid (Below w.heap.size w W2.drew) := (B1.out.trans (hb.mono B1.out.size)).drew
  clear hl hb B1
  go_wp2
  go_region_held3 (fun _ => True) (trivial) (first | (go_at_call 37; refine (record37 (fun j => j = w.heap.size) _ _ _ _ y l0 l3 f0 f1 _ (Sg.fresh L1.out) ⟨_, _, rfl⟩ ⟨_, _, rfl⟩ (fun w' k => (rb_far H0.out BE.out k (Nat.le_refl _)).first l0 (by omega)) (fun w' k => (rb_far H1.out BE.out k (Nat.le_refl _)).first l3 (by omega)) (by omega) (by omega)).mono ?_; rintro e W3 ⟨rfl, rv, i3, hi3, hs⟩; have L3 := hid (hs.led.below (Below.refl _ W3).drew); have T3 := hid hs.ti; have I3 := hid hi3; replace L2 := hid ((L2.out.kept hs.kp (fun e => by have := hs1.out; omega) (fun g hg => by simp [Value.ownBlock] at hg)).below (Below.refl _ W3).drew); replace BE : Hid (Below w.heap.size w W3.drew) := (BE.out.trans (hs.kp.below BE.out.size (fun k hk e => by omega))).drew; clear hs hi3))
  clear L1
  go_wp2
  go_region_held3 (fun _ => True) (trivial) (first | (go_at_call 37; refine (record37 (fun j => j = W1.heap.size) _ _ _ _ z l0 l3 f2 f3 _ (Sg.fresh L2.out) ⟨_, _, rfl⟩ ⟨_, _, rfl⟩ (fun w' k => (rb_far H2.out BE.out k (Nat.le_of_lt hs1.out)).first l0 (by omega)) (fun w' k => (rb_far H3.out BE.out k (Nat.le_of_lt hs1.out)).first l3 (by omega)) (by omega) (by omega)).mono ?_; rintro e W4 ⟨rfl, ru, i4, hi4, hs⟩; have L4 := hid hs.led; replace L3 := hid (L3.out.kept hs.kp (fun e => by have := hs1.out; omega) (fun g hg e => led_far L3.out L2.out (by rw [← e]; exact hg))); replace BE : Hid (Below w.heap.size w W4) := BE.out.trans (hs.kp.below BE.out.size (fun k hk e => by have := hs1.out; omega)); clear hs hi4))
  clear L2
  go_wp2_with fail
  refine (awake36 W4).mono ?_
  rintro e W5 ⟨rfl, hb⟩
  replace L3 := hid (L3.out.below hb)
  replace L4 := hid (L4.out.below hb)
  replace BE : Hid (Below w.heap.size w W5) := BE.out.trans (hb.mono BE.out.size)
  clear hb
  have FW := hid (few_runs L3.out.pos (by rw [T3.out]; exact I3.out))
  have FL := hid (few_len L3.out (by rw [T3.out]; exact I3.out))
  go_wp2_with fail
  refine (runs22 _ _ _ _ L3.out (Nat.le_trans (Nat.mul_le_mul_right 24 (Nat.le_succ _)) FW.out)).mono ?_
  rintro e W6 ⟨v6, rfl, ho, hb⟩
  have R6 := hid ho.reads
  replace L4 := hid (L4.out.below hb)
  replace BE : Hid (Below w.heap.size w W6) := BE.out.trans (hb.mono BE.out.size)
  clear ho hb L3
  go_wp2_with fail
  refine (runs22 _ _ _ _ L4.out (Nat.le_trans (Nat.mul_le_mul_right 24 (Nat.le_succ _)) FW.out)).mono ?_
  rintro e W7 ⟨v7, rfl, ho, hb⟩
  replace R6 := hid (R6.out.below hb)
  have R7 := hid ho.reads
  replace BE : Hid (Below w.heap.size w W7) := BE.out.trans (hb.mono BE.out.size)
  clear ho hb L4
  go_wp2_with fail
  refine (same_runs R6.out R7.out FL.out).mono ?_
  rintro e W8 ⟨rfl, d, rfl⟩
  go_wp2
  go_ret
  exact ⟨rfl, below_drew' BE.out d⟩
set_option maxRecDepth 100000 in
set_option maxHeartbeats 4000000 in
theorem public_10 (a0 a1 a2 a3 : Option Addr) (l0 l1 l2 l3 c0 c1 c2 c3 : Nat) (f0 f1 f2 f3 : Nat → Int) (y z : Bool) (w : World) (w0 : By.RB w (.slice a0 l0 c0) l0 f0) (w1 : By.RB w (.slice a1 l1 c1) l1 f1) (w2 : By.RB w (.slice a2 l2 c2) l2 f2) (w3 : By.RB w (.slice a3 l3 c3) l3 f3)
    (q0 : l0 ≤ 140737488351232) (q1 : l1 ≤ 140737488351232) (q2 : l2 ≤ 140737488351232) (q3 : l3 ≤ 140737488351232) (hn : l2 < l0) (hm : ¬ l3 < l1) :
    Calls Try.prog 8 #[.slice a0 l0 c0, .slice a1 l1 c1, .slice a2 l2 c2, .slice a3 l3 c3, .bool y, .bool z] w fun e w' => e = .returned (.bool true) ∧ Below w.heap.size w w' := by
  have H0 := hid w0
  have H1 := hid w1
  have H2 := hid w2
  have H3 := hid w3
  have k0 := By.rb_cap w0
  have k1 := By.rb_cap w1
  have k2 := By.rb_cap w2
  have k3 := By.rb_cap w3
  have n0 : (l2 : Int) ≤ c0 := by omega
  have n1 : (l1 : Int) ≤ c1 := by omega
  have n2 : (l2 : Int) ≤ c2 := by omega
  have n3 : (l1 : Int) ≤ c3 := by omega
  clear w0 w1 w2 w3
  go_enter Try.func8, Try.ntmps8
  go_wp2_with fail
  refine (new9 w).mono ?_
  rintro e W1 ⟨rfl, hl, hb⟩
  have L1 := hid hl
  have hs1 := hid hl.lt
  have B1 := hid hb
  clear hl hb
  go_wp2_with fail
  refine (new9 W1).mono ?_
  rintro e W2 ⟨rfl, hl, hb⟩
  have L2 := hid (hl.below (Below.refl _ W2).drew)
  replace L1 := hid ((L1.out.below hb).below (Below.refl _ W2).drew)
  have BE : Hid (Below w.heap.size w W2.drew) := (B1.out.trans (hb.mono B1.out.size)).drew
  clear hl hb B1
  go_wp2
  go_region_held3 (fun _ => True) (trivial) (first | (go_at_call 37; refine (record37 (fun j => j = w.heap.size) _ _ _ _ y l2 l1 f0 f1 _ (Sg.fresh L1.out) ⟨_, _, rfl⟩ ⟨_, _, rfl⟩ (fun w' k => (rb_far H0.out BE.out k (Nat.le_refl _)).first l2 (by omega)) (fun w' k => (rb_far H1.out BE.out k (Nat.le_refl _)).first l1 (by omega)) (by omega) (by omega)).mono ?_; rintro e W3 ⟨rfl, rv, i3, hi3, hs⟩; have L3 := hid (hs.led.below (Below.refl _ W3).drew); have T3 := hid hs.ti; have I3 := hid hi3; replace L2 := hid ((L2.out.kept hs.kp (fun e => by have := hs1.out; omega) (fun g hg => by simp [Value.ownBlock] at hg)).below (Below.refl _ W3).drew); replace BE : Hid (Below w.heap.size w W3.drew) := (BE.out.trans (hs.kp.below BE.out.size (fun k hk e => by omega))).drew; clear hs hi3))
  clear L1
  go_wp2
  go_region_held3 (fun _ => True) (trivial) (first | (go_at_call 37; refine (record37 (fun j => j = W1.heap.size) _ _ _ _ z l2 l1 f2 f3 _ (Sg.fresh L2.out) ⟨_, _, rfl⟩ ⟨_, _, rfl⟩ (fun w' k => (rb_far H2.out BE.out k (Nat.le_of_lt hs1.out)).first l2 (by omega)) (fun w' k => (rb_far H3.out BE.out k (Nat.le_of_lt hs1.out)).first l1 (by omega)) (by omega) (by omega)).mono ?_; rintro e W4 ⟨rfl, ru, i4, hi4, hs⟩; have L4 := hid hs.led; replace L3 := hid (L3.out.kept hs.kp (fun e => by have := hs1.out; omega) (fun g hg e => led_far L3.out L2.out (by rw [← e]; exact hg))); replace BE : Hid (Below w.heap.size w W4) := BE.out.trans (hs.kp.below BE.out.size (fun k hk e => by have := hs1.out; omega)); clear hs hi4))
  clear L2
  go_wp2_with fail
  refine (awake36 W4).mono ?_
  rintro e W5 ⟨rfl, hb⟩
  replace L3 := hid (L3.out.below hb)
  replace L4 := hid (L4.out.below hb)
  replace BE : Hid (Below w.heap.size w W5) := BE.out.trans (hb.mono BE.out.size)
  clear hb
  have FW := hid (few_runs L3.out.pos (by rw [T3.out]; exact I3.out))
  have FL := hid (few_len L3.out (by rw [T3.out]; exact I3.out))
  go_wp2_with fail
  refine (runs22 _ _ _ _ L3.out (Nat.le_trans (Nat.mul_le_mul_right 24 (Nat.le_succ _)) FW.out)).mono ?_
  rintro e W6 ⟨v6, rfl, ho, hb⟩
  have R6 := hid ho.reads
  replace L4 := hid (L4.out.below hb)
  replace BE : Hid (Below w.heap.size w W6) := BE.out.trans (hb.mono BE.out.size)
  clear ho hb L3
  go_wp2_with fail
  refine (runs22 _ _ _ _ L4.out (Nat.le_trans (Nat.mul_le_mul_right 24 (Nat.le_succ _)) FW.out)).mono ?_
  rintro e W7 ⟨v7, rfl, ho, hb⟩
  replace R6 := hid (R6.out.below hb)
  have R7 := hid ho.reads
  replace BE : Hid (Below w.heap.size w W7) := BE.out.trans (hb.mono BE.out.size)
  clear ho hb L4
  go_wp2_with fail
  refine (same_runs R6.out R7.out FL.out).mono ?_
  rintro e W8 ⟨rfl, d, rfl⟩
  go_wp2
  go_ret
  exact ⟨rfl, below_drew' BE.out d⟩
set_option maxRecDepth 100000 in
set_option maxHeartbeats 4000000 in
theorem public_11 (a0 a1 a2 a3 : Option Addr) (l0 l1 l2 l3 c0 c1 c2 c3 : Nat) (f0 f1 f2 f3 : Nat → Int) (y z : Bool) (w : World) (w0 : By.RB w (.slice a0 l0 c0) l0 f0) (w1 : By.RB w (.slice a1 l1 c1) l1 f1) (w2 : By.RB w (.slice a2 l2 c2) l2 f2) (w3 : By.RB w (.slice a3 l3 c3) l3 f3)
    (q0 : l0 ≤ 140737488351232) (q1 : l1 ≤ 140737488351232) (q2 : l2 ≤ 140737488351232) (q3 : l3 ≤ 140737488351232) (hn : l2 < l0) (hm : l3 < l1) :
    Calls Try.prog 8 #[.slice a0 l0 c0, .slice a1 l1 c1, .slice a2 l2 c2, .slice a3 l3 c3, .bool y, .bool z] w fun e w' => e = .returned (.bool true) ∧ Below w.heap.size w w' := by
  have H0 := hid w0
  have H1 := hid w1
  have H2 := hid w2
  have H3 := hid w3
  have k0 := By.rb_cap w0
  have k1 := By.rb_cap w1
  have k2 := By.rb_cap w2
  have k3 := By.rb_cap w3
  have n0 : (l2 : Int) ≤ c0 := by omega
  have n1 : (l3 : Int) ≤ c1 := by omega
  have n2 : (l2 : Int) ≤ c2 := by omega
  have n3 : (l3 : Int) ≤ c3 := by omega
  clear w0 w1 w2 w3
  go_enter Try.func8, Try.ntmps8
  go_wp2_with fail
  refine (new9 w).mono ?_
  rintro e W1 ⟨rfl, hl, hb⟩
  have L1 := hid hl
  have hs1 := hid hl.lt
  have B1 := hid hb
  clear hl hb
  go_wp2_with fail
  refine (new9 W1).mono ?_
  rintro e W2 ⟨rfl, hl, hb⟩
  have L2 := hid (hl.below (Below.refl _ W2).drew)
  replace L1 := hid ((L1.out.below hb).below (Below.refl _ W2).drew)
  have BE : Hid (Below w.heap.size w W2.drew) := (B1.out.trans (hb.mono B1.out.size)).drew
  clear hl hb B1
  go_wp2
  go_region_held3 (fun _ => True) (trivial) (first | (go_at_call 37; refine (record37 (fun j => j = w.heap.size) _ _ _ _ y l2 l3 f0 f1 _ (Sg.fresh L1.out) ⟨_, _, rfl⟩ ⟨_, _, rfl⟩ (fun w' k => (rb_far H0.out BE.out k (Nat.le_refl _)).first l2 (by omega)) (fun w' k => (rb_far H1.out BE.out k (Nat.le_refl _)).first l3 (by omega)) (by omega) (by omega)).mono ?_; rintro e W3 ⟨rfl, rv, i3, hi3, hs⟩; have L3 := hid (hs.led.below (Below.refl _ W3).drew); have T3 := hid hs.ti; have I3 := hid hi3; replace L2 := hid ((L2.out.kept hs.kp (fun e => by have := hs1.out; omega) (fun g hg => by simp [Value.ownBlock] at hg)).below (Below.refl _ W3).drew); replace BE : Hid (Below w.heap.size w W3.drew) := (BE.out.trans (hs.kp.below BE.out.size (fun k hk e => by omega))).drew; clear hs hi3))
  clear L1
  go_wp2
  go_region_held3 (fun _ => True) (trivial) (first | (go_at_call 37; refine (record37 (fun j => j = W1.heap.size) _ _ _ _ z l2 l3 f2 f3 _ (Sg.fresh L2.out) ⟨_, _, rfl⟩ ⟨_, _, rfl⟩ (fun w' k => (rb_far H2.out BE.out k (Nat.le_of_lt hs1.out)).first l2 (by omega)) (fun w' k => (rb_far H3.out BE.out k (Nat.le_of_lt hs1.out)).first l3 (by omega)) (by omega) (by omega)).mono ?_; rintro e W4 ⟨rfl, ru, i4, hi4, hs⟩; have L4 := hid hs.led; replace L3 := hid (L3.out.kept hs.kp (fun e => by have := hs1.out; omega) (fun g hg e => led_far L3.out L2.out (by rw [← e]; exact hg))); replace BE : Hid (Below w.heap.size w W4) := BE.out.trans (hs.kp.below BE.out.size (fun k hk e => by have := hs1.out; omega)); clear hs hi4))
  clear L2
  go_wp2_with fail
  refine (awake36 W4).mono ?_
  rintro e W5 ⟨rfl, hb⟩
  replace L3 := hid (L3.out.below hb)
  replace L4 := hid (L4.out.below hb)
  replace BE : Hid (Below w.heap.size w W5) := BE.out.trans (hb.mono BE.out.size)
  clear hb
  have FW := hid (few_runs L3.out.pos (by rw [T3.out]; exact I3.out))
  have FL := hid (few_len L3.out (by rw [T3.out]; exact I3.out))
  go_wp2_with fail
  refine (runs22 _ _ _ _ L3.out (Nat.le_trans (Nat.mul_le_mul_right 24 (Nat.le_succ _)) FW.out)).mono ?_
  rintro e W6 ⟨v6, rfl, ho, hb⟩
  have R6 := hid ho.reads
  replace L4 := hid (L4.out.below hb)
  replace BE : Hid (Below w.heap.size w W6) := BE.out.trans (hb.mono BE.out.size)
  clear ho hb L3
  go_wp2_with fail
  refine (runs22 _ _ _ _ L4.out (Nat.le_trans (Nat.mul_le_mul_right 24 (Nat.le_succ _)) FW.out)).mono ?_
  rintro e W7 ⟨v7, rfl, ho, hb⟩
  replace R6 := hid (R6.out.below hb)
  have R7 := hid ho.reads
  replace BE : Hid (Below w.heap.size w W7) := BE.out.trans (hb.mono BE.out.size)
  clear ho hb L4
  go_wp2_with fail
  refine (same_runs R6.out R7.out FL.out).mono ?_
  rintro e W8 ⟨rfl, d, rfl⟩
  go_wp2
  go_ret
  exact ⟨rfl, below_drew' BE.out d⟩
theorem publics (a0 a1 a2 a3 : Option Addr) (l0 l1 l2 l3 c0 c1 c2 c3 : Nat) (f0 f1 f2 f3 : Nat → Int) (y z : Bool) (w : World) (w0 : By.RB w (.slice a0 l0 c0) l0 f0) (w1 : By.RB w (.slice a1 l1 c1) l1 f1) (w2 : By.RB w (.slice a2 l2 c2) l2 f2) (w3 : By.RB w (.slice a3 l3 c3) l3 f3)
    (q0 : l0 ≤ 140737488351232) (q1 : l1 ≤ 140737488351232) (q2 : l2 ≤ 140737488351232) (q3 : l3 ≤ 140737488351232) :
    Calls Try.prog 8 #[.slice a0 l0 c0, .slice a1 l1 c1, .slice a2 l2 c2, .slice a3 l3 c3, .bool y, .bool z] w fun e w' => e = .returned (.bool true) ∧ Below w.heap.size w w' := by
  by_cases hn : l2 < l0
  · by_cases hm : l3 < l1
    · exact public_11 a0 a1 a2 a3 l0 l1 l2 l3 c0 c1 c2 c3 f0 f1 f2 f3 y z w w0 w1 w2 w3 q0 q1 q2 q3 hn hm
    · exact public_10 a0 a1 a2 a3 l0 l1 l2 l3 c0 c1 c2 c3 f0 f1 f2 f3 y z w w0 w1 w2 w3 q0 q1 q2 q3 hn hm
  · by_cases hm : l3 < l1
    · exact public_01 a0 a1 a2 a3 l0 l1 l2 l3 c0 c1 c2 c3 f0 f1 f2 f3 y z w w0 w1 w2 w3 q0 q1 q2 q3 hn hm
    · exact public_00 a0 a1 a2 a3 l0 l1 l2 l3 c0 c1 c2 c3 f0 f1 f2 f3 y z w w0 w1 w2 w3 q0 q1 q2 q3 hn hm
end Go.Proofs.Ytmoadcoabfjbnaa
