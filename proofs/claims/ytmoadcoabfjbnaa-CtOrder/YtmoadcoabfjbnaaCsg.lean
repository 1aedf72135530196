/- One ledger of the program's while lists of bytes are looked at; the statements' helper 'awake' answers true; what their helper 'record' records. -/
import Derived.Test.YtmoadcoabfjbnaaCst
import Derived.Test.YtmoadcoabfjbnaaRreads
namespace Go.Proofs.Ytmoadcoabfjbnaa
open Go.ChangeShapes Go.WideShapes Go.ChangeAt Go.RowKit

/-- The ledger in block b has the runs L (i events); since w0 only blocks of S and new ones have turned. -/
structure Sg (S : Nat → Prop) (w0 W : World) (b : Nat) (rv : Value) (L : List Rn) (i : Int) : Prop where
  kp : Kp S w0 W
  led : Led W b rv L
  ti : tot L = i
  sb : b < w0.heap.size → S b
  sr : ∀ g, rv.ownBlock = some g → g < w0.heap.size → S g

theorem Sg.below {S : Nat → Prop} {w0 W W' : World} {b : Nat} {rv : Value} {L : List Rn} {i : Int} (h : Sg S w0 W b rv L i) (hb : Below W.heap.size W W') : Sg S w0 W' b rv L i :=
  ⟨h.kp.trans (Kp.of_below (fun _ => False) hb) (fun _ _ e => e.elim), h.led.below hb, h.ti, h.sb, h.sr⟩
theorem Sg.drewN {S : Nat → Prop} {w0 W : World} {b : Nat} {rv : Value} {L : List Rn} {i : Int} (h : Sg S w0 W b rv L i) (d : Nat) : Sg S w0 (W.drewN d) b rv L i := h.below (below_drewN W d)
theorem Sg.alloc {S : Nat → Prop} {w0 W : World} {b : Nat} {rv : Value} {L : List Rn} {i : Int} (h : Sg S w0 W b rv L i) (o : Obj) : Sg S w0 (W.alloc o) b rv L i := h.below (below_alloc W o)
theorem Sg.noted {S : Nat → Prop} {w0 W W' : World} {b : Nat} {rv rv' : Value} {L : List Rn} {i : Int} {r : Rn} (h : Sg S w0 W b rv L i) (hl : Led W' b rv' (putL L r)) (hr : r.c = 1) (hi : i < 9223372036854775807) (hk : Kp (fun j => j = b ∨ rv.ownBlock = some j) W W') (hs : SameOrNew W rv rv') :
    Sg S w0 W' b rv' (putL L r) (i + 1) ∧ Kb W W' := by
  have hti := h.ti
  refine ⟨⟨h.kp.trans hk ?_, hl, ?_, h.sb, ?_⟩, led_kb h.led hk⟩
  · rintro k hk' (rfl | hg)
    · exact h.sb hk'
    · exact h.sr k hg hk'
  · rw [tot_put h.led.pos (by omega) (by omega), hr, hti]
  · intro g hg hlt
    rcases hs with hs | hs
    · exact h.sr g (by rw [← hs]; exact hg) hlt
    · have h1 := hs g hg
      have h2 := h.kp.size
      omega
theorem Sg.notes {S : Nat → Prop} {w0 W : World} {b : Nat} {rv : Value} {L : List Rn} {i : Int} (h : Sg S w0 W b rv L i) (k s : Int) (hk : 0 ≤ k ∧ k < 256) (hs : 0 ≤ s ∧ s ≤ 140737488355999) (hi : i ≤ 1000) :
    By.Notes W (.pointer (some ⟨b, 0, none⟩)) k s (fun w' => ∃ rv', Sg S w0 w' b rv' (putL L ⟨k, s, 1⟩) (i + 1) ∧ Kb W w') := by
  have hti := h.ti
  refine (note39 b rv L k s W h.led (ev_ok k s hk hs) (by omega) (few_runs h.led.pos (by omega))).mono ?_
  rintro e w' ⟨rfl, rv', hl, hkp, hsn⟩
  exact ⟨rfl, rv', h.noted hl rfl (by omega) hkp hsn⟩
theorem Sg.runs {S : Nat → Prop} {w0 W : World} {b : Nat} {rv : Value} {L : List Rn} {i : Int} (h : Sg S w0 W b rv L i) (hi : i ≤ 1000) : Calls Try.prog 19 #[.pointer (some ⟨b, 0, none⟩)] W fun e w' => ∃ v, e = .returned v ∧ RB w' v L ∧ Below W.heap.size W w' := by
  have := few_runs h.led.pos (by rw [h.ti]; exact hi)
  refine (runs22 b rv L W h.led (by omega)).mono ?_
  rintro e w' ⟨v, rfl, ho, hb⟩
  exact ⟨v, rfl, ho.reads, hb⟩
theorem Sg.len {S : Nat → Prop} {w0 W : World} {b : Nat} {rv : Value} {L : List Rn} {i : Int} (h : Sg S w0 W b rv L i) : Calls Try.prog 35 #[.pointer (some ⟨b, 0, none⟩)] W fun e w' => e = .returned (.int .i64 i) ∧ w' = W := by
  refine (len20 b rv L W h.led).mono ?_
  rintro e w' ⟨rfl, rfl⟩
  exact ⟨by rw [h.ti], rfl⟩
theorem Sg.start {w0 W : World} (h : Led W w0.heap.size (.slice none 0 0) []) (b1 : Below w0.heap.size w0 W) : Sg (fun _ => False) w0 W w0.heap.size (.slice none 0 0) [] 0 :=
  ⟨Kp.of_below _ b1, h, rfl, fun e => absurd e (Nat.lt_irrefl _), fun g hg => by simp [Value.ownBlock] at hg⟩
theorem Sg.bel {w0 W : World} {b : Nat} {rv : Value} {L : List Rn} {i : Int} (h : Sg (fun _ => False) w0 W b rv L i) : Below w0.heap.size w0 W := h.kp.below (Nat.le_refl _) (fun _ _ e => e)
/-- A list of bytes that was just built. -/
theorem lit_own (w : World) (cs : Array Value) (g n : Nat) (f : Nat → Int) (hg : g = w.heap.size) (hf : ∀ i, 0 ≤ f i ∧ f i < 256) (hn : n ≤ 1000) (hs : cs.size = n) (hc : cs.toList = By.bl n f) :
    By.Own (w.alloc (.cells cs 5)) 0 (.slice (some ⟨g, 0, none⟩) n n) n f := by
  subst hg
  exact By.own_base (By.own_lit w cs n f hf (by simp [maxLen]; omega) hs hc) (Nat.zero_le _)
/-- A list out of numbers, as bytes. -/
def by8 (l : List Int) (i : Nat) : Int := By.lst l i
theorem by8_bound (l : List Int) (h : l.all (fun z => decide (0 ≤ z ∧ z < 256)) = true) (i : Nat) : 0 ≤ by8 l i ∧ by8 l i < 256 := By.lst_bound l h i

/-- The calls on one ledger. -/
def Then (S : Nat → Prop) (w0 W : World) (b : Nat) (L : List Rn) (i : Int) (w' : World) : Prop := ∃ rv', Sg S w0 w' b rv' L i ∧ Kb W w'
theorem Then.drewN {S : Nat → Prop} {w0 W w' : World} {b : Nat} {L : List Rn} {i : Int} (h : Then S w0 W b L i w') (d : Nat) : Then S w0 W b L i (w'.drewN d) := by
  obtain ⟨rv, h, k⟩ := h
  exact ⟨rv, h.drewN d, k.drewN d⟩
theorem Then.below {S : Nat → Prop} {w0 W w' w2 : World} {b : Nat} {L : List Rn} {i : Int} (h : Then S w0 W b L i w') (hb : Below w'.heap.size w' w2) : Then S w0 W b L i w2 := by
  obtain ⟨rv, h, k⟩ := h
  exact ⟨rv, h.below hb, k.trans (Kb.of_below hb)⟩
/-- Behind a note the list v still reads as n bytes f. -/
def Still (S : Nat → Prop) (w0 W : World) (v : Value) (n : Nat) (f : Nat → Int) : Prop := (∃ a c, v = .slice a n c) ∧ ∀ w', Kp S w0 w' → Kb W w' → By.RB w' v n f
theorem still_own {S : Nat → Prop} {w0 W : World} {base : Nat} {v : Value} {n : Nat} {f : Nat → Int} (h : By.Own W base v n f) : Still S w0 W v n f := ⟨By.own_lit_slice h, fun _ _ k => (own_kb h k).reads⟩
theorem still_first {S : Nat → Prop} {w0 W : World} {base g n cap : Nat} {f : Nat → Int} (h : By.Own W base (.slice (some ⟨g, 0, none⟩) n cap) n f) (k : Nat) (hk : k ≤ n) : Still S w0 W (.slice (some ⟨g, 0, none⟩) k cap) k f := ⟨⟨_, _, rfl⟩, fun _ _ kb => (own_kb h kb).reads.first k hk⟩
theorem Sg.equal {S : Nat → Prop} {w0 W : World} {b : Nat} {rv : Value} {L : List Rn} {i : Int} (h : Sg S w0 W b rv L i) (va vb : Value) (n : Nat) (f g : Nat → Int) (ha : Still S w0 W va n f) (hb : Still S w0 W vb n g) (hn : n ≤ 140737488355999) (hi : i ≤ 1000) :
    Calls Try.prog 12 #[.pointer (some ⟨b, 0, none⟩), va, vb] W fun e w' => e = .returned (.bool (By.eqB f g n)) ∧ Then S w0 W b (putL L ⟨6, n, 1⟩) (i + 1) w' := by
  refine (By.equal12 _ va vb n f g W _ (h.notes 6 n (by omega) (by omega) hi) ha.1 hb.1 (fun w' r => r.elim fun _ r => ha.2 w' r.1.kp r.2) (fun w' r => r.elim fun _ r => hb.2 w' r.1.kp r.2) hn).mono ?_
  rintro e w' ⟨rfl, w1, d, hr, rfl⟩
  exact ⟨rfl, Then.drewN hr d⟩
theorem Sg.less {S : Nat → Prop} {w0 W : World} {b : Nat} {rv : Value} {L : List Rn} {i : Int} (h : Sg S w0 W b rv L i) (va vb : Value) (n : Nat) (f g : Nat → Int) (ha : Still S w0 W va n f) (hb : Still S w0 W vb n g) (hn : n ≤ 140737488355999) (hi : i ≤ 1000) :
    Calls Try.prog 14 #[.pointer (some ⟨b, 0, none⟩), va, vb] W fun e w' => e = .returned (.tuple #[.bool (By.less f g n), .int .i64 0]) ∧ Then S w0 W b (putL L ⟨6, n, 1⟩) (i + 1) w' := by
  refine (By.less14 _ va vb n f g W _ (h.notes 6 n (by omega) (by omega) hi) ha.1 hb.1 (fun w' r => r.elim fun _ r => ha.2 w' r.1.kp r.2) (fun w' r => r.elim fun _ r => hb.2 w' r.1.kp r.2) hn).mono ?_
  rintro e w' ⟨rfl, w1, d, hr, rfl⟩
  exact ⟨rfl, Then.drewN hr d⟩
theorem Sg.zero {S : Nat → Prop} {w0 W : World} {b : Nat} {rv : Value} {L : List Rn} {i : Int} (h : Sg S w0 W b rv L i) (va : Value) (n : Nat) (f : Nat → Int) (ha : Still S w0 W va n f) (hn : n ≤ 140737488355999) (hi : i ≤ 1000) :
    Calls Try.prog 16 #[.pointer (some ⟨b, 0, none⟩), va] W fun e w' => e = .returned (.bool (By.zeroB f n)) ∧ Then S w0 W b (putL L ⟨6, n, 1⟩) (i + 1) w' := by
  refine (By.zero16 _ va n f W _ (h.notes 6 n (by omega) (by omega) hi) ha.1 (fun w' r => r.elim fun _ r => ha.2 w' r.1.kp r.2) hn).mono ?_
  rintro e w' ⟨rfl, hr⟩
  exact ⟨rfl, hr⟩
theorem Sg.choose {S : Nat → Prop} {w0 W : World} {b : Nat} {rv : Value} {L : List Rn} {i : Int} (h : Sg S w0 W b rv L i) (y : Bool) (va vb : Value) (n : Nat) (f g : Nat → Int) (ha : Still S w0 W va n f) (hb : Still S w0 W vb n g) (hn : n ≤ 140737488355328) (hi : i ≤ 1000) :
    Calls Try.prog 22 #[.pointer (some ⟨b, 0, none⟩), .bool y, va, vb] W fun e w' => ∃ v, e = .returned (.tuple #[v, .int .i64 0]) ∧ By.Own w' W.heap.size v n (By.sel y f g) ∧ Then S w0 W b (putL L ⟨7, n, 1⟩) (i + 1) w' := by
  refine (By.choose22 _ va vb y n f g W _ (h.notes 7 n (by omega) (by omega) hi) ha.1 hb.1 (fun w' r => r.elim fun _ r => ha.2 w' r.1.kp r.2) (fun w' r => r.elim fun _ r => hb.2 w' r.1.kp r.2) hn).mono ?_
  rintro e w' ⟨v, rfl, w1, hr, ho, hb'⟩
  have hr' : Then S w0 W b (putL L ⟨7, n, 1⟩) (i + 1) w1 := hr
  exact ⟨v, rfl, By.own_base ho (hr'.elim fun _ k => k.2.1), hr'.below hb'⟩
theorem Sg.pushed {S : Nat → Prop} {w0 W W' : World} {b base n : Nat} {rv u : Value} {L : List Rn} {i : Int} {f : Nat → Int} (h : Sg S w0 W b rv L i) (hu : By.Own W base u n f) (hg : W.grownBy W' u.ownBlock) (hb : w0.heap.size ≤ base) : Sg S w0 W' b rv L i := by
  rcases hu.shape with ⟨rfl, _⟩ | ⟨g, cap, rfl, hge, _⟩
  · exact h.below (By.Below.of_grown hg)
  · obtain ⟨cs, fr, e⟩ := own_cellsB hu
    have hk : Kp (fun k => k = g) W W' := (Kp.of_grown hg).mono (fun k _ h => by cases h; rfl)
    refine ⟨h.kp.trans hk (fun k hk' e => by omega), h.led.kept hk ?_ (fun q hq e' => ?_), h.ti, h.sb, h.sr⟩
    · intro e'; subst e'; rw [h.led.here] at e; simp at e
    · subst e'; exact own_runs h.led.own hq e
/-- Wipe of a whole list that the call owns. -/
theorem Sg.wipe {S : Nat → Prop} {w0 W : World} {b base : Nat} {rv : Value} {L : List Rn} {i : Int} (h : Sg S w0 W b rv L i) (v : Value) (n : Nat) (f : Nat → Int) (ho : By.Own W base v n f) (hb : w0.heap.size ≤ base) (hn : n ≤ 140737488355999) (hi : i ≤ 1000) :
    Calls Try.prog 31 #[.pointer (some ⟨b, 0, none⟩), v] W fun e w' => e = .returned (.tuple #[]) ∧ By.Own w' base v n (fun _ => 0) ∧ ∃ rv', Sg S w0 w' b rv' (putL L ⟨8, n, 1⟩) (i + 1) ∧ ∃ w1, Kb W w1 ∧ w1.grownBy w' v.ownBlock := by
  rcases ho.shape with ⟨rfl, rfl⟩ | ⟨g, cap, rfl, hge, _⟩
  · refine (By.wipe31_z _ none 0 W _ (h.notes 8 (0 : Nat) (by omega) (by omega) hi)).mono ?_
    rintro e w' ⟨rfl, rv', hs, hk⟩
    exact ⟨rfl, By.own_nil _ _ _ (fun _ => ⟨Int.le_refl _, show (0 : Int) < 256 by omega⟩), rv', hs, w', hk, World.grownBy.refl _ _⟩
  · refine (By.wipe31 _ base g n cap 0 n cap f W _ (h.notes 8 n (by omega) (by omega) hi) (fun w' r => r.elim fun _ r => own_kb ho r.2) (by omega)).mono ?_
    rintro e w' ⟨rfl, w1, ⟨rv', hs, hk⟩, ho', hg⟩
    refine ⟨rfl, By.own_congr ho' (fun _ => ⟨Int.le_refl _, show (0 : Int) < 256 by omega⟩) (fun i hi => by unfold By.wiped; rw [if_pos (by omega)]), rv', hs.pushed (own_kb ho hk) hg hb, w1, hk, hg⟩

set_option maxRecDepth 100000 in
set_option maxHeartbeats 2400000 in
theorem awake36 (w : World) : Calls Try.prog 36 #[] w fun e w' => e = .returned (.bool true) ∧ Below w.heap.size w w' := by
  have E1 := hid (show By.less (by8 [1, 255]) (by8 [2, 0]) 2 = true by decide)
  have E2 := hid (show By.eqB (by8 [1, 2]) (by8 [1, 2]) 2 = true by decide)
  have E3 := hid (show By.eqB (by8 [1, 2]) (by8 [1, 3]) 2 = false by decide)
  have M1 := hid (show By.msk true = 255 from rfl)
  have M2 := hid (show By.msk false = 0 from rfl)
  go_enter Try.func36, Try.ntmps36
  go_wp2_with fail
  refine (new9 w).mono ?_
  rintro e W1 ⟨rfl, hl, hb⟩
  have SG := hid (Sg.start hl hb)
  clear hl hb
  go_wp2_with fail
  refine (((SG.out.alloc _).alloc _).less _ _ 2 (by8 [1, 255]) (by8 [2, 0]) (still_own (By.own_alloc (lit_own _ (#[.int .u8 1, .int .u8 255]) _ 2 (by8 [1, 255]) ?g0 (by8_bound _ rfl) (by omega) rfl (by kernel_rfl)) _)) (still_own (lit_own _ (#[.int .u8 2, .int .u8 0]) _ 2 (by8 [2, 0]) ?g1 (by8_bound _ rfl) (by omega) rfl (by kernel_rfl))) (by omega) (by omega)).mono ?_
  case g0 => first | rfl | simp
  case g1 => first | rfl | simp
  rintro e W2 ⟨rfl, r2, hs, hk⟩
  replace SG := hid hs
  clear hs hk
  rw [E1.out]
  go_wp2_with fail
  refine (((SG.out.alloc _).alloc _).equal _ _ 2 (by8 [1, 2]) (by8 [1, 2]) (still_own (By.own_alloc (lit_own _ (#[.int .u8 1, .int .u8 2]) _ 2 (by8 [1, 2]) ?g0 (by8_bound _ rfl) (by omega) rfl (by kernel_rfl)) _)) (still_own (lit_own _ (#[.int .u8 1, .int .u8 2]) _ 2 (by8 [1, 2]) ?g1 (by8_bound _ rfl) (by omega) rfl (by kernel_rfl))) (by omega) (by omega)).mono ?_
  case g0 => first | rfl | simp
  case g1 => first | rfl | simp
  rintro e W3 ⟨rfl, r3, hs, hk⟩
  replace SG := hid hs
  clear hs hk
  rw [E2.out]
  go_wp2_with fail
  refine (((SG.out.alloc _).alloc _).equal _ _ 2 (by8 [1, 2]) (by8 [1, 3]) (still_own (By.own_alloc (lit_own _ (#[.int .u8 1, .int .u8 2]) _ 2 (by8 [1, 2]) ?g0 (by8_bound _ rfl) (by omega) rfl (by kernel_rfl)) _)) (still_own (lit_own _ (#[.int .u8 1, .int .u8 3]) _ 2 (by8 [1, 3]) ?g1 (by8_bound _ rfl) (by omega) rfl (by kernel_rfl))) (by omega) (by omega)).mono ?_
  case g0 => first | rfl | simp
  case g1 => first | rfl | simp
  rintro e W4 ⟨rfl, r4, hs, hk⟩
  replace SG := hid hs
  clear hs hk
  rw [E3.out]
  go_wp2_with fail
  refine SG.out.len.mono ?_
  rintro e W5 ⟨rfl, h⟩
  subst h
  go_wp2_with fail
  refine (By.mask24 true _).mono ?_
  rintro e W5 ⟨rfl, h⟩
  subst h
  rw [M1.out]
  go_wp2_with fail
  refine (By.mask24 false _).mono ?_
  rintro e W5 ⟨rfl, h⟩
  subst h
  rw [M2.out]
  go_wp2
  go_ret
  exact ⟨rfl, SG.out.bel⟩
/-- What 'record' records of two lists of n and of m bytes. -/
def recd (n m : Nat) : List Rn :=
  let L1 := if n = m then putL (putL [] ⟨6, n, 1⟩) ⟨6, n, 1⟩ else []
  let L2 := putL L1 ⟨6, n, 1⟩
  let L3 := if n = m then putL L2 ⟨7, n, 1⟩ else L2
  putL (putL L3 ⟨7, m, 1⟩) ⟨8, m, 1⟩
theorem still_rb {S : Nat → Prop} {w0 W : World} {v : Value} {n : Nat} {f : Nat → Int} (hv : ∃ a c, v = .slice a n c) (h : ∀ w', Kp S w0 w' → By.RB w' v n f) : Still S w0 W v n f := ⟨hv, fun w' k _ => h w' k⟩
set_option maxRecDepth 100000 in
set_option maxHeartbeats 2400000 in
theorem record_same (S : Nat → Prop) (b : Nat) (rv va vb : Value) (y : Bool) (n : Nat) (f g : Nat → Int) (w : World) (h : Sg S w w b rv [] 0) (sa : ∃ a c, va = .slice a n c) (sb : ∃ a c, vb = .slice a n c) (ha : ∀ w', Kp S w w' → By.RB w' va n f) (hb : ∀ w', Kp S w w' → By.RB w' vb n g) (hn : n ≤ 140737488351232) :
    Calls Try.prog 37 #[.pointer (some ⟨b, 0, none⟩), va, vb, .bool y] w fun e w' => e = .returned (.tuple #[]) ∧ ∃ rv', Sg S w w' b rv' (recd n n) 6 := by
  have SG := hid h
  have HVA := hid sa
  have HVB := hid sb
  have HA := hid ha
  have HB := hid hb
  clear h sa sb ha hb
  go_enter Try.func37, Try.ntmps37
  go_wp2_with fail
  refine (SG.out.equal _ _ n f g (still_rb HVA.out HA.out) (still_rb HVB.out HB.out) (by omega) (by omega)).mono ?_
  rintro e W1 ⟨rfl, r1, hs, hk⟩
  replace SG := hid hs
  clear hs hk
  go_wp2_with fail
  refine (SG.out.less _ _ n f g (still_rb HVA.out HA.out) (still_rb HVB.out HB.out) (by omega) (by omega)).mono ?_
  rintro e W2 ⟨rfl, r2, hs, hk⟩
  replace SG := hid hs
  clear hs hk
  go_wp2_with fail
  refine (SG.out.zero _ n f (still_rb HVA.out HA.out) (by omega) (by omega)).mono ?_
  rintro e W3 ⟨rfl, r3, hs, hk⟩
  replace SG := hid hs
  clear hs hk
  go_wp2_with fail
  refine (SG.out.choose y _ _ n f g (still_rb HVA.out HA.out) (still_rb HVB.out HB.out) (by omega) (by omega)).mono ?_
  rintro e W4 ⟨v4, rfl, _, r4, hs, hk⟩
  replace SG := hid hs
  clear hs hk
  go_wp2_with fail
  refine (SG.out.choose y _ _ n g g (still_rb HVB.out HB.out) (still_rb HVB.out HB.out) (by omega) (by omega)).mono ?_
  rintro e W5 ⟨v5, rfl, _, r5, hs, hk⟩
  replace SG := hid hs
  clear hs hk
  go_wp2_with fail
  refine (By.copy16 _ n g _ (HB.out _ SG.out.kp) (by omega)).mono ?_
  rintro e W6 ⟨v6, rfl, ho, hb⟩
  have S6 := hid SG.out.kp.size
  replace SG := hid (SG.out.below hb)
  have O6 := hid ho
  clear ho hb
  go_wp2_with fail
  refine (SG.out.wipe v6 n g O6.out S6.out (by omega) (by omega)).mono ?_
  rintro e W7 ⟨rfl, _, r7, hs, _⟩
  have R : Hid (∃ rv', Sg S w W7 b rv' (recd n n) 6) := ⟨r7, by unfold recd; simp only [if_true]; exact hs⟩
  clear hs
  go_wp2
  go_end0
  exact ⟨rfl, R.out⟩
set_option maxRecDepth 100000 in
set_option maxHeartbeats 2400000 in
theorem record_apart (S : Nat → Prop) (b : Nat) (rv va vb : Value) (y : Bool) (n m : Nat) (f g : Nat → Int) (w : World) (h : Sg S w w b rv [] 0) (sa : ∃ a c, va = .slice a n c) (sb : ∃ a c, vb = .slice a m c) (ha : ∀ w', Kp S w w' → By.RB w' va n f) (hb : ∀ w', Kp S w w' → By.RB w' vb m g) (hn : n ≤ 140737488351232) (hm : m ≤ 140737488351232) (hnm : n ≠ m) :
    Calls Try.prog 37 #[.pointer (some ⟨b, 0, none⟩), va, vb, .bool y] w fun e w' => e = .returned (.tuple #[]) ∧ ∃ rv', Sg S w w' b rv' (recd n m) 3 := by
  have SG := hid h
  have HVA := hid sa
  have HVB := hid sb
  have HA := hid ha
  have HB := hid hb
  clear h sa sb ha hb
  go_enter Try.func37, Try.ntmps37
  go_wp2_with fail
  refine (By.equal12x _ _ _ n m _ HVA.out HVB.out hnm).mono ?_
  rintro e w ⟨rfl, h⟩
  subst h
  go_wp2_with fail
  refine (By.less14x _ _ _ n m _ HVA.out HVB.out hnm).mono ?_
  rintro e w ⟨rfl, h⟩
  subst h
  go_wp2_with fail
  refine (SG.out.zero _ n f (still_rb HVA.out HA.out) (by omega) (by omega)).mono ?_
  rintro e W3 ⟨rfl, r3, hs, hk⟩
  replace SG := hid hs
  clear hs hk
  go_wp2_with fail
  refine (By.choose22x _ _ _ y n m _ HVA.out HVB.out hnm).mono ?_
  rintro e W1 ⟨rfl, h⟩
  subst h
  go_wp2_with fail
  refine (SG.out.choose y _ _ m g g (still_rb HVB.out HB.out) (still_rb HVB.out HB.out) (by omega) (by omega)).mono ?_
  rintro e W5 ⟨v5, rfl, _, r5, hs, hk⟩
  replace SG := hid hs
  clear hs hk
  go_wp2_with fail
  refine (By.copy16 _ m g _ (HB.out _ SG.out.kp) (by omega)).mono ?_
  rintro e W6 ⟨v6, rfl, ho, hb⟩
  have S6 := hid SG.out.kp.size
  replace SG := hid (SG.out.below hb)
  have O6 := hid ho
  clear ho hb
  go_wp2_with fail
  refine (SG.out.wipe v6 m g O6.out S6.out (by omega) (by omega)).mono ?_
  rintro e W7 ⟨rfl, _, r7, hs, _⟩
  have R : Hid (∃ rv', Sg S w W7 b rv' (recd n m) 3) := ⟨r7, by unfold recd; simp only [hnm, if_false]; exact hs⟩
  clear hs
  go_wp2
  go_end0
  exact ⟨rfl, R.out⟩
theorem record37 (S : Nat → Prop) (b : Nat) (rv va vb : Value) (y : Bool) (n m : Nat) (f g : Nat → Int) (w : World) (h : Sg S w w b rv [] 0) (sa : ∃ a c, va = .slice a n c) (sb : ∃ a c, vb = .slice a m c) (ha : ∀ w', Kp S w w' → By.RB w' va n f) (hb : ∀ w', Kp S w w' → By.RB w' vb m g) (hn : n ≤ 140737488351232) (hm : m ≤ 140737488351232) :
    Calls Try.prog 37 #[.pointer (some ⟨b, 0, none⟩), va, vb, .bool y] w fun e w' => e = .returned (.tuple #[]) ∧ ∃ rv' i, i ≤ 1000 ∧ Sg S w w' b rv' (recd n m) i := by
  by_cases hnm : n = m
  · subst hnm
    refine (record_same S b rv va vb y n f g w h sa sb ha hb hn).mono ?_
    rintro e w' ⟨rfl, rv', hs⟩
    exact ⟨rfl, rv', 6, by omega, hs⟩
  · refine (record_apart S b rv va vb y n m f g w h sa sb ha hb hn hm hnm).mono ?_
    rintro e w' ⟨rfl, rv', hs⟩
    exact ⟨rfl, rv', 3, by omega, hs⟩
end Go.Proofs.Ytmoadcoabfjbnaa
