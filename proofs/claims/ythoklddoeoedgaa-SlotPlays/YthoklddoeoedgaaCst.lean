/- A ledger of the program's beside one of the document's, while events are recorded in either and lists of bytes are looked at: what stays, what turns. -/
import Derived.Test.YthoklddoeoedgaaRref
import Derived.Test.YthoklddoeoedgaaCref
import Derived.Test.YthoklddoeoedgaaBapart
namespace Go.Proofs.Ythoklddoeoedgaa
open Go.ChangeShapes Go.WideShapes Go.ChangeAt Go.RowKit

/-- Lists of bytes that lie in blocks of their own stay. -/
def Kb (w w' : World) : Prop := w.heap.size ≤ w'.heap.size ∧ ∀ (g : Nat) (cs : Array Value) (fr : Nat × Nat), w.heap[g]? = some (.cells cs 5 fr) → w'.heap[g]? = some (.cells cs 5 fr)
theorem Kb.refl (w : World) : Kb w w := ⟨Nat.le_refl _, fun _ _ _ h => h⟩
theorem Kb.trans {a b c : World} (h : Kb a b) (k : Kb b c) : Kb a c := ⟨Nat.le_trans h.1 k.1, fun g cs fr e => k.2 g cs fr (h.2 g cs fr e)⟩
theorem Kb.of_below {w w' : World} (h : Below w.heap.size w w') : Kb w w' := ⟨h.size, fun g cs fr e => by rw [h.block g (Array.getElem?_eq_some_iff.1 e).1]; exact e⟩
theorem Kb.drewN {w w' : World} (h : Kb w w') (d : Nat) : Kb w (w'.drewN d) := h
theorem Kb.of_kp {w w' : World} {S : Nat → Prop} (h : Kp S w w') (hs : ∀ g cs fr, w.heap[g]? = some (.cells cs 5 fr) → ¬ S g) : Kb w w' :=
  ⟨h.size, fun g cs fr e => by rw [h.block g (Array.getElem?_eq_some_iff.1 e).1 (hs g cs fr e)]; exact e⟩
theorem own_kb {w w' : World} {base : Nat} {v : Value} {n : Nat} {f : Nat → Int} (h : By.Own w base v n f) (hk : Kb w w') : By.Own w' base v n f := by
  refine ⟨h.1, h.2.1, ?_⟩
  rcases h.2.2 with hn | ⟨g, cap, cur, rfl, hb, hg, rest⟩
  · exact .inl hn
  · exact .inr ⟨g, cap, cur, rfl, hb, hk.2 g _ _ hg, rest⟩
theorem own_cellsB {w : World} {base g n cap : Nat} {f : Nat → Int} (h : By.Own w base (.slice (some ⟨g, 0, none⟩) n cap) n f) : ∃ cs fr, w.heap[g]? = some (.cells cs 5 fr) := by
  rcases h.2.2 with ⟨hn, _⟩ | ⟨g', cap', cur, he, hb, hg, rest⟩
  · simp at hn
  · simp only [Value.slice.injEq, Option.some.injEq, Addr.mk.injEq, and_true] at he
    obtain ⟨rfl, _, _⟩ := he
    exact ⟨_, _, hg⟩
/-- The block of a list of runs holds no bytes. -/
theorem own_runs {w : World} {base : Nat} {v : Value} {L : List Rn} (h : Own w base v L) {g : Nat} (hg : v.ownBlock = some g) {cs : Array Value} {fr : Nat × Nat} (e : w.heap[g]? = some (.cells cs 5 fr)) : False := by
  rcases h.2.2 with ⟨rfl, _⟩ | ⟨g', cap, cur, rfl, _, hh, _⟩
  · simp [Value.ownBlock] at hg
  · simp [Value.ownBlock] at hg
    subst hg
    rw [hh] at e
    simp at e
theorem led_kb {w w' : World} {b : Nat} {rv : Value} {L : List Rn} (h : Led w b rv L) (hk : Kp (fun j => j = b ∨ rv.ownBlock = some j) w w') : Kb w w' := by
  refine Kb.of_kp hk (fun g cs fr e => ?_)
  rintro (rfl | hg)
  · rw [h.here] at e; simp at e
  · exact own_runs h.own hg e
theorem rled_kb {w w' : World} {b : Nat} {rv : Value} {L : List Rn} (h : RLed w b rv L) (hk : Kp (fun j => j = b ∨ rv.ownBlock = some j) w w') : Kb w w' := by
  refine Kb.of_kp hk (fun g cs fr e => ?_)
  rintro (rfl | hg)
  · rw [h.here] at e; simp at e
  · exact own_runs h.own hg e

set_option maxHeartbeats 1200000 in
theorem note39 (b : Nat) (rv : Value) (L : List Rn) (k s : Int) (w : World) (h : Led w b rv L) (hr : (⟨k, s, 1⟩ : Rn).Ok) (hb : tot L + 1 ≤ 9223372036854775807) (hN : (L.length + 1) * 24 ≤ 140737488355328) :
    Calls Try.prog 40 #[.pointer (some ⟨b, 0, none⟩), .int .u8 k, .int .i64 s] w fun e w' => e = .returned (.tuple #[]) ∧ ∃ rv', Led w' b rv' (putL L ⟨k, s, 1⟩) ∧ Kp (fun j => j = b ∨ rv.ownBlock = some j) w w' ∧ SameOrNew w rv rv' := by
  have H := hid h
  have HR := hid hr
  clear h hr
  go_enter Try.func40, Try.ntmps40
  go_wp2_with fail
  refine (note16 b rv L k s w H.out HR.out hb hN).mono ?_
  rintro e w1 ⟨rfl, hR⟩
  have R := hid hR
  clear hR
  go_wp2
  go_end0
  exact ⟨rfl, R.out⟩
set_option maxHeartbeats 1200000 in
theorem note39n (k s : Int) (w : World) : By.Notes w (.pointer none) k s (fun w' => Below w.heap.size w w') := by
  show Calls _ _ _ _ _
  go_enter Try.func40, Try.ntmps40
  go_wp2_with fail
  refine (note16n k s w).mono ?_
  rintro e w1 ⟨rfl, hb⟩
  have R := hid hb
  clear hb
  go_wp2
  go_end0
  exact ⟨rfl, R.out⟩

/-- The state: the program's ledger in block b, its runs L (i events), the document's in block c, its runs M (j events); all of it new since w0. -/
structure St (w0 W : World) (b : Nat) (rv : Value) (L : List Rn) (i : Int) (c : Nat) (ru : Value) (M : List Rn) (j : Int) : Prop where
  bel : Below w0.heap.size w0 W
  led : Led W b rv L
  ref : RLed W c ru M
  ti : tot L = i
  tj : tot M = j
  lb : w0.heap.size ≤ b
  lc : w0.heap.size ≤ c
  lrv : ∀ g, rv.ownBlock = some g → w0.heap.size ≤ g
  lru : ∀ g, ru.ownBlock = some g → w0.heap.size ≤ g
  ap : ∀ g, rv.ownBlock = some g → ru.ownBlock ≠ some g

theorem St.bc {w0 W : World} {b c : Nat} {rv ru : Value} {L M : List Rn} {i j : Int} (h : St w0 W b rv L i c ru M j) : b ≠ c := by
  intro e
  have h1 := h.led.here
  have h2 := h.ref.here
  rw [e, h2] at h1
  simp at h1
theorem St.brv {w0 W : World} {b c : Nat} {rv ru : Value} {L M : List Rn} {i j : Int} (h : St w0 W b rv L i c ru M j) : ru.ownBlock ≠ some b := by
  intro e
  rcases h.ref.own.2.2 with ⟨rfl, _⟩ | ⟨g, cap, cur, rfl, _, hg, _⟩
  · simp [Value.ownBlock] at e
  · simp [Value.ownBlock] at e
    subst e
    rw [h.led.here] at hg
    simp at hg
theorem St.crv {w0 W : World} {b c : Nat} {rv ru : Value} {L M : List Rn} {i j : Int} (h : St w0 W b rv L i c ru M j) : rv.ownBlock ≠ some c := by
  intro e
  rcases h.led.own.2.2 with ⟨rfl, _⟩ | ⟨g, cap, cur, rfl, _, hg, _⟩
  · simp [Value.ownBlock] at e
  · simp [Value.ownBlock] at e
    subst e
    rw [h.ref.here] at hg
    simp at hg
theorem St.below {w0 W W' : World} {b c : Nat} {rv ru : Value} {L M : List Rn} {i j : Int} (h : St w0 W b rv L i c ru M j) (hb : Below W.heap.size W W') : St w0 W' b rv L i c ru M j :=
  ⟨h.bel.trans (hb.mono h.bel.size), h.led.below hb, h.ref.below hb, h.ti, h.tj, h.lb, h.lc, h.lrv, h.lru, h.ap⟩
theorem St.drewN {w0 W : World} {b c : Nat} {rv ru : Value} {L M : List Rn} {i j : Int} (h : St w0 W b rv L i c ru M j) (d : Nat) : St w0 (W.drewN d) b rv L i c ru M j := h.below (below_drewN W d)
theorem St.start {w0 W1 W2 : World} (h1 : Led W1 w0.heap.size (.slice none 0 0) []) (b1 : Below w0.heap.size w0 W1) (h2 : RLed W2 W1.heap.size (.slice none 0 0) []) (b2 : Below W1.heap.size W1 W2) : St w0 W2 w0.heap.size (.slice none 0 0) [] 0 W1.heap.size (.slice none 0 0) [] 0 :=
  ⟨b1.trans (b2.mono b1.size), h1.below b2, h2, rfl, rfl, Nat.le_refl _, b1.size, fun g hg => by simp [Value.ownBlock] at hg, fun g hg => by simp [Value.ownBlock] at hg, fun g hg => by simp [Value.ownBlock] at hg⟩
theorem St.noted {w0 W W' : World} {b c : Nat} {rv ru rv' : Value} {L M : List Rn} {i j : Int} {r : Rn} (h : St w0 W b rv L i c ru M j) (hl : Led W' b rv' (putL L r)) (hr : r.c = 1) (hi : i < 9223372036854775807) (hk : Kp (fun j => j = b ∨ rv.ownBlock = some j) W W') (hs : SameOrNew W rv rv') :
    St w0 W' b rv' (putL L r) (i + 1) c ru M j ∧ Kb W W' := by
  have hti := h.ti
  refine ⟨⟨?_, hl, ?_, ?_, h.tj, h.lb, h.lc, ?_, h.lru, ?_⟩, led_kb h.led hk⟩
  · refine h.bel.trans (hk.below h.bel.size (fun k hk' => ?_))
    rintro (rfl | hg)
    · have := h.lb; omega
    · have := h.lrv k hg; omega
  · refine h.ref.kept hk ?_ (fun g hg => ?_)
    · rintro (e | e)
      · exact h.bc e.symm
      · exact h.crv e
    · rintro (e | e)
      · subst e; exact h.brv hg
      · exact h.ap g e hg
  · rw [tot_put h.led.pos (by omega) (by omega), hr, hti]
  · intro g hg
    rcases hs with hs | hs
    · exact h.lrv g (by rw [← hs]; exact hg)
    · exact Nat.le_trans h.bel.size (hs g hg)
  · intro g hg e
    rcases hs with hs | hs
    · exact h.ap g (by rw [← hs]; exact hg) e
    · have := (h.ref.own.lt g e).2
      have := hs g hg
      omega
theorem St.rnoted {w0 W W' : World} {b c : Nat} {rv ru ru' : Value} {L M : List Rn} {i j : Int} {r : Rn} (h : St w0 W b rv L i c ru M j) (hl : RLed W' c ru' (putL M r)) (hr : r.c = 1) (hj : j < 9223372036854775807) (hk : Kp (fun j => j = c ∨ ru.ownBlock = some j) W W') (hs : SameOrNew W ru ru') :
    St w0 W' b rv L i c ru' (putL M r) (j + 1) ∧ Kb W W' := by
  have htj := h.tj
  refine ⟨⟨?_, ?_, hl, h.ti, ?_, h.lb, h.lc, h.lrv, ?_, ?_⟩, rled_kb h.ref hk⟩
  · refine h.bel.trans (hk.below h.bel.size (fun k hk' => ?_))
    rintro (rfl | hg)
    · have := h.lc; omega
    · have := h.lru k hg; omega
  · refine h.led.kept hk ?_ (fun g hg => ?_)
    · rintro (e | e)
      · exact h.bc e
      · exact h.brv e
    · rintro (e | e)
      · subst e; exact h.crv hg
      · exact h.ap g hg e
  · rw [tot_put h.ref.pos (by omega) (by omega), hr, htj]
  · intro g hg
    rcases hs with hs | hs
    · exact h.lru g (by rw [← hs]; exact hg)
    · exact Nat.le_trans h.bel.size (hs g hg)
  · intro g hg e
    rcases hs with hs | hs
    · exact h.ap g hg (by rw [← hs]; exact e)
    · have := (h.led.own.lt g hg).2
      have := hs g e
      omega
theorem ev_ok (k s : Int) (hk : 0 ≤ k ∧ k < 256) (hs : 0 ≤ s ∧ s ≤ 140737488355999) : (⟨k, s, 1⟩ : Rn).Ok := ⟨hk, ⟨by show -9223372036854775808 ≤ s; omega, by show s ≤ 9223372036854775807; omega⟩, ⟨by show -9223372036854775808 ≤ (1 : Int); omega, by show (1 : Int) ≤ 9223372036854775807; omega⟩⟩
theorem few_runs {L : List Rn} (h : Pos L) (ht : tot L ≤ 1000) : (L.length + 1) * 24 ≤ 140737488355328 := by
  have := tot_pos h
  omega
theorem St.notes {w0 W : World} {b c : Nat} {rv ru : Value} {L M : List Rn} {i j : Int} (h : St w0 W b rv L i c ru M j) (k s : Int) (hk : 0 ≤ k ∧ k < 256) (hs : 0 ≤ s ∧ s ≤ 140737488355999) (hi : i ≤ 1000) :
    By.Notes W (.pointer (some ⟨b, 0, none⟩)) k s (fun w' => ∃ rv', St w0 w' b rv' (putL L ⟨k, s, 1⟩) (i + 1) c ru M j ∧ Kb W w') := by
  have hti := h.ti
  refine (note39 b rv L k s W h.led (ev_ok k s hk hs) (by omega) (few_runs h.led.pos (by omega))).mono ?_
  rintro e w' ⟨rfl, rv', hl, hkp, hsn⟩
  exact ⟨rfl, rv', h.noted hl rfl (by omega) hkp hsn⟩
theorem St.rnotes {w0 W : World} {b c : Nat} {rv ru : Value} {L M : List Rn} {i j : Int} (h : St w0 W b rv L i c ru M j) (k s : Int) (hk : 0 ≤ k ∧ k < 256) (hs : 0 ≤ s ∧ s ≤ 140737488355999) (hj : j ≤ 1000) :
    By.RNotes W (.pointer (some ⟨c, 0, none⟩)) k s (fun w' => ∃ ru', St w0 w' b rv L i c ru' (putL M ⟨k, s, 1⟩) (j + 1) ∧ Kb W w') := by
  have htj := h.tj
  refine (refNote42 c ru M k s W h.ref (ev_ok k s hk hs) (by omega) (few_runs h.ref.pos (by omega))).mono ?_
  rintro e w' ⟨rfl, ru', hl, hkp, hsn⟩
  exact ⟨rfl, ru', h.rnoted hl rfl (by omega) hkp hsn⟩
/-- A list of bytes was written. -/
theorem St.wrote {w0 W W' : World} {b c g : Nat} {rv ru : Value} {L M : List Rn} {i j : Int} (h : St w0 W b rv L i c ru M j) (hg : W.grownBy W' (some g)) (hb : ∃ cs fr, W.heap[g]? = some (.cells cs 5 fr)) (hge : w0.heap.size ≤ g) : St w0 W' b rv L i c ru M j := by
  obtain ⟨cs, fr, e⟩ := hb
  have hk : Kp (fun k => k = g) W W' := (Kp.of_grown hg).mono (fun k _ h => by cases h; rfl)
  refine ⟨h.bel.trans (hk.below h.bel.size (fun k hk' e => by omega)), h.led.kept hk ?_ (fun q hq e' => ?_), h.ref.kept hk ?_ (fun q hq e' => ?_), h.ti, h.tj, h.lb, h.lc, h.lrv, h.lru, h.ap⟩
  · intro e'; subst e'; rw [h.led.here] at e; simp at e
  · subst e'; exact own_runs h.led.own hq e
  · intro e'; subst e'; rw [h.ref.here] at e; simp at e
  · subst e'; exact own_runs h.ref.own hq e
/-- The runs of either, held against each other. -/
theorem St.runs {w0 W : World} {b c : Nat} {rv ru : Value} {L M : List Rn} {i j : Int} (h : St w0 W b rv L i c ru M j) (hi : i ≤ 1000) : Calls Try.prog 28 #[.pointer (some ⟨b, 0, none⟩)] W fun e w' => ∃ v, e = .returned v ∧ RB w' v L ∧ Below W.heap.size W w' := by
  have := few_runs h.led.pos (by rw [h.ti]; exact hi)
  refine (runs22 b rv L W h.led (by omega)).mono ?_
  rintro e w' ⟨v, rfl, ho, hb⟩
  exact ⟨v, rfl, ho.reads, hb⟩
theorem St.rruns {w0 W : World} {b c : Nat} {rv ru : Value} {L M : List Rn} {i j : Int} (h : St w0 W b rv L i c ru M j) (hj : j ≤ 1000) : Calls Try.prog 29 #[.pointer (some ⟨c, 0, none⟩)] W fun e w' => ∃ v, e = .returned v ∧ RB w' v M ∧ Below W.heap.size W w' := by
  have := few_runs h.ref.pos (by rw [h.tj]; exact hj)
  refine (refRuns20 c ru M W h.ref (by omega)).mono ?_
  rintro e w' ⟨v, rfl, ho, hb⟩
  exact ⟨v, rfl, ho.reads, hb⟩
theorem few_len {w : World} {b : Nat} {rv : Value} {L : List Rn} (h : Led w b rv L) (ht : tot L ≤ 1000) : L.length < 1000000000000000000 := by
  have := h.len.1
  omega
end Go.Proofs.Ythoklddoeoedgaa
