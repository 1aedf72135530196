/- A state that takes a message in pieces. -/
import Derived.Test.YtojldjckpjokcaaDoorGwp
import Derived.Test.YtojldjckpjokcaaDoorJcut
import Derived.Deep.RegionHeld3
namespace Go.Proofs.YtojldjckpjokcaaDoor.Dg
open Go.ChangeShapes Go.WideShapes Go.ChangeAt Go.RowKit
open Go.Proofs.YtojldjckpjokcaaDoor.By
open Go.Proofs.YtojldjckpjokcaaDoor.Sh (Blk size_alloc)
/-- What the loop over the pieces holds: the state, the ledger, the Hash, the pieces. -/
structure PS (w : World) (a : Bool) (b lb hb : Nat) (m n : Nat) (f : Nat → Int) (hcs : List Value) (rv pv : Value) (vs xs : List Value) (W : World) : Prop where
  st : IsD W b a (some (m, f))
  l : Led W lb rv (evs a [] (m / bk a))
  h : Blk W hb hcs 31
  row : W.ownsRow w.heap.size 22 1 pv vs.length vs
  cuts : Sg.Cuts W w.heap.size f xs m n
  bel : Below w.heap.size w W
  hB : w.heap.size ≤ b
  hl : w.heap.size ≤ lb
  hg : ∀ g, rv.ownBlock = some g → w.heap.size ≤ g
theorem PS.below {w W W' : World} {a : Bool} {b lb hb m n : Nat} {f : Nat → Int} {hcs : List Value} {rv pv : Value} {vs xs : List Value} (h : PS w a b lb hb m n f hcs rv pv vs xs W) (hb' : Below W.heap.size W W') : PS w a b lb hb m n f hcs rv pv vs xs W' :=
  ⟨h.st.below hb', h.l.below hb', h.h.below hb', Sg.row_kept3 h.row (Kp.of_below (fun _ => False) hb') (fun _ _ => id), h.cuts.below hb', below_next h.bel hb', h.hB, h.hl, h.hg⟩
theorem cuts_kept {W W' : World} {B : Nat} {f : Nat → Int} {xs : List Value} {s e : Nat} {S : Nat → Prop} (h : Sg.Cuts W B f xs s e) (hk : Kp S W W') (hS : ∀ g cs, Blk W g cs 5 → ¬ S g) : Sg.Cuts W' B f xs s e :=
  h.imp (fun v m g ho => Sg.own_kept ho hk (fun q hq => by obtain ⟨cs, hc⟩ := Sg.own8_type ho hq; exact hS q cs.toList (by show W.heap[q]? = _; rw [hc])))
theorem evs_pos (a : Bool) (n : Nat) : Pos (evs a [] n) := by cases a; exact Sh.evs256_pos Sg.pos_nil' n; exact Sg.evs512_pos Sg.pos_nil' n
theorem evs_tot (a : Bool) (n : Nat) (h : n ≤ 1000000) : tot (evs a [] n) = n := by
  cases a
  · exact (Sh.evs256_tot Sg.pos_nil' n (by show (0 : Int) + _ ≤ _; omega)).trans (Int.zero_add _)
  · exact (Sg.evs512_tot Sg.pos_nil' n (by show (0 : Int) + _ ≤ _; omega)).trans (Int.zero_add _)
theorem evs_add (a : Bool) (L : List Rn) (m n : Nat) : evs a (evs a L m) n = evs a L (m + n) := by cases a; exact Sh.evs256_add L m n; exact Sg.evs512_add L m n
theorem bk_pos (a : Bool) : 64 ≤ bk a := by cases a <;> decide
theorem rowL_type {W : World} {base n : Nat} {v : Value} {xs : List Value} (h : W.ownsRow base 22 1 v n xs) {g : Nat} (hg : v.ownBlock = some g) : ∃ cs, Blk W g cs 22 := by
  obtain ⟨hl, h' | ⟨g', cap, cur, rfl, hb, hc, _⟩⟩ := h
  · obtain ⟨rfl, _⟩ := h'; simp [Value.ownBlock] at hg
  · simp only [Value.ownBlock, Option.some.injEq] at hg
    subst hg
    exact ⟨cur.toList, by show W.heap[_]? = _; rw [hc]⟩
theorem rowL_cell' {W : World} {base n i g cap : Nat} {x : Value} {xs : List Value} (h : W.ownsRow base 22 1 (.slice (some ⟨g, 0, none⟩) n cap) n xs) (hi : xs[i]? = some x) : W.cell? ⟨g, i, none⟩ = some x := by
  obtain ⟨g', c', e', hc⟩ := Sg.rowL_cell h hi
  simp only [Value.slice.injEq, Option.some.injEq, Addr.mk.injEq, true_and, and_true] at e'
  obtain ⟨rfl, rfl⟩ := e'
  rwa [Nat.zero_add] at hc
theorem lit_run (W : World) (k s N : Int) (hk : 0 ≤ k ∧ k < 256) (hs : 0 ≤ s ∧ s ≤ 1000) (hN : 1 ≤ N ∧ N ≤ 9000) : Own (W.alloc (.cells #[.int .u8 k, .int .i64 s, .int .i64 N] 50)) W.heap.size (.slice (some ⟨W.heap.size, 0, none⟩) 1 1) [⟨k, s, N⟩] :=
  own_lit W [⟨k, s, N⟩] #[.int .u8 k, .int .i64 s, .int .i64 N] (fun r hr => by simp at hr; subst hr; exact ⟨hk, ⟨by show -9223372036854775808 ≤ s; omega, by show s ≤ 9223372036854775807; omega⟩, ⟨by show -9223372036854775808 ≤ N; omega, by show N ≤ 9223372036854775807; omega⟩⟩) rfl (by show 1 ≤ maxLen; decide)
/-- One piece is written. -/
theorem PS.write {w W : World} {a : Bool} {b lb hb m n : Nat} {f : Nat → Int} {hcs : List Value} {rv pv x : Value} {vs xs : List Value} (h : PS w a b lb hb m n f hcs rv pv vs (x :: xs) W) (hk : KT w) (hn : n ≤ 8192) :
    Calls Tryd.prog (fWrite a) #[.pointer (some ⟨b, 0, none⟩), .pointer (some ⟨lb, 0, none⟩), x] W fun e W' => e = .returned (.int .i64 0) ∧ ∃ q rv', m + q ≤ n ∧ PS w a b lb hb (m + q) n f hcs rv' pv vs xs W' := by
  have h1 := hk.lt
  obtain ⟨q, ho, hc⟩ := h.cuts
  have hmq : m + q ≤ n := hc.le
  have hmn : m ≤ n := by omega
  have hbp := bk_pos a
  have hdm : m / bk a ≤ 8192 := Nat.le_trans (Nat.div_le_self _ _) (by omega)
  obtain ⟨cs, hcs'⟩ := h.st.blk
  have hlb : Blk W lb _ 63 := h.l.here
  have hrun : ∀ g, rv.ownBlock = some g → ∃ cs, Blk W g cs 50 := fun g hg => by
    obtain ⟨c, hc⟩ := Sg.own_type h.l.own hg
    exact ⟨c.toList, by show W.heap[g]? = _; rw [hc]⟩
  have tyn : ∀ t, t = 5 ∨ t = 31 ∨ t = 22 → t ≠ tyS a ∧ t ≠ 63 ∧ t ≠ 50 := fun t ht => by
    rcases ht with rfl | rfl | rfl <;> cases a <;> decide
  have ap : ∀ g cs t, Blk W g cs t → (t = 5 ∨ t = 31 ∨ t = 22) → ¬ (g = b ∨ g = lb ∨ rv.ownBlock = some g) := fun g cs t hg ht e => by
    obtain ⟨t1, t2, t3⟩ := tyn t ht
    rcases e with e | e | e
    · exact Sh.Blk.ne hg hcs' t1 e
    · exact Sh.Blk.ne hg hlb t2 e
    · obtain ⟨c, hc⟩ := hrun g e; exact Sh.Blk.ne hg hc t3 rfl
  have bel : ∀ W', Kp (fun j => j = b ∨ j = lb ∨ rv.ownBlock = some j) W W' → Below w.heap.size w W' := fun W' hk' => h.bel.trans (hk'.below h.bel.size (fun k hk e => by
    have := h.hB; have := h.hl
    rcases e with e | e | e
    · omega
    · omega
    · have := h.hg k e; omega))
  refine (dwrite a b m q x f (fun i => f (m + i)) (some lb) (evs a [] (m / bk a)) (fun j => j = b ∨ j = lb ∨ rv.ownBlock = some j) W h.st (hk.below h.bel) ?_ ?_ (.inl rfl) ⟨.inr (.inl rfl), rv, h.l, fun g hg _ => .inr (.inr hg)⟩ (evs_pos a _) (fun W' hk' => (Sg.own_kept ho hk' (fun g hg => by obtain ⟨c, hc⟩ := Sg.own8_type ho hg; exact ap g c.toList _ (by show W.heap[g]? = _; rw [hc]) (.inl rfl))).reads) (by omega) (by rw [evs_tot a _ (by omega)]; omega)).mono ?_
  · intro e
    have := h.hB; have := h.hl
    rcases e with e | e | e
    · omega
    · omega
    · have := h.hg 0 e; omega
  · intro e
    have := h.hB; have := h.hl
    rcases e with e | e | e
    · omega
    · omega
    · have := h.hg 1 e; omega
  · rintro e W' ⟨rfl, hs, ⟨-, rv', hl, hr⟩, hk'⟩
    refine ⟨rfl, q, rv', hmq, ?_⟩
    have e1 : cat m f (fun i => f (m + i)) = f := Sg.cat_self m f
    have e2 : m / bk a + ((m + q) / bk a - m / bk a) = (m + q) / bk a := by
      have := Nat.div_le_div_right (c := bk a) (Nat.le_add_right m q)
      omega
    rw [e1] at hs
    rw [evs_add, e2] at hl
    exact ⟨hs, hl, h.h.kept hk' (ap _ _ _ h.h (.inr (.inl rfl))), Sg.row_kept3 h.row hk' (fun g hg => by obtain ⟨c, hc⟩ := rowL_type h.row hg; exact ap g c _ hc (.inr (.inr rfl))), cuts_kept hc hk' (fun g cs hg => ap g cs _ hg (.inl rfl)), bel W' hk', h.hB, h.hl, fun g hg => by
      by_cases hlt : g < W.heap.size
      · have hh := hr g hg hlt
        have h5 := h.hB
        have h6 := h.hl
        rcases hh with e | e | e
        · omega
        · omega
        · exact h.hg g e
      · have := h.bel.size; omega⟩
end Go.Proofs.YtojldjckpjokcaaDoor.Dg
