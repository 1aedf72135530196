/- A ledger of the program's and the document's beside it, holding the same runs, each in memory of its own: what stays and what turns. No function of the program in it. -/
import Derived.Test.YtadcindaafjckaaLcel
namespace Go.Proofs.Ytadcindaafjckaa
open Go.ChangeShapes Go.WideShapes Go.ChangeAt Go.RowKit Go.Shelf
/-- Both ledgers hold L. -/
structure Duo (W : World) (b rb : Nat) (rv rrv : Value) (L : List Rn) : Prop where
  led : Led W b rv L
  ref : RLed W rb rrv L
  dis : ∀ g, rv.ownBlock = some g → rrv.ownBlock ≠ some g
/-- Their blocks. -/
def DS (b rb : Nat) (rv rrv : Value) : Nat → Prop := fun j => j = b ∨ rv.ownBlock = some j ∨ j = rb ∨ rrv.ownBlock = some j
theorem own_here {W : World} {base : Nat} {v : Value} {L : List Rn} {g : Nat} (h : Own W base v L) (hg : v.ownBlock = some g) : ∃ cs fr, W.heap[g]? = some (.cells cs 51 fr) := by
  rcases h.2.2 with ⟨rfl, _⟩ | ⟨g', cap, cur, rfl, _, hc, _⟩
  · simp [Value.ownBlock] at hg
  · simp [Value.ownBlock] at hg
    subst hg
    exact ⟨_, _, hc⟩
theorem apart_of {W : World} {b rb : Nat} {rv rrv : Value} {L M : List Rn} (hl : Led W b rv L) (hr : RLed W rb rrv M) : b ≠ rb ∧ rv.ownBlock ≠ some rb ∧ rrv.ownBlock ≠ some b := by
  refine ⟨?_, ?_, ?_⟩
  · rintro rfl
    have h1 := hl.here
    rw [hr.here] at h1
    simp at h1
  · intro e
    obtain ⟨cs, fr, h1⟩ := own_here hl.own e
    rw [hr.here] at h1
    simp at h1
  · intro e
    obtain ⟨cs, fr, h1⟩ := own_here hr.own e
    rw [hl.here] at h1
    simp at h1
theorem Duo.below {W W' : World} {b rb : Nat} {rv rrv : Value} {L : List Rn} (h : Duo W b rb rv rrv L) (hb : Below W.heap.size W W') : Duo W' b rb rv rrv L := ⟨h.led.below hb, h.ref.below hb, h.dis⟩
theorem Duo.kept {W W' : World} {b rb : Nat} {rv rrv : Value} {L : List Rn} {S : Nat → Prop} (h : Duo W b rb rv rrv L) (hk : Kp S W W') (hn : ∀ j, DS b rb rv rrv j → ¬ S j) : Duo W' b rb rv rrv L :=
  ⟨h.led.kept hk (hn b (.inl rfl)) (fun g hg => hn g (.inr (.inl hg))), h.ref.kept hk (hn rb (.inr (.inr (.inl rfl)))) (fun g hg => hn g (.inr (.inr (.inr hg)))), h.dis⟩
theorem Duo.lt {W : World} {b rb : Nat} {rv rrv : Value} {L : List Rn} (h : Duo W b rb rv rrv L) : ∀ j, DS b rb rv rrv j → j < W.heap.size := by
  rintro j (rfl | e | rfl | e)
  · exact h.led.lt
  · exact (h.led.own.lt j e).2
  · exact h.ref.lt
  · exact (h.ref.own.lt j e).2
theorem Own.kc {W W' : World} {base : Nat} {v : Value} {L : List Rn} {S : Nat → Prop} (h : Own W base v L) (hk : KC S W W') (hne : ∀ g, v.ownBlock = some g → ¬ S g) : Own W' base v L := by
  refine ⟨h.1, h.2.1, ?_⟩
  rcases h.2.2 with hn | ⟨g, cap, cur, rfl, hb, hgg, rest⟩
  · exact .inl hn
  · exact .inr ⟨g, cap, cur, rfl, hb, hk.same g _ _ _ hgg (hne g rfl), rest⟩
theorem Duo.kc {W W' : World} {b rb : Nat} {rv rrv : Value} {L : List Rn} {S : Nat → Prop} (h : Duo W b rb rv rrv L) (hk : KC S W W') (hn : ∀ j, DS b rb rv rrv j → ¬ S j) : Duo W' b rb rv rrv L :=
  ⟨⟨hk.same b _ _ _ h.led.here (hn b (.inl rfl)), h.led.own.kc hk (fun g hg => hn g (.inr (.inl hg))), h.led.pos, h.led.most⟩, ⟨hk.same rb _ _ _ h.ref.here (hn rb (.inr (.inr (.inl rfl)))), h.ref.own.kc hk (fun g hg => hn g (.inr (.inr (.inr hg)))), h.ref.pos, h.ref.most⟩, h.dis⟩
/-- A variable of another type is none of their blocks. -/
theorem Duo.cel {W : World} {b rb q : Nat} {rv rrv v : Value} {L : List Rn} {t : TypeId} (h : Duo W b rb rv rrv L) (hc : Cel W q v t) (h2 : t ≠ 54) (h3 : t ≠ 51) : ¬ DS b rb rv rrv q := by
  have hc' : W.heap[q]? = some (.cells #[v] t (0, 0)) := hc
  rintro (rfl | e | rfl | e)
  · rw [h.led.here] at hc'; simp at hc'
  · obtain ⟨cs, fr, k⟩ := own_here h.led.own e
    rw [hc'] at k; simp at k; exact h3 k.2.1
  · rw [h.ref.here] at hc'; simp at hc'; exact h2 hc'.2.symm
  · obtain ⟨cs, fr, k⟩ := own_here h.ref.own e
    rw [hc'] at k; simp at k; exact h3 k.2.1
/-- The first of the two was written to. -/
theorem Duo.first {W W1 : World} {b rb : Nat} {rv rrv rv' : Value} {L L' : List Rn} (h : Duo W b rb rv rrv L) (hl : Led W1 b rv' L') (hk : Kp (fun j => j = b ∨ rv.ownBlock = some j) W W1) (hs : SameOrNew W rv rv') :
    RLed W1 rb rrv L ∧ ∀ g, rv'.ownBlock = some g → rrv.ownBlock ≠ some g := by
  obtain ⟨h1, h2, h3⟩ := apart_of h.led h.ref
  refine ⟨h.ref.kept hk ?_ ?_, ?_⟩
  · rintro (e | e)
    · exact h1 e.symm
    · exact h2 e
  · rintro g hg (rfl | e)
    · exact h3 hg
    · exact h.dis g e hg
  · intro g hg e
    rcases hs with hs | hs
    · rw [hs] at hg; exact h.dis g hg e
    · have := hs g hg; have := (h.ref.own.lt g e).2; omega
/-- Both were written to, one behind the other. -/
theorem Duo.both {W W1 W2 : World} {b rb : Nat} {rv rrv rv' rrv' : Value} {L L' : List Rn} (h : Duo W b rb rv rrv L) (hl : Led W1 b rv' L') (hk : Kp (fun j => j = b ∨ rv.ownBlock = some j) W W1) (hs : SameOrNew W rv rv')
    (hl2 : RLed W2 rb rrv' L') (hk2 : Kp (fun j => j = rb ∨ rrv.ownBlock = some j) W1 W2) (hs2 : SameOrNew W1 rrv rrv') :
    Duo W2 b rb rv' rrv' L' ∧ Kp (DS b rb rv rrv) W W2 ∧ SameOrNew W rv rv' ∧ SameOrNew W rrv rrv' := by
  obtain ⟨f1, f2⟩ := h.first hl hk hs
  obtain ⟨h1, h2, h3⟩ := apart_of hl f1
  have hsz := hk.size
  refine ⟨⟨hl.kept hk2 ?_ ?_, hl2, ?_⟩, ?_, hs, hs2.imp id (fun h g hg => by have := h g hg; omega)⟩
  · rintro (e | e)
    · exact h1 e
    · exact h3 e
  · rintro g hg (rfl | e)
    · exact h2 hg
    · exact f2 g hg e
  · intro g hg e
    rcases hs2 with hs2 | hs2
    · rw [hs2] at e; exact f2 g hg e
    · have := hs2 g e; have := (hl.own.lt g hg).2; omega
  · exact (hk.mono (fun k _ e => e.elim .inl (fun e => .inr (.inl e)))).trans hk2 (fun k _ e => e.elim (fun e => .inr (.inr (.inl e))) (fun e => .inr (.inr (.inr e))))
theorem same_below {w W : World} {u v : Value} (h : SameOrNew W u v) (hs : w.heap.size ≤ W.heap.size) : SameOrNew w u v := h.imp id (fun h g hg => by have := h g hg; omega)

/-- The blocks of 'walk' lie from B on. -/
structure WL (B NB R A Wb Bs : Nat) (v1 sv : Value) : Prop where
  nb : B ≤ NB ∧ B ≤ R ∧ B ≤ A ∧ B ≤ Wb ∧ B ≤ Bs
  v1b : ∀ q, v1.ownBlock = some q → B ≤ q
  svb : ∀ q, sv.ownBlock = some q → B ≤ q
/-- What lies below B may turn. -/
theorem WI.rebase {w0 W W' : World} {B NB R A Wb Bs : Nat} {v1 sv : Value} {L : List Rn} {stop : Int} {p : Nat} {S : Nat → Prop} (h : WI w0 B NB R A Wb Bs v1 sv L stop p W) (hl : WL B NB R A Wb Bs v1 sv) (hk : Kp S W W') (hS : ∀ q, S q → q < B) : WI W' B NB R A Wb Bs v1 sv L stop p W' := by
  obtain ⟨⟨l1, l2, l3, l4, l5⟩, l6, l7⟩ := hl
  have k : KC S W W' := KC.of_kp hk (fun _ _ e => e)
  have n : ∀ q, B ≤ q → ¬ S q := fun q hq e => by have := hS q e; omega
  exact ⟨h.cn.kc k (n _ l1), h.cr.kc k (n _ l2), h.ca.kc k (n _ l3), h.cw.kc k (n _ l4), k.cell h.cb (n _ l5), h.rw_.kc k (fun q hq => n q (l6 q hq)), h.rs.kc k (fun q hq => n q (l7 q hq)), Below.refl _ _, Nat.le_trans h.low (Nat.le_trans h.bel.size hk.size)⟩
end Go.Proofs.Ytadcindaafjckaa
