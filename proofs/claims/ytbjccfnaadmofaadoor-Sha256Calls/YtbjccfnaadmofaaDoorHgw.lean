/- Three states and a ledger on either side, and the record that holds them: what a call on one of them leaves of the others. -/
import Derived.Test.YtbjccfnaadmofaaDoorHref3
namespace Go.Proofs.YtbjccfnaadmofaaDoor.Sh
open Go.ChangeShapes Go.WideShapes Go.ChangeAt Go.RowKit
open Go.Proofs.YtbjccfnaadmofaaDoor.By Go.Proofs.YtbjccfnaadmofaaDoor.Wd
/-- What an entry is: nil, none, or a state of a message. -/
abbrev KD := Option SK
def IsP (W : World) (b : Nat) : KD → Prop
  | none => True
  | some k => IsSt W b k
def IsQ (W : World) (b : Nat) : KD → Prop
  | none => True
  | some k => IsR W b k
def ptr (b : Nat) : KD → Value
  | none => .pointer none
  | some _ => .pointer (some ⟨b, 0, none⟩)
theorem IsP.blk {W : World} {b : Nat} {k : KD} (h : IsP W b k) (hn : k ≠ none) : ∃ cs, Blk W b cs 60 := by
  match k, h, hn with
  | some k, h, _ => exact IsSt.blk h
theorem IsQ.blk {W : World} {b : Nat} {k : KD} (h : IsQ W b k) (hn : k ≠ none) : ∃ cs, Blk W b cs 62 := by
  match k, h, hn with
  | some none, h, _ => obtain ⟨v, h⟩ := h; exact ⟨_, h⟩
  | some (some (m, f)), h, _ => obtain ⟨_, v, h, _⟩ := h; exact ⟨_, h⟩
theorem IsP.kept {W W' : World} {b : Nat} {k : KD} {S : Nat → Prop} (h : IsP W b k) (hk : Kp S W W') (hn : k ≠ none → ¬ S b) : IsP W' b k := by
  match k, h, hn with
  | none, _, _ => exact trivial
  | some k, h, hn => exact IsSt.kept h hk (hn (by simp))
theorem IsQ.kept {W W' : World} {b : Nat} {k : KD} {S : Nat → Prop} (h : IsQ W b k) (hk : Kp S W W') (hn : k ≠ none → ¬ S b) (h8 : ∀ g cs, Blk W g cs 5 → ¬ S g) : IsQ W' b k := by
  match k, h, hn with
  | none, _, _ => exact trivial
  | some k, h, hn => exact IsR.kept h hk (hn (by simp)) h8
/-- Function i, but at k. -/
def upd {α : Type} (f : Nat → α) (k : Nat) (x : α) : Nat → α := fun i => if i = k then x else f i
theorem upd_at {α : Type} (f : Nat → α) (k : Nat) (x : α) : upd f k x k = x := by unfold upd; rw [if_pos rfl]
theorem upd_ne {α : Type} (f : Nat → α) (k : Nat) (x : α) (i : Nat) (h : i ≠ k) : upd f k x i = f i := by unfold upd; rw [if_neg h]
theorem ptr_upd (b : Nat → Nat) (K : Nat → KD) (k i : Nat) (x : KD) (h1 : K k ≠ none) (h2 : x ≠ none) : ptr (b i) (upd K k x i) = ptr (b i) (K i) := by
  unfold upd
  split
  · rename_i e; subst e
    match x, h2, K i, h1 with
    | some _, _, some _, _ => rfl
  · rfl
/-- The record's cells. -/
def xc (KP KQ : Nat → KD) (pb qb : Nat → Nat) (lb mb : Nat) (tv wv : Value) : List Value :=
  [ptr (pb 0) (KP 0), ptr (pb 1) (KP 1), ptr (pb 2) (KP 2), ptr (qb 0) (KQ 0), ptr (qb 1) (KQ 1), ptr (qb 2) (KQ 2), .pointer (some ⟨lb, 0, none⟩), .pointer (some ⟨mb, 0, none⟩), tv, wv]
structure GW (w0 : World) (B : Nat) (KP KQ : Nat → KD) (pb qb : Nat → Nat) (lb : Nat) (lv : Value) (L : List Rn) (mb : Nat) (mv : Value) (M : List Rn) (xb : Nat) (tv wv : Value) (W : World) : Prop where
  sp : ∀ i, i < 3 → IsP W (pb i) (KP i) ∧ (KP i ≠ none → B ≤ pb i)
  sq : ∀ i, i < 3 → IsQ W (qb i) (KQ i) ∧ (KQ i ≠ none → B ≤ qb i)
  pn : ∀ i j, i < 3 → j < 3 → i ≠ j → KP i ≠ none → KP j ≠ none → pb i ≠ pb j
  qn : ∀ i j, i < 3 → j < 3 → i ≠ j → KQ i ≠ none → KQ j ≠ none → qb i ≠ qb j
  l : Led W lb lv L
  lB : B ≤ lb
  lg : ∀ g, lv.ownBlock = some g → B ≤ g
  m : RLed W mb mv M
  mB : B ≤ mb
  mg : ∀ g, mv.ownBlock = some g → B ≤ g
  ap : ∀ g, lv.ownBlock = some g → mv.ownBlock ≠ some g
  x : Blk W xb (xc KP KQ pb qb lb mb tv wv) 36
  xB : B ≤ xb
  bel : Below B w0 W
  kt : KT W
  h0 : 0 < B
  hB : B ≤ W.heap.size
theorem _root_.Go.Proofs.YtbjccfnaadmofaaDoor.Led.blk {W : World} {b : Nat} {rv : Value} {L : List Rn} (h : Led W b rv L) : Blk W b [rv, .int .i64 (tot L)] 54 := h.here
theorem _root_.Go.Proofs.YtbjccfnaadmofaaDoor.RLed.blk {W : World} {b : Nat} {rv : Value} {L : List Rn} (h : RLed W b rv L) : Blk W b [rv] 56 := h.here
theorem run_blk {W : World} {base : Nat} {rv : Value} {L : List Rn} (h : Own W base rv L) {g : Nat} (hg : rv.ownBlock = some g) : ∃ cs, Blk W g cs 84 := by
  obtain ⟨c, hc⟩ := own_type h hg
  exact ⟨c.toList, by show W.heap[g]? = _; rw [hc]⟩
section
variable {w0 W W' : World} {B : Nat} {KP KQ : Nat → KD} {pb qb : Nat → Nat} {lb mb xb : Nat} {lv mv tv wv lv' mv' : Value} {L M L' M' : List Rn} {k : Nat} {x' : KD} {S : Nat → Prop}
theorem GW.below (h : GW w0 B KP KQ pb qb lb lv L mb mv M xb tv wv W) (hb : Below W.heap.size W W') : GW w0 B KP KQ pb qb lb lv L mb mv M xb tv wv W' := by
  have hk := Kp.of_below (fun _ => False) hb
  exact ⟨fun i hi => ⟨(h.sp i hi).1.kept hk (fun _ => id), (h.sp i hi).2⟩, fun i hi => ⟨(h.sq i hi).1.kept hk (fun _ => id) (fun _ _ _ => id), (h.sq i hi).2⟩, h.pn, h.qn, h.l.below hb, h.lB, h.lg, h.m.below hb, h.mB, h.mg, h.ap, h.x.below hb, h.xB, h.bel.trans (hb.mono h.hB), h.kt.below hb, h.h0, Nat.le_trans h.hB hb.size⟩
/-- A call on the program's state k, and perhaps its ledger. -/
theorem GW.turnP (h : GW w0 B KP KQ pb qb lb lv L mb mv M xb tv wv W) (hk3 : k < 3) (hn : KP k ≠ none) (hx : x' ≠ none) (hS : ∀ j, S j → j = pb k ∨ j = lb ∨ lv.ownBlock = some j) (hk : Kp S W W') (hs : IsP W' (pb k) x') (hl : Led W' lb lv' L') (hr : ∀ g, lv'.ownBlock = some g → g < W.heap.size → S g ∨ lv.ownBlock = some g) :
    GW w0 B (upd KP k x') KQ pb qb lb lv' L' mb mv M xb tv wv W' ∧ ∀ g cs t, Blk W g cs t → t ≠ 60 → t ≠ 54 → t ≠ 84 → Blk W' g cs t := by
  obtain ⟨cb, hcb⟩ := (h.sp k hk3).1.blk hn
  have hSB : ∀ j, S j → B ≤ j := fun j hj => by
    rcases hS j hj with e | e | e
    · rw [e]; exact (h.sp k hk3).2 hn
    · rw [e]; exact h.lB
    · exact h.lg j e
  have n1 : ∀ x cs t, Blk W x cs t → t ≠ 60 → t ≠ 54 → t ≠ 84 → ¬ S x := fun x cs t hx h1 h2 h3 hs => by
    rcases hS x hs with e | e | e
    · exact Blk.ne hx hcb h1 e
    · exact Blk.ne hx h.l.blk h2 e
    · obtain ⟨c, hc⟩ := run_blk h.l.own e; exact Blk.ne hx hc h3 rfl
  refine ⟨⟨fun i hi => ?_, fun i hi => ⟨(h.sq i hi).1.kept hk (fun hi2 hs => ?_) (fun g cs hg => n1 g cs _ hg (by decide) (by decide) (by decide)), (h.sq i hi).2⟩, fun i j hi hj hij h1 h2 => ?_, h.qn, hl, h.lB, fun g hg => ?_, h.m.kept hk ?_ (fun g hg hs => ?_), h.mB, h.mg, fun g hg e => ?_, ?_, h.xB, h.bel.trans (hk.below h.hB (fun j hj hs => by have := hSB j hs; omega)), h.kt.kept hk (fun hs => by have := hSB 0 hs; have := h.h0; omega), h.h0, Nat.le_trans h.hB hk.size⟩, fun g cs t hg h1 h2 h3 => hg.kept hk (n1 _ _ _ hg h1 h2 h3)⟩
  · by_cases e : i = k
    · subst e
      rw [upd_at]
      exact ⟨hs, fun _ => (h.sp i hk3).2 hn⟩
    · rw [upd_ne _ _ _ _ e]
      refine ⟨(h.sp i hi).1.kept hk (fun hi2 hs => ?_), (h.sp i hi).2⟩
      obtain ⟨ci, hci⟩ := (h.sp i hi).1.blk hi2
      rcases hS _ hs with e1 | e1 | e1
      · exact h.pn i k hi hk3 e hi2 hn e1
      · exact Blk.ne hci h.l.blk (by decide) e1
      · obtain ⟨c, hc⟩ := run_blk h.l.own e1; exact Blk.ne hci hc (by decide) rfl
  · obtain ⟨c, hc⟩ := (h.sq i hi).1.blk hi2
    exact n1 _ _ _ hc (by decide) (by decide) (by decide) hs
  · have f : ∀ i, upd KP k x' i ≠ none → KP i ≠ none := fun i hi => by
      by_cases e : i = k
      · rw [e]; exact hn
      · rwa [upd_ne _ _ _ _ e] at hi
    exact h.pn i j hi hj hij (f i h1) (f j h2)
  · by_cases hlt : g < W.heap.size
    · rcases hr g hg hlt with e | e
      · exact hSB g e
      · exact h.lg g e
    · have := h.hB; omega
  · exact n1 _ _ _ h.m.blk (by decide) (by decide) (by decide)
  · rcases hS g hs with e | e | e
    · obtain ⟨c, hc⟩ := run_blk h.m.own hg; exact Blk.ne hc hcb (by decide) e
    · obtain ⟨c, hc⟩ := run_blk h.m.own hg; exact Blk.ne hc h.l.blk (by decide) e
    · exact h.ap g e hg
  · obtain ⟨c, hc⟩ := run_blk h.m.own e
    rcases hr g hg hc.lt with e1 | e1
    · rcases hS g e1 with e2 | e2 | e2
      · exact Blk.ne hc hcb (by decide) e2
      · exact Blk.ne hc h.l.blk (by decide) e2
      · exact h.ap g e2 e
    · exact h.ap g e1 e
  · have e1 : xc (upd KP k x') KQ pb qb lb mb tv wv = xc KP KQ pb qb lb mb tv wv := by
      unfold xc
      rw [ptr_upd pb KP k 0 x' hn hx, ptr_upd pb KP k 1 x' hn hx, ptr_upd pb KP k 2 x' hn hx]
    rw [e1]
    exact h.x.kept hk (n1 _ _ _ h.x (by decide) (by decide) (by decide))
/-- A call on the document's state k, and perhaps its ledger. -/
theorem GW.turnQ (h : GW w0 B KP KQ pb qb lb lv L mb mv M xb tv wv W) (hk3 : k < 3) (hn : KQ k ≠ none) (hx : x' ≠ none) (hS : ∀ j, S j → j = qb k ∨ j = mb ∨ mv.ownBlock = some j) (hk : Kp S W W') (hs : IsQ W' (qb k) x') (hl : RLed W' mb mv' M') (hr : ∀ g, mv'.ownBlock = some g → g < W.heap.size → S g ∨ mv.ownBlock = some g) :
    GW w0 B KP (upd KQ k x') pb qb lb lv L mb mv' M' xb tv wv W' ∧ ∀ g cs t, Blk W g cs t → t ≠ 62 → t ≠ 56 → t ≠ 84 → Blk W' g cs t := by
  obtain ⟨cb, hcb⟩ := (h.sq k hk3).1.blk hn
  have hSB : ∀ j, S j → B ≤ j := fun j hj => by
    rcases hS j hj with e | e | e
    · rw [e]; exact (h.sq k hk3).2 hn
    · rw [e]; exact h.mB
    · exact h.mg j e
  have n1 : ∀ x cs t, Blk W x cs t → t ≠ 62 → t ≠ 56 → t ≠ 84 → ¬ S x := fun x cs t hx h1 h2 h3 hs => by
    rcases hS x hs with e | e | e
    · exact Blk.ne hx hcb h1 e
    · exact Blk.ne hx h.m.blk h2 e
    · obtain ⟨c, hc⟩ := run_blk h.m.own e; exact Blk.ne hx hc h3 rfl
  refine ⟨⟨fun i hi => ⟨(h.sp i hi).1.kept hk (fun hi2 hs => ?_), (h.sp i hi).2⟩, fun i hi => ?_, h.pn, fun i j hi hj hij h1 h2 => ?_, h.l.kept hk ?_ (fun g hg hs => ?_), h.lB, h.lg, hl, h.mB, fun g hg => ?_, fun g e hg => ?_, ?_, h.xB, h.bel.trans (hk.below h.hB (fun j hj hs => by have := hSB j hs; omega)), h.kt.kept hk (fun hs => by have := hSB 0 hs; have := h.h0; omega), h.h0, Nat.le_trans h.hB hk.size⟩, fun g cs t hg h1 h2 h3 => hg.kept hk (n1 _ _ _ hg h1 h2 h3)⟩
  · obtain ⟨c, hc⟩ := (h.sp i hi).1.blk hi2
    exact n1 _ _ _ hc (by decide) (by decide) (by decide) hs
  · by_cases e : i = k
    · subst e
      rw [upd_at]
      exact ⟨hs, fun _ => (h.sq i hk3).2 hn⟩
    · rw [upd_ne _ _ _ _ e]
      refine ⟨(h.sq i hi).1.kept hk (fun hi2 hs => ?_) (fun g cs hg => n1 g cs _ hg (by decide) (by decide) (by decide)), (h.sq i hi).2⟩
      obtain ⟨ci, hci⟩ := (h.sq i hi).1.blk hi2
      rcases hS _ hs with e1 | e1 | e1
      · exact h.qn i k hi hk3 e hi2 hn e1
      · exact Blk.ne hci h.m.blk (by decide) e1
      · obtain ⟨c, hc⟩ := run_blk h.m.own e1; exact Blk.ne hci hc (by decide) rfl
  · have f : ∀ i, upd KQ k x' i ≠ none → KQ i ≠ none := fun i hi => by
      by_cases e : i = k
      · rw [e]; exact hn
      · rwa [upd_ne _ _ _ _ e] at hi
    exact h.qn i j hi hj hij (f i h1) (f j h2)
  · exact n1 _ _ _ h.l.blk (by decide) (by decide) (by decide)
  · rcases hS g hs with e | e | e
    · obtain ⟨c, hc⟩ := run_blk h.l.own hg; exact Blk.ne hc hcb (by decide) e
    · obtain ⟨c, hc⟩ := run_blk h.l.own hg; exact Blk.ne hc h.m.blk (by decide) e
    · exact h.ap g hg e
  · by_cases hlt : g < W.heap.size
    · rcases hr g hg hlt with e | e
      · exact hSB g e
      · exact h.mg g e
    · have := h.hB; omega
  · obtain ⟨c, hc⟩ := run_blk h.l.own e
    rcases hr g hg hc.lt with e1 | e1
    · rcases hS g e1 with e2 | e2 | e2
      · exact Blk.ne hc hcb (by decide) e2
      · exact Blk.ne hc h.m.blk (by decide) e2
      · exact h.ap g e e2
    · exact h.ap g e e1
  · have e1 : xc KP (upd KQ k x') pb qb lb mb tv wv = xc KP KQ pb qb lb mb tv wv := by
      unfold xc
      rw [ptr_upd qb KQ k 0 x' hn hx, ptr_upd qb KQ k 1 x' hn hx, ptr_upd qb KQ k 2 x' hn hx]
    rw [e1]
    exact h.x.kept hk (n1 _ _ _ h.x (by decide) (by decide) (by decide))
end
end Go.Proofs.YtbjccfnaadmofaaDoor.Sh
