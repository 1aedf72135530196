/- Three states and a ledger on either side, and the record that holds them: what a call on one of them leaves of the others. The document's state of either function, by its algorithm: what its calls answer. The document's layer 11: its states. The document's layer 11: a state made, and copied. -/
import Derived.Test.YtojldjckpjokcaaGreatDoorZgm
import Derived.Test.YtojldjckpjokcaaGreatDoorZga
import Derived.Test.YtojldjckpjokcaaGreatDoorZhi
import Derived.Test.YtojldjckpjokcaaGreatDoorZec
namespace Go.Proofs.YtojldjckpjokcaaGreatDoor.Dg
open Go.ChangeShapes Go.WideShapes Go.ChangeAt Go.RowKit
open Go.Proofs.YtojldjckpjokcaaGreatDoor.By
open Go.Proofs.YtojldjckpjokcaaGreatDoor.Sh (Blk size_alloc)
/-- What an entry is: nil, or a state of an algorithm: none, or one of a message. -/
abbrev KD := Option (Bool × SK)
def tyR : Bool → TypeId | false => 108 | true => 109
/-- The document's state of an algorithm. -/
def IsE (W : World) (b : Nat) : Bool → SK → Prop
  | false, k => Sh.IsR W b k
  | true, k => Sg.IsR W b k
/-- The document's record of one of both. -/
def rcell (q : Nat) : Bool → List Value
  | false => [.pointer (some ⟨q, 0, none⟩), .pointer none]
  | true => [.pointer none, .pointer (some ⟨q, 0, none⟩)]
def IsP (W : World) (b : Nat) : KD → Prop
  | none => True
  | some (a, k) => IsD W b a k
def IsQ (W : World) (r q : Nat) : KD → Prop
  | none => True
  | some (a, k) => Blk W r (rcell q a) 92 ∧ IsE W q a k
def pvl (b : Nat) : KD → Value
  | none => .nilIface
  | some (a, _) => iv a b
def qvl (r : Nat) : KD → Value
  | none => .pointer none
  | some _ => .pointer (some ⟨r, 0, none⟩)
theorem IsE.blk {W : World} {b : Nat} {a : Bool} {k : SK} (h : IsE W b a k) : ∃ cs, Blk W b cs (tyR a) := by
  match a, k, h with
  | false, none, h => obtain ⟨v, h⟩ := h; exact ⟨_, h⟩
  | false, some (m, f), h => obtain ⟨_, v, h, _⟩ := h; exact ⟨_, h⟩
  | true, none, h => obtain ⟨v, h⟩ := h; exact ⟨_, h⟩
  | true, some (m, f), h => obtain ⟨_, v, h, _⟩ := h; exact ⟨_, h⟩
theorem IsE.kept {W W' : World} {b : Nat} {a : Bool} {k : SK} {S : Nat → Prop} (h : IsE W b a k) (hk : Kp S W W') (hn : ¬ S b) (h8 : ∀ g cs, Blk W g cs 5 → ¬ S g) : IsE W' b a k := by
  cases a
  · exact Sh.IsR.kept h hk hn h8
  · exact Sg.IsR.kept h hk hn h8
theorem IsP.kept {W W' : World} {b : Nat} {k : KD} {S : Nat → Prop} (h : IsP W b k) (hk : Kp S W W') (hn : k ≠ none → ¬ S b) : IsP W' b k := by
  match k, h, hn with
  | none, _, _ => exact trivial
  | some (a, k), h, hn => exact IsD.kept h hk (hn (by simp))
theorem IsQ.kept {W W' : World} {r q : Nat} {k : KD} {S : Nat → Prop} (h : IsQ W r q k) (hk : Kp S W W') (hr : k ≠ none → ¬ S r) (hn : k ≠ none → ¬ S q) (h8 : ∀ g cs, Blk W g cs 5 → ¬ S g) : IsQ W' r q k := by
  match k, h, hr, hn with
  | none, _, _, _ => exact trivial
  | some (a, k), h, hr, hn => exact ⟨h.1.kept hk (hr (by simp)), h.2.kept hk (hn (by simp)) h8⟩
theorem IsP.blk {W : World} {b : Nat} {k : KD} (h : IsP W b k) (hn : k ≠ none) : ∃ a cs, Blk W b cs (tyS a) := by
  match k, h, hn with
  | some (a, k), h, _ => obtain ⟨cs, hc⟩ := IsD.blk h; exact ⟨a, cs, hc⟩
theorem IsQ.blk {W : World} {r q : Nat} {k : KD} (h : IsQ W r q k) (hn : k ≠ none) : ∃ a cs, Blk W q cs (tyR a) := by
  match k, h, hn with
  | some (a, k), h, _ => obtain ⟨cs, hc⟩ := h.2.blk; exact ⟨a, cs, hc⟩
theorem IsQ.rec {W : World} {r q : Nat} {k : KD} (h : IsQ W r q k) (hn : k ≠ none) : ∃ cs, Blk W r cs 92 := by
  match k, h, hn with
  | some (a, k), h, _ => exact ⟨_, h.1⟩
/-- Function i, but at k. -/
def upd {α : Type} (f : Nat → α) (k : Nat) (x : α) : Nat → α := fun i => if i = k then x else f i
theorem upd_at {α : Type} (f : Nat → α) (k : Nat) (x : α) : upd f k x k = x := by unfold upd; rw [if_pos rfl]
theorem upd_ne {α : Type} (f : Nat → α) (k : Nat) (x : α) (i : Nat) (h : i ≠ k) : upd f k x i = f i := by unfold upd; rw [if_neg h]
theorem upd_self {α : Type} (f : Nat → α) (k : Nat) : upd f k (f k) = f := by
  funext i; unfold upd; split
  · rename_i e; rw [e]
  · rfl
/-- The algorithm of an entry. -/
def alg : KD → Option Bool
  | none => none
  | some (a, _) => some a
theorem pvl_upd (b : Nat → Nat) (K : Nat → KD) (k i : Nat) (x : KD) (h : alg x = alg (K k)) : pvl (b i) (upd K k x i) = pvl (b i) (K i) := by
  unfold upd
  split
  · rename_i e; subst e
    match x, K i, h with
    | none, none, _ => rfl
    | some (a, _), some (a', _), h => simp only [alg, Option.some.injEq] at h; subst h; rfl
  · rfl
theorem qvl_upd (b : Nat → Nat) (K : Nat → KD) (k i : Nat) (x : KD) (h : alg x = alg (K k)) : qvl (b i) (upd K k x i) = qvl (b i) (K i) := by
  unfold upd
  split
  · rename_i e; subst e
    match x, K i, h with
    | none, none, _ => rfl
    | some (a, _), some (a', _), h => rfl
  · rfl
/-- A kind of block that no call of a state or a ledger turns. -/
def Oth (t : TypeId) : Prop := t ≠ 120 ∧ t ≠ 127 ∧ t ≠ 108 ∧ t ≠ 109 ∧ t ≠ 66 ∧ t ≠ 68 ∧ t ≠ 84
instance (t : TypeId) : Decidable (Oth t) := by unfold Oth; infer_instance
def Kx (W W' : World) : Prop := ∀ g cs t, Blk W g cs t → Oth t → Blk W' g cs t
theorem Kx.refl (W : World) : Kx W W := fun _ _ _ h _ => h
theorem Kx.below {W W' : World} (hb : Below W.heap.size W W') : Kx W W' := fun _ _ _ h _ => h.below hb
theorem Kx.trans {a b c : World} (h : Kx a b) (k : Kx b c) : Kx a c := fun g cs t hg h1 => k g cs t (h g cs t hg h1) h1
theorem Kx.own {W W' : World} (h : Kx W W') {base n : Nat} {v : Value} {f : Nat → Int} (ho : By.Own W base v n f) : By.Own W' base v n f := by
  obtain ⟨hf, hl, h' | ⟨g, cap, cur, rfl, hb, hc, h1, h2, h3, h4⟩⟩ := ho
  · exact ⟨hf, hl, .inl h'⟩
  · refine ⟨hf, hl, .inr ⟨g, cap, cur, rfl, hb, ?_, h1, h2, h3, h4⟩⟩
    exact h g cur.toList 5 (by show W.heap[g]? = _; rw [hc]) (by decide)
theorem Kx.row {W W' : World} (h : Kx W W') {base n : Nat} {v : Value} {xs : List Value} (ho : W.ownsRow base 41 1 v n xs) : W'.ownsRow base 41 1 v n xs := by
  obtain ⟨hl, h' | ⟨g, cap, cur, rfl, hb, hc, h1, h2, h3, h4⟩⟩ := ho
  · exact ⟨hl, .inl h'⟩
  · refine ⟨hl, .inr ⟨g, cap, cur, rfl, hb, ?_, h1, h2, h3, h4⟩⟩
    exact h g cur.toList 41 (by show W.heap[g]? = _; rw [hc]) (by decide)
/-- The record's cells. -/
def xc (KP KQ : Nat → KD) (pb rb : Nat → Nat) (lb mb : Nat) (tv wv : Value) : List Value :=
  [pvl (pb 0) (KP 0), pvl (pb 1) (KP 1), pvl (pb 2) (KP 2), qvl (rb 0) (KQ 0), qvl (rb 1) (KQ 1), qvl (rb 2) (KQ 2), .pointer (some ⟨lb, 0, none⟩), .pointer (some ⟨mb, 0, none⟩), tv, wv]
structure GW (w0 : World) (B : Nat) (KP KQ : Nat → KD) (pb rb qb : Nat → Nat) (lb : Nat) (lv : Value) (L : List Rn) (mb : Nat) (mv : Value) (M : List Rn) (xb : Nat) (tv wv : Value) (W : World) : Prop where
  sp : ∀ i, i < 3 → IsP W (pb i) (KP i) ∧ (KP i ≠ none → B ≤ pb i)
  sq : ∀ i, i < 3 → IsQ W (rb i) (qb i) (KQ i) ∧ (KQ i ≠ none → B ≤ rb i ∧ B ≤ qb i)
  pn : ∀ i j, i < 3 → j < 3 → i ≠ j → KP i ≠ none → KP j ≠ none → pb i ≠ pb j
  qn : ∀ i j, i < 3 → j < 3 → i ≠ j → KQ i ≠ none → KQ j ≠ none → qb i ≠ qb j ∧ rb i ≠ rb j
  l : Led W lb lv L
  lB : B ≤ lb
  lg : ∀ g, lv.ownBlock = some g → B ≤ g
  m : RLed W mb mv M
  mB : B ≤ mb
  mg : ∀ g, mv.ownBlock = some g → B ≤ g
  ap : ∀ g, lv.ownBlock = some g → mv.ownBlock ≠ some g
  x : Blk W xb (xc KP KQ pb rb lb mb tv wv) 37
  xB : B ≤ xb
  bel : Below B w0 W
  kt : KT W
  h0 : 1 < B
  hB : B ≤ W.heap.size
theorem led_blk {W : World} {b : Nat} {rv : Value} {L : List Rn} (h : Led W b rv L) : Blk W b [rv, .int .i64 (tot L)] 66 := h.here
theorem rled_blk {W : World} {b : Nat} {rv : Value} {L : List Rn} (h : RLed W b rv L) : Blk W b [rv] 68 := h.here
theorem run_blk {W : World} {base : Nat} {rv : Value} {L : List Rn} (h : Own W base rv L) {g : Nat} (hg : rv.ownBlock = some g) : ∃ cs, Blk W g cs 84 := by
  obtain ⟨c, hc⟩ := Sg.own_type h hg
  exact ⟨c.toList, by show W.heap[g]? = _; rw [hc]⟩
theorem tyS_ne (a : Bool) (t : TypeId) (h : Oth t ∨ t = 108 ∨ t = 109 ∨ t = 66 ∨ t = 68 ∨ t = 84) : t ≠ tyS a := by
  rcases h with h | h | h | h | h | h
  · cases a
    · exact h.1
    · exact h.2.1
  all_goals (subst h; cases a <;> decide)
theorem tyR_ne (a : Bool) (t : TypeId) (h : Oth t ∨ t = 120 ∨ t = 127 ∨ t = 66 ∨ t = 68 ∨ t = 84) : t ≠ tyR a := by
  rcases h with h | h | h | h | h | h
  · cases a
    · exact h.2.2.1
    · exact h.2.2.2.1
  all_goals (subst h; cases a <;> decide)
theorem tySR (a b : Bool) : tyS a ≠ tyR b := by cases a <;> cases b <;> decide
theorem tyS_led (a : Bool) : tyS a ≠ 66 ∧ tyS a ≠ 84 ∧ tyS a ≠ 68 := by cases a <;> decide
theorem tyR_led (a : Bool) : tyR a ≠ 66 ∧ tyR a ≠ 84 ∧ tyR a ≠ 68 := by cases a <;> decide
section
variable {w0 W W' : World} {B : Nat} {KP KQ : Nat → KD} {pb rb qb : Nat → Nat} {lb mb xb : Nat} {lv mv tv wv lv' mv' : Value} {L M L' M' : List Rn} {k : Nat} {x' : KD} {S : Nat → Prop}
theorem GW.below (h : GW w0 B KP KQ pb rb qb lb lv L mb mv M xb tv wv W) (hb : Below W.heap.size W W') : GW w0 B KP KQ pb rb qb lb lv L mb mv M xb tv wv W' := by
  have hk := Kp.of_below (fun _ => False) hb
  exact ⟨fun i hi => ⟨(h.sp i hi).1.kept hk (fun _ => id), (h.sp i hi).2⟩, fun i hi => ⟨(h.sq i hi).1.kept hk (fun _ => id) (fun _ => id) (fun _ _ _ => id), (h.sq i hi).2⟩, h.pn, h.qn, h.l.below hb, h.lB, h.lg, h.m.below hb, h.mB, h.mg, h.ap, h.x.below hb, h.xB, h.bel.trans (hb.mono h.hB), h.kt.below hb, h.h0, Nat.le_trans h.hB hb.size⟩
/-- A call on the program's state k, and perhaps its ledger. -/
theorem GW.turnP (h : GW w0 B KP KQ pb rb qb lb lv L mb mv M xb tv wv W) (hk3 : k < 3) (hn : KP k ≠ none) (hx : alg x' = alg (KP k)) (hS : ∀ j, S j → j = pb k ∨ j = lb ∨ lv.ownBlock = some j) (hk : Kp S W W') (hs : IsP W' (pb k) x') (hl : Led W' lb lv' L') (hr : ∀ g, lv'.ownBlock = some g → g < W.heap.size → S g ∨ lv.ownBlock = some g) :
    GW w0 B (upd KP k x') KQ pb rb qb lb lv' L' mb mv M xb tv wv W' ∧ Kx W W' ∧ (∀ g cs a, Blk W g cs (tyR a) → Blk W' g cs (tyR a)) := by
  obtain ⟨a0, cb, hcb⟩ := (h.sp k hk3).1.blk hn
  have hSB : ∀ j, S j → B ≤ j := fun j hj => by
    rcases hS j hj with e | e | e
    · rw [e]; exact (h.sp k hk3).2 hn
    · rw [e]; exact h.lB
    · exact h.lg j e
  have n1 : ∀ x cs t, Blk W x cs t → t ≠ tyS a0 → t ≠ 66 → t ≠ 84 → ¬ S x := fun x cs t hx h1 h2 h3 hs => by
    rcases hS x hs with e | e | e
    · exact Sh.Blk.ne hx hcb h1 e
    · exact Sh.Blk.ne hx (led_blk h.l) h2 e
    · obtain ⟨c, hc⟩ := run_blk h.l.own e; exact Sh.Blk.ne hx hc h3 rfl
  have no : ∀ x cs t, Blk W x cs t → Oth t → ¬ S x := fun x cs t hx ht => n1 x cs t hx (tyS_ne a0 t (.inl ht)) ht.2.2.2.2.1 ht.2.2.2.2.2.2
  have nR : ∀ x cs a, Blk W x cs (tyR a) → ¬ S x := fun x cs a hx => n1 x cs _ hx (fun e => tySR a0 a e.symm) (tyR_led a).1 (tyR_led a).2.1
  refine ⟨⟨fun i hi => ?_, fun i hi => ⟨(h.sq i hi).1.kept hk (fun hi2 hs => ?_) (fun hi2 hs => ?_) (fun g cs hg => no g cs _ hg (by decide)), (h.sq i hi).2⟩, fun i j hi hj hij h1 h2 => ?_, h.qn, hl, h.lB, fun g hg => ?_, h.m.kept hk ?_ (fun g hg hs => ?_), h.mB, h.mg, fun g hg e => ?_, ?_, h.xB, h.bel.trans (hk.below h.hB (fun j hj hs => by have := hSB j hs; omega)), h.kt.kept hk (fun hs => by have := hSB 0 hs; have := h.h0; omega) (fun hs => by have := hSB 1 hs; have := h.h0; omega), h.h0, Nat.le_trans h.hB hk.size⟩, fun g cs t hg ht => hg.kept hk (no _ _ _ hg ht), fun g cs a hg => hg.kept hk (nR _ _ _ hg)⟩
  · by_cases e : i = k
    · subst e
      rw [upd_at]
      exact ⟨hs, fun _ => (h.sp i hk3).2 hn⟩
    · rw [upd_ne _ _ _ _ e]
      refine ⟨(h.sp i hi).1.kept hk (fun hi2 hs => ?_), (h.sp i hi).2⟩
      obtain ⟨ai, ci, hci⟩ := (h.sp i hi).1.blk hi2
      rcases hS _ hs with e1 | e1 | e1
      · exact h.pn i k hi hk3 e hi2 hn e1
      · exact Sh.Blk.ne hci (led_blk h.l) (tyS_led ai).1 e1
      · obtain ⟨c, hc⟩ := run_blk h.l.own e1; exact Sh.Blk.ne hci hc (tyS_led ai).2.1 rfl
  · obtain ⟨c, hc⟩ := (h.sq i hi).1.rec hi2
    exact no _ _ _ hc (by decide) hs
  · obtain ⟨ai, c, hc⟩ := (h.sq i hi).1.blk hi2
    exact nR _ _ _ hc hs
  · have f : ∀ i, upd KP k x' i ≠ none → KP i ≠ none := fun i hi => by
      by_cases e : i = k
      · rw [e]; exact hn
      · rwa [upd_ne _ _ _ _ e] at hi
    exact h.pn i j hi hj hij (f i h1) (f j h2)
  · by_cases hlt : g < W.heap.size
    · rcases hr g hg hlt with e | e
      · exact hSB g e
      · exact h.lg g e
    · have := h.hB; omega
  · exact n1 _ _ _ (rled_blk h.m) (tyS_led a0).2.2.symm (by decide) (by decide)
  · rcases hS g hs with e | e | e
    · obtain ⟨c, hc⟩ := run_blk h.m.own hg; exact Sh.Blk.ne hc hcb (tyS_led a0).2.1.symm e
    · obtain ⟨c, hc⟩ := run_blk h.m.own hg; exact Sh.Blk.ne hc (led_blk h.l) (by decide) e
    · exact h.ap g e hg
  · obtain ⟨c, hc⟩ := run_blk h.m.own e
    rcases hr g hg hc.lt with e1 | e1
    · rcases hS g e1 with e2 | e2 | e2
      · exact Sh.Blk.ne hc hcb (tyS_led a0).2.1.symm e2
      · exact Sh.Blk.ne hc (led_blk h.l) (by decide) e2
      · exact h.ap g e2 e
    · exact h.ap g e1 e
  · have e1 : xc (upd KP k x') KQ pb rb lb mb tv wv = xc KP KQ pb rb lb mb tv wv := by
      unfold xc
      rw [pvl_upd pb KP k 0 x' hx, pvl_upd pb KP k 1 x' hx, pvl_upd pb KP k 2 x' hx]
    rw [e1]
    exact h.x.kept hk (no _ _ _ h.x (by decide))
/-- A call on the document's state k, and perhaps its ledger. -/
theorem GW.turnQ (h : GW w0 B KP KQ pb rb qb lb lv L mb mv M xb tv wv W) (hk3 : k < 3) (hn : KQ k ≠ none) (hx : alg x' = alg (KQ k)) (hS : ∀ j, S j → j = qb k ∨ j = mb ∨ mv.ownBlock = some j) (hk : Kp S W W') (hs : IsQ W' (rb k) (qb k) x') (hl : RLed W' mb mv' M') (hr : ∀ g, mv'.ownBlock = some g → g < W.heap.size → S g ∨ mv.ownBlock = some g) :
    GW w0 B KP (upd KQ k x') pb rb qb lb lv L mb mv' M' xb tv wv W' ∧ Kx W W' := by
  obtain ⟨a0, cb, hcb⟩ := (h.sq k hk3).1.blk hn
  have hSB : ∀ j, S j → B ≤ j := fun j hj => by
    rcases hS j hj with e | e | e
    · rw [e]; exact ((h.sq k hk3).2 hn).2
    · rw [e]; exact h.mB
    · exact h.mg j e
  have n1 : ∀ x cs t, Blk W x cs t → t ≠ tyR a0 → t ≠ 68 → t ≠ 84 → ¬ S x := fun x cs t hx h1 h2 h3 hs => by
    rcases hS x hs with e | e | e
    · exact Sh.Blk.ne hx hcb h1 e
    · exact Sh.Blk.ne hx (rled_blk h.m) h2 e
    · obtain ⟨c, hc⟩ := run_blk h.m.own e; exact Sh.Blk.ne hx hc h3 rfl
  have no : ∀ x cs t, Blk W x cs t → Oth t → ¬ S x := fun x cs t hx ht => n1 x cs t hx (tyR_ne a0 t (.inl ht)) ht.2.2.2.2.2.1 ht.2.2.2.2.2.2
  refine ⟨⟨fun i hi => ⟨(h.sp i hi).1.kept hk (fun hi2 hs => ?_), (h.sp i hi).2⟩, fun i hi => ?_, h.pn, fun i j hi hj hij h1 h2 => ?_, h.l.kept hk ?_ (fun g hg hs => ?_), h.lB, h.lg, hl, h.mB, fun g hg => ?_, fun g e hg => ?_, ?_, h.xB, h.bel.trans (hk.below h.hB (fun j hj hs => by have := hSB j hs; omega)), h.kt.kept hk (fun hs => by have := hSB 0 hs; have := h.h0; omega) (fun hs => by have := hSB 1 hs; have := h.h0; omega), h.h0, Nat.le_trans h.hB hk.size⟩, fun g cs t hg ht => hg.kept hk (no _ _ _ hg ht)⟩
  · obtain ⟨ai, c, hc⟩ := (h.sp i hi).1.blk hi2
    exact n1 _ _ _ hc (tySR ai a0) (tyS_led ai).2.2 (tyS_led ai).2.1 hs
  · by_cases e : i = k
    · subst e
      rw [upd_at]
      exact ⟨hs, fun _ => (h.sq i hk3).2 hn⟩
    · rw [upd_ne _ _ _ _ e]
      refine ⟨(h.sq i hi).1.kept hk (fun hi2 hs => ?_) (fun hi2 hs => ?_) (fun g cs hg => no g cs _ hg (by decide)), (h.sq i hi).2⟩
      · obtain ⟨c, hc⟩ := (h.sq i hi).1.rec hi2
        exact no _ _ _ hc (by decide) hs
      · obtain ⟨ai, ci, hci⟩ := (h.sq i hi).1.blk hi2
        rcases hS _ hs with e1 | e1 | e1
        · exact (h.qn i k hi hk3 e hi2 hn).1 e1
        · exact Sh.Blk.ne hci (rled_blk h.m) (tyR_led ai).2.2 e1
        · obtain ⟨c, hc⟩ := run_blk h.m.own e1; exact Sh.Blk.ne hci hc (tyR_led ai).2.1 rfl
  · have f : ∀ i, upd KQ k x' i ≠ none → KQ i ≠ none := fun i hi => by
      by_cases e : i = k
      · rw [e]; exact hn
      · rwa [upd_ne _ _ _ _ e] at hi
    exact h.qn i j hi hj hij (f i h1) (f j h2)
  · exact n1 _ _ _ (led_blk h.l) (tyR_led a0).1.symm (by decide) (by decide)
  · rcases hS g hs with e | e | e
    · obtain ⟨c, hc⟩ := run_blk h.l.own hg; exact Sh.Blk.ne hc hcb (tyR_led a0).2.1.symm e
    · obtain ⟨c, hc⟩ := run_blk h.l.own hg; exact Sh.Blk.ne hc (rled_blk h.m) (by decide) e
    · exact h.ap g hg e
  · by_cases hlt : g < W.heap.size
    · rcases hr g hg hlt with e | e
      · exact hSB g e
      · exact h.mg g e
    · have := h.hB; omega
  · obtain ⟨c, hc⟩ := run_blk h.l.own e
    rcases hr g hg hc.lt with e1 | e1
    · rcases hS g e1 with e2 | e2 | e2
      · exact Sh.Blk.ne hc hcb (tyR_led a0).2.1.symm e2
      · exact Sh.Blk.ne hc (rled_blk h.m) (by decide) e2
      · exact h.ap g e e2
    · exact h.ap g e e1
  · have e1 : xc KP (upd KQ k x') pb rb lb mb tv wv = xc KP KQ pb rb lb mb tv wv := by
      unfold xc
      rw [qvl_upd rb KQ k 0 x' hx, qvl_upd rb KQ k 1 x' hx, qvl_upd rb KQ k 2 x' hx]
    rw [e1]
    exact h.x.kept hk (no _ _ _ h.x (by decide))
end
end Go.Proofs.YtojldjckpjokcaaGreatDoor.Dg
namespace Go.Proofs.YtojldjckpjokcaaGreatDoor.Dg
open Go.ChangeShapes Go.WideShapes Go.ChangeAt Go.RowKit
open Go.Proofs.YtojldjckpjokcaaGreatDoor.By
open Go.Proofs.YtojldjckpjokcaaGreatDoor.Sh (Blk size_alloc)
def gWrite : Bool → FuncId | false => 43 | true => 44
def gSum : Bool → FuncId | false => 45 | true => 46
def gWipe : Bool → FuncId | false => 49 | true => 50
def gForm : Bool → FuncId | false => 51 | true => 52
def gClone : Bool → FuncId | false => 47 | true => 48
/-- The blocks that a call of the document's may turn. -/
def SD (b lb : Nat) (rv : Value) (j : Nat) : Prop := j = b ∨ j = lb ∨ rv.ownBlock = some j
theorem rpos {w : World} {lb : Nat} {rv : Value} {L : List Rn} (h : RLed w lb rv L) : Pos L := h.pos
/-- What was handed to Write lies in a block of its own. -/
def Frs (w w' : World) (b : Nat) (a : Bool) : Prop := ∀ v cs, Blk w' b (v :: cs) (tyR a) → ∀ g, v.ownBlock = some g → w.heap.size ≤ g
theorem ewrite (a : Bool) (b m n lb : Nat) (f g : Nat → Int) (v rv : Value) (L : List Rn) (w : World) (h : IsE w b a (some (m, f))) (hl : RLed w lb rv L) (hroom : tot L ≤ 100000) (hr : ∀ w', Below w.heap.size w w' → By.RB w' v n g) (hmn : m + n ≤ 900000) :
    Calls Tryz.prog (gWrite a) #[.pointer (some ⟨b, 0, none⟩), .pointer (some ⟨lb, 0, none⟩), v] w fun e w' => e = .returned (.int .i64 0) ∧ IsE w' b a (some (m + n, cat m f g)) ∧ (∃ rv', RLed w' lb rv' (evs a L ((m + n) / bk a - m / bk a)) ∧ SameOrNew w rv rv') ∧ Kp (SD b lb rv) w w' ∧ Frs w w' b a := by
  have frs : ∀ (u : Value) (w' : World) (N : Nat) (F : Nat → Int), Blk w' b [u, .bool true] (tyR a) → By.Own w' w.heap.size u N F → Frs w w' b a := fun u w' N F hu ho v cs hb g hg => by
    have e : v :: cs = [u, .bool true] := by
      have h1 : w'.heap[b]? = some (.cells (v :: cs).toArray (tyR a) (0, 0)) := hb
      have h2 : w'.heap[b]? = some (.cells [u, .bool true].toArray (tyR a) (0, 0)) := hu
      rw [h1] at h2
      simpa using h2
    have e2 : v = u := (List.cons.inj e).1
    subst e2
    exact own_row ho g hg
  cases a
  · refine (Sh.rwrite35 b m n (some (lb, rv)) f g v L w h ⟨hl, by show tot L ≤ 1000000; omega⟩ hr hmn).mono ?_
    rintro e w' ⟨rfl, h1, ⟨rv', h2, h3⟩, h4, u, h5, h6⟩
    exact ⟨rfl, h1, ⟨rv', h2, h3⟩, h4, frs u w' _ _ h5 h6⟩
  · refine (Sg.rwrite35 b m lb n f g v rv L w h hl (wide_of (rpos hl) hroom) hr (by omega)).mono ?_
    rintro e w' ⟨rfl, h1, h2, h4, u, h5, h6⟩
    exact ⟨rfl, h1, h2, h4, frs u w' _ _ h5 h6⟩
theorem ewriteN (a : Bool) (b : Nat) (lp v : Value) (w : World) (h : IsE w b a none) : Calls Tryz.prog (gWrite a) #[.pointer (some ⟨b, 0, none⟩), lp, v] w fun e w' => e = .returned (.int .i64 1) ∧ w' = w := by
  cases a
  · exact Sh.rwrite35n b lp v w h
  · exact Sg.rwrite35n b lp v w h
theorem esum (a : Bool) (b m lb : Nat) (f : Nat → Int) (rv : Value) (L : List Rn) (w : World) (h : IsE w b a (some (m, f))) (hl : RLed w lb rv L) (hroom : tot L ≤ 100000) :
    Calls Tryz.prog (gSum a) #[.pointer (some ⟨b, 0, none⟩), .pointer (some ⟨lb, 0, none⟩)] w fun e w' => ∃ v, e = .returned (.tuple #[v, .int .i64 0]) ∧ By.Own w' w.heap.size v (sz a) (dig a m f) ∧ (∃ rv', RLed w' lb rv' (evs a L (last a m)) ∧ SameOrNew w rv rv') ∧ Kp (fun j => j = lb ∨ rv.ownBlock = some j) w w' := by
  cases a
  · refine (Sh.rsum36 b m (some (lb, rv)) f L w h ⟨hl, by show tot L ≤ 1000000; omega⟩).mono ?_
    rintro e w' ⟨v, rfl, h1, ⟨rv', h2, h3⟩, h4⟩
    exact ⟨v, rfl, h1, ⟨rv', h2, h3⟩, h4⟩
  · exact Sg.rsum36 b m lb f rv L w h hl (wide_of (rpos hl) hroom)
theorem esumN (a : Bool) (b : Nat) (lp : Value) (w : World) (h : IsE w b a none) : Calls Tryz.prog (gSum a) #[.pointer (some ⟨b, 0, none⟩), lp] w fun e w' => e = .returned (.tuple #[.slice none 0 0, .int .i64 1]) ∧ w' = w := by
  cases a
  · exact Sh.rsum36n b lp w h
  · exact Sg.rsum36n b lp w h
theorem ewipe (a : Bool) (b m lb : Nat) (f : Nat → Int) (rv : Value) (L : List Rn) (w : World) (h : IsE w b a (some (m, f))) (hl : RLed w lb rv L) (hroom : tot L ≤ 100000) :
    Calls Tryz.prog (gWipe a) #[.pointer (some ⟨b, 0, none⟩), .pointer (some ⟨lb, 0, none⟩)] w fun e w' => e = .returned (.int .i64 0) ∧ IsE w' b a none ∧ (∃ rv', RLed w' lb rv' (putL L ⟨8, fmn a, 1⟩) ∧ SameOrNew w rv rv') ∧ Kp (SD b lb rv) w w' := by
  cases a
  · refine (Sh.rwipe39 b m (some (lb, rv)) f L w h ⟨hl, by show tot L ≤ 1000000; omega⟩).mono ?_
    rintro e w' ⟨rfl, h1, ⟨rv', h2, h3⟩, h4⟩
    exact ⟨rfl, h1, ⟨rv', h2, h3⟩, h4⟩
  · exact Sg.rwipe39 b m lb f rv L w h hl (big_of (rpos hl) hroom).room
theorem ewipeN (a : Bool) (b : Nat) (lp : Value) (w : World) (h : IsE w b a none) : Calls Tryz.prog (gWipe a) #[.pointer (some ⟨b, 0, none⟩), lp] w fun e w' => e = .returned (.int .i64 1) ∧ w' = w := by
  cases a
  · exact Sh.rwipe39n b lp w h
  · exact Sg.rwipe39n b lp w h
theorem eform (a : Bool) (b m : Nat) (f : Nat → Int) (w : World) (h : IsE w b a (some (m, f))) : Calls Tryz.prog (gForm a) #[.pointer (some ⟨b, 0, none⟩)] w fun e w' => ∃ v, e = .returned v ∧ By.Own w' w.heap.size v (fmn a) (formf a m f) ∧ Below w.heap.size w w' := by
  cases a
  · exact Sh.rform18 b m f w h
  · exact Sg.rform18 b m f w h
theorem eformN (a : Bool) (b : Nat) (w : World) (h : IsE w b a none) : Calls Tryz.prog (gForm a) #[.pointer (some ⟨b, 0, none⟩)] w fun e w' => e = .returned (.slice none 0 0) ∧ w' = w := by
  cases a
  · exact Sh.rform18n b w h
  · exact Sg.rform18n b w h
theorem eclone (a : Bool) (b m : Nat) (f : Nat → Int) (w : World) (h : IsE w b a (some (m, f))) : Calls Tryz.prog (gClone a) #[.pointer (some ⟨b, 0, none⟩)] w fun e w' => ∃ c, w.heap.size ≤ c ∧ e = .returned (.tuple #[.pointer (some ⟨c, 0, none⟩), .int .i64 0]) ∧ IsE w' c a (some (m, f)) ∧ Below w.heap.size w w' := by
  cases a
  · exact Sh.rclone37 b m f w h
  · refine (Sg.rclone37 b m f w h).mono ?_
    rintro e w' ⟨rfl, h1, h2⟩
    exact ⟨_, Nat.le_refl _, rfl, h1, h2⟩
theorem ecloneN (a : Bool) (b : Nat) (w : World) (h : IsE w b a none) : Calls Tryz.prog (gClone a) #[.pointer (some ⟨b, 0, none⟩)] w fun e w' => e = .returned (.tuple #[.pointer none, .int .i64 1]) ∧ w' = w := by
  cases a
  · exact Sh.rclone37n b w h
  · exact Sg.rclone37n b w h
end Go.Proofs.YtojldjckpjokcaaGreatDoor.Dg
namespace Go.Proofs.YtojldjckpjokcaaGreatDoor.Dg
open Go.ChangeShapes Go.WideShapes Go.ChangeAt Go.RowKit
open Go.Proofs.YtojldjckpjokcaaGreatDoor.By
open Go.Proofs.YtojldjckpjokcaaGreatDoor.Sh (Blk size_alloc)
set_option maxRecDepth 4000 in
theorem wwrite256 (r q : Nat) (m n lb : Nat) (f g : Nat → Int) (v rv : Value) (L : List Rn) (w : World) (hb : Blk w r (rcell q false) 92) (h : IsE w q false (some (m, f))) (hl : RLed w lb rv L) (hroom : tot L ≤ 100000) (hr : ∀ w', Below w.heap.size w w' → By.RB w' v n g) (hmn : m + n ≤ 900000) : Calls Tryz.prog 26 #[.pointer (some ⟨r, 0, none⟩), .pointer (some ⟨lb, 0, none⟩), v] w fun e w' => e = .returned (.int .i64 0) ∧ IsE w' q false (some (m + n, cat m f g)) ∧ (∃ rv', RLed w' lb rv' (evs false L ((m + n) / bk false - m / bk false)) ∧ SameOrNew w rv rv') ∧ Kp (SD q lb rv) w w' ∧ Frs w w' q false := by
  have c0 := hb.cell 0 _ rfl
  have c1 := hb.cell 1 _ rfl
  have HC := hid (ewrite false q m n lb f g v rv L w h hl hroom hr hmn)
  clear hb
  go_enter Tryz.func26, Tryz.ntmps26
  go_wp2_with (go_at_call 43; refine HC.out.mono ?_; rintro e w2 ⟨rfl, h1, h2, h3, h4⟩)
  go_ret
  exact ⟨rfl, h1, h2, h3, h4⟩
set_option maxRecDepth 4000 in
theorem wwriteN256 (r q : Nat) (lp v : Value) (w : World) (hb : Blk w r (rcell q false) 92) (h : IsE w q false none) : Calls Tryz.prog 26 #[.pointer (some ⟨r, 0, none⟩), lp, v] w fun e w' => e = .returned (.int .i64 1) ∧ w' = w := by
  have c0 := hb.cell 0 _ rfl
  have c1 := hb.cell 1 _ rfl
  have HC := hid (ewriteN false q lp v w h)
  clear hb
  go_enter Tryz.func26, Tryz.ntmps26
  go_wp2_with (go_at_call 43; refine HC.out.mono ?_; rintro e w2 ⟨rfl, rfl⟩)
  go_ret
  exact ⟨rfl, rfl⟩
set_option maxRecDepth 4000 in
theorem wsum256 (r q : Nat) (m lb : Nat) (f : Nat → Int) (rv : Value) (L : List Rn) (w : World) (hb : Blk w r (rcell q false) 92) (h : IsE w q false (some (m, f))) (hl : RLed w lb rv L) (hroom : tot L ≤ 100000) : Calls Tryz.prog 28 #[.pointer (some ⟨r, 0, none⟩), .pointer (some ⟨lb, 0, none⟩)] w fun e w' => ∃ v, e = .returned (.tuple #[v, .int .i64 0]) ∧ By.Own w' w.heap.size v (sz false) (dig false m f) ∧ (∃ rv', RLed w' lb rv' (evs false L (last false m)) ∧ SameOrNew w rv rv') ∧ Kp (fun j => j = lb ∨ rv.ownBlock = some j) w w' := by
  have c0 := hb.cell 0 _ rfl
  have c1 := hb.cell 1 _ rfl
  have HC := hid (esum false q m lb f rv L w h hl hroom)
  clear hb
  go_enter Tryz.func28, Tryz.ntmps28
  go_wp2_with (go_at_call 45; refine HC.out.mono ?_; rintro e w2 ⟨v, rfl, h1, h2, h3⟩)
  go_ret2
  exact ⟨v, rfl, h1, h2, h3⟩
set_option maxRecDepth 4000 in
theorem wsumN256 (r q : Nat) (lp : Value) (w : World) (hb : Blk w r (rcell q false) 92) (h : IsE w q false none) : Calls Tryz.prog 28 #[.pointer (some ⟨r, 0, none⟩), lp] w fun e w' => e = .returned (.tuple #[.slice none 0 0, .int .i64 1]) ∧ w' = w := by
  have c0 := hb.cell 0 _ rfl
  have c1 := hb.cell 1 _ rfl
  have HC := hid (esumN false q lp w h)
  clear hb
  go_enter Tryz.func28, Tryz.ntmps28
  go_wp2_with (go_at_call 45; refine HC.out.mono ?_; rintro e w2 ⟨rfl, rfl⟩)
  go_ret2
  exact ⟨rfl, rfl⟩
set_option maxRecDepth 4000 in
theorem wwipe256 (r q : Nat) (m lb : Nat) (f : Nat → Int) (rv : Value) (L : List Rn) (w : World) (hb : Blk w r (rcell q false) 92) (h : IsE w q false (some (m, f))) (hl : RLed w lb rv L) (hroom : tot L ≤ 100000) : Calls Tryz.prog 31 #[.pointer (some ⟨r, 0, none⟩), .pointer (some ⟨lb, 0, none⟩)] w fun e w' => e = .returned (.int .i64 0) ∧ IsE w' q false none ∧ (∃ rv', RLed w' lb rv' (putL L ⟨8, fmn false, 1⟩) ∧ SameOrNew w rv rv') ∧ Kp (SD q lb rv) w w' := by
  have c0 := hb.cell 0 _ rfl
  have c1 := hb.cell 1 _ rfl
  have HC := hid (ewipe false q m lb f rv L w h hl hroom)
  clear hb
  go_enter Tryz.func31, Tryz.ntmps31
  go_wp2_with (go_at_call 49; refine HC.out.mono ?_; rintro e w2 ⟨rfl, h1, h2, h3⟩)
  go_ret
  exact ⟨rfl, h1, h2, h3⟩
set_option maxRecDepth 4000 in
theorem wwipeN256 (r q : Nat) (lp : Value) (w : World) (hb : Blk w r (rcell q false) 92) (h : IsE w q false none) : Calls Tryz.prog 31 #[.pointer (some ⟨r, 0, none⟩), lp] w fun e w' => e = .returned (.int .i64 1) ∧ w' = w := by
  have c0 := hb.cell 0 _ rfl
  have c1 := hb.cell 1 _ rfl
  have HC := hid (ewipeN false q lp w h)
  clear hb
  go_enter Tryz.func31, Tryz.ntmps31
  go_wp2_with (go_at_call 49; refine HC.out.mono ?_; rintro e w2 ⟨rfl, rfl⟩)
  go_ret
  exact ⟨rfl, rfl⟩
set_option maxRecDepth 4000 in
theorem wform256 (r q : Nat) (m : Nat) (f : Nat → Int) (w : World) (hb : Blk w r (rcell q false) 92) (h : IsE w q false (some (m, f))) : Calls Tryz.prog 32 #[.pointer (some ⟨r, 0, none⟩)] w fun e w' => ∃ v, e = .returned v ∧ By.Own w' w.heap.size v (fmn false) (formf false m f) ∧ Below w.heap.size w w' := by
  have c0 := hb.cell 0 _ rfl
  have c1 := hb.cell 1 _ rfl
  have HC := hid (eform false q m f w h)
  clear hb
  go_enter Tryz.func32, Tryz.ntmps32
  go_wp2_with (go_at_call 51; refine HC.out.mono ?_; rintro e w2 ⟨v, rfl, h1, h2⟩)
  go_ret
  exact ⟨v, rfl, h1, h2⟩
set_option maxRecDepth 4000 in
theorem wformN256 (r q : Nat) (w : World) (hb : Blk w r (rcell q false) 92) (h : IsE w q false none) : Calls Tryz.prog 32 #[.pointer (some ⟨r, 0, none⟩)] w fun e w' => e = .returned (.slice none 0 0) ∧ w' = w := by
  have c0 := hb.cell 0 _ rfl
  have c1 := hb.cell 1 _ rfl
  have HC := hid (eformN false q w h)
  clear hb
  go_enter Tryz.func32, Tryz.ntmps32
  go_wp2_with (go_at_call 51; refine HC.out.mono ?_; rintro e w2 ⟨rfl, rfl⟩)
  go_ret
  exact ⟨rfl, rfl⟩
set_option maxRecDepth 4000 in
theorem wwrite512 (r q : Nat) (m n lb : Nat) (f g : Nat → Int) (v rv : Value) (L : List Rn) (w : World) (hb : Blk w r (rcell q true) 92) (h : IsE w q true (some (m, f))) (hl : RLed w lb rv L) (hroom : tot L ≤ 100000) (hr : ∀ w', Below w.heap.size w w' → By.RB w' v n g) (hmn : m + n ≤ 900000) : Calls Tryz.prog 26 #[.pointer (some ⟨r, 0, none⟩), .pointer (some ⟨lb, 0, none⟩), v] w fun e w' => e = .returned (.int .i64 0) ∧ IsE w' q true (some (m + n, cat m f g)) ∧ (∃ rv', RLed w' lb rv' (evs true L ((m + n) / bk true - m / bk true)) ∧ SameOrNew w rv rv') ∧ Kp (SD q lb rv) w w' ∧ Frs w w' q true := by
  have c0 := hb.cell 0 _ rfl
  have c1 := hb.cell 1 _ rfl
  have HC := hid (ewrite true q m n lb f g v rv L w h hl hroom hr hmn)
  clear hb
  go_enter Tryz.func26, Tryz.ntmps26
  go_wp2_with (go_at_call 44; refine HC.out.mono ?_; rintro e w2 ⟨rfl, h1, h2, h3, h4⟩)
  go_ret
  exact ⟨rfl, h1, h2, h3, h4⟩
set_option maxRecDepth 4000 in
theorem wwriteN512 (r q : Nat) (lp v : Value) (w : World) (hb : Blk w r (rcell q true) 92) (h : IsE w q true none) : Calls Tryz.prog 26 #[.pointer (some ⟨r, 0, none⟩), lp, v] w fun e w' => e = .returned (.int .i64 1) ∧ w' = w := by
  have c0 := hb.cell 0 _ rfl
  have c1 := hb.cell 1 _ rfl
  have HC := hid (ewriteN true q lp v w h)
  clear hb
  go_enter Tryz.func26, Tryz.ntmps26
  go_wp2_with (go_at_call 44; refine HC.out.mono ?_; rintro e w2 ⟨rfl, rfl⟩)
  go_ret
  exact ⟨rfl, rfl⟩
set_option maxRecDepth 4000 in
theorem wsum512 (r q : Nat) (m lb : Nat) (f : Nat → Int) (rv : Value) (L : List Rn) (w : World) (hb : Blk w r (rcell q true) 92) (h : IsE w q true (some (m, f))) (hl : RLed w lb rv L) (hroom : tot L ≤ 100000) : Calls Tryz.prog 28 #[.pointer (some ⟨r, 0, none⟩), .pointer (some ⟨lb, 0, none⟩)] w fun e w' => ∃ v, e = .returned (.tuple #[v, .int .i64 0]) ∧ By.Own w' w.heap.size v (sz true) (dig true m f) ∧ (∃ rv', RLed w' lb rv' (evs true L (last true m)) ∧ SameOrNew w rv rv') ∧ Kp (fun j => j = lb ∨ rv.ownBlock = some j) w w' := by
  have c0 := hb.cell 0 _ rfl
  have c1 := hb.cell 1 _ rfl
  have HC := hid (esum true q m lb f rv L w h hl hroom)
  clear hb
  go_enter Tryz.func28, Tryz.ntmps28
  go_wp2_with (go_at_call 46; refine HC.out.mono ?_; rintro e w2 ⟨v, rfl, h1, h2, h3⟩)
  go_ret2
  exact ⟨v, rfl, h1, h2, h3⟩
set_option maxRecDepth 4000 in
theorem wsumN512 (r q : Nat) (lp : Value) (w : World) (hb : Blk w r (rcell q true) 92) (h : IsE w q true none) : Calls Tryz.prog 28 #[.pointer (some ⟨r, 0, none⟩), lp] w fun e w' => e = .returned (.tuple #[.slice none 0 0, .int .i64 1]) ∧ w' = w := by
  have c0 := hb.cell 0 _ rfl
  have c1 := hb.cell 1 _ rfl
  have HC := hid (esumN true q lp w h)
  clear hb
  go_enter Tryz.func28, Tryz.ntmps28
  go_wp2_with (go_at_call 46; refine HC.out.mono ?_; rintro e w2 ⟨rfl, rfl⟩)
  go_ret2
  exact ⟨rfl, rfl⟩
set_option maxRecDepth 4000 in
theorem wwipe512 (r q : Nat) (m lb : Nat) (f : Nat → Int) (rv : Value) (L : List Rn) (w : World) (hb : Blk w r (rcell q true) 92) (h : IsE w q true (some (m, f))) (hl : RLed w lb rv L) (hroom : tot L ≤ 100000) : Calls Tryz.prog 31 #[.pointer (some ⟨r, 0, none⟩), .pointer (some ⟨lb, 0, none⟩)] w fun e w' => e = .returned (.int .i64 0) ∧ IsE w' q true none ∧ (∃ rv', RLed w' lb rv' (putL L ⟨8, fmn true, 1⟩) ∧ SameOrNew w rv rv') ∧ Kp (SD q lb rv) w w' := by
  have c0 := hb.cell 0 _ rfl
  have c1 := hb.cell 1 _ rfl
  have HC := hid (ewipe true q m lb f rv L w h hl hroom)
  clear hb
  go_enter Tryz.func31, Tryz.ntmps31
  go_wp2_with (go_at_call 50; refine HC.out.mono ?_; rintro e w2 ⟨rfl, h1, h2, h3⟩)
  go_ret
  exact ⟨rfl, h1, h2, h3⟩
set_option maxRecDepth 4000 in
theorem wwipeN512 (r q : Nat) (lp : Value) (w : World) (hb : Blk w r (rcell q true) 92) (h : IsE w q true none) : Calls Tryz.prog 31 #[.pointer (some ⟨r, 0, none⟩), lp] w fun e w' => e = .returned (.int .i64 1) ∧ w' = w := by
  have c0 := hb.cell 0 _ rfl
  have c1 := hb.cell 1 _ rfl
  have HC := hid (ewipeN true q lp w h)
  clear hb
  go_enter Tryz.func31, Tryz.ntmps31
  go_wp2_with (go_at_call 50; refine HC.out.mono ?_; rintro e w2 ⟨rfl, rfl⟩)
  go_ret
  exact ⟨rfl, rfl⟩
set_option maxRecDepth 4000 in
theorem wform512 (r q : Nat) (m : Nat) (f : Nat → Int) (w : World) (hb : Blk w r (rcell q true) 92) (h : IsE w q true (some (m, f))) : Calls Tryz.prog 32 #[.pointer (some ⟨r, 0, none⟩)] w fun e w' => ∃ v, e = .returned v ∧ By.Own w' w.heap.size v (fmn true) (formf true m f) ∧ Below w.heap.size w w' := by
  have c0 := hb.cell 0 _ rfl
  have c1 := hb.cell 1 _ rfl
  have HC := hid (eform true q m f w h)
  clear hb
  go_enter Tryz.func32, Tryz.ntmps32
  go_wp2_with (go_at_call 52; refine HC.out.mono ?_; rintro e w2 ⟨v, rfl, h1, h2⟩)
  go_ret
  exact ⟨v, rfl, h1, h2⟩
set_option maxRecDepth 4000 in
theorem wformN512 (r q : Nat) (w : World) (hb : Blk w r (rcell q true) 92) (h : IsE w q true none) : Calls Tryz.prog 32 #[.pointer (some ⟨r, 0, none⟩)] w fun e w' => e = .returned (.slice none 0 0) ∧ w' = w := by
  have c0 := hb.cell 0 _ rfl
  have c1 := hb.cell 1 _ rfl
  have HC := hid (eformN true q w h)
  clear hb
  go_enter Tryz.func32, Tryz.ntmps32
  go_wp2_with (go_at_call 52; refine HC.out.mono ?_; rintro e w2 ⟨rfl, rfl⟩)
  go_ret
  exact ⟨rfl, rfl⟩
end Go.Proofs.YtojldjckpjokcaaGreatDoor.Dg
namespace Go.Proofs.YtojldjckpjokcaaGreatDoor.Dg
open Go.ChangeShapes Go.WideShapes Go.ChangeAt Go.RowKit
open Go.Proofs.YtojldjckpjokcaaGreatDoor.By
open Go.Proofs.YtojldjckpjokcaaGreatDoor.Sh (Blk size_alloc)
set_option maxRecDepth 4000 in
theorem wcopy256 (r q m : Nat) (f : Nat → Int) (w : World) (hb : Blk w r (rcell q false) 92) (h : IsE w q false (some (m, f))) : Calls Tryz.prog 30 #[.pointer (some ⟨r, 0, none⟩)] w fun e w' => ∃ r' q', w.heap.size ≤ r' ∧ w.heap.size ≤ q' ∧ e = .returned (.pointer (some ⟨r', 0, none⟩)) ∧ IsQ w' r' q' (some (false, some (m, f))) ∧ Below w.heap.size w w' := by
  have c0 := hb.cell 0 _ rfl
  have c1 := hb.cell 1 _ rfl
  have HC := hid (eclone false q m f w h)
  clear hb h
  go_enter Tryz.func30, Tryz.ntmps30
  go_wp2_with (go_at_call 47; refine HC.out.mono ?_; rintro e w2 ⟨c, hc, rfl, h1, h2⟩; have H1 := hid h1; have H2 := hid h2; clear h1 h2)
  go_ret
  exact ⟨_, c, Nat.le_trans H2.out.size (Nat.le_refl _), hc, rfl, ⟨Sh.Blk.newAt w2 _ (rcell c false) 92 _ rfl rfl, IsE.kept H1.out (Kp.of_below (fun _ => False) (below_alloc w2 _)) id (fun _ _ _ => id)⟩, below_next H2.out (below_alloc w2 _)⟩
set_option maxRecDepth 4000 in
theorem wcopyN256 (r q : Nat) (w : World) (hb : Blk w r (rcell q false) 92) (h : IsE w q false none) : Calls Tryz.prog 30 #[.pointer (some ⟨r, 0, none⟩)] w fun e w' => e = .returned (.pointer none) ∧ w' = w := by
  have c0 := hb.cell 0 _ rfl
  have c1 := hb.cell 1 _ rfl
  have HC := hid (ecloneN false q w h)
  clear hb h
  go_enter Tryz.func30, Tryz.ntmps30
  go_wp2_with (go_at_call 47; refine HC.out.mono ?_; rintro e w2 ⟨rfl, rfl⟩)
  go_ret
  exact ⟨rfl, rfl⟩
set_option maxRecDepth 4000 in
theorem wnew256 (w : World) : Calls Tryz.prog 24 #[.agg #[.int .u8 1, .int .i64 32, .int .i64 64, .int .u8 1, .int .i64 64]] w fun e w' => ∃ r' q', w.heap.size ≤ r' ∧ w.heap.size ≤ q' ∧ e = .returned (.pointer (some ⟨r', 0, none⟩)) ∧ IsQ w' r' q' (some (false, some (0, fun _ => 0))) ∧ Below w.heap.size w w' := by
  go_enter Tryz.func24, Tryz.ntmps24
  go_wp2_with (go_at_call 41; refine (Sh.rnew11 _).mono ?_; rintro e w2 ⟨rfl, h1, h2⟩; rw [size_alloc] at h1; have H1 := hid h1; have H2 := hid (below_next (below_alloc w _) h2); clear h1 h2)
  go_ret
  exact ⟨_, w.heap.size + 1, Nat.le_trans H2.out.size (Nat.le_refl _), Nat.le_succ _, rfl, ⟨Sh.Blk.newAt w2 _ (rcell (w.heap.size + 1) false) 92 _ rfl rfl, IsE.kept (a := false) H1.out (Kp.of_below (fun _ => False) (below_alloc w2 _)) id (fun _ _ _ => id)⟩, below_next H2.out (below_alloc w2 _)⟩
set_option maxRecDepth 4000 in
theorem wcopy512 (r q m : Nat) (f : Nat → Int) (w : World) (hb : Blk w r (rcell q true) 92) (h : IsE w q true (some (m, f))) : Calls Tryz.prog 30 #[.pointer (some ⟨r, 0, none⟩)] w fun e w' => ∃ r' q', w.heap.size ≤ r' ∧ w.heap.size ≤ q' ∧ e = .returned (.pointer (some ⟨r', 0, none⟩)) ∧ IsQ w' r' q' (some (true, some (m, f))) ∧ Below w.heap.size w w' := by
  have c0 := hb.cell 0 _ rfl
  have c1 := hb.cell 1 _ rfl
  have HC := hid (eclone true q m f w h)
  clear hb h
  go_enter Tryz.func30, Tryz.ntmps30
  go_wp2_with (go_at_call 48; refine HC.out.mono ?_; rintro e w2 ⟨c, hc, rfl, h1, h2⟩; have H1 := hid h1; have H2 := hid h2; clear h1 h2)
  go_ret
  exact ⟨_, c, Nat.le_trans H2.out.size (Nat.le_refl _), hc, rfl, ⟨Sh.Blk.newAt w2 _ (rcell c true) 92 _ rfl rfl, IsE.kept H1.out (Kp.of_below (fun _ => False) (below_alloc w2 _)) id (fun _ _ _ => id)⟩, below_next H2.out (below_alloc w2 _)⟩
set_option maxRecDepth 4000 in
theorem wcopyN512 (r q : Nat) (w : World) (hb : Blk w r (rcell q true) 92) (h : IsE w q true none) : Calls Tryz.prog 30 #[.pointer (some ⟨r, 0, none⟩)] w fun e w' => e = .returned (.pointer none) ∧ w' = w := by
  have c0 := hb.cell 0 _ rfl
  have c1 := hb.cell 1 _ rfl
  have HC := hid (ecloneN true q w h)
  clear hb h
  go_enter Tryz.func30, Tryz.ntmps30
  go_wp2_with (go_at_call 48; refine HC.out.mono ?_; rintro e w2 ⟨rfl, rfl⟩)
  go_ret
  exact ⟨rfl, rfl⟩
set_option maxRecDepth 4000 in
theorem wnew512 (w : World) : Calls Tryz.prog 24 #[.agg #[.int .u8 2, .int .i64 64, .int .i64 128, .int .u8 2, .int .i64 128]] w fun e w' => ∃ r' q', w.heap.size ≤ r' ∧ w.heap.size ≤ q' ∧ e = .returned (.pointer (some ⟨r', 0, none⟩)) ∧ IsQ w' r' q' (some (true, some (0, fun _ => 0))) ∧ Below w.heap.size w w' := by
  go_enter Tryz.func24, Tryz.ntmps24
  go_wp2_with (go_at_call 42; refine (Sg.rnew11 _).mono ?_; rintro e w2 ⟨rfl, h1, h2⟩; rw [size_alloc] at h1; have H1 := hid h1; have H2 := hid (below_next (below_alloc w _) h2); clear h1 h2)
  go_ret
  exact ⟨_, w.heap.size + 1, Nat.le_trans H2.out.size (Nat.le_refl _), Nat.le_succ _, rfl, ⟨Sh.Blk.newAt w2 _ (rcell (w.heap.size + 1) true) 92 _ rfl rfl, IsE.kept (a := true) H1.out (Kp.of_below (fun _ => False) (below_alloc w2 _)) id (fun _ _ _ => id)⟩, below_next H2.out (below_alloc w2 _)⟩
end Go.Proofs.YtojldjckpjokcaaGreatDoor.Dg
