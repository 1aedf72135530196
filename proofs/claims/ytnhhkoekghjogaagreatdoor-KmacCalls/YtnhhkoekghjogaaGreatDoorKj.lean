/- Three macs and a ledger on either side, and the record that holds them. The calls of either side's macs. The helper keep: what was told is gone on with. What was told: both lists, and the record that holds them. All that both sides hold between two calls. New of either side. -/
import Derived.Test.YtnhhkoekghjogaaGreatDoorKi
import Derived.Test.YtnhhkoekghjogaaGreatDoorXsh
import Derived.Test.YtnhhkoekghjogaaGreatDoorScut
import Derived.Deep.AppendLies
import Derived.Deep.RegionHeld3
import Derived.Test.YtnhhkoekghjogaaGreatDoorSlnone
import Derived.Deep.DeepMust
namespace Go.Proofs.YtnhhkoekghjogaaGreatDoor.Kc
open Go.ChangeShapes Go.WideShapes Go.ChangeAt Go.RowKit
open Go.Proofs.YtnhhkoekghjogaaGreatDoor.By Go.Proofs.YtnhhkoekghjogaaGreatDoor.Wd
/-- No mac, or one of a strength, a rate, a sponge. -/
abbrev MD := Option (Int × Nat × Z)
/-- A mac of either side (true: the program's), its sponge in block c. -/
def IsK (o : Bool) (W : World) (v : Value) (c : Nat) : MD → Prop
  | none => match o with | true => NoM W v | false => NoK W v
  | some (st, r, z) => match o with | true => ∃ g, v = .pointer (some ⟨g, 0, none⟩) ∧ Mk W g c st r z | false => ∃ g, v = .pointer (some ⟨g, 0, none⟩) ∧ Rk W g c st r z
def tmc (o : Bool) : TypeId := match o with | true => 90 | false => 96
def tsp (o : Bool) : TypeId := match o with | true => 109 | false => 114
section
variable {o : Bool} {W W' : World} {v : Value} {c g : Nat} {d : MD}
theorem IsK.blk (h : IsK o W v c d) (e : v = .pointer (some ⟨g, 0, none⟩)) : ∃ cs, Blk W g cs (tmc o) := by
  cases o with
  | true =>
    match d, h with
    | none, h =>
      rcases h with h | ⟨g', e', hb⟩
      · rw [h] at e; simp at e
      · rw [e] at e'; simp at e'; subst e'; exact ⟨_, hb⟩
    | some (st, r, z), ⟨g', e', hm⟩ => rw [e] at e'; simp at e'; subst e'; exact ⟨_, hm.here⟩
  | false =>
    match d, h with
    | none, h =>
      rcases h with h | ⟨g', e', hb⟩
      · rw [h] at e; simp at e
      · rw [e] at e'; simp at e'; subst e'; exact ⟨_, hb⟩
    | some (st, r, z), ⟨g', e', hm⟩ => rw [e] at e'; simp at e'; subst e'; exact ⟨_, hm.here⟩
theorem IsK.cblk (h : IsK o W v c d) (hd : d ≠ none) : ∃ cs, Blk W c cs (tsp o) := by
  cases o with
  | true =>
    match d, h with
    | none, h => exact absurd rfl hd
    | some (st, r, z), ⟨g', e', hm⟩ => exact ⟨_, hm.sp.here⟩
  | false =>
    match d, h with
    | none, h => exact absurd rfl hd
    | some (st, r, z), ⟨g', e', hm⟩ => exact ⟨_, hm.sp.here⟩
theorem IsK.blks (h : IsK o W v c d) (hb : ∀ g cs, v = .pointer (some ⟨g, 0, none⟩) → Blk W g cs (tmc o) → Blk W' g cs (tmc o)) (hc : d ≠ none → ∀ cs, Blk W c cs (tsp o) → Blk W' c cs (tsp o)) : IsK o W' v c d := by
  cases o with
  | true =>
    match d, h with
    | none, h =>
      rcases h with h | ⟨g', e', hh⟩
      · exact .inl h
      · exact .inr ⟨g', e', hb _ _ e' hh⟩
    | some (st, r, z), ⟨g', e', hm⟩ => exact ⟨g', e', hb _ _ e' hm.here, ⟨hc (by simp) _ hm.sp.here, hm.sp.ok, hm.sp.lo, hm.sp.hi, hm.sp.sf⟩, hm.str⟩
  | false =>
    match d, h with
    | none, h =>
      rcases h with h | ⟨g', e', hh⟩
      · exact .inl h
      · exact .inr ⟨g', e', hb _ _ e' hh⟩
    | some (st, r, z), ⟨g', e', hm⟩ => exact ⟨g', e', hb _ _ e' hm.here, ⟨hc (by simp) _ hm.sp.here, hm.sp.ok, hm.sp.lo, hm.sp.hi, hm.sp.sf⟩, hm.str⟩
theorem IsK.below (h : IsK o W v c d) (hb : Below W.heap.size W W') : IsK o W' v c d := h.blks (fun _ _ _ hg => hg.below hb) (fun _ _ hg => hg.below hb)
end
/-- Function i, but at k. -/
def upd {α : Type} (f : Nat → α) (k : Nat) (x : α) : Nat → α := fun i => if i = k then x else f i
theorem upd_at {α : Type} (f : Nat → α) (k : Nat) (x : α) : upd f k x k = x := by unfold upd; rw [if_pos rfl]
theorem upd_ne {α : Type} (f : Nat → α) (k : Nat) (x : α) (i : Nat) (h : i ≠ k) : upd f k x i = f i := by unfold upd; rw [if_neg h]
theorem upd_same {α : Type} (f : Nat → α) (k : Nat) : upd f k (f k) = f := by
  funext i; unfold upd; split
  · rename_i h; rw [h]
  · rfl
/-- The blocks that a call of a mac may turn. -/
def SM (lb : Nat) (lv v : Value) (c : Nat) (d : MD) (x : Nat) : Prop := x = lb ∨ lv.ownBlock = some x ∨ v = .pointer (some ⟨x, 0, none⟩) ∨ (d ≠ none ∧ x = c)
/-- One side. -/
structure Sd (o : Bool) (W : World) (B : Nat) (pv : Nat → Value) (pc : Nat → Nat) (D : Nat → MD) (lb : Nat) (lv : Value) (L : List Rn) : Prop where
  led : IsLed W ⟨o, lb, lv, L⟩
  lB : B ≤ lb
  lvB : ∀ g, lv.ownBlock = some g → B ≤ g
  p : ∀ j, j < 3 → IsK o W (pv j) (pc j) (D j)
  pB : ∀ j, j < 3 → ∀ g, pv j = .pointer (some ⟨g, 0, none⟩) → B ≤ g
  cB : ∀ j, j < 3 → D j ≠ none → B ≤ pc j
  pne : ∀ i j g, i < 3 → j < 3 → i ≠ j → pv i = .pointer (some ⟨g, 0, none⟩) → pv j ≠ .pointer (some ⟨g, 0, none⟩)
  cne : ∀ i j, i < 3 → j < 3 → i ≠ j → D i ≠ none → D j ≠ none → pc i ≠ pc j
theorem ty_ne (o : Bool) : tmc o ≠ tsp o ∧ tmc o ≠ tl o ∧ tsp o ≠ tl o ∧ tmc o ≠ 81 ∧ tsp o ≠ 81 ∧ tl o ≠ 81 := by cases o <;> decide
theorem ty_ot (o : Bool) : tmc o ≠ tmc (!o) ∧ tmc o ≠ tsp (!o) ∧ tmc o ≠ tl (!o) ∧ tsp o ≠ tmc (!o) ∧ tsp o ≠ tsp (!o) ∧ tsp o ≠ tl (!o) ∧ tl o ≠ tmc (!o) ∧ tl o ≠ tsp (!o) ∧ tl o ≠ tl (!o) := by cases o <;> decide
section
variable {o : Bool} {W W' : World} {B : Nat} {pv : Nat → Value} {pc : Nat → Nat} {D : Nat → MD} {lb : Nat} {lv lv' : Value} {L L' : List Rn} {S : Nat → Prop}
theorem Sd.below (h : Sd o W B pv pc D lb lv L) (hb : Below W.heap.size W W') : Sd o W' B pv pc D lb lv L :=
  { h with
    led := h.led.kept (Kp.of_below (fun _ => False) hb) id (fun _ _ => id)
    p := fun j hj => (h.p j hj).below hb }
/-- What a call may turn is of this side, and the call's own. -/
theorem Sd.smB (h : Sd o W B pv pc D lb lv L) {j x : Nat} (hj : j < 3) (hx : SM lb lv (pv j) (pc j) (D j) x) : B ≤ x := by
  rcases hx with rfl | hx | hx | ⟨h1, rfl⟩
  · exact h.lB
  · exact h.lvB x hx
  · exact h.pB j hj x hx
  · exact h.cB j hj h1
theorem Sd.smT (h : Sd o W B pv pc D lb lv L) {j x : Nat} (hj : j < 3) (hx : SM lb lv (pv j) (pc j) (D j) x) : ∃ cs t, Blk W x cs t ∧ (t = tl o ∨ (t = 81 ∧ lv.ownBlock = some x) ∨ t = tmc o ∨ t = tsp o) := by
  rcases hx with rfl | hx | hx | ⟨h1, rfl⟩
  · obtain ⟨c, hc⟩ := h.led.blk; exact ⟨c, _, hc, .inl rfl⟩
  · obtain ⟨c, hc⟩ := h.led.run hx; exact ⟨c, _, hc, .inr (.inl ⟨rfl, hx⟩)⟩
  · obtain ⟨c, hc⟩ := (h.p j hj).blk hx; exact ⟨c, _, hc, .inr (.inr (.inl rfl))⟩
  · obtain ⟨c, hc⟩ := (h.p j hj).cblk h1; exact ⟨c, _, hc, .inr (.inr (.inr rfl))⟩
theorem bty {W : World} {x : Nat} {cs cs' : List Value} {t t' : TypeId} (h : Blk W x cs t) (h' : Blk W x cs' t') : t = t' := by
  have := Option.some.inj (h.symm.trans h')
  simp only [Obj.cells.injEq] at this
  exact this.2.1
/-- A block of another kind is not in it. -/
theorem Sd.smN (h : Sd o W B pv pc D lb lv L) {j x : Nat} (hj : j < 3) {cs : List Value} {t : TypeId} (hb : Blk W x cs t) (h1 : t ≠ tl o) (h2 : t = 81 → lv.ownBlock ≠ some x) (h3 : t ≠ tmc o) (h4 : t ≠ tsp o) : ¬ SM lb lv (pv j) (pc j) (D j) x := fun hx => by
  obtain ⟨c, t', hc, ht⟩ := h.smT hj hx
  have e := bty hb hc
  subst e
  rcases ht with ht | ⟨ht, hv⟩ | ht | ht
  · exact h1 ht
  · exact h2 ht hv
  · exact h3 ht
  · exact h4 ht
/-- Behind a call of the mac j. -/
theorem Sd.turn (h : Sd o W B pv pc D lb lv L) (hBW : B ≤ W.heap.size) (j : Nat) (hj : j < 3) (d : MD) (hd : d ≠ none → D j ≠ none) (hl : IsLed W' ⟨o, lb, lv', L'⟩) (hr : ∀ g, lv'.ownBlock = some g → g < W.heap.size → SM lb lv (pv j) (pc j) (D j) g) (hk : Kp (SM lb lv (pv j) (pc j) (D j)) W W') (hp : IsK o W' (pv j) (pc j) d) : Sd o W' B pv pc (upd D j d) lb lv' L' := by
  have f : ∀ x, upd D j d x ≠ none → D x ≠ none := fun x hx => by
    by_cases e : x = j
    · subst e; rw [upd_at] at hx; exact hd hx
    · rwa [upd_ne _ _ _ _ e] at hx
  obtain ⟨t1, t2, t3, t4, t5, t6⟩ := ty_ne o
  exact
    { led := hl
      lB := h.lB
      lvB := fun g hg => by
        rcases Nat.lt_or_ge g W.heap.size with hlt | hge
        · exact h.smB hj (hr g hg hlt)
        · omega
      p := fun i hi => by
        by_cases e : i = j
        · subst e; rw [upd_at]; exact hp
        · rw [upd_ne _ _ _ _ e]
          refine (h.p i hi).blks (fun g cs eg hg => hg.kept hk (fun hs => ?_)) (fun hdi cs hg => hg.kept hk (fun hs => ?_))
          · rcases hs with rfl | hs | hs | ⟨h1, hs⟩
            · obtain ⟨c, hc⟩ := h.led.blk; exact t2 (bty hg hc)
            · obtain ⟨c, hc⟩ := h.led.run hs; exact t4 (bty hg hc)
            · exact h.pne i j g hi hj e eg hs
            · obtain ⟨c, hc⟩ := (h.p j hj).cblk h1; rw [← hs] at hc; exact t1 (bty hg hc)
          · rcases hs with hs | hs | hs | ⟨h1, hs⟩
            · obtain ⟨c, hc⟩ := h.led.blk; rw [hs] at hg; exact t3 (bty hg hc)
            · obtain ⟨c, hc⟩ := h.led.run hs; exact t5 (bty hg hc)
            · obtain ⟨c, hc⟩ := (h.p j hj).blk hs; exact t1 (bty hc hg)
            · exact h.cne i j hi hj e hdi h1 hs
      pB := h.pB
      cB := fun i hi hdi => h.cB i hi (f i hdi)
      pne := h.pne
      cne := fun i i' hi hi' hne h1 h2 => h.cne i i' hi hi' hne (f _ h1) (f _ h2) }
/-- Blocks turn that are not of this side. -/
theorem Sd.keep (h : Sd o W B pv pc D lb lv L) (hk : Kp S W W') (h1 : ∀ {x cs}, Blk W x cs (tmc o) → ¬ S x) (h2 : ∀ {x cs}, Blk W x cs (tsp o) → ¬ S x) (h3 : ¬ S lb) (h4 : ∀ g, lv.ownBlock = some g → ¬ S g) : Sd o W' B pv pc D lb lv L :=
  { h with
    led := h.led.kept hk h3 h4
    p := fun j hj => (h.p j hj).blks (fun _ _ _ hg => hg.kept hk (h1 hg)) (fun _ _ hg => hg.kept hk (h2 hg)) }
/-- An entry is laid anew. -/
theorem Sd.slot (h : Sd o W B pv pc D lb lv L) (k : Nat) (x : Value) (c : Nat) (d : MD) (hx : IsK o W x c d) (hxB : ∀ g, x = .pointer (some ⟨g, 0, none⟩) → B ≤ g ∧ ∀ i, i < 3 → pv i ≠ .pointer (some ⟨g, 0, none⟩)) (hcB : d ≠ none → B ≤ c ∧ ∀ i, i < 3 → D i ≠ none → pc i ≠ c) : Sd o W B (upd pv k x) (upd pc k c) (upd D k d) lb lv L :=
  { led := h.led
    lB := h.lB
    lvB := h.lvB
    p := fun j hj => by
      by_cases e : j = k
      · subst e; rw [upd_at, upd_at, upd_at]; exact hx
      · rw [upd_ne _ _ _ _ e, upd_ne _ _ _ _ e, upd_ne _ _ _ _ e]; exact h.p j hj
    pB := fun j hj g e' => by
      by_cases e : j = k
      · subst e; rw [upd_at] at e'; exact (hxB g e').1
      · rw [upd_ne _ _ _ _ e] at e'; exact h.pB j hj g e'
    cB := fun j hj e' => by
      by_cases e : j = k
      · subst e; rw [upd_at] at e' ⊢; exact (hcB e').1
      · rw [upd_ne _ _ _ _ e] at e' ⊢; exact h.cB j hj e'
    pne := fun i j g hi hj hne e e' => by
      by_cases ei : i = k
      · subst ei; rw [upd_at] at e; rw [upd_ne _ _ _ _ (fun q => hne q.symm)] at e'; exact (hxB g e).2 j hj e'
      · rw [upd_ne _ _ _ _ ei] at e
        by_cases ej : j = k
        · subst ej; rw [upd_at] at e'; exact (hxB g e').2 i hi e
        · rw [upd_ne _ _ _ _ ej] at e'; exact h.pne i j g hi hj hne e e'
    cne := fun i j hi hj hne e e' => by
      by_cases ei : i = k
      · subst ei; rw [upd_at] at e ⊢; rw [upd_ne _ _ _ _ (fun q => hne q.symm)] at e' ⊢; exact fun q => (hcB e).2 j hj e' q.symm
      · rw [upd_ne _ _ _ _ ei] at e ⊢
        by_cases ej : j = k
        · subst ej; rw [upd_at] at e' ⊢; exact (hcB e').2 i hi e
        · rw [upd_ne _ _ _ _ ej] at e' ⊢; exact h.cne i j hi hj hne e e' }
end
/-- The kinds of blocks that calls turn. -/
def tyk : List TypeId := [90, 109, 96, 114, 59, 61, 81]
/-- Blocks of other kinds stay. -/
def Kx (W W' : World) : Prop := ∀ g cs t, Blk W g cs t → t ∉ tyk → Blk W' g cs t
theorem Kx.refl (W : World) : Kx W W := fun _ _ _ h _ => h
theorem Kx.below {W W' : World} (hb : Below W.heap.size W W') : Kx W W' := fun _ _ _ h _ => h.below hb
theorem Kx.trans {a b c : World} (h : Kx a b) (k : Kx b c) : Kx a c := fun g cs t hg ht => k g cs t (h g cs t hg ht) ht
theorem Kx.own {W W' : World} (h : Kx W W') {base n : Nat} {v : Value} {f : Nat → Int} (ho : By.Own W base v n f) : By.Own W' base v n f := by
  obtain ⟨hf, hl, h' | ⟨g, cap, cur, rfl, hb, hc, h1, h2, h3, h4⟩⟩ := ho
  · exact ⟨hf, hl, .inl h'⟩
  · exact ⟨hf, hl, .inr ⟨g, cap, cur, rfl, hb, h g cur.toList 5 (by show W.heap[g]? = _; rw [hc]) (by decide), h1, h2, h3, h4⟩⟩
theorem Kx.row {W W' : World} (h : Kx W W') {base n : Nat} {v : Value} {xs : List Value} (ho : W.ownsRow base 22 1 v n xs) : W'.ownsRow base 22 1 v n xs := by
  obtain ⟨hl, h' | ⟨g, cap, cur, rfl, hb, hc, h1, h2, h3, h4⟩⟩ := ho
  · exact ⟨hl, .inl h'⟩
  · refine ⟨hl, .inr ⟨g, cap, cur, rfl, hb, ?_, h1, h2, h3, h4⟩⟩
    exact h g cur.toList 22 (by show W.heap[g]? = _; rw [hc]) (by decide)
/-- The record's cells. -/
def x8 (pv qv : Nat → Value) (lb mb : Nat) : List Value := [pv 0, pv 1, pv 2, qv 0, qv 1, qv 2, .pointer (some ⟨lb, 0, none⟩), .pointer (some ⟨mb, 0, none⟩)]
structure PS (w0 : World) (xb lb mb : Nat) (lv mv tv wv : Value) (pv qv : Nat → Value) (pc qc : Nat → Nat) (D E : Nat → MD) (L M : List Rn) (W : World) : Prop where
  bel : Below w0.heap.size w0 W
  P : Sd true W w0.heap.size pv pc D lb lv L
  Q : Sd false W w0.heap.size qv qc E mb mv M
  dis : ∀ g, lv.ownBlock = some g → mv.ownBlock ≠ some g
  here : Blk W xb (x8 pv qv lb mb ++ [tv, wv]) 39
  xB : w0.heap.size ≤ xb
  kt : KT w0
section
variable {w0 W W' : World} {xb lb mb : Nat} {lv mv tv wv : Value} {pv qv : Nat → Value} {pc qc : Nat → Nat} {D E : Nat → MD} {L M L' : List Rn}
theorem PS.below (h : PS w0 xb lb mb lv mv tv wv pv qv pc qc D E L M W) (hb : Below W.heap.size W W') : PS w0 xb lb mb lv mv tv wv pv qv pc qc D E L M W' :=
  ⟨below_next h.bel hb, h.P.below hb, h.Q.below hb, h.dis, h.here.below hb, h.xB, h.kt⟩
theorem PS.ktW (h : PS w0 xb lb mb lv mv tv wv pv qv pc qc D E L M W) : KT W := h.kt.below h.bel
theorem PS.lg (h : PS w0 xb lb mb lv mv tv wv pv qv pc qc D E L M W) (j : Nat) : LG (SM lb lv (pv j) (pc j) (D j)) W W (some lb) L := ⟨.inl rfl, lv, h.P.led, fun _ hg _ => .inr (.inl hg)⟩
theorem PS.rg (h : PS w0 xb lb mb lv mv tv wv pv qv pc qc D E L M W) (j : Nat) : RG (SM mb mv (qv j) (qc j) (E j)) W W (some mb) M := ⟨.inl rfl, mv, h.Q.led, fun _ hg _ => .inr (.inl hg)⟩
theorem PS.n01 (h : PS w0 xb lb mb lv mv tv wv pv qv pc qc D E L M W) {j : Nat} (hj : j < 3) : ¬ SM lb lv (pv j) (pc j) (D j) 0 ∧ ¬ SM lb lv (pv j) (pc j) (D j) 1 := by
  have := h.kt.lt
  exact ⟨fun e => by have := h.P.smB hj e; omega, fun e => by have := h.P.smB hj e; omega⟩
theorem PS.kxP (h : PS w0 xb lb mb lv mv tv wv pv qv pc qc D E L M W) {j : Nat} (hj : j < 3) (hk : Kp (SM lb lv (pv j) (pc j) (D j)) W W') : Kx W W' := fun _ _ _ hg ht => hg.kept hk (h.P.smN hj hg (fun e => ht (by subst e; decide)) (fun e => absurd (by subst e; decide) ht) (fun e => ht (by subst e; decide)) (fun e => ht (by subst e; decide)))
theorem PS.kxQ (h : PS w0 xb lb mb lv mv tv wv pv qv pc qc D E L M W) {j : Nat} (hj : j < 3) (hk : Kp (SM mb mv (qv j) (qc j) (E j)) W W') : Kx W W' := fun _ _ _ hg ht => hg.kept hk (h.Q.smN hj hg (fun e => ht (by subst e; decide)) (fun e => absurd (by subst e; decide) ht) (fun e => ht (by subst e; decide)) (fun e => ht (by subst e; decide)))
/-- Behind a call of the program's mac j. -/
theorem PS.turnP (h : PS w0 xb lb mb lv mv tv wv pv qv pc qc D E L M W) (j : Nat) (hj : j < 3) (d : MD) (hd : d ≠ none → D j ≠ none) (hl : LG (SM lb lv (pv j) (pc j) (D j)) W W' (some lb) L') (hk : Kp (SM lb lv (pv j) (pc j) (D j)) W W') (hp : IsK true W' (pv j) (pc j) d) : ∃ lv', PS w0 xb lb mb lv' mv tv wv pv qv pc qc (upd D j d) E L' M W' := by
  obtain ⟨_, lv', hl', ho⟩ := hl
  have hz := h.bel.size
  refine ⟨lv', h.bel.trans (hk.below hz (fun x hx e => by have := h.P.smB hj e; omega)), h.P.turn hz j hj d hd hl' ho hk hp, h.Q.keep hk (fun hg => h.P.smN hj hg (by decide) (fun e => absurd e (by decide)) (by decide) (by decide)) (fun hg => h.P.smN hj hg (by decide) (fun e => absurd e (by decide)) (by decide) (by decide)) ?_ (fun g hg => ?_), fun g hg hm => ?_, h.kxP hj hk _ _ _ h.here (by decide), h.xB, h.kt⟩
  · obtain ⟨c, hc⟩ := (show ∃ cs, Blk W mb cs (tl false) from h.Q.led.blk)
    exact h.P.smN hj hc (by decide) (fun e => absurd e (by decide)) (by decide) (by decide)
  · obtain ⟨c, hc⟩ := h.Q.led.run hg
    exact h.P.smN hj hc (by decide) (fun _ e => h.dis g e hg) (by decide) (by decide)
  · obtain ⟨c, hc⟩ := h.Q.led.run hm
    exact h.P.smN hj hc (by decide) (fun _ e => h.dis g e hm) (by decide) (by decide) (ho g hg hc.lt)
/-- Behind a call of the document's mac j. -/
theorem PS.turnQ (h : PS w0 xb lb mb lv mv tv wv pv qv pc qc D E L M W) (j : Nat) (hj : j < 3) (d : MD) (hd : d ≠ none → E j ≠ none) (hl : RG (SM mb mv (qv j) (qc j) (E j)) W W' (some mb) L') (hk : Kp (SM mb mv (qv j) (qc j) (E j)) W W') (hp : IsK false W' (qv j) (qc j) d) : ∃ mv', PS w0 xb lb mb lv mv' tv wv pv qv pc qc D (upd E j d) L L' W' := by
  obtain ⟨_, mv', hl', ho⟩ := hl
  have hz := h.bel.size
  refine ⟨mv', h.bel.trans (hk.below hz (fun x hx e => by have := h.Q.smB hj e; omega)), h.P.keep hk (fun hg => h.Q.smN hj hg (by decide) (fun e => absurd e (by decide)) (by decide) (by decide)) (fun hg => h.Q.smN hj hg (by decide) (fun e => absurd e (by decide)) (by decide) (by decide)) ?_ (fun g hg => ?_), h.Q.turn hz j hj d hd hl' ho hk hp, fun g hg hm => ?_, h.kxQ hj hk _ _ _ h.here (by decide), h.xB, h.kt⟩
  · obtain ⟨c, hc⟩ := (show ∃ cs, Blk W lb cs (tl true) from h.P.led.blk)
    exact h.Q.smN hj hc (by decide) (fun e => absurd e (by decide)) (by decide) (by decide)
  · obtain ⟨c, hc⟩ := h.P.led.run hg
    exact h.Q.smN hj hc (by decide) (fun _ e => h.dis g hg e) (by decide) (by decide)
  · obtain ⟨c, hc⟩ := h.P.led.run hg
    exact h.Q.smN hj hc (by decide) (fun _ e => h.dis g hg e) (by decide) (by decide) (ho g hm hc.lt)
end
end Go.Proofs.YtnhhkoekghjogaaGreatDoor.Kc
namespace Go.Proofs.YtnhhkoekghjogaaGreatDoor.Kc
open Go.ChangeShapes Go.WideShapes Go.ChangeAt Go.RowKit
open Go.Proofs.YtnhhkoekghjogaaGreatDoor.By Go.Proofs.YtnhhkoekghjogaaGreatDoor.Wd
def SQ (lb : Nat) (lv : Value) (c x : Nat) : Prop := x = lb ∨ lv.ownBlock = some x ∨ x = c
def SL (lb : Nat) (lv : Value) (x : Nat) : Prop := x = lb ∨ lv.ownBlock = some x
/-- The answers, by what a mac is. -/
def mdc : MD → Int
  | none => 1
  | some _ => 0
def mds : MD → Int
  | none => 0
  | some (st, _, _) => st
def mdw (n : Nat) (f : Nat → Int) : MD → MD
  | none => none
  | some (st, r, z) => some (st, r, Z.ins r z f n)
def evw (L : List Rn) (n : Nat) (f : Nat → Int) : MD → List Rn
  | none => L
  | some (_, r, z) => evk L ((Z.ins r z f n).c - z.c)
def evi (L : List Rn) : MD → List Rn
  | none => L
  | some _ => putL L ⟨8, 203, 1⟩
def smc (n : Int) : MD → Int
  | none => 1
  | some _ => if n < 0 ∨ 65536 < n then 2 else 0
def smn (n : Int) : MD → Nat
  | none => 0
  | some _ => if n < 0 ∨ 65536 < n then 0 else n.toNat
def smf (n : Int) (xof : Bool) : MD → Nat → Int
  | none, _ => 0
  | some (_, r, z), i => if n < 0 ∨ 65536 < n then 0 else Z.say r (ky r z n.toNat xof) i
def evs (L : List Rn) (n : Int) (xof : Bool) : MD → List Rn
  | none => L
  | some (_, r, z) => if n < 0 ∨ 65536 < n then L else evk L (kN r z n.toNat xof)
def fmn : MD → Nat
  | none => 0
  | some _ => 203
def fmF : MD → Nat → Int
  | none, _ => 0
  | some (_, _, z), i => fmf z false i
theorem smf_b (n : Int) (xof : Bool) (d : MD) (h : ∀ st r z, d = some (st, r, z) → Str st r) (i : Nat) : 0 ≤ smf n xof d i ∧ smf n xof d i < 256 := by
  match d, h with
  | none, _ => show (0 : Int) ≤ 0 ∧ (0 : Int) < 256; decide
  | some (st, r, z), h =>
    show 0 ≤ (if _ then (0 : Int) else _) ∧ (if _ then (0 : Int) else _) < 256
    split
    · decide
    · exact say_kb (h st r z rfl) z _ xof i
theorem smn_le (n : Int) (d : MD) : smn n d ≤ 65536 := by
  match d with
  | none => exact Nat.zero_le _
  | some _ =>
    by_cases h : n < 0 ∨ 65536 < n
    · show (if n < 0 ∨ 65536 < n then 0 else n.toNat) ≤ 65536
      rw [if_pos h]; omega
    · show (if n < 0 ∨ 65536 < n then 0 else n.toNat) ≤ 65536
      rw [if_neg h]; omega
theorem fmn_le (d : MD) : fmn d ≤ 203 := by
  match d with
  | none => exact Nat.zero_le _
  | some _ => exact Nat.le_refl _
theorem Mk.writeS {w : World} {g b : Nat} {st : Int} {r : Nat} {z : Z} (h : Mk w g b st r z) (n : Nat) (x : Value) (f : Nat → Int) (lo : Option Nat) (L : List Rn) (S : Nat → Prop) (hk : KT w) (hS0 : ¬ S 0) (hS1 : ¬ S 1) (hSg : ¬ S g) (hSb : S b) (hl : LG S w w lo L) (hp : Pos L) (hr : ∀ w', Kp S w w' → By.RB w' x n f) (hn : n ≤ 9000000) (hroom : Big L) :
    Calls Tryz.prog 27 #[.pointer (some ⟨g, 0, none⟩), lpv lo, x] w fun e w' => e = .returned (.int .i64 0) ∧ Mk w' g b st r (Z.ins r z f n) ∧ LG S w w' lo (evk L ((Z.ins r z f n).c - z.c)) ∧ Kp S w w' := by
  refine (h.write _ x _ (write_sp b r n 4 x z f lo L S w h.sp hk hS0 hS1 hSb hl hp hr hn hroom)).mono ?_
  rintro e w' ⟨rfl, h1, h2, h3⟩
  exact ⟨rfl, ⟨h.here.kept h3 hSg, h1, h.str⟩, h2, h3⟩
theorem LG.monoS {S T : Nat → Prop} {w w' : World} {lo : Option Nat} {L : List Rn} (h : LG S w w' lo L) (hT : ∀ x, S x → T x) : LG T w w' lo L := by
  cases lo with
  | none => trivial
  | some lb =>
    obtain ⟨hs, rv, hl, ho⟩ := h
    exact ⟨hT _ hs, rv, hl, fun g hg hlt => hT _ (ho g hg hlt)⟩
section
variable {w0 W W' : World} {xb lb mb : Nat} {lv mv tv wv : Value} {pv qv : Nat → Value} {pc qc : Nat → Nat} {D E : Nat → MD} {L M : List Rn}
theorem PS.writeP (h : PS w0 xb lb mb lv mv tv wv pv qv pc qc D E L M W) (j : Nat) (hj : j < 3) (n : Nat) (x : Value) (f : Nat → Int) (hx : ∀ V, Kx W V → Below w0.heap.size w0 V → By.RB V x n f) (hn : n ≤ 1000000) (hT : Tiny L) :
    Calls Tryz.prog 27 #[pv j, .pointer (some ⟨lb, 0, none⟩), x] W fun e w' => e = .returned (.int .i64 (mdc (D j))) ∧ (∃ lv', PS w0 xb lb mb lv' mv tv wv pv qv pc qc (upd D j (mdw n f (D j))) E (evw L n f (D j)) M w') ∧ Kx W w' := by
  have hc := h.P.p j hj
  rcases hd : D j with _ | ⟨st, r, z⟩
  · rw [hd] at hc
    refine (NoM.write hc _ _).mono ?_
    rintro e w' ⟨rfl, rfl⟩
    refine ⟨rfl, ⟨lv, ?_⟩, Kx.refl _⟩
    have e1 : upd D j none = D := by rw [← hd]; exact upd_same _ _
    show PS w0 xb lb mb lv mv tv wv pv qv pc qc (upd D j none) E L M w'
    rw [e1]; exact h
  · rw [hd] at hc
    obtain ⟨g, ev, hm⟩ := hc
    have hz := h.bel.size
    have hsub : ∀ k, SQ lb lv (pc j) k → SM lb lv (pv j) (pc j) (D j) k := fun k hk => by
      rcases hk with hk | hk | hk
      · exact .inl hk
      · exact .inr (.inl hk)
      · exact .inr (.inr (.inr ⟨by rw [hd]; simp, hk⟩))
    have hg : ¬ SQ lb lv (pc j) g := fun hk => by
      rcases hk with hk | hk | hk
      · exact led_apart h.P.led hm.here (by decide) (by decide) (.inl hk)
      · exact led_apart h.P.led hm.here (by decide) (by decide) (.inr hk)
      · have h2 := hm.sp.here; rw [← hk] at h2; exact Blk.ne hm.here h2 (by decide) rfl
    have := hm.writeS n x f (some lb) L (SQ lb lv (pc j)) h.ktW (fun e => (h.n01 hj).1 (hsub 0 e)) (fun e => (h.n01 hj).2 (hsub 1 e)) hg (.inr (.inr rfl)) ⟨.inl rfl, lv, h.P.led, fun _ hg _ => .inr (.inl hg)⟩ (show Led W lb lv L from h.P.led).pos (fun w' hk => hx w' (h.kxP hj (hk.mono (fun k _ e => hsub k e))) (h.bel.trans (hk.below hz (fun k hk e => by have := h.P.smB hj (hsub k e); omega)))) (by omega) hT.mono
    rw [← ev] at this
    refine this.mono ?_
    rintro e w' ⟨rfl, h1, h2, h3⟩
    have h3' : Kp (SM lb lv (pv j) (pc j) (D j)) W w' := h3.mono (fun k _ e => hsub k e)
    obtain ⟨u', hP⟩ := h.turnP j hj (some (st, r, Z.ins r z f n)) (fun _ => by rw [hd]; simp) (h2.monoS hsub) h3' ⟨g, ev, h1⟩
    exact ⟨rfl, ⟨u', hP⟩, h.kxP hj h3'⟩
theorem PS.sumP (h : PS w0 xb lb mb lv mv tv wv pv qv pc qc D E L M W) (j : Nat) (hj : j < 3) (n : Int) (xof : Bool) (hT : Tiny L) :
    Calls Tryz.prog 29 #[pv j, .pointer (some ⟨lb, 0, none⟩), .int .i64 n, .bool xof] W fun e w' => ∃ a, e = .returned (.tuple #[a, .int .i64 (smc n (D j))]) ∧ By.Own w' W.heap.size a (smn n (D j)) (smf n xof (D j)) ∧ (∃ lv', PS w0 xb lb mb lv' mv tv wv pv qv pc qc D E (evs L n xof (D j)) M w') ∧ Kx W w' := by
  have hc := h.P.p j hj
  rcases hd : D j with _ | ⟨st, r, z⟩
  · rw [hd] at hc
    refine (NoM.sum hc _ _ _).mono ?_
    rintro e w' ⟨rfl, rfl⟩
    exact ⟨_, rfl, own_nil _ _ _ (smf_b n xof none (fun _ _ _ e => by cases e)), ⟨lv, h⟩, Kx.refl _⟩
  · rw [hd] at hc
    obtain ⟨g, ev, hm⟩ := hc
    have hb := smf_b n xof (some (st, r, z)) (fun st' r' z' e => by simp only [Option.some.injEq, Prod.mk.injEq] at e; obtain ⟨rfl, rfl, rfl⟩ := e; exact hm.str)
    by_cases hn : n < 0 ∨ 65536 < n
    · have := hm.sum_no (.pointer (some ⟨lb, 0, none⟩)) (.bool xof) n hn
      rw [← ev] at this
      refine this.mono ?_
      rintro e w' ⟨rfl, rfl⟩
      have e1 : smc n (some (st, r, z)) = 2 := if_pos hn
      have e2 : smn n (some (st, r, z)) = 0 := if_pos hn
      have e3 : evs L n xof (some (st, r, z)) = L := if_pos hn
      rw [e1, e2, e3]
      exact ⟨_, rfl, own_nil _ _ _ hb, ⟨lv, h⟩, Kx.refl _⟩
    · obtain ⟨k, rfl⟩ : ∃ k : Nat, n = k := ⟨n.toNat, by omega⟩
      have hsub : ∀ k, SL lb lv k → SM lb lv (pv j) (pc j) (D j) k := fun k hk => by
        rcases hk with hk | hk
        · exact .inl hk
        · exact .inr (.inl hk)
      have := hm.sum (some lb) L (SL lb lv) k xof h.ktW (fun e => (h.n01 hj).1 (hsub 0 e)) (fun e => (h.n01 hj).2 (hsub 1 e)) ⟨.inl rfl, lv, h.P.led, fun _ hg _ => .inr hg⟩ (show Led W lb lv L from h.P.led).pos hT (by omega)
      rw [← ev] at this
      refine this.mono ?_
      rintro e w' ⟨a, rfl, h1, h2, h3⟩
      have h3' : Kp (SM lb lv (pv j) (pc j) (D j)) W w' := h3.mono (fun k _ e => hsub k e)
      have nb : ∀ {x cs t}, Blk W x cs t → t ≠ 59 → t ≠ 81 → ¬ SL lb lv x := fun hx t1 t2 hk => led_apart h.P.led hx t1 t2 hk
      have hm' : Mk w' g (pc j) st r z := hm.kept h3 (nb hm.here (by decide) (by decide)) (nb hm.sp.here (by decide) (by decide))
      obtain ⟨u', hP⟩ := h.turnP j hj (some (st, r, z)) (fun _ => by rw [hd]; simp) (h2.monoS hsub) h3' ⟨g, ev, hm'⟩
      have e0 : upd D j (some (st, r, z)) = D := by rw [← hd]; exact upd_same _ _
      rw [e0] at hP
      have e1 : smc k (some (st, r, z)) = 0 := if_neg hn
      have e2 : smn k (some (st, r, z)) = k := if_neg hn
      have e3 : evs L k xof (some (st, r, z)) = evk L (kN r z k xof) := if_neg hn
      rw [e1, e2, e3]
      exact ⟨a, rfl, own_congr h1 hb (fun i _ => by show _ = (if ((k : Nat) : Int) < 0 ∨ 65536 < ((k : Nat) : Int) then 0 else _); rw [if_neg hn]; rfl), ⟨u', hP⟩, h.kxP hj h3'⟩
theorem PS.wipeP (h : PS w0 xb lb mb lv mv tv wv pv qv pc qc D E L M W) (j : Nat) (hj : j < 3) (hT : Tiny L) :
    Calls Tryz.prog 34 #[pv j, .pointer (some ⟨lb, 0, none⟩)] W fun e w' => e = .returned (.int .i64 (mdc (D j))) ∧ (∃ lv', PS w0 xb lb mb lv' mv tv wv pv qv pc qc (upd D j none) E (evi L (D j)) M w') ∧ Kx W w' := by
  have hc := h.P.p j hj
  rcases hd : D j with _ | ⟨st, r, z⟩
  · rw [hd] at hc
    refine (NoM.wipe hc _).mono ?_
    rintro e w' ⟨rfl, rfl⟩
    refine ⟨rfl, ⟨lv, ?_⟩, Kx.refl _⟩
    have e1 : upd D j none = D := by rw [← hd]; exact upd_same _ _
    rw [e1]; exact h
  · rw [hd] at hc
    obtain ⟨g, ev, hm⟩ := hc
    have := hm.wipe (some lb) L (SM lb lv (pv j) (pc j) (D j)) (.inr (.inr (.inl ev))) (.inr (.inr (.inr ⟨by rw [hd]; simp, rfl⟩))) (h.lg j) hT.mono
    rw [← ev] at this
    refine this.mono ?_
    rintro e w' ⟨rfl, h1, -, h2, h3⟩
    obtain ⟨u', hP⟩ := h.turnP j hj none (fun e => absurd rfl e) h2 h3 (show NoM w' (pv j) from .inr ⟨g, ev, h1⟩)
    exact ⟨rfl, ⟨u', hP⟩, h.kxP hj h3⟩
theorem PS.strengthP (h : PS w0 xb lb mb lv mv tv wv pv qv pc qc D E L M W) (j : Nat) (hj : j < 3) :
    Calls Tryz.prog 38 #[pv j] W fun e w' => e = .returned (.int .i64 (mds (D j))) ∧ w' = W := by
  have hc := h.P.p j hj
  rcases hd : D j with _ | ⟨st, r, z⟩
  · rw [hd] at hc; exact NoM.strength hc
  · rw [hd] at hc
    obtain ⟨g, ev, hm⟩ := hc
    have := hm.strength
    rw [← ev] at this
    exact this
theorem PS.formP (h : PS w0 xb lb mb lv mv tv wv pv qv pc qc D E L M W) (j : Nat) (hj : j < 3) :
    Calls Tryz.prog 36 #[pv j] W fun e w' => ∃ a, e = .returned a ∧ By.Own w' W.heap.size a (fmn (D j)) (fmF (D j)) ∧ Below W.heap.size W w' := by
  have hc := h.P.p j hj
  rcases hd : D j with _ | ⟨st, r, z⟩
  · rw [hd] at hc
    refine (NoM.form hc).mono ?_
    rintro e w' ⟨rfl, rfl⟩
    exact ⟨_, rfl, own_nil _ _ _ (fun _ => by show (0 : Int) ≤ 0 ∧ (0 : Int) < 256; decide), Below.refl _ _⟩
  · rw [hd] at hc
    obtain ⟨g, ev, hm⟩ := hc
    have := hm.form
    rw [← ev] at this
    refine this.mono ?_
    rintro e w' ⟨rfl, h1, h2⟩
    exact ⟨_, rfl, own_blk h1 (fmf_b hm.sp.ok.b false) (Nat.le_refl _) (by decide), h2⟩
theorem PS.cloneP (h : PS w0 xb lb mb lv mv tv wv pv qv pc qc D E L M W) (j : Nat) (hj : j < 3) :
    Calls Tryz.prog 32 #[pv j] W fun e w' => ∃ a c, e = .returned (.tuple #[a, .int .i64 (mdc (D j))]) ∧ (D j = none → a = .pointer none) ∧ (D j ≠ none → ∃ g, a = .pointer (some ⟨g, 0, none⟩) ∧ W.heap.size ≤ g ∧ W.heap.size ≤ c) ∧ IsK true w' a c (D j) ∧ Below W.heap.size W w' := by
  have hc := h.P.p j hj
  rcases hd : D j with _ | ⟨st, r, z⟩
  · rw [hd] at hc
    refine (NoM.clone hc).mono ?_
    rintro e w' ⟨rfl, rfl⟩
    exact ⟨_, 0, rfl, fun _ => rfl, fun e => absurd rfl e, .inl rfl, Below.refl _ _⟩
  · rw [hd] at hc
    obtain ⟨g, ev, hm⟩ := hc
    have := hm.clone
    rw [← ev] at this
    refine this.mono ?_
    rintro e w' ⟨g', rfl, hg', hm', hb⟩
    exact ⟨_, W.heap.size, rfl, fun e => by simp at e, fun _ => ⟨g', rfl, hg', Nat.le_refl _⟩, ⟨g', rfl, hm'⟩, hb⟩
end
theorem Rk.writeS {w : World} {g b : Nat} {st : Int} {r : Nat} {z : Z} (h : Rk w g b st r z) (n : Nat) (x : Value) (f : Nat → Int) (lo : Option Nat) (L : List Rn) (S : Nat → Prop) (hSg : ¬ S g) (hSb : S b) (hl : RG S w w lo L) (hp : Pos L) (hr : ∀ w', Kp S w w' → By.RB w' x n f) (hn : n ≤ 9000000) (hroom : Big L) :
    Calls Tryz.prog 28 #[.pointer (some ⟨g, 0, none⟩), lpv lo, x] w fun e w' => e = .returned (.int .i64 0) ∧ Rk w' g b st r (Z.ins r z f n) ∧ RG S w w' lo (evk L ((Z.ins r z f n).c - z.c)) ∧ Kp S w w' := by
  refine (h.write _ x _ (rwrite_sp b r n 4 x z f lo L S w h.sp hSb hl hp hr hn hroom)).mono ?_
  rintro e w' ⟨rfl, h1, h2, h3⟩
  exact ⟨rfl, ⟨h.here.kept h3 hSg, h1, h.str⟩, h2, h3⟩
theorem RG.monoS {S T : Nat → Prop} {w w' : World} {lo : Option Nat} {L : List Rn} (h : RG S w w' lo L) (hT : ∀ x, S x → T x) : RG T w w' lo L := by
  cases lo with
  | none => trivial
  | some lb =>
    obtain ⟨hs, rv, hl, ho⟩ := h
    exact ⟨hT _ hs, rv, hl, fun g hg hlt => hT _ (ho g hg hlt)⟩
section
variable {w0 W W' : World} {xb lb mb : Nat} {lv mv tv wv : Value} {pv qv : Nat → Value} {pc qc : Nat → Nat} {D E : Nat → MD} {L M : List Rn}
theorem PS.writeQ (h : PS w0 xb lb mb lv mv tv wv pv qv pc qc D E L M W) (j : Nat) (hj : j < 3) (n : Nat) (x : Value) (f : Nat → Int) (hx : ∀ V, Kx W V → Below w0.heap.size w0 V → By.RB V x n f) (hn : n ≤ 1000000) (hT : Tiny M) :
    Calls Tryz.prog 28 #[qv j, .pointer (some ⟨mb, 0, none⟩), x] W fun e w' => e = .returned (.int .i64 (mdc (E j))) ∧ (∃ mv', PS w0 xb lb mb lv mv' tv wv pv qv pc qc D (upd E j (mdw n f (E j))) L (evw M n f (E j)) w') ∧ Kx W w' := by
  have hc := h.Q.p j hj
  rcases hd : E j with _ | ⟨st, r, z⟩
  · rw [hd] at hc
    refine (NoK.write hc _ _).mono ?_
    rintro e w' ⟨rfl, rfl⟩
    refine ⟨rfl, ⟨mv, ?_⟩, Kx.refl _⟩
    have e1 : upd E j none = E := by rw [← hd]; exact upd_same _ _
    show PS w0 xb lb mb lv mv tv wv pv qv pc qc D (upd E j none) L M w'
    rw [e1]; exact h
  · rw [hd] at hc
    obtain ⟨g, ev, hm⟩ := hc
    have hz := h.bel.size
    have hsub : ∀ k, SQ mb mv (qc j) k → SM mb mv (qv j) (qc j) (E j) k := fun k hk => by
      rcases hk with hk | hk | hk
      · exact .inl hk
      · exact .inr (.inl hk)
      · exact .inr (.inr (.inr ⟨by rw [hd]; simp, hk⟩))
    have hg : ¬ SQ mb mv (qc j) g := fun hk => by
      rcases hk with hk | hk | hk
      · exact rled_apart h.Q.led hm.here (by decide) (by decide) (.inl hk)
      · exact rled_apart h.Q.led hm.here (by decide) (by decide) (.inr hk)
      · have h2 := hm.sp.here; rw [← hk] at h2; exact Blk.ne hm.here h2 (by decide) rfl
    have := hm.writeS n x f (some mb) M (SQ mb mv (qc j)) hg (.inr (.inr rfl)) ⟨.inl rfl, mv, h.Q.led, fun _ hg _ => .inr (.inl hg)⟩ (show RLed W mb mv M from h.Q.led).pos (fun w' hk => hx w' (h.kxQ hj (hk.mono (fun k _ e => hsub k e))) (h.bel.trans (hk.below hz (fun k hk e => by have := h.Q.smB hj (hsub k e); omega)))) (by omega) hT.mono
    rw [← ev] at this
    refine this.mono ?_
    rintro e w' ⟨rfl, h1, h2, h3⟩
    have h3' : Kp (SM mb mv (qv j) (qc j) (E j)) W w' := h3.mono (fun k _ e => hsub k e)
    obtain ⟨u', hP⟩ := h.turnQ j hj (some (st, r, Z.ins r z f n)) (fun _ => by rw [hd]; simp) (h2.monoS hsub) h3' ⟨g, ev, h1⟩
    exact ⟨rfl, ⟨u', hP⟩, h.kxQ hj h3'⟩
theorem PS.sumQ (h : PS w0 xb lb mb lv mv tv wv pv qv pc qc D E L M W) (j : Nat) (hj : j < 3) (n : Int) (xof : Bool) (hT : Tiny M) :
    Calls Tryz.prog 30 #[qv j, .pointer (some ⟨mb, 0, none⟩), .int .i64 n, .bool xof] W fun e w' => ∃ a, e = .returned (.tuple #[a, .int .i64 (smc n (E j))]) ∧ By.Own w' W.heap.size a (smn n (E j)) (smf n xof (E j)) ∧ (∃ mv', PS w0 xb lb mb lv mv' tv wv pv qv pc qc D E L (evs M n xof (E j)) w') ∧ Kx W w' := by
  have hc := h.Q.p j hj
  rcases hd : E j with _ | ⟨st, r, z⟩
  · rw [hd] at hc
    refine (NoK.sum hc _ _ _).mono ?_
    rintro e w' ⟨rfl, rfl⟩
    exact ⟨_, rfl, own_nil _ _ _ (smf_b n xof none (fun _ _ _ e => by cases e)), ⟨mv, h⟩, Kx.refl _⟩
  · rw [hd] at hc
    obtain ⟨g, ev, hm⟩ := hc
    have hb := smf_b n xof (some (st, r, z)) (fun st' r' z' e => by simp only [Option.some.injEq, Prod.mk.injEq] at e; obtain ⟨rfl, rfl, rfl⟩ := e; exact hm.str)
    by_cases hn : n < 0 ∨ 65536 < n
    · have := hm.sum_no (.pointer (some ⟨mb, 0, none⟩)) (.bool xof) n hn
      rw [← ev] at this
      refine this.mono ?_
      rintro e w' ⟨rfl, rfl⟩
      have e1 : smc n (some (st, r, z)) = 2 := if_pos hn
      have e2 : smn n (some (st, r, z)) = 0 := if_pos hn
      have e3 : evs M n xof (some (st, r, z)) = M := if_pos hn
      rw [e1, e2, e3]
      exact ⟨_, rfl, own_nil _ _ _ hb, ⟨mv, h⟩, Kx.refl _⟩
    · obtain ⟨k, rfl⟩ : ∃ k : Nat, n = k := ⟨n.toNat, by omega⟩
      have hsub : ∀ k, SL mb mv k → SM mb mv (qv j) (qc j) (E j) k := fun k hk => by
        rcases hk with hk | hk
        · exact .inl hk
        · exact .inr (.inl hk)
      have := hm.sum (some mb) M (SL mb mv) k xof ⟨.inl rfl, mv, h.Q.led, fun _ hg _ => .inr hg⟩ (show RLed W mb mv M from h.Q.led).pos hT (by omega)
      rw [← ev] at this
      refine this.mono ?_
      rintro e w' ⟨a, rfl, h1, h2, h3⟩
      have h3' : Kp (SM mb mv (qv j) (qc j) (E j)) W w' := h3.mono (fun k _ e => hsub k e)
      have nb : ∀ {x cs t}, Blk W x cs t → t ≠ 61 → t ≠ 81 → ¬ SL mb mv x := fun hx t1 t2 hk => rled_apart h.Q.led hx t1 t2 hk
      have hm' : Rk w' g (qc j) st r z := hm.kept h3 (nb hm.here (by decide) (by decide)) (nb hm.sp.here (by decide) (by decide))
      obtain ⟨u', hP⟩ := h.turnQ j hj (some (st, r, z)) (fun _ => by rw [hd]; simp) (h2.monoS hsub) h3' ⟨g, ev, hm'⟩
      have e0 : upd E j (some (st, r, z)) = E := by rw [← hd]; exact upd_same _ _
      rw [e0] at hP
      have e1 : smc k (some (st, r, z)) = 0 := if_neg hn
      have e2 : smn k (some (st, r, z)) = k := if_neg hn
      have e3 : evs M k xof (some (st, r, z)) = evk M (kN r z k xof) := if_neg hn
      rw [e1, e2, e3]
      exact ⟨a, rfl, own_congr h1 hb (fun i _ => by show _ = (if ((k : Nat) : Int) < 0 ∨ 65536 < ((k : Nat) : Int) then 0 else _); rw [if_neg hn]; rfl), ⟨u', hP⟩, h.kxQ hj h3'⟩
theorem PS.wipeQ (h : PS w0 xb lb mb lv mv tv wv pv qv pc qc D E L M W) (j : Nat) (hj : j < 3) (hT : Tiny M) :
    Calls Tryz.prog 35 #[qv j, .pointer (some ⟨mb, 0, none⟩)] W fun e w' => e = .returned (.int .i64 (mdc (E j))) ∧ (∃ mv', PS w0 xb lb mb lv mv' tv wv pv qv pc qc D (upd E j none) L (evi M (E j)) w') ∧ Kx W w' := by
  have hc := h.Q.p j hj
  rcases hd : E j with _ | ⟨st, r, z⟩
  · rw [hd] at hc
    refine (NoK.wipe hc _).mono ?_
    rintro e w' ⟨rfl, rfl⟩
    refine ⟨rfl, ⟨mv, ?_⟩, Kx.refl _⟩
    have e1 : upd E j none = E := by rw [← hd]; exact upd_same _ _
    rw [e1]; exact h
  · rw [hd] at hc
    obtain ⟨g, ev, hm⟩ := hc
    have := hm.wipe (some mb) M (SM mb mv (qv j) (qc j) (E j)) (.inr (.inr (.inl ev))) (.inr (.inr (.inr ⟨by rw [hd]; simp, rfl⟩))) (h.rg j) hT.mono
    rw [← ev] at this
    refine this.mono ?_
    rintro e w' ⟨rfl, h1, -, h2, h3⟩
    obtain ⟨u', hP⟩ := h.turnQ j hj none (fun e => absurd rfl e) h2 h3 (show NoK w' (qv j) from .inr ⟨g, ev, h1⟩)
    exact ⟨rfl, ⟨u', hP⟩, h.kxQ hj h3⟩
theorem PS.strengthQ (h : PS w0 xb lb mb lv mv tv wv pv qv pc qc D E L M W) (j : Nat) (hj : j < 3) :
    Calls Tryz.prog 39 #[qv j] W fun e w' => e = .returned (.int .i64 (mds (E j))) ∧ w' = W := by
  have hc := h.Q.p j hj
  rcases hd : E j with _ | ⟨st, r, z⟩
  · rw [hd] at hc; exact NoK.strength hc
  · rw [hd] at hc
    obtain ⟨g, ev, hm⟩ := hc
    have := hm.strength
    rw [← ev] at this
    exact this
theorem PS.formQ (h : PS w0 xb lb mb lv mv tv wv pv qv pc qc D E L M W) (j : Nat) (hj : j < 3) :
    Calls Tryz.prog 37 #[qv j] W fun e w' => ∃ a, e = .returned a ∧ By.Own w' W.heap.size a (fmn (E j)) (fmF (E j)) ∧ Below W.heap.size W w' := by
  have hc := h.Q.p j hj
  rcases hd : E j with _ | ⟨st, r, z⟩
  · rw [hd] at hc
    refine (NoK.form hc).mono ?_
    rintro e w' ⟨rfl, rfl⟩
    exact ⟨_, rfl, own_nil _ _ _ (fun _ => by show (0 : Int) ≤ 0 ∧ (0 : Int) < 256; decide), Below.refl _ _⟩
  · rw [hd] at hc
    obtain ⟨g, ev, hm⟩ := hc
    have := hm.form
    rw [← ev] at this
    refine this.mono ?_
    rintro e w' ⟨a, rfl, h1, h2⟩
    exact ⟨_, rfl, h1, h2⟩
theorem PS.cloneQ (h : PS w0 xb lb mb lv mv tv wv pv qv pc qc D E L M W) (j : Nat) (hj : j < 3) :
    Calls Tryz.prog 33 #[qv j] W fun e w' => ∃ a c, e = .returned (.tuple #[a, .int .i64 (mdc (E j))]) ∧ (E j = none → a = .pointer none) ∧ (E j ≠ none → ∃ g, a = .pointer (some ⟨g, 0, none⟩) ∧ W.heap.size ≤ g ∧ W.heap.size ≤ c) ∧ IsK false w' a c (E j) ∧ Below W.heap.size W w' := by
  have hc := h.Q.p j hj
  rcases hd : E j with _ | ⟨st, r, z⟩
  · rw [hd] at hc
    refine (NoK.clone hc).mono ?_
    rintro e w' ⟨rfl, rfl⟩
    exact ⟨_, 0, rfl, fun _ => rfl, fun e => absurd rfl e, .inl rfl, Below.refl _ _⟩
  · rw [hd] at hc
    obtain ⟨g, ev, hm⟩ := hc
    have := hm.clone
    rw [← ev] at this
    refine this.mono ?_
    rintro e w' ⟨g', rfl, hg', hm', hb⟩
    exact ⟨_, W.heap.size, rfl, fun e => by simp at e, fun _ => ⟨g', rfl, hg', Nat.le_refl _⟩, ⟨g', rfl, hm'⟩, hb⟩
end
end Go.Proofs.YtnhhkoekghjogaaGreatDoor.Kc
namespace Go.Proofs.YtnhhkoekghjogaaGreatDoor.Kc
open Go.ChangeShapes Go.WideShapes Go.ChangeAt Go.RowKit
open Go.Proofs.YtnhhkoekghjogaaGreatDoor.By Go.Proofs.YtnhhkoekghjogaaGreatDoor.Wd
theorem wpList_pushG {w : World} {ops : Array Oper} {rest : List Oper} {o : Oper} {a : Act} {Q : Exit → Act → World → Prop} (t el : TypeId) (z : Value) (bytes : Nat) (hut : Tryz.prog.underlying t = some (.slice el)) (hinfo : (Tryz.prog.info? el).map (fun i => (i.zero, i.size, i.bytes)) = some (some z, 1, bytes)) (hz : z.cells.size = 1) (hby : bytes ≤ 24) (hgd : o.guard = none) (s x : Operand)
    (ho : o.op = .call { callee := .builtin .append, args := #[s, x], argTypes := #[t, t] })
    (base : Nat) (u : Value) (n : Nat) (T : List Value) (v : Value) (hu : w.ownsRow base el 1 u n T) (hv : v.oneCell' = true) (hb0 : base ≤ w.heap.size) (hN : n ≤ 10000000) (ad : Addr)
    (hs : a.eval s = u) (hx : a.eval x = .slice (some ad) 1 1) (hc : ∀ j u, [v][j]? = some u → w.cell? (ad.add j) = some u)
    (h : ∀ u' w', w'.ownsRow base el 1 u' (n + 1) (T ++ [v]) → Kp (fun k => u.ownBlock = some k) w w' → SameOrNew w u u' → wpList Tryz.prog ops Q rest (a.put o.dst u') w') : wpList Tryz.prog ops Q (o :: rest) a w := by
  obtain ⟨i0, hi, hz0, hz1, hz2⟩ := info_parts hinfo
  have h1 : ∀ u ∈ [v], u.oneCell' = true := fun u hu => by simp at hu; subst hu; exact hv
  have hNb : (n + 1) * bytes ≤ 140737488355328 := by have := Nat.mul_le_mul (show n + 1 ≤ 10000001 by omega) hby; omega
  have grows : ∀ (ao : Option Addr) (cap : Nat), u = .slice ao n cap → (ao = none → n = 0 ∧ cap = 0) → (∀ b, ao = some b → ∀ j v, T[j]? = some v → w.cell? (b.add j) = some v) → cap < n + 1 →
      wpList Tryz.prog ops Q (o :: rest) a w := by
    intro ao cap hu' hnone hcells hcap
    refine wpList_append_grows _ hgd s x t ho el i0 z 1 bytes hut hi hz0 hz1 hz2 hz (by decide) ao n cap T (hs.trans hu') hnone hu.1 hcells ad 1 1 [v] hx rfl hc h1 hcap (by simp [maxLen]; omega) hNb ?_
    intro u' w' hown hgr
    refine h u' w' ⟨hown.1, ?_⟩ ((Kp.of_grown hgr).mono fun k _ e => by cases e) (.inr fun g hg => (hown.lt g hg).1)
    rcases hown.2 with h' | ⟨g, c, cur, e1, e2, e3⟩
    · exact .inl h'
    · exact .inr ⟨g, c, cur, e1, by omega, e3⟩
  rcases hu.2 with ⟨hun, hn0⟩ | ⟨g, cap, cur, hun, hgb, hg, hnc, hcm, hcs, ht⟩
  · subst hn0
    exact grows none 0 hun (fun _ => ⟨rfl, rfl⟩) (fun b hb => by cases hb) (by simp)
  · by_cases hcap : n + 1 ≤ cap
    · subst hun
      refine wpList_append_fits _ hgd s x t ho base el i0 1 hut hi hz1 g n cap T hs hu ad 1 1 [v] hx rfl hc h1 hcap ?_
      intro w' hown hgr
      exact h _ w' hown (Kp.of_grown hgr) (.inl rfl)
    · subst hun
      refine grows (some ⟨g, 0, none⟩) cap rfl (fun h => by cases h) (fun b hb => ?_) (by omega)
      cases hb
      exact hu.cells rfl
theorem cell_newG (w : World) (v : Value) (t : TypeId) (g : Nat) (hg : g = w.heap.size) : ∀ j u, [v][j]? = some u → (w.alloc (.cells #[v] t)).cell? ((⟨g, 0, none⟩ : Addr).add j) = some u := by
  subst hg
  have h := World.ownsRow_lit (base := 0) (e := t) (size := 1) w #[v] 1 (Nat.zero_le _) (by simp [maxLen]) rfl
  exact h.cells rfl
theorem infoY : (Tryz.prog.info? 22).map (fun i => (i.zero, i.size, i.bytes)) = some (some (.slice none 0 0), 1, 24) := by kernel_rfl
theorem rowG_type {w : World} {base n g : Nat} {v : Value} {e : TypeId} {xs : List Value} (h : w.ownsRow base e 1 v n xs) (hg : v.ownBlock = some g) : ∃ cs, Blk w g cs e ∧ base ≤ g := by
  obtain ⟨_, h' | ⟨g', cap, cur, e', hb, hc, _⟩⟩ := h
  · rw [h'.1] at hg; simp [Value.ownBlock] at hg
  · rw [e'] at hg; simp [Value.ownBlock] at hg
    subst hg
    exact ⟨cur.toList, by show w.heap[g']? = _; rw [hc], hb⟩
theorem rowG_kept {w w' : World} {base n : Nat} {v : Value} {e : TypeId} {xs : List Value} {S : Nat → Prop} (h : w.ownsRow base e 1 v n xs) (hk : Kp S w w') (hne : ∀ g, v.ownBlock = some g → ¬ S g) : w'.ownsRow base e 1 v n xs := by
  obtain ⟨hl, h | ⟨g, cap, cur, rfl, hb, hc, h1, h2, h3, h4⟩⟩ := h
  · exact ⟨hl, .inl h⟩
  · refine ⟨hl, .inr ⟨g, cap, cur, rfl, hb, ?_, h1, h2, h3, h4⟩⟩
    rw [hk.block g (Array.getElem?_eq_some_iff.1 hc).1 (hne g rfl)]; exact hc
theorem rowG_ne {w : World} {B B' n n' : Nat} {v v' : Value} {e e' : TypeId} {xs xs' : List Value} (h : w.ownsRow B e 1 v n xs) (h' : w.ownsRow B' e' 1 v' n' xs') (hne : e ≠ e') : ∀ g, v.ownBlock = some g → v'.ownBlock ≠ some g := fun g hg hg' => by
  obtain ⟨c, hc, _⟩ := rowG_type h hg
  obtain ⟨c', hc', _⟩ := rowG_type h' hg'
  exact Blk.ne hc hc' hne rfl
theorem rowG_blk {w : World} {B n b : Nat} {v : Value} {e e' : TypeId} {xs cs : List Value} (h : w.ownsRow B e 1 v n xs) (hb : Blk w b cs e') (hne : e ≠ e') : ∀ g, v.ownBlock = some g → g ≠ b := fun g hg => by
  obtain ⟨c, hc, _⟩ := rowG_type h hg
  exact Blk.ne hc hb hne
theorem rowG_slice {w : World} {B n : Nat} {v : Value} {e : TypeId} {xs : List Value} (h : w.ownsRow B e 1 v n xs) : ∃ a c, v = .slice a n c := by
  obtain ⟨_, ⟨rfl, rfl⟩ | ⟨g, cap, cur, rfl, _⟩⟩ := h
  · exact ⟨_, _, rfl⟩
  · exact ⟨_, _, rfl⟩
/-- The record: eight cells, and the two lists of what was told. -/
structure Two (W : World) (B xb : Nat) (c8 : List Value) (tv wv : Value) (ts ws : List Value) : Prop where
  here : Blk W xb (c8 ++ [tv, wv]) 39
  l8 : c8.length = 8
  r3 : W.ownsRow B 22 1 tv ts.length ts
  r4 : W.ownsRow B 22 1 wv ws.length ws
  dis : ∀ g, tv.ownBlock = some g → wv.ownBlock ≠ some g
  hB : B ≤ xb
/-- The blocks that keep may turn. -/
def SF (xb : Nat) (tv wv : Value) (j : Nat) : Prop := j = xb ∨ tv.ownBlock = some j ∨ wv.ownBlock = some j
theorem c8_8 (c8 : List Value) (tv wv : Value) (h : c8.length = 8) : (c8 ++ [tv, wv])[8]? = some tv := by
  rw [List.getElem?_append_right (by omega), h]; rfl
theorem c8_9 (c8 : List Value) (tv wv : Value) (h : c8.length = 8) : (c8 ++ [tv, wv])[9]? = some wv := by
  rw [List.getElem?_append_right (by omega), h]; rfl
theorem c8_s8 (c8 : List Value) (tv wv u : Value) (h : c8.length = 8) : (c8 ++ [tv, wv]).set 8 u = c8 ++ [u, wv] := by
  rw [List.set_append_right _ _ (by omega), h]; rfl
theorem c8_s9 (c8 : List Value) (tv wv u : Value) (h : c8.length = 8) : (c8 ++ [tv, wv]).set 9 u = c8 ++ [tv, u] := by
  rw [List.set_append_right _ _ (by omega), h]; rfl
section
variable {W W1 W2 : World} {B xb : Nat} {c8 : List Value} {tv wv u x : Value} {ts ws : List Value}
theorem Two.below (h : Two W B xb c8 tv wv ts ws) (hb : Below W.heap.size W W1) : Two W1 B xb c8 tv wv ts ws :=
  ⟨h.here.below hb, h.l8, rowG_kept h.r3 (Kp.of_below (fun _ => False) hb) (fun _ _ => id), rowG_kept h.r4 (Kp.of_below (fun _ => False) hb) (fun _ _ => id), h.dis, h.hB⟩
theorem Two.pushT (h : Two W B xb c8 tv wv ts ws) (hw : Below W.heap.size W W1) (ho : W2.ownsRow B 22 1 u (ts.length + 1) (ts ++ [x])) (hk : Kp (fun j => tv.ownBlock = some j) W1 W2) (hs : SameOrNew W1 tv u) :
    Blk W2 xb (c8 ++ [tv, wv]) 39 ∧ Two (W2.setCell ⟨xb, 8, none⟩ u) B xb c8 u wv (ts ++ [x]) ws ∧ Kp (fun j => j = xb ∨ tv.ownBlock = some j) W (W2.setCell ⟨xb, 8, none⟩ u) ∧ SameOrNew W tv u := by
  have h0 := h.below hw
  have hsz := hw.size
  have b2 : Blk W2 xb _ 39 := h0.here.kept hk (fun e => rowG_blk h0.r3 h0.here (by decide) _ e rfl)
  have k1 : Kp (fun j => j = xb) W2 (W2.setCell ⟨xb, 8, none⟩ u) := Kp.setCell _ _ _
  have qw := rowG_kept h0.r4 hk (fun g hg e => h.dis g e hg)
  refine ⟨b2, ⟨(by rw [← c8_s8 c8 tv wv u h.l8]; exact b2.set 8 u), h.l8, (by rw [show (ts ++ [x]).length = ts.length + 1 by simp]; exact rowG_kept ho k1 (rowG_blk ho b2 (by decide))), rowG_kept qw k1 (rowG_blk qw b2 (by decide)), ?_, h.hB⟩, ?_, hs.imp id (fun h g hg => by have := h g hg; omega)⟩
  · intro g hg e
    rcases hs with hs | hs
    · rw [hs] at hg; exact h.dis g hg e
    · have := hs g hg; have := (h0.r4.lt g e).2; omega
  · exact ((Kp.of_below _ hw).trans (hk.mono (fun k _ e => .inr e)) (fun _ _ e => e)).trans k1 (fun k _ e => .inl e)
theorem Two.pushW (h : Two W B xb c8 tv wv ts ws) (hw : Below W.heap.size W W1) (ho : W2.ownsRow B 22 1 u (ws.length + 1) (ws ++ [x])) (hk : Kp (fun j => wv.ownBlock = some j) W1 W2) (hs : SameOrNew W1 wv u) :
    Blk W2 xb (c8 ++ [tv, wv]) 39 ∧ Two (W2.setCell ⟨xb, 9, none⟩ u) B xb c8 tv u ts (ws ++ [x]) ∧ Kp (fun j => j = xb ∨ wv.ownBlock = some j) W (W2.setCell ⟨xb, 9, none⟩ u) ∧ SameOrNew W wv u := by
  have h0 := h.below hw
  have hsz := hw.size
  have b2 : Blk W2 xb _ 39 := h0.here.kept hk (fun e => rowG_blk h0.r4 h0.here (by decide) _ e rfl)
  have k1 : Kp (fun j => j = xb) W2 (W2.setCell ⟨xb, 9, none⟩ u) := Kp.setCell _ _ _
  have qt := rowG_kept h0.r3 hk (fun g hg e => h.dis g hg e)
  refine ⟨b2, ⟨(by rw [← c8_s9 c8 tv wv u h.l8]; exact b2.set 9 u), h.l8, rowG_kept qt k1 (rowG_blk qt b2 (by decide)), (by rw [show (ws ++ [x]).length = ws.length + 1 by simp]; exact rowG_kept ho k1 (rowG_blk ho b2 (by decide))), ?_, h.hB⟩, ?_, hs.imp id (fun h g hg => by have := h g hg; omega)⟩
  · intro g hg e
    rcases hs with hs | hs
    · rw [hs] at e; exact h.dis g hg e
    · have := hs g e; have := (h0.r3.lt g hg).2; omega
  · exact ((Kp.of_below _ hw).trans (hk.mono (fun k _ e => .inr e)) (fun _ _ e => e)).trans k1 (fun k _ e => .inl e)
end
set_option maxHeartbeats 2000000 in
theorem keep1 (B xb n : Nat) (c8 : List Value) (tv wv b c : Value) (ts ws : List Value) (f : Nat → Int) (w : World) (h : Two w B xb c8 tv wv ts ws) (hb : ∀ w', Kp (SF xb tv wv) w w' → By.RB w' b n f) (hc : ∀ w', Kp (SF xb tv wv) w w' → By.RB w' c n f) (hn : n ≤ 140737488355328) (hB : B ≤ w.heap.size) (ht : ts.length ≤ 1000000) (hwl : ws.length ≤ 1000000) :
    Calls Tryz.prog 31 #[.pointer (some ⟨xb, 0, none⟩), b, c] w fun e w' => e = .returned (.bool true) ∧ ∃ tv' wv', Two w' B xb c8 tv' wv' (ts ++ [b]) (ws ++ [c]) ∧ Kp (SF xb tv wv) w w' ∧ SameOrNew w tv tv' ∧ SameOrNew w wv wv' := by
  obtain ⟨xa, xc, rfl⟩ : ∃ a cap, b = .slice a n cap := by obtain ⟨_, a, cap, e, _⟩ := hb w (Kp.refl _ _); exact ⟨a, cap, e⟩
  obtain ⟨ya, yc, rfl⟩ : ∃ a cap, c = .slice a n cap := by obtain ⟨_, a, cap, e, _⟩ := hc w (Kp.refl _ _); exact ⟨a, cap, e⟩
  have HX := hid hb
  have HY := hid hc
  have H := hid h
  have c4 := h.here.cell 8 _ (c8_8 _ _ _ h.l8)
  have f4 := h.here.frozen 8
  have L8 := hid h.l8
  have hlt := h.here.lt
  obtain ⟨tn, htn⟩ : ∃ m, ts.length = m := ⟨_, rfl⟩
  obtain ⟨wn, hwn⟩ : ∃ m, ws.length = m := ⟨_, rfl⟩
  have TN := hid htn
  have WN := hid hwn
  have R3 : Hid (w.ownsRow B 22 1 tv tn ts) := by have := h.r3; rw [htn] at this; exact this
  have R4 : Hid (w.ownsRow B 22 1 wv wn ws) := by have := h.r4; rw [hwn] at this; exact this
  rw [htn] at ht
  rw [hwn] at hwl
  obtain ⟨ta, tc, rfl⟩ := rowG_slice R3.out
  obtain ⟨wa, wc, rfl⟩ := rowG_slice R4.out
  clear hb hc h htn hwn
  go_enter Tryz.func31, Tryz.ntmps31
  go_wp2_with (at_builtin; go_must (refine wpList_pushG 37 22 (.slice none 0 0) 24 Tryz.underlying37 infoY rfl (by decide) rfl _ _ rfl B _ tn ts _ (rowG_kept R3.out (Kp.of_below (fun _ => False) (below_alloc _ _)) (fun _ _ => id)) rfl ?c1 ?c2 ⟨_, 0, none⟩ rfl rfl (cell_newG _ _ _ _ rfl) ?_))
  case c1 => simp; omega
  case c2 => omega
  intro u1 w1 hown hkp hson
  obtain ⟨b1, t1, k1, s1⟩ := H.out.pushT (below_alloc w _) (by rw [TN.out]; exact hown) hkp hson
  obtain ⟨ua, uc, rfl⟩ := rowG_slice hown
  have hsz1 := hkp.size
  have hz1 : w.heap.size ≤ w1.heap.size := by simp at hsz1; omega
  have d4 := b1.cell 8 _ (c8_8 _ _ _ L8.out)
  have d5 := b1.cell 9 _ (c8_9 _ _ _ L8.out)
  have g4 := b1.frozen 8
  have hlt1 := b1.lt
  have T1 := hid t1
  have K1 := hid k1
  have S1 := hid s1
  have e5 := t1.here.cell 9 _ (c8_9 _ _ _ L8.out)
  have hset : (w1.setCell ⟨xb, 8, none⟩ (.slice ua (tn + 1) uc)).heap.size = w1.heap.size := by simp [World.setCell]
  have R4' : Hid ((w1.setCell ⟨xb, 8, none⟩ (.slice ua (tn + 1) uc)).ownsRow B 22 1 (.slice wa wn wc) wn ws) := by have := t1.r4; rw [WN.out] at this; exact this
  clear hown hkp hson b1 t1 k1 s1 hsz1
  go_wp2_with (at_builtin; go_must (refine wpList_pushG 37 22 (.slice none 0 0) 24 Tryz.underlying37 infoY rfl (by decide) rfl _ _ rfl B _ wn ws _ (rowG_kept R4'.out (Kp.of_below (fun _ => False) (below_alloc _ _)) (fun _ _ => id)) rfl ?c1 ?c2 ⟨_, 0, none⟩ rfl rfl (cell_newG _ _ _ _ (by simp)) ?_))
  case c1 => simp; omega
  case c2 => omega
  intro u2 w2 hown hkp hson
  obtain ⟨b2, t2, k2, s2⟩ := T1.out.pushW (below_alloc _ _) (by rw [WN.out]; exact hown) hkp hson
  obtain ⟨ub, ud, rfl⟩ := rowG_slice hown
  have e4 := b2.cell 8 _ (c8_8 _ _ _ L8.out)
  have e6 := b2.cell 9 _ (c8_9 _ _ _ L8.out)
  have i5 := b2.frozen 9
  have T2 := hid t2
  have KK : Hid (Kp (SF xb (.slice ta tn tc) (.slice wa wn wc)) w (w2.setCell ⟨xb, 9, none⟩ (.slice ub (wn + 1) ud))) := by
    refine (K1.out.mono (fun j _ e => ?_)).trans k2 (fun j _ e => ?_)
    · exact e.elim .inl (fun e => .inr (.inl e))
    · exact e.elim .inl (fun e => .inr (.inr e))
  have S2 : Hid (SameOrNew w (.slice wa wn wc) (.slice ub (wn + 1) ud)) := s2.imp id (fun h g hg => by have := h g hg; omega)
  clear hown hkp hson b2 t2 k2 s2
  go_wp2_with fail
  have RX := hid (HX.out _ KK.out)
  have RY := hid (HY.out _ KK.out)
  refine (same_true _ _ n f f _ RX.out RY.out (by omega) (fun _ _ => rfl)).mono ?_
  rintro e w3 ⟨rfl, d, rfl⟩
  go_wp2
  go_ret
  exact ⟨by simp, _, _, T2.out.below (below_drewN _ _), KK.out.trans (Kp.of_below _ (below_drewN _ _)) (fun _ _ e => e), S1.out, S2.out⟩
end Go.Proofs.YtnhhkoekghjogaaGreatDoor.Kc
namespace Go.Proofs.YtnhhkoekghjogaaGreatDoor.Kc
open Go.ChangeShapes Go.WideShapes Go.ChangeAt Go.RowKit
open Go.Proofs.YtnhhkoekghjogaaGreatDoor.By Go.Proofs.YtnhhkoekghjogaaGreatDoor.Wd
/-- What was told: both answers, how many bytes, which. -/
structure TE where
  a : Value
  b : Value
  n : Nat
  f : Nat → Int
structure TL (W : World) (B : Nat) (tl : List TE) : Prop where
  own : ∀ q ∈ tl, By.Own W B q.a q.n q.f ∧ By.Own W B q.b q.n q.f
  ap : tl.Pairwise (fun p q => p.a.ownBlock = none ∨ p.a.ownBlock ≠ q.a.ownBlock)
  sz : ∀ q ∈ tl, q.n ≤ 65536
/-- The rows of what was told. -/
structure RW (W : World) (B : Nat) (tv wv : Value) (tl : List TE) : Prop where
  r3 : W.ownsRow B 22 1 tv (tl.map (·.a)).length (tl.map (·.a))
  r4 : W.ownsRow B 22 1 wv (tl.map (·.b)).length (tl.map (·.b))
  dis : ∀ g, tv.ownBlock = some g → wv.ownBlock ≠ some g
  tl : TL W B tl
theorem TL.kx {W W' : World} {B : Nat} {tl : List TE} (h : TL W B tl) (hk : Kx W W') : TL W' B tl := ⟨fun q hq => ⟨hk.own (h.own q hq).1, hk.own (h.own q hq).2⟩, h.ap, h.sz⟩
theorem RW.kx {W W' : World} {B : Nat} {tv wv : Value} {tl : List TE} (h : RW W B tv wv tl) (hk : Kx W W') : RW W' B tv wv tl := ⟨hk.row h.r3, hk.row h.r4, h.dis, h.tl.kx hk⟩
theorem TL.old {W : World} {B : Nat} {tl : List TE} (h : TL W B tl) : ∀ q ∈ tl, ∀ g, q.a.ownBlock = some g → g < W.heap.size := fun q hq g hg => by
  obtain ⟨c, hc⟩ := own8_type (h.own q hq).1 hg
  exact (Array.getElem?_eq_some_iff.1 hc).1
section
variable {w0 W W' : World} {B xb lb mb : Nat} {lv mv tv wv tv' wv' : Value} {pv qv : Nat → Value} {pc qc : Nat → Nat} {D E : Nat → MD} {L M : List Rn} {tl : List TE}
/-- The blocks that keep turns are of two kinds. -/
theorem sf_ty (hx : ∃ cs, Blk W xb cs 39) (hr : RW W B tv wv tl) {g : Nat} {cs : List Value} {t : TypeId} (hg : Blk W g cs t) (h1 : t ≠ 39) (h2 : t ≠ 22) : ¬ SF xb tv wv g := by
  obtain ⟨cx, hx⟩ := hx
  rintro (e | e | e)
  · exact Blk.ne hg hx h1 e
  · obtain ⟨c, hc, _⟩ := rowG_type hr.r3 e; exact Blk.ne hg hc h2 rfl
  · obtain ⟨c, hc, _⟩ := rowG_type hr.r4 e; exact Blk.ne hg hc h2 rfl
theorem sf_B (hx : B ≤ xb) (hr : RW W B tv wv tl) (g : Nat) (hg : SF xb tv wv g) : B ≤ g := by
  rcases hg with e | e | e
  · rw [e]; exact hx
  · exact (rowG_type hr.r3 e).choose_spec.2
  · exact (rowG_type hr.r4 e).choose_spec.2
theorem sf_own (hx : ∃ cs, Blk W xb cs 39) (hr : RW W B tv wv tl) (hk : Kp (SF xb tv wv) W W') {base n : Nat} {v : Value} {f : Nat → Int} (ho : By.Own W base v n f) : By.Own W' base v n f := by
  refine own_kept ho hk (fun g hg => ?_)
  obtain ⟨c, hc⟩ := own8_type ho hg
  exact sf_ty hx hr (cs := c.toList) (t := 5) (by show W.heap[g]? = _; rw [hc]) (by decide) (by decide)
theorem PS.turnX (h : PS w0 xb lb mb lv mv tv wv pv qv pc qc D E L M W) (hr : RW W w0.heap.size tv wv tl) (hk : Kp (SF xb tv wv) W W') (hx : Blk W' xb (x8 pv qv lb mb ++ [tv', wv']) 39) : PS w0 xb lb mb lv mv tv' wv' pv qv pc qc D E L M W' := by
  have n1 := fun {g : Nat} {cs : List Value} {t : TypeId} (hg : Blk W g cs t) h1 h2 => sf_ty ⟨_, h.here⟩ hr hg h1 h2
  have hz := h.bel.size
  refine ⟨h.bel.trans (hk.below hz (fun j hj hs => by have := sf_B h.xB hr j hs; omega)), h.P.keep hk (fun hg => n1 hg (by decide) (by decide)) (fun hg => n1 hg (by decide) (by decide)) ?_ (fun g hg => ?_), h.Q.keep hk (fun hg => n1 hg (by decide) (by decide)) (fun hg => n1 hg (by decide) (by decide)) ?_ (fun g hg => ?_), h.dis, hx, h.xB, h.kt⟩
  · obtain ⟨c, hc⟩ := (show ∃ cs, Blk W lb cs (Kc.tl true) from h.P.led.blk); exact n1 hc (by decide) (by decide)
  · obtain ⟨c, hc⟩ := h.P.led.run hg; exact n1 hc (by decide) (by decide)
  · obtain ⟨c, hc⟩ := (show ∃ cs, Blk W mb cs (Kc.tl false) from h.Q.led.blk); exact n1 hc (by decide) (by decide)
  · obtain ⟨c, hc⟩ := h.Q.led.run hg; exact n1 hc (by decide) (by decide)
/-- Bytes that both sides told are kept. -/
theorem PS.keep (h : PS w0 xb lb mb lv mv tv wv pv qv pc qc D E L M W) (hr : RW W w0.heap.size tv wv tl) (a b : Value) (n N : Nat) (f : Nat → Int) (ha : By.Own W N a n f) (hb : By.Own W w0.heap.size b n f) (hN : w0.heap.size ≤ N) (hold : ∀ q ∈ tl, ∀ g, q.a.ownBlock = some g → g < N) (hn : n ≤ 65536) (htl : tl.length ≤ 1000) :
    Calls Tryz.prog 31 #[.pointer (some ⟨xb, 0, none⟩), a, b] W fun e w' => e = .returned (.bool true) ∧ (∃ tv' wv', PS w0 xb lb mb lv mv tv' wv' pv qv pc qc D E L M w' ∧ RW w' w0.heap.size tv' wv' (tl ++ [⟨a, b, n, f⟩])) ∧ (∀ {g cs t}, Blk W g cs t → t ≠ 39 → t ≠ 22 → Blk w' g cs t) := by
  refine (keep1 w0.heap.size xb n (x8 pv qv lb mb) tv wv a b (tl.map (·.a)) (tl.map (·.b)) f W ⟨h.here, rfl, hr.r3, hr.r4, hr.dis, h.xB⟩ (fun w' hk => (sf_own ⟨_, h.here⟩ hr hk ha).reads) (fun w' hk => (sf_own ⟨_, h.here⟩ hr hk hb).reads) (by omega) h.bel.size (by simp; omega) (by simp; omega)).mono ?_
  rintro e w' ⟨rfl, tv', wv', ht, hk, -, -⟩
  refine ⟨rfl, ⟨tv', wv', h.turnX hr hk ht.here, ⟨by simpa using ht.r3, by simpa using ht.r4, ht.dis, ⟨fun q hq => ?_, ?_, fun q hq => ?_⟩⟩⟩, fun hg h1 h2 => hg.kept hk (sf_ty ⟨_, h.here⟩ hr hg h1 h2)⟩
  · rcases List.mem_append.1 hq with hq | hq
    · exact ⟨sf_own ⟨_, h.here⟩ hr hk (hr.tl.own q hq).1, sf_own ⟨_, h.here⟩ hr hk (hr.tl.own q hq).2⟩
    · rw [List.mem_singleton.1 hq]
      exact ⟨own_mono (sf_own ⟨_, h.here⟩ hr hk ha) hN, sf_own ⟨_, h.here⟩ hr hk hb⟩
  · refine List.pairwise_append.2 ⟨hr.tl.ap, List.pairwise_singleton _ _, fun p hp q hq => ?_⟩
    rw [List.mem_singleton.1 hq]
    cases e1 : p.a.ownBlock with
    | none => exact .inl rfl
    | some g =>
      refine .inr (fun e2 => ?_)
      have h1 := hold p hp g e1
      have h2 := own_row ha g e2.symm
      omega
  · rcases List.mem_append.1 hq with hq | hq
    · exact hr.tl.sz q hq
    · rw [List.mem_singleton.1 hq]; exact hn
end
end Go.Proofs.YtnhhkoekghjogaaGreatDoor.Kc
namespace Go.Proofs.YtnhhkoekghjogaaGreatDoor.Kc
open Go.ChangeShapes Go.WideShapes Go.ChangeAt Go.RowKit
open Go.Proofs.YtnhhkoekghjogaaGreatDoor.By Go.Proofs.YtnhhkoekghjogaaGreatDoor.Wd
/-- Little was recorded more. -/
def More (L L' : List Rn) (c : Nat) : Prop := tot L' ≤ tot L + c ∧ L'.length ≤ L.length + c
theorem More.refl (L : List Rn) (c : Nat) : More L L c := ⟨by omega, by omega⟩
theorem More.mono {L L' : List Rn} {c d : Nat} (h : More L L' c) (hcd : c ≤ d) : More L L' d := ⟨Int.le_trans h.1 (Int.add_le_add_left (by omega) _), Nat.le_trans h.2 (Nat.add_le_add_left hcd _)⟩
theorem More.evk {L : List Rn} (hp : Pos L) (hb : Tiny L) (n c : Nat) (h : n ≤ c) (hc : c ≤ 1000000) : More L (evk L n) c := by
  have h1 := hb.1
  refine ⟨?_, ?_⟩
  · rw [evk_tot hp n (by omega)]; omega
  · have := evk_len L n; omega
theorem More.wi {L : List Rn} (hp : Pos L) (hb : Tiny L) (d : MD) (c : Nat) (h : 1 ≤ c) : More L (evi L d) c := by
  match d with
  | none => exact More.refl L c
  | some _ =>
    have h1 := hb.1
    refine ⟨?_, ?_⟩
    · show tot (putL L ⟨8, 203, 1⟩) ≤ _; rw [putL_tot hp rfl (by omega)]; omega
    · have := (putL_len (L := L) (r := ⟨8, 203, 1⟩)).1; show (putL L ⟨8, 203, 1⟩).length ≤ _; omega
theorem More.ws {o : Bool} {W : World} {v : Value} {c : Nat} {d : MD} {L : List Rn} (h : IsK o W v c d) (hp : Pos L) (hb : Tiny L) (n : Nat) (f : Nat → Int) (hn : n ≤ 1000000) : More L (evw L n f d) 90000 := by
  have key : ∀ st r z, Str st r → z.Ok r false → More L (Kc.evk L ((Z.ins r z f n).c - z.c)) 90000 := fun st r z hs hz => by
    have := ins_up hs hz f n hn
    exact More.evk hp hb _ _ (by omega) (by omega)
  cases o with
  | true =>
    match d, h with
    | none, _ => exact More.refl L _
    | some (st, r, z), ⟨_, _, hm⟩ => exact key st r z hm.str hm.sp.ok
  | false =>
    match d, h with
    | none, _ => exact More.refl L _
    | some (st, r, z), ⟨_, _, hm⟩ => exact key st r z hm.str hm.sp.ok
theorem More.sm {o : Bool} {W : World} {v : Value} {c : Nat} {d : MD} {L : List Rn} (h : IsK o W v c d) (hp : Pos L) (hb : Tiny L) (n : Int) (xof : Bool) : More L (evs L n xof d) 90000 := by
  have key : ∀ st r z, Str st r → z.Ok r false → More L (evs L n xof (some (st, r, z))) 90000 := fun st r z hs hz => by
    by_cases hn : n < 0 ∨ 65536 < n
    · have e3 : evs L n xof (some (st, r, z)) = L := if_pos hn
      rw [e3]; exact More.refl L _
    · have e3 : evs L n xof (some (st, r, z)) = Kc.evk L (kN r z n.toNat xof) := if_neg hn
      rw [e3]
      exact More.evk hp hb _ _ (Nat.le_trans (kN_le hs hz n.toNat xof (by omega)) (by omega)) (by omega)
  cases o with
  | true =>
    match d, h with
    | none, _ => exact More.refl L _
    | some (st, r, z), ⟨_, _, hm⟩ => exact key st r z hm.str hm.sp.ok
  | false =>
    match d, h with
    | none, _ => exact More.refl L _
    | some (st, r, z), ⟨_, _, hm⟩ => exact key st r z hm.str hm.sp.ok
/-- Lists of bytes, and lists of them, stay. -/
def Ky (W W' : World) : Prop := ∀ g cs t, Blk W g cs t → (t = 5 ∨ t = 22) → Blk W' g cs t
theorem Ky.own {W W' : World} (h : Ky W W') {base n : Nat} {v : Value} {f : Nat → Int} (ho : By.Own W base v n f) : By.Own W' base v n f := by
  obtain ⟨hf, hl, h' | ⟨g, cap, cur, rfl, hb, hc, h1, h2, h3, h4⟩⟩ := ho
  · exact ⟨hf, hl, .inl h'⟩
  · exact ⟨hf, hl, .inr ⟨g, cap, cur, rfl, hb, h g cur.toList 5 (by show W.heap[g]? = _; rw [hc]) (.inl rfl), h1, h2, h3, h4⟩⟩
theorem Ky.row {W W' : World} (h : Ky W W') {base n : Nat} {v : Value} {xs : List Value} (ho : W.ownsRow base 22 1 v n xs) : W'.ownsRow base 22 1 v n xs := by
  obtain ⟨hl, h' | ⟨g, cap, cur, rfl, hb, hc, h1, h2, h3, h4⟩⟩ := ho
  · exact ⟨hl, .inl h'⟩
  · refine ⟨hl, .inr ⟨g, cap, cur, rfl, hb, ?_, h1, h2, h3, h4⟩⟩
    exact h g cur.toList 22 (by show W.heap[g]? = _; rw [hc]) (.inr rfl)
theorem RW.ky {W W' : World} {B : Nat} {tv wv : Value} {tl : List TE} (h : RW W B tv wv tl) (hk : Ky W W') : RW W' B tv wv tl := ⟨hk.row h.r3, hk.row h.r4, h.dis, ⟨fun q hq => ⟨hk.own (h.tl.own q hq).1, hk.own (h.tl.own q hq).2⟩, h.tl.ap, h.tl.sz⟩⟩
def pk3 (i : Int) : Nat := (if i.tmod 3 < 0 then i.tmod 3 + 3 else i.tmod 3).toNat
theorem pk3_lt (i : Int) : pk3 i < 3 := by
  have a1 := Int.tmod_lt_of_pos i (show (0 : Int) < 3 by omega)
  have a2 := Int.lt_tmod_of_pos i (show (0 : Int) < 3 by omega)
  unfold pk3; split <;> omega
theorem pick3 (i : Int) (w : World) : Calls Tryz.prog 26 #[.int .i64 i, .int .i64 3] w fun e w' => e = .returned (.int .i64 (pk3 i)) ∧ w' = w := by
  have a1 := Int.tmod_lt_of_pos i (show (0 : Int) < 3 by omega)
  have a2 := Int.lt_tmod_of_pos i (show (0 : Int) < 3 by omega)
  have e0 : ((pk3 i : Nat) : Int) = if i.tmod 3 < 0 then i.tmod 3 + 3 else i.tmod 3 := by unfold pk3; split <;> omega
  rw [e0]
  obtain ⟨q, hq⟩ : ∃ q, i.tmod 3 = q := ⟨_, rfl⟩
  rw [hq] at a1 a2 e0 ⊢
  clear e0
  by_cases hlt : q < 0
  · rw [if_pos hlt]
    go_enter Tryz.func26, Tryz.ntmps26
    go_wp2
    go_ret
    exact ⟨rfl, rfl⟩
  · rw [if_neg hlt]
    go_enter Tryz.func26, Tryz.ntmps26
    go_wp2
    go_ret
    exact ⟨rfl, rfl⟩
/-- All that both sides hold, between two calls. -/
def PK (w0 : World) (xb lb mb : Nat) (L : List Rn) (tl : List TE) (W : World) : Prop := ∃ lv mv tv wv pv qv pc qc D, PS w0 xb lb mb lv mv tv wv pv qv pc qc D D L L W ∧ RW W w0.heap.size tv wv tl
section
variable {w0 W W' : World} {B xb lb mb : Nat} {lv mv tv wv : Value} {pv qv : Nat → Value} {pc qc : Nat → Nat} {D E : Nat → MD} {L M : List Rn} {tl : List TE}
theorem x8_p (pv qv : Nat → Value) (lb mb : Nat) (tv wv : Value) (k : Nat) (h : k < 3) : (x8 pv qv lb mb ++ [tv, wv])[k]? = some (pv k) := by
  rcases (show k = 0 ∨ k = 1 ∨ k = 2 by omega) with rfl | rfl | rfl <;> rfl
theorem x8_q (pv qv : Nat → Value) (lb mb : Nat) (tv wv : Value) (k : Nat) (h : k < 3) : (x8 pv qv lb mb ++ [tv, wv])[3 + k]? = some (qv k) := by
  rcases (show k = 0 ∨ k = 1 ∨ k = 2 by omega) with rfl | rfl | rfl <;> rfl
theorem x8_set (pv qv : Nat → Value) (lb mb : Nat) (tv wv x y : Value) (k : Nat) (h : k < 3) : ((x8 pv qv lb mb ++ [tv, wv]).set k x).set (3 + k) y = x8 (upd pv k x) (upd qv k y) lb mb ++ [tv, wv] := by
  rcases (show k = 0 ∨ k = 1 ∨ k = 2 by omega) with rfl | rfl | rfl <;> rfl
theorem PS.pos (h : PS w0 xb lb mb lv mv tv wv pv qv pc qc D E L M W) : Pos L := (show Led W lb lv L from h.P.led).pos
/-- A block of bytes is written over. -/
theorem PS.over (h : PS w0 xb lb mb lv mv tv wv pv qv pc qc D E L M W) {g : Nat} {cs : List Value} (hg : Blk W g cs 5) (hB : w0.heap.size ≤ g) (hk : Kp (fun j => j = g) W W') : PS w0 xb lb mb lv mv tv wv pv qv pc qc D E L M W' := by
  have n1 : ∀ {x : Nat} {c : List Value} {t : TypeId}, Blk W x c t → t ≠ 5 → ¬ (x = g) := fun hx ht e => Blk.ne hx hg ht e
  have hz := h.bel.size
  refine ⟨h.bel.trans (hk.below hz (fun j hj hs => by omega)), h.P.keep hk (fun hg => n1 hg (by decide)) (fun hg => n1 hg (by decide)) ?_ (fun x hx => ?_), h.Q.keep hk (fun hg => n1 hg (by decide)) (fun hg => n1 hg (by decide)) ?_ (fun x hx => ?_), h.dis, h.here.kept hk (n1 h.here (by decide)), h.xB, h.kt⟩
  · obtain ⟨c, hc⟩ := (show ∃ cs, Blk W lb cs (Kc.tl true) from h.P.led.blk); exact n1 hc (by decide)
  · obtain ⟨c, hc⟩ := h.P.led.run hx; exact n1 hc (by decide)
  · obtain ⟨c, hc⟩ := (show ∃ cs, Blk W mb cs (Kc.tl false) from h.Q.led.blk); exact n1 hc (by decide)
  · obtain ⟨c, hc⟩ := h.Q.led.run hx; exact n1 hc (by decide)
theorem RW.over (h : RW W B tv wv tl) {g N : Nat} {cs : List Value} (hg : Blk W g cs 5) (hN : N ≤ g) (hold : ∀ q ∈ tl, (∀ x, q.a.ownBlock = some x → x < N) ∧ ∀ x, q.b.ownBlock = some x → x < N) (hk : Kp (fun j => j = g) W W') : RW W' B tv wv tl := by
  refine ⟨rowG_kept h.r3 hk (fun x hx => ?_), rowG_kept h.r4 hk (fun x hx => ?_), h.dis, ⟨fun q hq => ⟨own_kept (h.tl.own q hq).1 hk (fun x hx e => ?_), own_kept (h.tl.own q hq).2 hk (fun x hx e => ?_)⟩, h.tl.ap, h.tl.sz⟩⟩
  · obtain ⟨c, hc, _⟩ := rowG_type h.r3 hx; exact Blk.ne hc hg (by decide)
  · obtain ⟨c, hc, _⟩ := rowG_type h.r4 hx; exact Blk.ne hc hg (by decide)
  · have := (hold q hq).1 x hx; omega
  · have := (hold q hq).2 x hx; omega
theorem TL.old2 (h : TL W B tl) : ∀ q ∈ tl, (∀ x, q.a.ownBlock = some x → x < W.heap.size) ∧ ∀ x, q.b.ownBlock = some x → x < W.heap.size := fun q hq =>
  ⟨fun g hg => by obtain ⟨c, hc⟩ := own8_type (h.own q hq).1 hg; exact (Array.getElem?_eq_some_iff.1 hc).1, fun g hg => by obtain ⟨c, hc⟩ := own8_type (h.own q hq).2 hg; exact (Array.getElem?_eq_some_iff.1 hc).1⟩
/-- An entry is laid anew on both sides. -/
theorem PS.slot (h : PS w0 xb lb mb lv mv tv wv pv qv pc qc D E L M W) (k : Nat) (hk3 : k < 3) (x y : Value) (c c' : Nat) (d d' : MD) (hx : IsK true W x c d) (hy : IsK false W y c' d')
    (hxB : ∀ g, x = .pointer (some ⟨g, 0, none⟩) → w0.heap.size ≤ g ∧ ∀ i, i < 3 → pv i ≠ .pointer (some ⟨g, 0, none⟩)) (hcB : d ≠ none → w0.heap.size ≤ c ∧ ∀ i, i < 3 → D i ≠ none → pc i ≠ c)
    (hyB : ∀ g, y = .pointer (some ⟨g, 0, none⟩) → w0.heap.size ≤ g ∧ ∀ i, i < 3 → qv i ≠ .pointer (some ⟨g, 0, none⟩)) (hdB : d' ≠ none → w0.heap.size ≤ c' ∧ ∀ i, i < 3 → E i ≠ none → qc i ≠ c') :
    PS w0 xb lb mb lv mv tv wv (upd pv k x) (upd qv k y) (upd pc k c) (upd qc k c') (upd D k d) (upd E k d') L M ((W.setCell ⟨xb, k, none⟩ x).setCell ⟨xb, 3 + k, none⟩ y) ∧ ∀ {g cs t}, Blk W g cs t → t ≠ 39 → Blk ((W.setCell ⟨xb, k, none⟩ x).setCell ⟨xb, 3 + k, none⟩ y) g cs t := by
  have hk : Kp (fun j => j = xb) W ((W.setCell ⟨xb, k, none⟩ x).setCell ⟨xb, 3 + k, none⟩ y) := (Kp.setCell xb k x).trans (Kp.setCell xb (3 + k) y) (fun _ _ e => e)
  have n1 : ∀ {g cs t}, Blk W g cs t → t ≠ 39 → ¬ g = xb := fun hg ht => Blk.ne hg h.here ht
  have hz := h.bel.size
  have hP : Sd true ((W.setCell ⟨xb, k, none⟩ x).setCell ⟨xb, 3 + k, none⟩ y) w0.heap.size (upd pv k x) (upd pc k c) (upd D k d) lb lv L := (h.P.slot k x c d hx hxB hcB).keep hk (fun hg => n1 hg (by decide)) (fun hg => n1 hg (by decide)) (by
    obtain ⟨c, hc⟩ := (show ∃ cs, Blk W lb cs (Kc.tl true) from h.P.led.blk); exact n1 hc (by decide)) (fun g hg => by
    obtain ⟨c, hc⟩ := h.P.led.run hg; exact n1 hc (by decide))
  have hQ : Sd false ((W.setCell ⟨xb, k, none⟩ x).setCell ⟨xb, 3 + k, none⟩ y) w0.heap.size (upd qv k y) (upd qc k c') (upd E k d') mb mv M := (h.Q.slot k y c' d' hy hyB hdB).keep hk (fun hg => n1 hg (by decide)) (fun hg => n1 hg (by decide)) (by
    obtain ⟨c, hc⟩ := (show ∃ cs, Blk W mb cs (Kc.tl false) from h.Q.led.blk); exact n1 hc (by decide)) (fun g hg => by
    obtain ⟨c, hc⟩ := h.Q.led.run hg; exact n1 hc (by decide))
  refine ⟨⟨h.bel.trans (hk.below hz (fun j hj e => by have := h.xB; omega)), hP, hQ, h.dis, ?_, h.xB, h.kt⟩, fun hg ht => hg.kept hk (n1 hg ht)⟩
  rw [← x8_set pv qv lb mb tv wv x y k hk3]
  exact (h.here.set k x).set (3 + k) y
end
end Go.Proofs.YtnhhkoekghjogaaGreatDoor.Kc
namespace Go.Proofs.YtnhhkoekghjogaaGreatDoor.Kc
open Go.ChangeShapes Go.WideShapes Go.ChangeAt Go.RowKit
open Go.Proofs.YtnhhkoekghjogaaGreatDoor.By Go.Proofs.YtnhhkoekghjogaaGreatDoor.Wd
def rr (st : Int) : Nat := if st = 128 then 168 else 136
theorem rr_str {st : Int} (h : st = 128 ∨ st = 256) : Str st (rr st) := by
  rcases h with rfl | rfl
  · exact .inl ⟨rfl, rfl⟩
  · exact .inr ⟨rfl, rfl⟩
/-- What New makes, and answers. -/
def nwd (st : Int) (a : Nat) (f : Nat → Int) (c : Nat) (g : Nat → Int) : MD := if st = 128 ∨ st = 256 then some (st, rr st, kz (rr st) a f c g) else none
def nwc (st : Int) : Int := if st = 128 ∨ st = 256 then 0 else 2
def evn (L : List Rn) : MD → List Rn
  | none => L
  | some (_, _, z) => evk L z.c
theorem More.nw {L : List Rn} (hp : Pos L) (hb : Tiny L) (st : Int) (a c : Nat) (f g : Nat → Int) (ha : a ≤ 1000000) (hc : c ≤ 1000000) : More L (evn L (nwd st a f c g)) 90000 := by
  by_cases hv : st = 128 ∨ st = 256
  · have e1 : nwd st a f c g = some (st, rr st, kz (rr st) a f c g) := if_pos hv
    rw [e1]
    exact More.evk hp hb _ _ (Nat.le_trans (kz_le (rr_str hv) a c f g ha hc) (by omega)) (by omega)
  · have e1 : nwd st a f c g = none := if_neg hv
    rw [e1]
    exact More.refl L _
section
variable {w0 W W' : World} {xb lb mb : Nat} {lv mv tv wv : Value} {pv qv : Nat → Value} {pc qc : Nat → Nat} {D E : Nat → MD} {L M L' : List Rn}
theorem PS.ledP (h : PS w0 xb lb mb lv mv tv wv pv qv pc qc D E L M W) (hl : LG (SL lb lv) W W' (some lb) L') (hk : Kp (SL lb lv) W W') : (∃ lv', PS w0 xb lb mb lv' mv tv wv pv qv pc qc D E L' M W') ∧ Kx W W' := by
  have hsub : ∀ k, SL lb lv k → SM lb lv (pv 0) (pc 0) (D 0) k := fun k hk => by
    rcases hk with hk | hk
    · exact .inl hk
    · exact .inr (.inl hk)
  have h3' : Kp (SM lb lv (pv 0) (pc 0) (D 0)) W W' := hk.mono (fun k _ e => hsub k e)
  have nb : ∀ {x cs t}, Blk W x cs t → t ≠ 59 → t ≠ 81 → ¬ SL lb lv x := fun hx t1 t2 hk => led_apart h.P.led hx t1 t2 hk
  have hp : IsK true W' (pv 0) (pc 0) (D 0) := (h.P.p 0 (by omega)).blks (fun _ _ _ hg => hg.kept hk (nb hg (by decide) (by decide))) (fun _ _ hg => hg.kept hk (nb hg (by decide) (by decide)))
  obtain ⟨u', hP⟩ := h.turnP 0 (by omega) (D 0) id (hl.monoS hsub) h3' hp
  rw [upd_same] at hP
  exact ⟨⟨u', hP⟩, h.kxP (by omega) h3'⟩
theorem PS.newP (h : PS w0 xb lb mb lv mv tv wv pv qv pc qc D E L M W) (st : Int) (a c : Nat) (f g : Nat → Int) (p q : Value) (hp : ∀ V, Kx W V → Below w0.heap.size w0 V → By.RB V p a f) (hq : ∀ V, Kx W V → Below w0.heap.size w0 V → By.RB V q c g) (ha : a ≤ 1000000) (hc : c ≤ 1000000) (hT : Tiny L) :
    Calls Tryz.prog 22 #[.pointer (some ⟨lb, 0, none⟩), .int .i64 st, p, q] W fun e w' => ∃ v b, e = .returned (.tuple #[v, .int .i64 (nwc st)]) ∧ (nwd st a f c g = none → v = .pointer none) ∧ (nwd st a f c g ≠ none → ∃ x, v = .pointer (some ⟨x, 0, none⟩) ∧ W.heap.size ≤ x ∧ W.heap.size ≤ b) ∧ IsK true w' v b (nwd st a f c g) ∧ (∃ lv', PS w0 xb lb mb lv' mv tv wv pv qv pc qc D E (evn L (nwd st a f c g)) M w') ∧ Kx W w' ∧ Kp (SL lb lv) W w' := by
  by_cases hv : st = 128 ∨ st = 256
  · have e1 : nwd st a f c g = some (st, rr st, kz (rr st) a f c g) := if_pos hv
    have e2 : nwc st = 0 := if_pos hv
    rw [e1, e2]
    have hz := h.bel.size
    have hsub : ∀ k, SL lb lv k → SM lb lv (pv 0) (pc 0) (D 0) k := fun k hk => by
      rcases hk with hk | hk
      · exact .inl hk
      · exact .inr (.inl hk)
    have kx : ∀ V, Kp (SL lb lv) W V → Kx W V ∧ Below w0.heap.size w0 V := fun V hk =>
      ⟨h.kxP (j := 0) (by omega) (hk.mono (fun k _ e => hsub k e)), h.bel.trans (hk.below hz (fun k hk e => by have := h.P.smB (j := 0) (by omega) (hsub k e); omega))⟩
    refine (knew_ok st (rr st) a c f g p q (some lb) L (SL lb lv) W (rr_str hv) h.ktW (fun e => (h.n01 (j := 0) (by omega)).1 (hsub 0 e)) (fun e => (h.n01 (j := 0) (by omega)).2 (hsub 1 e)) ⟨.inl rfl, lv, h.P.led, fun _ hg _ => .inr hg⟩ (show Led W lb lv L from h.P.led).pos hT (fun V hk => hp V (kx V hk).1 (kx V hk).2) (fun V hk => hq V (kx V hk).1 (kx V hk).2) ha hc).mono ?_
    rintro e w' ⟨x, b, rfl, hb, hx, hm, hl, hk⟩
    obtain ⟨hP, hK⟩ := h.ledP hl hk
    exact ⟨_, b, rfl, fun e => by simp at e, fun _ => ⟨x, rfl, hx, hb⟩, ⟨x, rfl, hm⟩, hP, hK, hk⟩
  · have e1 : nwd st a f c g = none := if_neg hv
    have e2 : nwc st = 2 := if_neg hv
    rw [e1, e2]
    refine (knew_bad st _ _ _ W (fun e => hv (.inl e)) (fun e => hv (.inr e))).mono ?_
    rintro e w' ⟨rfl, hb⟩
    exact ⟨_, 0, rfl, fun _ => rfl, fun e => absurd rfl e, .inl rfl, ⟨lv, h.below hb⟩, Kx.below hb, Kp.of_below _ hb⟩
theorem PS.ledQ (h : PS w0 xb lb mb lv mv tv wv pv qv pc qc D E L M W) (hl : RG (SL mb mv) W W' (some mb) L') (hk : Kp (SL mb mv) W W') : (∃ mv', PS w0 xb lb mb lv mv' tv wv pv qv pc qc D E L L' W') ∧ Kx W W' := by
  have hsub : ∀ k, SL mb mv k → SM mb mv (qv 0) (qc 0) (E 0) k := fun k hk => by
    rcases hk with hk | hk
    · exact .inl hk
    · exact .inr (.inl hk)
  have h3' : Kp (SM mb mv (qv 0) (qc 0) (E 0)) W W' := hk.mono (fun k _ e => hsub k e)
  have nb : ∀ {x cs t}, Blk W x cs t → t ≠ 61 → t ≠ 81 → ¬ SL mb mv x := fun hx t1 t2 hk => rled_apart h.Q.led hx t1 t2 hk
  have hp : IsK false W' (qv 0) (qc 0) (E 0) := (h.Q.p 0 (by omega)).blks (fun _ _ _ hg => hg.kept hk (nb hg (by decide) (by decide))) (fun _ _ hg => hg.kept hk (nb hg (by decide) (by decide)))
  obtain ⟨u', hP⟩ := h.turnQ 0 (by omega) (E 0) id (hl.monoS hsub) h3' hp
  rw [upd_same] at hP
  exact ⟨⟨u', hP⟩, h.kxQ (by omega) h3'⟩
theorem PS.newQ (h : PS w0 xb lb mb lv mv tv wv pv qv pc qc D E L M W) (st : Int) (a c : Nat) (f g : Nat → Int) (p q : Value) (hp : ∀ V, Kx W V → Below w0.heap.size w0 V → By.RB V p a f) (hq : ∀ V, Kx W V → Below w0.heap.size w0 V → By.RB V q c g) (ha : a ≤ 1000000) (hc : c ≤ 1000000) (hT : Tiny M) :
    Calls Tryz.prog 23 #[.pointer (some ⟨mb, 0, none⟩), .int .i64 st, p, q] W fun e w' => ∃ v b, e = .returned (.tuple #[v, .int .i64 (nwc st)]) ∧ (nwd st a f c g = none → v = .pointer none) ∧ (nwd st a f c g ≠ none → ∃ x, v = .pointer (some ⟨x, 0, none⟩) ∧ W.heap.size ≤ x ∧ W.heap.size ≤ b) ∧ IsK false w' v b (nwd st a f c g) ∧ (∃ mv', PS w0 xb lb mb lv mv' tv wv pv qv pc qc D E L (evn M (nwd st a f c g)) w') ∧ Kx W w' ∧ Kp (SL mb mv) W w' := by
  by_cases hv : st = 128 ∨ st = 256
  · have e1 : nwd st a f c g = some (st, rr st, kz (rr st) a f c g) := if_pos hv
    have e2 : nwc st = 0 := if_pos hv
    rw [e1, e2]
    have hz := h.bel.size
    have hsub : ∀ k, SL mb mv k → SM mb mv (qv 0) (qc 0) (E 0) k := fun k hk => by
      rcases hk with hk | hk
      · exact .inl hk
      · exact .inr (.inl hk)
    have kx : ∀ V, Kp (SL mb mv) W V → Kx W V ∧ Below w0.heap.size w0 V := fun V hk =>
      ⟨h.kxQ (j := 0) (by omega) (hk.mono (fun k _ e => hsub k e)), h.bel.trans (hk.below hz (fun k hk e => by have := h.Q.smB (j := 0) (by omega) (hsub k e); omega))⟩
    refine (rknew_ok st (rr st) a c f g p q (some mb) M (SL mb mv) W (rr_str hv) ⟨.inl rfl, mv, h.Q.led, fun _ hg _ => .inr hg⟩ (show RLed W mb mv M from h.Q.led).pos hT (fun V hk => hp V (kx V hk).1 (kx V hk).2) (fun V hk => hq V (kx V hk).1 (kx V hk).2) ha hc).mono ?_
    rintro e w' ⟨x, b, rfl, hb, hx, hm, hl, hk⟩
    obtain ⟨hP, hK⟩ := h.ledQ hl hk
    exact ⟨_, b, rfl, fun e => by simp at e, fun _ => ⟨x, rfl, hx, hb⟩, ⟨x, rfl, hm⟩, hP, hK, hk⟩
  · have e1 : nwd st a f c g = none := if_neg hv
    have e2 : nwc st = 2 := if_neg hv
    rw [e1, e2]
    refine (rknew_bad st _ _ _ W (fun e => hv (.inl e)) (fun e => hv (.inr e))).mono ?_
    rintro e w' ⟨rfl, rfl⟩
    exact ⟨_, 0, rfl, fun _ => rfl, fun e => absurd rfl e, .inl rfl, ⟨mv, h⟩, Kx.refl _, Kp.refl _ _⟩
end
end Go.Proofs.YtnhhkoekghjogaaGreatDoor.Kc
