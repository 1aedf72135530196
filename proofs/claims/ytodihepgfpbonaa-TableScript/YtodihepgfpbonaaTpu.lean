/- A list gone on with by one entry; lists as things. No function of the program in it. -/
import Derived.Test.YtodihepgfpbonaaTgk
import Derived.OwnWalk
namespace Go.Proofs.Ytodihepgfpbonaa.Tb
open Go.ChangeShapes Go.WideShapes Go.ChangeAt Go.RowKit
/-- The list is where it was, or in memory that is new. -/
def SON (w : World) (v v' : Value) : Prop := v'.ownBlock = v.ownBlock ∨ ∀ g, v'.ownBlock = some g → w.heap.size ≤ g
theorem Kp.of_grown' {A B : World} {row : Option Nat} (hg : A.grownBy B row) : Kp (fun k => row = some k) A B :=
  ⟨hg.os, hg.tape, hg.output, hg.size, fun k hk hn => hg.block k hk (fun e => hn e.symm)⟩
theorem row_base' {w : World} {base base' sz : Nat} {e : TypeId} {v : Value} {n : Nat} {xs : List Value} (h : w.ownsRow base e sz v n xs) (hb : base' ≤ base) : w.ownsRow base' e sz v n xs := ⟨h.1, h.2.imp id (fun ⟨g, c, cur, e1, e2, e3⟩ => ⟨g, c, cur, e1, Nat.le_trans hb e2, e3⟩)⟩
theorem wpList_pushG {w : World} {ops : Array Oper} {rest : List Oper} {o : Oper} {a : Act} {Q : Exit → Act → World → Prop} (hgd : o.guard = none) (s x : Operand) (tS tE : TypeId) (z : Value) (sz bt : Nat)
    (ho : o.op = .call { callee := .builtin .append, args := #[s, x], argTypes := #[tS, tS] }) (hU : Try.prog.underlying tS = some (.slice tE)) (hI : (Try.prog.info? tE).map (fun i => (i.zero, i.size, i.bytes)) = some (some z, sz, bt)) (hzc : z.cells.size = sz) (hs0 : 0 < sz) (hbt : 1 ≤ bt)
    (base : Nat) (u : Value) (n : Nat) (T vs : List Value) (hu : w.ownsRow base tE sz u n T) (hvl : vs.length = sz) (h1 : ∀ u ∈ vs, u.oneCell' = true) (hb0 : base ≤ w.heap.size) (hN : (n + 1) * bt ≤ 140737488355328) (ad : Addr)
    (hs : a.eval s = u) (hx : a.eval x = .slice (some ad) 1 1) (hc : ∀ j u, vs[j]? = some u → w.cell? (ad.add j) = some u)
    (h : ∀ u' w', w'.ownsRow base tE sz u' (n + 1) (T ++ vs) → Kp (fun k => u.ownBlock = some k) w w' → SON w u u' → wpList Try.prog ops Q rest (a.put o.dst u') w') : wpList Try.prog ops Q (o :: rest) a w := by
  obtain ⟨i0, hi, hz0, hz1, hz2⟩ := info_parts hI
  have hM : n + 1 ≤ 140737488355328 := Nat.le_trans (Nat.le_mul_of_pos_right _ hbt) hN
  have grows : ∀ (ao : Option Addr) (cap : Nat), u = .slice ao n cap → (ao = none → n = 0 ∧ cap = 0) → (∀ b, ao = some b → ∀ j v, T[j]? = some v → w.cell? (b.add j) = some v) → cap < n + 1 →
      wpList Try.prog ops Q (o :: rest) a w := by
    intro ao cap hu' hnone hcells hcap
    refine wpList_append_grows _ hgd s x tS ho tE i0 z sz bt hU hi hz0 hz1 hz2 hzc hs0 ao n cap T (hs.trans hu') hnone hu.1 hcells ad 1 1 vs hx (by rw [hvl]; omega) hc h1 hcap (by simp [maxLen]; omega) hN ?_
    intro u' w' hown hgr
    refine h u' w' ⟨hown.1, ?_⟩ ((Kp.of_grown' hgr).mono fun k _ e => by cases e) (.inr fun g hg => (hown.lt g hg).1)
    rcases hown.2 with h' | ⟨g, c, cur, e1, e2, e3⟩
    · exact .inl h'
    · exact .inr ⟨g, c, cur, e1, by omega, e3⟩
  rcases hu.2 with ⟨hun, hn0⟩ | ⟨g, cap, cur, hun, hgb, hg, hnc, hcm, hcs, ht⟩
  · subst hn0
    exact grows none 0 hun (fun _ => ⟨rfl, rfl⟩) (fun b hb => by cases hb) (by simp)
  · by_cases hcap : n + 1 ≤ cap
    · subst hun
      refine wpList_append_fits _ hgd s x tS ho base tE i0 sz hU hi hz1 g n cap T hs hu ad 1 1 vs hx (by rw [hvl]; omega) hc h1 hcap ?_
      intro w' hown hgr
      exact h _ w' hown ((Kp.of_grown' hgr).mono fun k _ e => by cases e; rfl) (.inl rfl)
    · subst hun
      refine grows (some ⟨g, 0, none⟩) cap rfl (fun h => by cases h) (fun b hb => ?_) (by omega)
      cases hb
      exact hu.cells rfl
/-- The same as an equation. -/
theorem push_run (w : World) (tS tE : TypeId) (z : Value) (sz bt : Nat) (hU : Try.prog.underlying tS = some (.slice tE)) (hI : (Try.prog.info? tE).map (fun i => (i.zero, i.size, i.bytes)) = some (some z, sz, bt)) (hzc : z.cells.size = sz) (hs0 : 0 < sz) (hbt : 1 ≤ bt)
    (base : Nat) (u : Value) (n : Nat) (T vs : List Value) (hu : w.ownsRow base tE sz u n T) (hvl : vs.length = sz) (h1 : ∀ u ∈ vs, u.oneCell' = true) (hb0 : base ≤ w.heap.size) (hN : (n + 1) * bt ≤ 140737488355328) (ad : Addr)
    (hc : ∀ j u, vs[j]? = some u → w.cell? (ad.add j) = some u) :
    ∃ u' w', (Builtin.append_ #[tS, tS] tS #[u, .slice (some ad) 1 1]).run Try.prog w = .ok u' w' ∧ w'.ownsRow base tE sz u' (n + 1) (T ++ vs) ∧ Kp (fun k => u.ownBlock = some k) w w' ∧ SON w u u' := by
  obtain ⟨i0, hi, hz0, hz1, hz2⟩ := info_parts hI
  have hM : n + 1 ≤ 140737488355328 := Nat.le_trans (Nat.le_mul_of_pos_right _ hbt) hN
  rcases hu.2 with ⟨hun, hn0⟩ | ⟨g, cap, cur, hun, hgb, hg, hnc, hcm, hcs, ht⟩
  · subst hn0
    subst hun
    have hT : T = [] := List.eq_nil_of_length_eq_zero (by rw [hu.1]; omega)
    subst hT
    obtain ⟨v', w', hrun, r1, r2, _⟩ := run_append_own (P := Try.prog) w w.heap.size tS tS tE i0 z sz bt hU hi hz0 hz1 hz2 hzc hs0 (.slice none 0 0) 0 [] (World.ownsRow_nil w _ tE sz) ad 1 1 vs (by rw [hvl]; omega) hc h1 (by simp [maxLen]) hN (Nat.le_refl _)
    exact ⟨v', w', hrun, row_base' r1 hb0, Kp.of_grown' r2, .inr fun g hg => (r1.lt g hg).1⟩
  · by_cases hcap : n + 1 ≤ cap
    · subst hun
      obtain ⟨w', hrun, r1, r2⟩ := run_append_fits (P := Try.prog) w base tS tS tE i0 sz hU hi hz1 g n cap T hu ad 1 1 vs (by rw [hvl]; omega) hc h1 hcap
      exact ⟨_, w', hrun, r1, (Kp.of_grown' r2).mono (fun k _ e => by cases e; rfl), .inl rfl⟩
    · subst hun
      obtain ⟨v', w', hrun, r1, r2⟩ := run_append_arg_grows (P := Try.prog) w tS tS tE i0 z sz bt hU hi hz0 hz1 hz2 hzc hs0 ⟨g, 0, none⟩ n cap T hu.1 (hu.cells rfl) ad 1 1 vs (by rw [hvl]; omega) hc (by omega) (by simp [maxLen]; omega) hN
      exact ⟨v', w', hrun, row_base' r1 hb0, (Kp.of_grown' r2).mono (fun k _ e => by cases e), .inr fun g hg => (r1.lt g hg).1⟩
theorem cell_new1 (w : World) (v : Value) (t : TypeId) (g : Nat) (hg : g = w.heap.size) : ∀ j u, [v][j]? = some u → (w.alloc (.cells #[v] t)).cell? ((⟨g, 0, none⟩ : Addr).add j) = some u := by
  subst hg
  have h := World.ownsRow_lit (base := 0) (e := t) (size := 1) w #[v] 1 (Nat.zero_le _) (by simp [maxLen]) rfl
  exact h.cells rfl
theorem cell_new2 (w : World) (v u : Value) (t : TypeId) (g : Nat) (hg : g = w.heap.size) : ∀ j x, [v, u][j]? = some x → (w.alloc (.cells #[v, u] t)).cell? ((⟨g, 0, none⟩ : Addr).add j) = some x := by
  subst hg
  have h := World.ownsRow_lit (base := 0) (e := t) (size := 2) w #[v, u] 1 (Nat.zero_le _) (by simp [maxLen]) rfl
  exact h.cells rfl
theorem row_kept {S : Nat → Prop} {w w' : World} {base sz : Nat} {e : TypeId} {v : Value} {n : Nat} {xs : List Value} (h : w.ownsRow base e sz v n xs) (hk : Kp S w w') (hne : ∀ g, v.ownBlock = some g → ¬ S g) : w'.ownsRow base e sz v n xs := by
  refine ⟨h.1, ?_⟩
  rcases h.2 with hn | ⟨g, cap, cur, rfl, hb, hg, hr⟩
  · exact .inl hn
  · exact .inr ⟨g, cap, cur, rfl, hb, (hk.block g (Array.getElem?_eq_some_iff.1 hg).1 (hne g rfl)).trans hg, hr⟩
theorem row_below {w w' : World} {base sz : Nat} {e : TypeId} {v : Value} {n : Nat} {xs : List Value} (h : w.ownsRow base e sz v n xs) (hb : Below w.heap.size w w') : w'.ownsRow base e sz v n xs := row_kept h (Kp.of_below (fun _ => False) hb) (fun _ _ e => e)
theorem row_base {w : World} {base base' sz : Nat} {e : TypeId} {v : Value} {n : Nat} {xs : List Value} (h : w.ownsRow base e sz v n xs) (hb : base' ≤ base) : w.ownsRow base' e sz v n xs := ⟨h.1, h.2.imp id (fun ⟨g, c, cur, e1, e2, e3⟩ => ⟨g, c, cur, e1, Nat.le_trans hb e2, e3⟩)⟩
/-- A list as a thing: its n entries have the cells T. -/
def tW (v : Value) (n : Nat) (T : List Value) (e : TypeId) (sz : Nat) : Th where
  F j := v.ownBlock = some j
  P W := W.ownsRow 0 e sz v n T
  keep h hk hn := row_kept h hk (fun g hg => hn g hg)
  lt h j hj := (h.lt j hj).2
theorem GX.row {w0 W : World} {B : Nat} {t : Nat → Th} (hG : GX w0 B t W) {i : Nat} {v : Value} {n : Nat} {T : List Value} {e : TypeId} {sz : Nat} (h : t i = tW v n T e sz) : W.ownsRow 0 e sz v n T := by
  have := hG.all i; rw [h] at this; exact this
end Go.Proofs.Ytodihepgfpbonaa.Tb
