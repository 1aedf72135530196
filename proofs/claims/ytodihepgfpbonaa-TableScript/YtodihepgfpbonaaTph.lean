/- Numbers as pairs: the table of pairs has what the document's table has. -/
import Derived.Test.YtodihepgfpbonaaTka
import Derived.BigQuiet
namespace Go.Proofs.Ytodihepgfpbonaa.Tb
open Go.ChangeShapes Go.WideShapes Go.ChangeAt Go.RowKit
theorem hdI_ph (hd : Nat → Option Int) (h : Int) : hdI (ph hd) h = (hdI hd h).map pr := by
  unfold hdI
  split <;> rfl
theorem ph_none (hd : Nat → Option Int) (j : Nat) : (ph hd j).isNone = (hd j).isNone := by
  show ((hd j).map pr).isNone = _
  cases hd j <;> rfl
theorem ph_some (hd : Nat → Option Int) (j : Nat) : (ph hd j).isSome = (hd j).isSome := by
  show ((hd j).map pr).isSome = _
  cases hd j <;> rfl
theorem least_ph (hd : Nat → Option Int) (m : Nat) : least (ph hd) m = least hd m := by
  unfold least
  congr 1
  funext j
  exact ph_none hd j
theorem ph_up (hd : Nat → Option Int) (k : Nat) (x : Option Int) : uph (ph hd) k (x.map pr) = ph (uph hd k x) := by
  funext j
  show uph (ph hd) k (x.map pr) j = (uph hd k x j).map pr
  unfold uph
  split <;> rfl
theorem addH_ph (hd : Nat → Option Int) (m : Nat) (v : Int) : addH (ph hd) m (pr v) = ph (addH hd m v) := by
  unfold addH
  rw [least_ph]
  cases least hd m with
  | none => rfl
  | some k => exact ph_up hd k (some v)
theorem addN_ph (hd : Nat → Option Int) (m : Nat) : addN (ph hd) m = addN hd m := by unfold addN; rw [least_ph]
theorem addE_ph (hd : Nat → Option Int) (m : Nat) : addE (ph hd) m = addE hd m := by unfold addE; rw [least_ph]
theorem setH_ph (hd : Nat → Option Int) (h v : Int) : setH (ph hd) h (pr v) = ph (setH hd h v) := by
  unfold setH
  rw [hdI_ph]
  cases hdI hd h with
  | none => rfl
  | some k => exact ph_up hd _ (some v)
theorem dropH_ph (hd : Nat → Option Int) (h : Int) : dropH (ph hd) h = ph (dropH hd h) := by
  unfold dropH
  rw [hdI_ph]
  cases hdI hd h with
  | none => rfl
  | some k => exact ph_up hd _ none
theorem cntH_ph (hd : Nat → Option Int) (n : Nat) : cntH (ph hd) n = cntH hd n := by
  induction n with
  | zero => rfl
  | succ n ih => rw [cntH, cntH, ih, ph_some]
/-- The worlds that have all that V has. -/
structure BW (V : World) where
  W : World
  h : Below V.heap.size V W
instance (V : World) : Nonempty (BW V) := ⟨⟨V, Below.refl _ _⟩⟩
/-- A region that draws its order, reads, and makes only what is new: one walk, in the order of the text. -/
theorem region_new {P : Program} {id : Nat} {Q : Exit → Act → World → Prop} {a : Act} {w : World} {L : List Oper} (hm : P.follows .mixedOrders = true) (hB : Region.lexB .any L.toArray = true)
    (h : wpQuiet P L.toArray (fun w' => ∃ i : BW w, w' = i.W) (fun a' => ∀ w', (∃ i : BW w, w' = i.W) → Q .normal a' w') L a) : (Code.region id L.toArray true).wp P Q a w :=
  wp_region_quiet (C := fun w' => ∃ i : BW w, w' = i.W) hm hB ⟨⟨w.drewN 1, below_drewN w 1⟩, rfl⟩ (by simpa using h)
theorem pair_q {V : World} (x : Int) (i : BW V) : Calls Try.prog 38 #[.int .i64 x] i.W fun e w'' => e = .returned (P.vv (pr x)) ∧ ∃ j : BW V, w'' = j.W :=
  (pair_t x i.W).mono (fun e w'' ⟨he, hb⟩ => ⟨he, ⟨w'', nx i.h hb⟩, rfl⟩)
namespace P
/-- A new variable that holds a pair. -/
theorem gx_var {w0 W W2 : World} {B : Nat} {t : Nat → Th} (hG : GX w0 B t W) (m : Nat) (x : V) (hW : W.alloc (.cells #[.int .i64 0, .int .i64 0] vt) = W2) : ∃ W3, (SVv ⟨W.heap.size, 0, none⟩ (vv x)).run Try.prog W2 = .ok () W3 ∧ ∃ t', GX w0 B t' W3 ∧ t' m = tC W.heap.size (vc x) vt ∧ But t t' m m := by
  have hb : Blk W2 W.heap.size (vc vz) vt := by rw [← hW]; exact Blk.new _ _ _
  obtain ⟨W3, s1, hb3, hk3⟩ := SVv_run (x := x) hb
  have hbel : Below W.heap.size W W3 := by
    have h1 : Below W.heap.size W W2 := by rw [← hW]; exact below_alloc _ _
    exact h1.trans (hk3.below h1.size (fun k hk e => by omega))
  exact ⟨W3, s1, _, hG.one m (tC W.heap.size (vc x) vt) (Kp.of_below (fun _ => False) hbel) (fun _ e => e.elim) hb3 (fun j hj => .inr (by rw [show j = _ from hj]; exact Nat.le_refl _)), up_at _ _ _, fun m h1 _ => up_ne _ _ h1⟩
end P
/-- Pairs as cells. -/
def pv2 (L : List P.V) : List Value := L.flatMap P.vc
theorem pv2_snoc (L : List P.V) (x : P.V) : pv2 (L ++ [x]) = pv2 L ++ P.vc x := by simp [pv2]
theorem pv2_len (L : List P.V) : (pv2 L).length = L.length * 2 := by
  induction L with
  | nil => rfl
  | cons y r ih => rw [show pv2 (y :: r) = P.vc y ++ pv2 r from by simp [pv2], List.length_append, ih]; simp; omega
theorem pv2_get (L : List P.V) : ∀ (i : Nat) (x : P.V), L[i]? = some x → (pv2 L)[i * 2]? = some (.int .i64 x.1) ∧ (pv2 L)[i * 2 + 1]? = some (.int .i64 x.2) := by
  induction L with
  | nil => intro i x h; simp at h
  | cons y r ih =>
    intro i x h
    rw [show pv2 (y :: r) = P.vc y ++ pv2 r from by simp [pv2]]
    cases i with
    | zero => simp at h; subst h; exact ⟨rfl, rfl⟩
    | succ i =>
      simp at h
      obtain ⟨h1, h2⟩ := ih i x h
      constructor
      · rw [List.getElem?_append_right (by simp; omega)]
        rw [show (i + 1) * 2 - (P.vc y).length = i * 2 from by simp; omega]; exact h1
      · rw [List.getElem?_append_right (by simp; omega)]
        rw [show (i + 1) * 2 + 1 - (P.vc y).length = i * 2 + 1 from by simp; omega]; exact h2
theorem kp_all {w0 W W' : World} {B : Nat} {t : Nat → Th} {C : Cn} {b hb vb m : Nat} {hd : Nat → Option Int} {vf : Nat → Int} (hG : GX w0 B t W) (h0 : t 0 = tK C) (hD : DT t 6 b hb vb m hd vf) {ps : Ps} (hs : P.Std C ps (ph hd)) (hb' : Below W.heap.size W W') {Bs : Nat} (hBs : W.heap.size ≤ Bs) (hbl : Blk W' Bs (pl ps) P.at')
    {ha va : Option Addr} {hc vc : Nat} (r1 : W'.ownsRow W.heap.size 3 1 (.slice ha (hl (so hd) m).length hc) (hl (so hd) m).length (iv (nv (hl (so hd) m)))) (r2 : W'.ownsRow W.heap.size 31 2 (.slice va (hl (so hd) m).length vc) (hl (so hd) m).length (pv2 ((hl (so hd) m).map fun j => pr (vf j)))) :
    ∃ t' C', GX w0 B t' W' ∧ t' 0 = tK C' ∧ Cle C C' ∧ But t t' 0 0 ∧ KP C' (.func (.func 60) #[] #[.pointer (some ⟨Bs, 0, none⟩)]) (.slice ha (hl (so hd) m).length hc) (.slice va (hl (so hd) m).length vc) := by
  obtain ⟨t', C', hg, hz, hc', hB, hn⟩ := gx_freeze hG h0 hb'
  have hp : prs (ph hd) 64 = (hl (so hd) m).map fun j => (j, pr (vf j)) := by
    rw [prs_ph, prs_doc hD, List.map_map]; rfl
  have hl' : (prs (ph hd) 64).length = (hl (so hd) m).length := by rw [hp, List.length_map]
  have hx : ∀ (i : Nat) (x : Nat × P.V), (prs (ph hd) 64)[i]? = some x → (hl (so hd) m)[i]? = some x.1 ∧ pr (vf x.1) = x.2 := fun i x hx => by
    rw [hp, List.getElem?_map] at hx
    cases e : (hl (so hd) m)[i]? with
    | none => rw [e] at hx; cases hx
    | some j => rw [e] at hx; cases hx; exact ⟨rfl, rfl⟩
  refine ⟨t', C', hg, hz, hc', hB, ⟨Bs, ps, ph hd, ha, hc, va, vc, rfl, by rw [hl'], by rw [hl'], (hn Bs hBs).trans hbl, hs.mono hc', fun i x hi => ?_, fun i x hi => ?_⟩⟩
  · exact cl_of_row r1 hn i _ (iv_get _ _ _ (nv_get _ _ _ (hx i x hi).1))
  · have hq : ((hl (so hd) m).map fun j => pr (vf j))[i]? = some x.2 := by
      rw [List.getElem?_map, (hx i x hi).1]
      exact congrArg some (hx i x hi).2
    obtain ⟨q1, q2⟩ := pv2_get _ i x.2 hq
    obtain ⟨g1, cur1, a1, a2, a3⟩ := cl_of_row r2 hn _ _ q1
    obtain ⟨g2, cur2, b1, b2, b3⟩ := cl_of_row r2 hn _ _ q2
    rw [a1] at b1
    cases b1
    rw [a2] at b2
    cases b2
    exact ⟨g1, cur1, a1, a2, a3, b3⟩
end Go.Proofs.Ytodihepgfpbonaa.Tb
