/- What Sort answers, and what it records, of the program and of the document. -/
import Derived.Test.YtpcnkiapbkmjbaaNeq
import Derived.Test.YtpcnkiapbkmjbaaNsp
import Derived.Test.YtpcnkiapbkmjbaaNsh
import Derived.BigRegion
namespace Go.Proofs.Ytpcnkiapbkmjbaa.Nv
open Go.ChangeShapes Go.WideShapes Go.ChangeAt Go.RowKit
open Go.Proofs.Ytpcnkiapbkmjbaa
theorem own_keptK {S : Nat → Prop} {w w' : World} {base : Nat} {v : Value} {n : Nat} {f : Nat → Int} (h : By.Own w base v n f) (hk : Kp S w w') (hne : ∀ g, v.ownBlock = some g → ¬ S g) : By.Own w' base v n f := by
  refine ⟨h.1, h.2.1, ?_⟩
  rcases h.2.2 with hn | ⟨g, cap, cur, rfl, hb, hg, hr⟩
  · exact .inl hn
  · exact .inr ⟨g, cap, cur, rfl, hb, (hk.block g (Array.getElem?_eq_some_iff.1 hg).1 (hne g rfl)).trans hg, hr⟩
theorem clone_own (v : Value) (n : Nat) (f : Nat → Int) (w : World) (h : By.RB w v n f) (hn : n ≤ 140737488355328) :
    Calls Try.prog 45 #[v] w fun e w' => ∃ u, e = .returned u ∧ By.Own w' w.heap.size u n f ∧ Below w.heap.size w w' := by
  obtain ⟨hf, a, cap, rfl, _, _, hc⟩ := h
  have hxs : ((List.range n).map f).map (Value.int .u8) = By.bl n f := by simp [By.bl]
  cases a with
  | none =>
    have hz : n = 0 := by
      rcases hc with ⟨h, _⟩ | ⟨b, off, h, _⟩
      · exact h
      · cases h
    subst hz
    refine (clone_nil 0 cap w).mono ?_
    rintro e w' ⟨rfl, rfl⟩
    exact ⟨_, rfl, By.own_nil _ _ f hf, Below.refl _ _⟩
  | some a =>
    refine (clone_at a n cap ((List.range n).map f) w (by simp) hn ?_).mono ?_
    · intro i hi
      rcases hc with ⟨h, _⟩ | ⟨b, off, h, hcell⟩
      · omega
      · cases h
        rw [By.add_plain, hcell i hi]
        simp [hi]
    · rintro e w' ⟨u, rfl, hr, -, hb⟩
      rw [hxs] at hr
      exact ⟨u, rfl, ⟨hf, hr⟩, hb⟩
/-- The state while bytes are put in order: the ledger, and the list of the call's own. -/
structure SL (w0 : World) (lo : Option Nat) (rv0 : Value) (base : Nat) (v : Value) (n : Nat) (w : World) (L : List Rn) (f : Nat → Int) : Prop where
  st : ∃ rv, PL w lo rv L ∧ Kp (lf lo rv0) w0 w ∧ SameOrNew w0 rv0 rv ∧ ∀ g, v.ownBlock = some g → ¬ lf lo rv g
  own : By.Own w base v n f
theorem SL.below {w0 w w' : World} {lo : Option Nat} {rv0 : Value} {base n : Nat} {v : Value} {L : List Rn} {f : Nat → Int} (h : SL w0 lo rv0 base v n w L f) (hb : Below w.heap.size w w') : SL w0 lo rv0 base v n w' L f := by
  obtain ⟨rv, h1, h2, h3, h4⟩ := h.st
  exact ⟨⟨rv, h1.below hb, h2.trans (Kp.of_below (fun _ => False) hb) (fun _ _ e => e.elim), h3, h4⟩, By.own_below h.own hb⟩
theorem SL.toST {w0 w : World} {lo : Option Nat} {rv0 : Value} {base n : Nat} {v : Value} {L : List Rn} {f : Nat → Int} (h : SL w0 lo rv0 base v n w L f) : ST w0 lo rv0 w L := by
  obtain ⟨rv, h1, h2, h3, h4⟩ := h.st
  exact ⟨rv, h1, h2, h3⟩
theorem PL.kept {w w' : World} {lo : Option Nat} {rv : Value} {L : List Rn} {S : Nat → Prop} (h : PL w lo rv L) (hk : Kp S w w') (hn : ∀ j, lf lo rv j → ¬ S j) : PL w' lo rv L := by
  refine ⟨h.1, ?_⟩
  have := h.2
  cases lo with
  | none => trivial
  | some b => exact Led.kept this hk (hn b (.inl rfl)) (fun g hg => hn g (.inr hg))
theorem PL.lt {w : World} {lo : Option Nat} {rv : Value} {L : List Rn} (h : PL w lo rv L) {j : Nat} (hj : lf lo rv j) : j < w.heap.size := by
  have := h.2
  cases lo with
  | none => exact hj.elim
  | some b =>
    rcases hj with e | e
    · rw [e]; exact Led.lt this
    · exact (this.own.lt j e).2
/-- A list that is new: the state at the start. -/
theorem ST.sl {w0 w w1 : World} {lo : Option Nat} {rv0 : Value} {n : Nat} {u : Value} {L : List Rn} {f : Nat → Int} (h : ST w0 lo rv0 w L) (hb : Below w.heap.size w w1) (ho : By.Own w1 w.heap.size u n f) : SL w0 lo rv0 w.heap.size u n w1 L f := by
  obtain ⟨rv, h1, h2, h3⟩ := h
  exact ⟨⟨rv, h1.below hb, h2.trans (Kp.of_below (fun _ => False) hb) (fun _ _ e => e.elim), h3, fun g hg e => by
    have := h1.lt e
    have := (ho.2.lt g hg).1
    omega⟩, ho⟩
theorem SL.branch {w0 w : World} {lo : Option Nat} {rv0 : Value} {base n : Nat} {v : Value} {L : List Rn} {f : Nat → Int} (b : Bool) (h : SL w0 lo rv0 base v n w L f) (hb : tot L ≤ 1000000) :
    Calls Try.prog 38 #[lpv lo, .bool b] w fun e w' => e = .returned (.bool b) ∧ SL w0 lo rv0 base v n w' (putL L (br b)) f := by
  obtain ⟨rv, h1, h2, h3, h4⟩ := h.st
  refine (branch_st b h1.st hb).mono ?_
  rintro e w' ⟨rfl, rv', k1, k2, k3⟩
  refine ⟨rfl, ⟨rv', k1, h2.trans k2 (fun j hj e => lf_new h3 j hj e), sn_trans h2.size h3 k3, fun g hg e => ?_⟩, own_keptK h.own k2 h4⟩
  exact h4 g hg (lf_new k3 g (h.own.2.lt g hg).2 e)
/-- Two places of the list change. -/
theorem SL.swap {w0 w : World} {lo : Option Nat} {rv0 : Value} {base n g cap : Nat} {L : List Rn} {f : Nat → Int} (h : SL w0 lo rv0 base (.slice (some ⟨g, 0, none⟩) n cap) n w L f) (hB : w0.heap.size ≤ base) (k : Nat) :
    SL w0 lo rv0 base (.slice (some ⟨g, 0, none⟩) n cap) n ((w.setCell ⟨g, k, none⟩ (.int .u8 (f (k + 1)))).setCell ⟨g, k + 1, none⟩ (.int .u8 (f k))) L (swp f k) := by
  obtain ⟨rv, h1, h2, h3, h4⟩ := h.st
  have hg := h4 g rfl
  have hgb := (h.own.2.lt g rfl).1
  have o1 := (By.own_store h.own k (f (k + 1)) (h.own.1 _)).1
  have o2 := (By.own_store o1 (k + 1) (f k) (h.own.1 _)).1
  have hk : Kp (fun j => j = g) w ((w.setCell ⟨g, k, none⟩ (.int .u8 (f (k + 1)))).setCell ⟨g, k + 1, none⟩ (.int .u8 (f k))) := (Kp.setCell _ _ _).trans (Kp.setCell _ _ _) (fun _ _ e => e)
  refine ⟨⟨rv, h1.kept hk (fun j hj e => hg (by rw [← e]; exact hj)), h2.trans hk (fun j hj e => by omega), h3, fun q hq => by cases hq; exact hg⟩, ?_⟩
  have e : (fun i => if i = k + 1 then f k else if i = k then f (k + 1) else f i) = swp f k := by
    funext i; unfold swp
    by_cases e1 : i = k
    · subst e1; rw [if_neg (by omega), if_pos rfl, if_pos rfl]
    · by_cases e2 : i = k + 1
      · subst e2; rw [if_pos rfl, if_neg e1, if_pos rfl]
      · rw [if_neg e2, if_neg e1, if_neg e1, if_neg e2]
  rw [e] at o2
  exact o2
/-- The state while bytes are put in order: the ledger, and the list of the call's own. -/
structure RSL (w0 : World) (lo : Option Nat) (rv0 : Value) (base : Nat) (v : Value) (n : Nat) (w : World) (L : List Rn) (f : Nat → Int) : Prop where
  st : ∃ rv, RPL w lo rv L ∧ Kp (lf lo rv0) w0 w ∧ SameOrNew w0 rv0 rv ∧ ∀ g, v.ownBlock = some g → ¬ lf lo rv g
  own : By.Own w base v n f
theorem RSL.below {w0 w w' : World} {lo : Option Nat} {rv0 : Value} {base n : Nat} {v : Value} {L : List Rn} {f : Nat → Int} (h : RSL w0 lo rv0 base v n w L f) (hb : Below w.heap.size w w') : RSL w0 lo rv0 base v n w' L f := by
  obtain ⟨rv, h1, h2, h3, h4⟩ := h.st
  exact ⟨⟨rv, h1.below hb, h2.trans (Kp.of_below (fun _ => False) hb) (fun _ _ e => e.elim), h3, h4⟩, By.own_below h.own hb⟩
theorem RSL.toST {w0 w : World} {lo : Option Nat} {rv0 : Value} {base n : Nat} {v : Value} {L : List Rn} {f : Nat → Int} (h : RSL w0 lo rv0 base v n w L f) : RST w0 lo rv0 w L := by
  obtain ⟨rv, h1, h2, h3, h4⟩ := h.st
  exact ⟨rv, h1, h2, h3⟩
theorem RPL.kept {w w' : World} {lo : Option Nat} {rv : Value} {L : List Rn} {S : Nat → Prop} (h : RPL w lo rv L) (hk : Kp S w w') (hn : ∀ j, lf lo rv j → ¬ S j) : RPL w' lo rv L := by
  refine ⟨h.1, ?_⟩
  have := h.2
  cases lo with
  | none => trivial
  | some b => exact RLed.kept this hk (hn b (.inl rfl)) (fun g hg => hn g (.inr hg))
theorem RPL.lt {w : World} {lo : Option Nat} {rv : Value} {L : List Rn} (h : RPL w lo rv L) {j : Nat} (hj : lf lo rv j) : j < w.heap.size := by
  have := h.2
  cases lo with
  | none => exact hj.elim
  | some b =>
    rcases hj with e | e
    · rw [e]; exact RLed.lt this
    · exact (this.own.lt j e).2
/-- A list that is new: the state at the start. -/
theorem RST.sl {w0 w w1 : World} {lo : Option Nat} {rv0 : Value} {n : Nat} {u : Value} {L : List Rn} {f : Nat → Int} (h : RST w0 lo rv0 w L) (hb : Below w.heap.size w w1) (ho : By.Own w1 w.heap.size u n f) : RSL w0 lo rv0 w.heap.size u n w1 L f := by
  obtain ⟨rv, h1, h2, h3⟩ := h
  exact ⟨⟨rv, h1.below hb, h2.trans (Kp.of_below (fun _ => False) hb) (fun _ _ e => e.elim), h3, fun g hg e => by
    have := h1.lt e
    have := (ho.2.lt g hg).1
    omega⟩, ho⟩
theorem RSL.branch {w0 w : World} {lo : Option Nat} {rv0 : Value} {base n : Nat} {v : Value} {L : List Rn} {f : Nat → Int} (b : Bool) (h : RSL w0 lo rv0 base v n w L f) (hb : tot L ≤ 1000000) :
    Calls Try.prog 39 #[lpv lo, .bool b] w fun e w' => e = .returned (.bool b) ∧ RSL w0 lo rv0 base v n w' (putL L (br b)) f := by
  obtain ⟨rv, h1, h2, h3, h4⟩ := h.st
  refine (rbranch_st b h1.st hb).mono ?_
  rintro e w' ⟨rfl, rv', k1, k2, k3⟩
  refine ⟨rfl, ⟨rv', k1, h2.trans k2 (fun j hj e => lf_new h3 j hj e), sn_trans h2.size h3 k3, fun g hg e => ?_⟩, own_keptK h.own k2 h4⟩
  exact h4 g hg (lf_new k3 g (h.own.2.lt g hg).2 e)
/-- Two places of the list change. -/
theorem RSL.swap {w0 w : World} {lo : Option Nat} {rv0 : Value} {base n g cap : Nat} {L : List Rn} {f : Nat → Int} (h : RSL w0 lo rv0 base (.slice (some ⟨g, 0, none⟩) n cap) n w L f) (hB : w0.heap.size ≤ base) (k : Nat) :
    RSL w0 lo rv0 base (.slice (some ⟨g, 0, none⟩) n cap) n ((w.setCell ⟨g, k, none⟩ (.int .u8 (f (k + 1)))).setCell ⟨g, k + 1, none⟩ (.int .u8 (f k))) L (swp f k) := by
  obtain ⟨rv, h1, h2, h3, h4⟩ := h.st
  have hg := h4 g rfl
  have hgb := (h.own.2.lt g rfl).1
  have o1 := (By.own_store h.own k (f (k + 1)) (h.own.1 _)).1
  have o2 := (By.own_store o1 (k + 1) (f k) (h.own.1 _)).1
  have hk : Kp (fun j => j = g) w ((w.setCell ⟨g, k, none⟩ (.int .u8 (f (k + 1)))).setCell ⟨g, k + 1, none⟩ (.int .u8 (f k))) := (Kp.setCell _ _ _).trans (Kp.setCell _ _ _) (fun _ _ e => e)
  refine ⟨⟨rv, h1.kept hk (fun j hj e => hg (by rw [← e]; exact hj)), h2.trans hk (fun j hj e => by omega), h3, fun q hq => by cases hq; exact hg⟩, ?_⟩
  have e : (fun i => if i = k + 1 then f k else if i = k then f (k + 1) else f i) = swp f k := by
    funext i; unfold swp
    by_cases e1 : i = k
    · subst e1; rw [if_neg (by omega), if_pos rfl, if_pos rfl]
    · by_cases e2 : i = k + 1
      · subst e2; rw [if_pos rfl, if_neg e1, if_pos rfl]
      · rw [if_neg e2, if_neg e1, if_neg e1, if_neg e2]
  rw [e] at o2
  exact o2
end Go.Proofs.Ytpcnkiapbkmjbaa.Nv
