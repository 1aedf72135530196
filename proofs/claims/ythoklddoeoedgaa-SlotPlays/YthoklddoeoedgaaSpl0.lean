/- Lists of lists gone on with; the document's memories and ledger among other things. -/
import Derived.Test.YthoklddoeoedgaaSdwp
import Derived.Test.YthoklddoeoedgaaSlni
import Derived.Test.YthoklddoeoedgaaSapz
namespace Go.Proofs.Ythoklddoeoedgaa.Sl
open Go.ChangeShapes Go.WideShapes Go.ChangeAt Go.RowKit
open Go.Proofs.Ythoklddoeoedgaa.By
/-- A list of lists gone on with by one list that lies in a block of its own. -/
theorem wpList_pushV {w : World} {ops : Array Oper} {rest : List Oper} {o : Oper} {a : Act} {Q : Exit → Act → World → Prop} (hgd : o.guard = none) (s x : Operand)
    (ho : o.op = .call { callee := .builtin .append, args := #[s, x], argTypes := #[40, 40] })
    (base : Nat) (u : Value) (n : Nat) (T : List Value) (v : Value) (hu : w.ownsRow base 36 1 u n T) (hv : v.oneCell' = true) (hb0 : base ≤ w.heap.size) (hN : (n + 1) * 24 ≤ 140737488355328) (ad : Addr)
    (hs : a.eval s = u) (hx : a.eval x = .slice (some ad) 1 1) (hc : ∀ j u, [v][j]? = some u → w.cell? (ad.add j) = some u)
    (h : ∀ u' w', w'.ownsRow base 36 1 u' (n + 1) (T ++ [v]) → Kp (fun k => u.ownBlock = some k) w w' → SameOrNew w u u' → wpList Try.prog ops Q rest (a.put o.dst u') w') : wpList Try.prog ops Q (o :: rest) a w := by
  obtain ⟨i0, hi, hz0, hz1, hz2⟩ := info_parts By.info32
  have h1 : ∀ u ∈ [v], u.oneCell' = true := fun u hu => by simp at hu; subst hu; exact hv
  have grows : ∀ (ao : Option Addr) (cap : Nat), u = .slice ao n cap → (ao = none → n = 0 ∧ cap = 0) → (∀ b, ao = some b → ∀ j v, T[j]? = some v → w.cell? (b.add j) = some v) → cap < n + 1 →
      wpList Try.prog ops Q (o :: rest) a w := by
    intro ao cap hu' hnone hcells hcap
    refine wpList_append_grows _ hgd s x 40 ho 36 i0 (.slice none 0 0) 1 24 Try.underlying40 hi hz0 hz1 hz2 rfl (by decide) ao n cap T (hs.trans hu') hnone hu.1 hcells ad 1 1 [v] hx rfl hc h1 hcap (by simp [maxLen]; omega) hN ?_
    intro u' w' hown hgr
    refine h u' w' ⟨hown.1, ?_⟩ ((Kp.of_grown hgr).mono fun k _ e => by cases e) (.inr fun g hg => (hown.lt g hg).1)
    rcases hown.2 with h' | ⟨g, c, cur, e1, e2, e3⟩
    · exact .inl h'
    · exact .inr ⟨g, c, cur, e1, by omega, e3⟩
  rcases hu.2 with ⟨hun, hn0⟩ | ⟨g, cap, cur, hun, hgb, hg, hnc, hcm, hcs, ht⟩
  · subst hn0
    exact grows none 0 hun (fun _ => ⟨rfl, rfl⟩) (fun b hb => by cases hb) (by simp)
  · by_cases hcap : n + 1 ≤ cap
    · subst hun
      refine wpList_append_fits _ hgd s x 40 ho base 36 i0 1 Try.underlying40 hi hz1 g n cap T hs hu ad 1 1 [v] hx rfl hc h1 hcap ?_
      intro w' hown hgr
      exact h _ w' hown (Kp.of_grown hgr) (.inl rfl)
    · subst hun
      refine grows (some ⟨g, 0, none⟩) cap rfl (fun h => by cases h) (fun b hb => ?_) (by omega)
      cases hb
      exact hu.cells rfl
theorem cell_newV (w : World) (v : Value) (g : Nat) (hg : g = w.heap.size) : ∀ j u, [v][j]? = some u → (w.alloc (.cells #[v] 36)).cell? ((⟨g, 0, none⟩ : Addr).add j) = some u := by
  subst hg
  have h := World.ownsRow_lit (base := 0) (e := 36) (size := 1) w #[v] 1 (Nat.zero_le _) (by simp [maxLen]) rfl
  exact h.cells rfl
/-- A list of lists as a thing: its n entries are ev. -/
def vals (n : Nat) (ev : Nat → Value) : List Value := (List.range n).map ev
theorem vals_length (n : Nat) (ev : Nat → Value) : (vals n ev).length = n := by simp [vals]
theorem vals_get (n : Nat) (ev : Nat → Value) (i : Nat) (h : i < n) : (vals n ev)[i]? = some (ev i) := by simp [vals, h]
theorem vals_snoc (n : Nat) (ev : Nat → Value) (v : Value) : vals n ev ++ [v] = vals (n + 1) (fun i => if i = n then v else ev i) := by
  unfold vals
  rw [List.range_succ, List.map_append, List.map_singleton, if_pos rfl]
  congr 1
  exact List.map_congr_left (fun i hi => by rw [if_neg (by have := List.mem_range.1 hi; omega)])
theorem row_kept {S : Nat → Prop} {w w' : World} {base : Nat} {e : TypeId} {v : Value} {n : Nat} {xs : List Value} (h : w.ownsRow base e 1 v n xs) (hk : Kp S w w') (hne : ∀ g, v.ownBlock = some g → ¬ S g) : w'.ownsRow base e 1 v n xs := by
  refine ⟨h.1, ?_⟩
  rcases h.2 with hn | ⟨g, cap, cur, rfl, hb, hg, hr⟩
  · exact .inl hn
  · exact .inr ⟨g, cap, cur, rfl, hb, (hk.block g (Array.getElem?_eq_some_iff.1 hg).1 (hne g rfl)).trans hg, hr⟩
def tW (v : Value) (n : Nat) (ev : Nat → Value) : Th where
  F j := v.ownBlock = some j
  P W := W.ownsRow 0 36 1 v n (vals n ev)
  keep h hk hn := row_kept h hk (fun g hg => hn g hg)
  lt h j hj := (h.lt j hj).2
/-- A memory of the document's as a thing. -/
def tD (p bv : Value) (k : Kd) : Th where
  F j := k.isSome = true ∧ bv.ownBlock = some j ∨ pb p j
  P W := IsD W p bv k
  keep {S W W'} h hk hn := by
    cases k with
    | none => exact h.imp id (fun ⟨b, e, h⟩ => ⟨b, e, Blk.kept h hk (hn b (.inr e))⟩)
    | some z =>
      obtain ⟨n, f⟩ := z
      obtain ⟨⟨b, e, h⟩, ho, h2⟩ := h
      exact ⟨⟨b, e, h.kept hk (hn b (.inr e))⟩, own_keptB ho hk (fun g hg => hn g (.inl ⟨rfl, hg⟩)), h2⟩
  lt {W} h j hj := by
    cases k with
    | none =>
      rcases hj with ⟨e, _⟩ | hj
      · cases e
      · rcases h with e | ⟨b, e, h⟩
        · rw [show p = _ from hj] at e; cases e
        · rw [show p = _ from hj] at e; cases e; exact h.lt
    | some z =>
      obtain ⟨n, f⟩ := z
      obtain ⟨⟨b, e, h⟩, ho, h2⟩ := h
      rcases hj with ⟨_, hj⟩ | hj
      · exact (ho.2.lt j hj).2
      · rw [show p = _ from hj] at e; cases e; exact h.lt
section
variable {w0 W W' : World} {B : Nat} {t : Nat → Th} {i j k m : Nat} {L L' : List Rn} {p q v bv cv : Value} {x y : Kd} {n : Nat} {f : Nat → Int}
theorem GX.doc (hG : GX w0 B t W) (hm : t m = tD p bv x) : IsD W p bv x := by
  have := hG.all m; rw [hm] at this; exact this
/-- The document's ledger at the number k. -/
def Rg (t : Nat → Th) (k lb : Nat) (L : List Rn) : Prop := ∃ rv, t k = tR lb rv L
theorem Rg.keep {lb : Nat} (h : Rg t k lb L) {t' : Nat → Th} (e : t' k = t k) : Rg t' k lb L := by obtain ⟨rv, e'⟩ := h; exact ⟨rv, e.trans e'⟩
def Rx (t : Nat → Th) (k lb : Nat) (L : List Rn) (W w' : World) : Prop := ∃ y : Th, y.P w' ∧ (∀ j, y.F j → (t k).F j ∨ W.heap.size ≤ j) ∧ (∀ t' : Nat → Th, t' k = y → Rg t' k lb L) ∧ Kp (t k).F W w'
theorem Rg.notes {lb : Nat} (h : Rg t k lb L) (hG : GX w0 B t W) (kd s : Int) (hr : (⟨kd, s, 1⟩ : Rn).Ok) (hm : Room L) : By.RNotes W (.pointer (some ⟨lb, 0, none⟩)) kd s (Rx t k lb (putL L ⟨kd, s, 1⟩) W) := by
  obtain ⟨rv, e⟩ := h
  have hl := hG.all k
  rw [e] at hl
  refine (refNote42 lb rv L kd s W hl hr hm.1 hm.2).mono ?_
  rintro e' w' ⟨rfl, rv', hl', hkp, hs⟩
  refine ⟨rfl, tR lb rv' (putL L ⟨kd, s, 1⟩), hl', fun j hj => ?_, fun t' e => ⟨rv', e⟩, by rw [e]; exact hkp⟩
  rw [e]
  rcases hj with hj | hj
  · exact .inl (.inl hj)
  · rcases same_or_new hs hj with h | h
    · exact .inl (.inr h)
    · exact .inr h
theorem gx_rled (hG : GX w0 B t W) (i : Nat) : Calls Try.prog 8 #[] W fun e W' => e = .returned (.pointer (some ⟨W.heap.size, 0, none⟩)) ∧ ∃ t', GX w0 B t' W' ∧ Rg t' i W.heap.size [] ∧ But t t' i i := by
  refine (refNew10 W).mono ?_
  rintro e W' ⟨rfl, hm, hb⟩
  exact ⟨rfl, _, hG.one i (tR W.heap.size (.slice none 0 0) []) (Kp.of_below (fun _ => False) hb) (fun _ e => e.elim) hm (fun j hj => .inr (by
    rcases hj with e | e
    · rw [e]; exact Nat.le_refl _
    · cases e)), ⟨_, up_at _ _ _⟩, fun m h1 _ => up_ne _ _ h1⟩
theorem gx_rnew (hG : GX w0 B t W) (i : Nat) : Calls Try.prog 10 #[] W fun e W' => e = .returned (.pointer (some ⟨W.heap.size, 0, none⟩)) ∧ ∃ t', GX w0 B t' W' ∧ t' i = tD (.pointer (some ⟨W.heap.size, 0, none⟩)) (.slice none 0 0) (some (0, fun _ => 0)) ∧ But t t' i i := by
  refine (rnew_mem W).mono ?_
  rintro e W' ⟨rfl, hm, hb⟩
  exact ⟨rfl, _, hG.one i (tD (.pointer (some ⟨W.heap.size, 0, none⟩)) (.slice none 0 0) (some (0, fun _ => 0))) (Kp.of_below (fun _ => False) hb) (fun _ e => e.elim) hm (fun j hj => .inr (by
    rcases hj with ⟨_, e⟩ | e
    · cases e
    · rw [pb_one e]; exact Nat.le_refl _)), up_at _ _ _, fun m h1 _ => up_ne _ _ h1⟩
theorem gx_rput (hG : GX w0 B t W) (hi : t i = tD p bv x) (hr : By.RB W v n f) : Calls Try.prog 14 #[p, v] W fun e W' => e = .returned (.int .i64 (pc x n)) ∧ ∃ t' bv', GX w0 B t' W' ∧ t' i = tD p bv' (pk x n f) ∧ But t t' i i := by
  refine (rput_m p bv v x n f W (hG.doc hi) hr).mono ?_
  rintro e W' ⟨rfl, bv', hm, hk, hn⟩
  refine ⟨rfl, _, bv', hG.one i (tD p bv' (pk x n f)) hk (fun j hj _ => by rw [hi]; exact .inr hj) hm (fun j hj => ?_), up_at _ _ _, fun m h1 _ => up_ne _ _ h1⟩
  rw [hi]
  rcases hj with ⟨e, hj⟩ | hj
  · rcases hn with rfl | hn
    · exact .inl (.inl ⟨by cases x with | none => exact e | some z => rfl, hj⟩)
    · exact .inr (hn j hj)
  · exact .inl (.inr hj)
theorem gx_rlook (hG : GX w0 B t W) (hi : t i = tD p bv x) : Calls Try.prog 20 #[p] W fun e W' => e = .returned (sv (kf x)) ∧ GX w0 B t W' ∧ Below W.heap.size W W' := by
  refine (rlook_m p bv x W (hG.doc hi)).mono ?_
  rintro e W' ⟨rfl, hb⟩
  exact ⟨rfl, hG.below hb, hb⟩
theorem gx_rlen (hG : GX w0 B t W) (hi : t i = tD p bv x) : Calls Try.prog 22 #[p] W fun e W' => e = .returned (.int .i64 (kn x)) ∧ W' = W := rlen_m p bv x W (hG.doc hi)
theorem gx_rbytes (hG : GX w0 B t W) (hi : t i = tD p bv x) (m : Nat) : Calls Try.prog 17 #[p] W fun e W' => ∃ v, e = .returned v ∧ ∃ t', GX w0 B t' W' ∧ t' m = tB v (kn x) (kf x) ∧ But t t' m m ∧ Below W.heap.size W W' := by
  refine (rbytes_m p bv x W (hG.doc hi)).mono ?_
  rintro e W' ⟨v, rfl, ho, hb⟩
  exact ⟨v, rfl, _, hG.one m (tB v (kn x) (kf x)) (Kp.of_below (fun _ => False) hb) (fun _ e => e.elim) (own_mono ho (Nat.zero_le _)) (fun j hj => .inr (own_row ho j hj)), up_at _ _ _, fun m h1 _ => up_ne _ _ h1, hb⟩
theorem gx_rwipe {lb : Nat} (hG : GX w0 B t W) (hi : t i = tD p bv x) (hk : Rg t k lb L) (hik : i ≠ k) (hm : Room L) :
    Calls Try.prog 24 #[p, .pointer (some ⟨lb, 0, none⟩)] W fun e W' => e = .returned (.int .i64 (wc x)) ∧ ∃ t' bv', GX w0 B t' W' ∧ t' i = tD p bv' (wk x) ∧ Rg t' k lb (wl x L) ∧ But t t' i k := by
  have hp := hG.doc hi
  have hap := hG.ap i k hik
  rw [hi] at hap
  cases x with
  | none =>
    refine (rwipe_no p bv _ W hp).mono ?_
    rintro e W' ⟨rfl, rfl⟩
    exact ⟨rfl, t, bv, hG, hi, hk, fun _ _ _ => rfl⟩
  | some z =>
    obtain ⟨n, f⟩ := z
    obtain ⟨⟨b, rfl, hb⟩, ho, _⟩ := hp
    refine (rwipe_mem b bv _ W _ hb (hk.notes hG 8 1024 ok8 hm) (fun w' r => by
      obtain ⟨y, -, -, -, hkp⟩ := r
      exact hb.kept hkp (hap b (.inr rfl)))).mono ?_
    rintro e W' ⟨rfl, w1, ⟨y, hy, hyF, hyL, hkp⟩, hm', hk'⟩
    have hyb : ¬ y.F b := fun e => by
      rcases hyF b e with h | h
      · exact hap b (.inr rfl) h
      · have := hb.lt; omega
    have hky : Kp (fun j => (t k).F j ∨ j = b) W W' := (hkp.mono (fun _ _ e => .inl e)).trans hk' (fun _ _ e => .inr e)
    refine ⟨rfl, _, .slice none 0 0, hG.two i k (tD (.pointer (some ⟨b, 0, none⟩)) (.slice none 0 0) (some (0, fun _ => 0))) y hik hky (fun j hs _ => ?_) hm' (y.keep hy hk' (fun j hj e => by subst e; exact hyb hj)) (fun j hj => .inl ?_) (fun j hj => .inr (hyF j hj)) (fun j hj hj' => ?_), ai hik _ _, hyL _ (ak _ _), but_up _ _ _ _ _⟩
    · rcases hs with e | e
      · exact .inr e
      · exact .inl (by rw [hi, e]; exact .inr rfl)
    · rw [hi]
      rcases hj with ⟨_, e⟩ | e
      · cases e
      · exact .inr e
    · rcases hj with ⟨_, e⟩ | e
      · cases e
      · rw [pb_one e] at hj'; exact hyb hj'
theorem gx_rsame {lb : Nat} (hG : GX w0 B t W) (hi : t i = tD p bv x) (hj : t j = tD q cv y) (hk : Rg t k lb L) (hik : i ≠ k) (hjk : j ≠ k) (hm : Room L) :
    Calls Try.prog 26 #[.pointer (some ⟨lb, 0, none⟩), p, q] W fun e W' => e = .returned (.bool (sc x y)) ∧ ∃ t', GX w0 B t' W' ∧ Rg t' k lb (sl x y L) ∧ But t t' k k := by
  have hp := hG.doc hi
  have hap := hG.ap i k hik
  have hq := hG.doc hj
  have haq := hG.ap j k hjk
  rw [hi] at hap
  rw [hj] at haq
  have no : ∀ (b : Bool), b = false → (∀ (e : Ending) W', e = .returned (.bool false) ∧ W' = W → e = .returned (.bool b) ∧ ∃ t', GX w0 B t' W' ∧ Rg t' k lb L ∧ But t t' k k) := by
    rintro b rfl e W' ⟨rfl, rfl⟩
    exact ⟨rfl, t, hG, hk, fun _ _ _ => rfl⟩
  cases x with
  | none => exact (rsame_no _ p q _ _ W hp.mk hq.mk (.inl rfl)).mono (no _ rfl)
  | some z =>
    cases y with
    | none => exact (rsame_no _ p q _ _ W hp.mk hq.mk (.inr rfl)).mono (no _ (by obtain ⟨n, f⟩ := z; rfl))
    | some z' =>
      have hP := hp
      have hQ := hq
      obtain ⟨n, f⟩ := z
      obtain ⟨n', g⟩ := z'
      obtain ⟨⟨a, rfl, _⟩, _⟩ := hP
      obtain ⟨⟨b, rfl, _⟩, _⟩ := hQ
      refine (rsame_mem _ a b bv cv (n, f) (n', g) W _ hp hq (hk.notes hG 6 1024 ok6 hm) (fun w' r => by
        obtain ⟨y, -, -, -, hkp⟩ := r
        exact (tD _ bv (some (n, f))).keep hp hkp hap) (fun w' r => by
        obtain ⟨y, -, -, -, hkp⟩ := r
        exact (tD _ cv (some (n', g))).keep hq hkp haq)).mono ?_
      rintro e W' ⟨rfl, w1, ⟨y, hy, hyF, hyL, hkp⟩, hb⟩
      exact ⟨by show _ = Ending.returned (.bool (eqB f g 1024)); rw [eqB_S], _, (hG.one k y hkp (fun j hs _ => hs) hy hyF).below hb, hyL _ (up_at _ _ _), fun m h1 _ => up_ne _ _ h1⟩
theorem gx_rruns {lb : Nat} (hG : GX w0 B t W) (hk : Rg t k lb L) (hN : L.length * 24 ≤ 140737488355328) : Calls Try.prog 29 #[.pointer (some ⟨lb, 0, none⟩)] W fun e W' => ∃ v, e = .returned v ∧ RB W' v L ∧ Below W.heap.size W W' := by
  obtain ⟨rv, e⟩ := hk
  have hp := hG.all k
  rw [e] at hp
  refine (refRuns20 lb rv L W hp hN).mono ?_
  rintro e W' ⟨v, rfl, ho, hb⟩
  exact ⟨v, rfl, ho.reads, hb⟩
end
end Go.Proofs.Ythoklddoeoedgaa.Sl
