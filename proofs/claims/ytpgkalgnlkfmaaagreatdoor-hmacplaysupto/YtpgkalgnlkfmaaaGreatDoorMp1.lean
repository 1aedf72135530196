/- The law HmacPlays: its record, and the four lists in it. -/
import Derived.Test.YtpgkalgnlkfmaaaGreatDoorMdoc2
import Derived.Test.YtpgkalgnlkfmaaaGreatDoorMwip
import Derived.Deep.RegionLaw
import Derived.Deep.AppendLies
namespace Go.Proofs.YtpgkalgnlkfmaaaGreatDoor.Dg
open Go.ChangeShapes Go.WideShapes Go.ChangeAt Go.RowKit
open Go.Proofs.YtpgkalgnlkfmaaaGreatDoor.By
open Go.Proofs.YtpgkalgnlkfmaaaGreatDoor.Sh (Blk size_alloc)
/-- A row gone on with by one value that lies in a block of its own. -/
theorem wpList_pushG {w : World} {ops : Array Oper} {rest : List Oper} {o : Oper} {a : Act} {Q : Exit → Act → World → Prop} (t el : TypeId) (z : Value) (bytes : Nat) (hut : Tryz.prog.underlying t = some (.slice el)) (hinfo : (Tryz.prog.info? el).map (fun i => (i.zero, i.size, i.bytes)) = some (some z, 1, bytes)) (hz : z.cells.size = 1) (hby : bytes ≤ 24) (hgd : o.guard = none) (s x : Operand)
    (ho : o.op = .call { callee := .builtin .append, args := #[s, x], argTypes := #[t, t] })
    (base : Nat) (u : Value) (n : Nat) (T : List Value) (v : Value) (hu : w.ownsRow base el 1 u n T) (hv : v.oneCell' = true) (hb0 : base ≤ w.heap.size) (hN : n ≤ 10000000) (ad : Addr)
    (hs : a.eval s = u) (hx : a.eval x = .slice (some ad) 1 1) (hc : ∀ j u, [v][j]? = some u → w.cell? (ad.add j) = some u)
    (h : ∀ u' w', w'.ownsRow base el 1 u' (n + 1) (T ++ [v]) → Kp (fun k => u.ownBlock = some k) w w' → SameOrNew w u u' → wpList Tryz.prog ops Q rest (a.put o.dst u') w') : wpList Tryz.prog ops Q (o :: rest) a w := by
  obtain ⟨i0, hi, hz0, hz1, hz2⟩ := info_parts hinfo
  have h1 : ∀ u ∈ [v], u.oneCell' = true := fun u hu => by simp at hu; subst hu; exact hv
  have hNb : (n + 1) * bytes ≤ 140737488355328 := by have := Nat.mul_le_mul (show n + 1 ≤ 10000001 by omega) hby; omega
  have grows : ∀ (ao : Option Addr) (cap : Nat), u = .slice ao n cap → (ao = none → n = 0 ∧ cap = 0) → (∀ b, ao = some b → ∀ j v, T[j]? = some v → w.cell? (b.add j) = some v) → cap < n + 1 →
      wpList Tryz.prog ops Q (o :: rest) a w := by
    intro ao cap hu' hnone hcells hcap
    refine wpList_append_grows _ hgd s x t ho el i0 z 1 bytes hut hi hz0 hz1 hz2 hz (by decide) ao n cap T (hs.trans hu') hnone hu.1 hcells ad 1 1 [v] hx rfl hc h1 hcap (by simp [maxLen]; omega) hNb ?_
    intro u' w' hown hgr
    refine h u' w' ⟨hown.1, ?_⟩ ((Kp.of_grown hgr).mono fun k _ e => by cases e) (.inr fun g hg => (hown.lt g hg).1)
    rcases hown.2 with h' | ⟨g, c, cur, e1, e2, e3⟩
    · exact .inl h'
    · exact .inr ⟨g, c, cur, e1, by omega, e3⟩
  rcases hu.2 with ⟨hun, hn0⟩ | ⟨g, cap, cur, hun, hgb, hg, hnc, hcm, hcs, ht⟩
  · subst hn0
    exact grows none 0 hun (fun _ => ⟨rfl, rfl⟩) (fun b hb => by cases hb) (by simp)
  · by_cases hcap : n + 1 ≤ cap
    · subst hun
      refine wpList_append_fits _ hgd s x t ho base el i0 1 hut hi hz1 g n cap T hs hu ad 1 1 [v] hx rfl hc h1 hcap ?_
      intro w' hown hgr
      exact h _ w' hown (Kp.of_grown hgr) (.inl rfl)
    · subst hun
      refine grows (some ⟨g, 0, none⟩) cap rfl (fun h => by cases h) (fun b hb => ?_) (by omega)
      cases hb
      exact hu.cells rfl
theorem cell_newG (w : World) (v : Value) (t : TypeId) (g : Nat) (hg : g = w.heap.size) : ∀ j u, [v][j]? = some u → (w.alloc (.cells #[v] t)).cell? ((⟨g, 0, none⟩ : Addr).add j) = some u := by
  subst hg
  have h := World.ownsRow_lit (base := 0) (e := t) (size := 1) w #[v] 1 (Nat.zero_le _) (by simp [maxLen]) rfl
  exact h.cells rfl
theorem infoP : (Tryz.prog.info? 33).map (fun i => (i.zero, i.size, i.bytes)) = some (some (.pointer none), 1, 8) := by kernel_rfl
theorem infoQ : (Tryz.prog.info? 39).map (fun i => (i.zero, i.size, i.bytes)) = some (some (.pointer none), 1, 8) := by kernel_rfl
theorem infoY : (Tryz.prog.info? 41).map (fun i => (i.zero, i.size, i.bytes)) = some (some (.slice none 0 0), 1, 24) := by kernel_rfl
theorem rowG_type {w : World} {base n g : Nat} {v : Value} {e : TypeId} {xs : List Value} (h : w.ownsRow base e 1 v n xs) (hg : v.ownBlock = some g) : ∃ cs, Blk w g cs e ∧ base ≤ g := by
  obtain ⟨_, h' | ⟨g', cap, cur, e', hb, hc, _⟩⟩ := h
  · rw [h'.1] at hg; simp [Value.ownBlock] at hg
  · rw [e'] at hg; simp [Value.ownBlock] at hg
    subst hg
    exact ⟨cur.toList, by show w.heap[g']? = _; rw [hc], hb⟩
theorem rowG_kept {w w' : World} {base n : Nat} {v : Value} {e : TypeId} {xs : List Value} {S : Nat → Prop} (h : w.ownsRow base e 1 v n xs) (hk : Kp S w w') (hne : ∀ g, v.ownBlock = some g → ¬ S g) : w'.ownsRow base e 1 v n xs := by
  obtain ⟨hl, h | ⟨g, cap, cur, rfl, hb, hc, h1, h2, h3, h4⟩⟩ := h
  · exact ⟨hl, .inl h⟩
  · refine ⟨hl, .inr ⟨g, cap, cur, rfl, hb, ?_, h1, h2, h3, h4⟩⟩
    rw [hk.block g (Array.getElem?_eq_some_iff.1 hc).1 (hne g rfl)]; exact hc
/-- The law's record: its block, and the four lists. -/
structure Four (W : World) (B xb lb mb : Nat) (sv rv tv wv : Value) (ss rs ts ws : List Value) : Prop where
  here : Blk W xb [.pointer (some ⟨lb, 0, none⟩), .pointer (some ⟨mb, 0, none⟩), sv, rv, tv, wv] 32
  r1 : W.ownsRow B 33 1 sv ss.length ss
  r2 : W.ownsRow B 39 1 rv rs.length rs
  r3 : W.ownsRow B 41 1 tv ts.length ts
  r4 : W.ownsRow B 41 1 wv ws.length ws
  dis : ∀ g, tv.ownBlock = some g → wv.ownBlock ≠ some g
  hB : B ≤ xb
/-- Its blocks. -/
def SF (xb : Nat) (sv rv tv wv : Value) (j : Nat) : Prop := j = xb ∨ sv.ownBlock = some j ∨ rv.ownBlock = some j ∨ tv.ownBlock = some j ∨ wv.ownBlock = some j
section
variable {W W' : World} {B xb lb mb : Nat} {sv rv tv wv : Value} {ss rs ts ws : List Value}
theorem Four.kept (h : Four W B xb lb mb sv rv tv wv ss rs ts ws) {S : Nat → Prop} (hk : Kp S W W') (hn : ∀ j, SF xb sv rv tv wv j → ¬ S j) : Four W' B xb lb mb sv rv tv wv ss rs ts ws :=
  ⟨h.here.kept hk (hn _ (.inl rfl)), rowG_kept h.r1 hk (fun g hg => hn g (.inr (.inl hg))), rowG_kept h.r2 hk (fun g hg => hn g (.inr (.inr (.inl hg)))), rowG_kept h.r3 hk (fun g hg => hn g (.inr (.inr (.inr (.inl hg))))), rowG_kept h.r4 hk (fun g hg => hn g (.inr (.inr (.inr (.inr hg))))), h.dis, h.hB⟩
theorem Four.below (h : Four W B xb lb mb sv rv tv wv ss rs ts ws) (hb : Below W.heap.size W W') : Four W' B xb lb mb sv rv tv wv ss rs ts ws := h.kept (Kp.of_below (fun _ => False) hb) (fun _ _ => id)
/-- A block of the record is of one of four kinds. -/
theorem Four.kind (h : Four W B xb lb mb sv rv tv wv ss rs ts ws) {j : Nat} (hj : SF xb sv rv tv wv j) : B ≤ j ∧ ∃ cs t, Blk W j cs t ∧ (t = 32 ∨ t = 33 ∨ t = 39 ∨ t = 41) := by
  rcases hj with rfl | e | e | e | e
  · exact ⟨h.hB, _, _, h.here, .inl rfl⟩
  · obtain ⟨c, hc, hb⟩ := rowG_type h.r1 e; exact ⟨hb, c, _, hc, .inr (.inl rfl)⟩
  · obtain ⟨c, hc, hb⟩ := rowG_type h.r2 e; exact ⟨hb, c, _, hc, .inr (.inr (.inl rfl))⟩
  · obtain ⟨c, hc, hb⟩ := rowG_type h.r3 e; exact ⟨hb, c, _, hc, .inr (.inr (.inr rfl))⟩
  · obtain ⟨c, hc, hb⟩ := rowG_type h.r4 e; exact ⟨hb, c, _, hc, .inr (.inr (.inr rfl))⟩
theorem Four.apart (h : Four W B xb lb mb sv rv tv wv ss rs ts ws) {g : Nat} {cs : List Value} {t : TypeId} (hg : Blk W g cs t) (h1 : t ≠ 32) (h2 : t ≠ 33) (h3 : t ≠ 39) (h4 : t ≠ 41) : ¬ SF xb sv rv tv wv g := fun hs => by
  obtain ⟨_, c, t', hc, e | e | e | e⟩ := h.kind hs
  · exact Blk.ne hg hc (by rw [e]; exact h1) rfl
  · exact Blk.ne hg hc (by rw [e]; exact h2) rfl
  · exact Blk.ne hg hc (by rw [e]; exact h3) rfl
  · exact Blk.ne hg hc (by rw [e]; exact h4) rfl
theorem Four.ot (h : Four W B xb lb mb sv rv tv wv ss rs ts ws) {j : Nat} (hj : SF xb sv rv tv wv j) : B ≤ j ∧ ∃ cs t, Blk W j cs t ∧ Oth t := by
  obtain ⟨hb, c, t, hc, e⟩ := h.kind hj
  refine ⟨hb, c, t, hc, ?_⟩
  rcases e with rfl | rfl | rfl | rfl <;> decide
theorem Four.ko (h : Four W B xb lb mb sv rv tv wv ss rs ts ws) (hk : Ko W W') : Four W' B xb lb mb sv rv tv wv ss rs ts ws :=
  ⟨hk _ _ _ h.here (by decide), hk.row (by decide) h.r1, hk.row (by decide) h.r2, hk.row (by decide) h.r3, hk.row (by decide) h.r4, h.dis, h.hB⟩
end
theorem rowG_ne {w : World} {B B' n n' : Nat} {v v' : Value} {e e' : TypeId} {xs xs' : List Value} (h : w.ownsRow B e 1 v n xs) (h' : w.ownsRow B' e' 1 v' n' xs') (hne : e ≠ e') : ∀ g, v.ownBlock = some g → v'.ownBlock ≠ some g := fun g hg hg' => by
  obtain ⟨c, hc, _⟩ := rowG_type h hg
  obtain ⟨c', hc', _⟩ := rowG_type h' hg'
  exact Blk.ne hc hc' hne rfl
theorem rowG_blk {w : World} {B n b : Nat} {v : Value} {e e' : TypeId} {xs cs : List Value} (h : w.ownsRow B e 1 v n xs) (hb : Blk w b cs e') (hne : e ≠ e') : ∀ g, v.ownBlock = some g → g ≠ b := fun g hg => by
  obtain ⟨c, hc, _⟩ := rowG_type h hg
  exact Blk.ne hc hb hne
section
variable {W W1 W2 : World} {B xb lb mb : Nat} {sv rv tv wv u x : Value} {ss rs ts ws : List Value}
theorem Four.pushS (h : Four W B xb lb mb sv rv tv wv ss rs ts ws) (hw : Below W.heap.size W W1) (ho : W2.ownsRow B 33 1 u (ss.length + 1) (ss ++ [x])) (hk : Kp (fun j => sv.ownBlock = some j) W1 W2) (hs : SameOrNew W1 sv u) :
    Blk W2 xb [.pointer (some ⟨lb, 0, none⟩), .pointer (some ⟨mb, 0, none⟩), sv, rv, tv, wv] 32 ∧ Four (W2.setCell ⟨xb, 2, none⟩ u) B xb lb mb u rv tv wv (ss ++ [x]) rs ts ws ∧ Kp (fun j => j = xb ∨ sv.ownBlock = some j) W (W2.setCell ⟨xb, 2, none⟩ u) ∧ SameOrNew W sv u := by
  have h0 := h.below hw
  have hsz := hw.size
  have b2 : Blk W2 xb _ 32 := h0.here.kept hk (fun e => rowG_blk h0.r1 h0.here (by decide) _ e rfl)
  have k1 : Kp (fun j => j = xb) W2 (W2.setCell ⟨xb, 2, none⟩ u) := Kp.setCell _ _ _
  have qr := rowG_kept h0.r2 hk (fun g hg e => rowG_ne h0.r2 h0.r1 (by decide) g hg e)
  have qt := rowG_kept h0.r3 hk (fun g hg e => rowG_ne h0.r3 h0.r1 (by decide) g hg e)
  have qw := rowG_kept h0.r4 hk (fun g hg e => rowG_ne h0.r4 h0.r1 (by decide) g hg e)
  refine ⟨b2, ⟨b2.set 2 u, (by rw [show (ss ++ [x]).length = ss.length + 1 by simp]; exact rowG_kept ho k1 (rowG_blk ho b2 (by decide))), rowG_kept qr k1 (rowG_blk qr b2 (by decide)), rowG_kept qt k1 (rowG_blk qt b2 (by decide)), rowG_kept qw k1 (rowG_blk qw b2 (by decide)), ?_, h.hB⟩, ?_, hs.imp id (fun h g hg => by have := h g hg; omega)⟩
  · exact h.dis
  · exact ((Kp.of_below _ hw).trans (hk.mono (fun k _ e => .inr e)) (fun _ _ e => e)).trans k1 (fun k _ e => .inl e)
theorem Four.pushR (h : Four W B xb lb mb sv rv tv wv ss rs ts ws) (hw : Below W.heap.size W W1) (ho : W2.ownsRow B 39 1 u (rs.length + 1) (rs ++ [x])) (hk : Kp (fun j => rv.ownBlock = some j) W1 W2) (hs : SameOrNew W1 rv u) :
    Blk W2 xb [.pointer (some ⟨lb, 0, none⟩), .pointer (some ⟨mb, 0, none⟩), sv, rv, tv, wv] 32 ∧ Four (W2.setCell ⟨xb, 3, none⟩ u) B xb lb mb sv u tv wv ss (rs ++ [x]) ts ws ∧ Kp (fun j => j = xb ∨ rv.ownBlock = some j) W (W2.setCell ⟨xb, 3, none⟩ u) ∧ SameOrNew W rv u := by
  have h0 := h.below hw
  have hsz := hw.size
  have b2 : Blk W2 xb _ 32 := h0.here.kept hk (fun e => rowG_blk h0.r2 h0.here (by decide) _ e rfl)
  have k1 : Kp (fun j => j = xb) W2 (W2.setCell ⟨xb, 3, none⟩ u) := Kp.setCell _ _ _
  have qs := rowG_kept h0.r1 hk (fun g hg e => rowG_ne h0.r1 h0.r2 (by decide) g hg e)
  have qt := rowG_kept h0.r3 hk (fun g hg e => rowG_ne h0.r3 h0.r2 (by decide) g hg e)
  have qw := rowG_kept h0.r4 hk (fun g hg e => rowG_ne h0.r4 h0.r2 (by decide) g hg e)
  refine ⟨b2, ⟨b2.set 3 u, rowG_kept qs k1 (rowG_blk qs b2 (by decide)), (by rw [show (rs ++ [x]).length = rs.length + 1 by simp]; exact rowG_kept ho k1 (rowG_blk ho b2 (by decide))), rowG_kept qt k1 (rowG_blk qt b2 (by decide)), rowG_kept qw k1 (rowG_blk qw b2 (by decide)), ?_, h.hB⟩, ?_, hs.imp id (fun h g hg => by have := h g hg; omega)⟩
  · exact h.dis
  · exact ((Kp.of_below _ hw).trans (hk.mono (fun k _ e => .inr e)) (fun _ _ e => e)).trans k1 (fun k _ e => .inl e)
theorem Four.pushT (h : Four W B xb lb mb sv rv tv wv ss rs ts ws) (hw : Below W.heap.size W W1) (ho : W2.ownsRow B 41 1 u (ts.length + 1) (ts ++ [x])) (hk : Kp (fun j => tv.ownBlock = some j) W1 W2) (hs : SameOrNew W1 tv u) :
    Blk W2 xb [.pointer (some ⟨lb, 0, none⟩), .pointer (some ⟨mb, 0, none⟩), sv, rv, tv, wv] 32 ∧ Four (W2.setCell ⟨xb, 4, none⟩ u) B xb lb mb sv rv u wv ss rs (ts ++ [x]) ws ∧ Kp (fun j => j = xb ∨ tv.ownBlock = some j) W (W2.setCell ⟨xb, 4, none⟩ u) ∧ SameOrNew W tv u := by
  have h0 := h.below hw
  have hsz := hw.size
  have b2 : Blk W2 xb _ 32 := h0.here.kept hk (fun e => rowG_blk h0.r3 h0.here (by decide) _ e rfl)
  have k1 : Kp (fun j => j = xb) W2 (W2.setCell ⟨xb, 4, none⟩ u) := Kp.setCell _ _ _
  have qs := rowG_kept h0.r1 hk (fun g hg e => rowG_ne h0.r1 h0.r3 (by decide) g hg e)
  have qr := rowG_kept h0.r2 hk (fun g hg e => rowG_ne h0.r2 h0.r3 (by decide) g hg e)
  have qw := rowG_kept h0.r4 hk (fun g hg e => h.dis g e hg)
  refine ⟨b2, ⟨b2.set 4 u, rowG_kept qs k1 (rowG_blk qs b2 (by decide)), rowG_kept qr k1 (rowG_blk qr b2 (by decide)), (by rw [show (ts ++ [x]).length = ts.length + 1 by simp]; exact rowG_kept ho k1 (rowG_blk ho b2 (by decide))), rowG_kept qw k1 (rowG_blk qw b2 (by decide)), ?_, h.hB⟩, ?_, hs.imp id (fun h g hg => by have := h g hg; omega)⟩
  · intro g hg e
    rcases hs with hs | hs
    · rw [hs] at hg; exact h.dis g hg e
    · have := hs g hg; have := (h0.r4.lt g e).2; omega
  · exact ((Kp.of_below _ hw).trans (hk.mono (fun k _ e => .inr e)) (fun _ _ e => e)).trans k1 (fun k _ e => .inl e)
theorem Four.pushW (h : Four W B xb lb mb sv rv tv wv ss rs ts ws) (hw : Below W.heap.size W W1) (ho : W2.ownsRow B 41 1 u (ws.length + 1) (ws ++ [x])) (hk : Kp (fun j => wv.ownBlock = some j) W1 W2) (hs : SameOrNew W1 wv u) :
    Blk W2 xb [.pointer (some ⟨lb, 0, none⟩), .pointer (some ⟨mb, 0, none⟩), sv, rv, tv, wv] 32 ∧ Four (W2.setCell ⟨xb, 5, none⟩ u) B xb lb mb sv rv tv u ss rs ts (ws ++ [x]) ∧ Kp (fun j => j = xb ∨ wv.ownBlock = some j) W (W2.setCell ⟨xb, 5, none⟩ u) ∧ SameOrNew W wv u := by
  have h0 := h.below hw
  have hsz := hw.size
  have b2 : Blk W2 xb _ 32 := h0.here.kept hk (fun e => rowG_blk h0.r4 h0.here (by decide) _ e rfl)
  have k1 : Kp (fun j => j = xb) W2 (W2.setCell ⟨xb, 5, none⟩ u) := Kp.setCell _ _ _
  have qs := rowG_kept h0.r1 hk (fun g hg e => rowG_ne h0.r1 h0.r4 (by decide) g hg e)
  have qr := rowG_kept h0.r2 hk (fun g hg e => rowG_ne h0.r2 h0.r4 (by decide) g hg e)
  have qt := rowG_kept h0.r3 hk (fun g hg e => h.dis g hg e)
  refine ⟨b2, ⟨b2.set 5 u, rowG_kept qs k1 (rowG_blk qs b2 (by decide)), rowG_kept qr k1 (rowG_blk qr b2 (by decide)), rowG_kept qt k1 (rowG_blk qt b2 (by decide)), (by rw [show (ws ++ [x]).length = ws.length + 1 by simp]; exact rowG_kept ho k1 (rowG_blk ho b2 (by decide))), ?_, h.hB⟩, ?_, hs.imp id (fun h g hg => by have := h g hg; omega)⟩
  · intro g hg e
    rcases hs with hs | hs
    · rw [hs] at e; exact h.dis g hg e
    · have := hs g e; have := (h0.r3.lt g hg).2; omega
  · exact ((Kp.of_below _ hw).trans (hk.mono (fun k _ e => .inr e)) (fun _ _ e => e)).trans k1 (fun k _ e => .inl e)
end
theorem rowG_slice {w : World} {B n : Nat} {v : Value} {e : TypeId} {xs : List Value} (h : w.ownsRow B e 1 v n xs) : ∃ a c, v = .slice a n c := by
  obtain ⟨_, ⟨rfl, rfl⟩ | ⟨g, cap, cur, rfl, _⟩⟩ := h
  · exact ⟨_, _, rfl⟩
  · exact ⟨_, _, rfl⟩
theorem tell16 (B xb lb mb n : Nat) (sv rv tv wv b c : Value) (ss rs ts ws : List Value) (f : Nat → Int) (w : World) (h : Four w B xb lb mb sv rv tv wv ss rs ts ws) (hb : ∀ w', Kp (SF xb sv rv tv wv) w w' → By.RB w' b n f) (hc : ∀ w', Kp (SF xb sv rv tv wv) w w' → By.RB w' c n f) (hn : n ≤ 140737488355328) (hB : B ≤ w.heap.size) (ht : ts.length ≤ 1000000) (hwl : ws.length ≤ 1000000) :
    Calls Tryz.prog 11 #[.pointer (some ⟨xb, 0, none⟩), b, c] w fun e w' => e = .returned (.bool true) ∧ ∃ tv' wv', Four w' B xb lb mb sv rv tv' wv' ss rs (ts ++ [b]) (ws ++ [c]) ∧ Kp (SF xb sv rv tv wv) w w' ∧ SameOrNew w tv tv' ∧ SameOrNew w wv wv' := by
  obtain ⟨xa, xc, rfl⟩ : ∃ a cap, b = .slice a n cap := by obtain ⟨_, a, cap, e, _⟩ := hb w (Kp.refl _ _); exact ⟨a, cap, e⟩
  obtain ⟨ya, yc, rfl⟩ : ∃ a cap, c = .slice a n cap := by obtain ⟨_, a, cap, e, _⟩ := hc w (Kp.refl _ _); exact ⟨a, cap, e⟩
  have HX := hid hb
  have HY := hid hc
  have H := hid h
  have c4 := h.here.cell 4 _ rfl
  have f4 := h.here.frozen 4
  have hlt := h.here.lt
  obtain ⟨tn, htn⟩ : ∃ m, ts.length = m := ⟨_, rfl⟩
  obtain ⟨wn, hwn⟩ : ∃ m, ws.length = m := ⟨_, rfl⟩
  have TN := hid htn
  have WN := hid hwn
  have R3 : Hid (w.ownsRow B 41 1 tv tn ts) := by have := h.r3; rw [htn] at this; exact this
  have R4 : Hid (w.ownsRow B 41 1 wv wn ws) := by have := h.r4; rw [hwn] at this; exact this
  rw [htn] at ht
  rw [hwn] at hwl
  obtain ⟨ta, tc, rfl⟩ := rowG_slice R3.out
  obtain ⟨wa, wc, rfl⟩ := rowG_slice R4.out
  clear hb hc h htn hwn
  go_enter Tryz.func11, Tryz.ntmps11
  go_wp2_with (at_builtin; go_must (refine wpList_pushG 30 41 (.slice none 0 0) 24 Tryz.underlying30 infoY rfl (by decide) rfl _ _ rfl B _ tn ts _ (rowG_kept R3.out (Kp.of_below (fun _ => False) (below_alloc _ _)) (fun _ _ => id)) rfl ?c1 ?c2 ⟨_, 0, none⟩ rfl rfl (cell_newG _ _ _ _ rfl) ?_))
  case c1 => simp; omega
  case c2 => omega
  intro u1 w1 hown hkp hson
  obtain ⟨b1, t1, k1, s1⟩ := H.out.pushT (below_alloc w _) (by rw [TN.out]; exact hown) hkp hson
  obtain ⟨ua, uc, rfl⟩ := rowG_slice hown
  have hsz1 := hkp.size
  have hz1 : w.heap.size ≤ w1.heap.size := by simp at hsz1; omega
  have d4 := b1.cell 4 _ rfl
  have d5 := b1.cell 5 _ rfl
  have g4 := b1.frozen 4
  have hlt1 := b1.lt
  have T1 := hid t1
  have K1 := hid k1
  have S1 := hid s1
  have e5 := t1.here.cell 5 _ rfl
  have hset : (w1.setCell ⟨xb, 4, none⟩ (.slice ua (tn + 1) uc)).heap.size = w1.heap.size := by simp [World.setCell]
  have R4' : Hid ((w1.setCell ⟨xb, 4, none⟩ (.slice ua (tn + 1) uc)).ownsRow B 41 1 (.slice wa wn wc) wn ws) := by have := t1.r4; rw [WN.out] at this; exact this
  clear hown hkp hson b1 t1 k1 s1 hsz1
  go_wp2_with (at_builtin; go_must (refine wpList_pushG 30 41 (.slice none 0 0) 24 Tryz.underlying30 infoY rfl (by decide) rfl _ _ rfl B _ wn ws _ (rowG_kept R4'.out (Kp.of_below (fun _ => False) (below_alloc _ _)) (fun _ _ => id)) rfl ?c1 ?c2 ⟨_, 0, none⟩ rfl rfl (cell_newG _ _ _ _ (by simp)) ?_))
  case c1 => simp; omega
  case c2 => omega
  intro u2 w2 hown hkp hson
  obtain ⟨b2, t2, k2, s2⟩ := T1.out.pushW (below_alloc _ _) (by rw [WN.out]; exact hown) hkp hson
  obtain ⟨ub, ud, rfl⟩ := rowG_slice hown
  have e4 := b2.cell 4 _ rfl
  have e6 := b2.cell 5 _ rfl
  have i5 := b2.frozen 5
  have T2 := hid t2
  have KK : Hid (Kp (SF xb sv rv (.slice ta tn tc) (.slice wa wn wc)) w (w2.setCell ⟨xb, 5, none⟩ (.slice ub (wn + 1) ud))) := by
    refine (K1.out.mono (fun j _ e => ?_)).trans k2 (fun j _ e => ?_)
    · exact e.elim .inl (fun e => .inr (.inr (.inr (.inl e))))
    · exact e.elim .inl (fun e => .inr (.inr (.inr (.inr e))))
  have S2 : Hid (SameOrNew w (.slice wa wn wc) (.slice ub (wn + 1) ud)) := s2.imp id (fun h g hg => by have := h g hg; omega)
  clear hown hkp hson b2 t2 k2 s2
  go_wp2_with fail
  have RX := hid (HX.out _ KK.out)
  have RY := hid (HY.out _ KK.out)
  refine (same_true _ _ n f f _ RX.out RY.out (by omega) (fun _ _ => rfl)).mono ?_
  rintro e w3 ⟨rfl, d, rfl⟩
  go_wp2
  go_ret
  exact ⟨by simp, _, _, T2.out.below (below_drewN _ _), KK.out.trans (Kp.of_below _ (below_drewN _ _)) (fun _ _ e => e), S1.out, S2.out⟩
end Go.Proofs.YtpgkalgnlkfmaaaGreatDoor.Dg
