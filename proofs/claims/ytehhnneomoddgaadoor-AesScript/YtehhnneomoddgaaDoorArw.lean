/- What AesScript was told: two lists of forms, gone on with. -/
import Derived.Test.YtehhnneomoddgaaDoorYs
import Derived.Test.YtehhnneomoddgaaDoorAslot
import Derived.Deep.AppendLies
namespace Go.Proofs.YtehhnneomoddgaaDoor.Ae
open Go.ChangeShapes Go.WideShapes Go.ChangeAt Go.RowKit
open Go.Proofs.YtehhnneomoddgaaDoor.By Go.Proofs.YtehhnneomoddgaaDoor.Gf
open Go.Proofs.YtehhnneomoddgaaDoor.Kc (own_kept own_mono own8_type)
theorem rowG_type {w : World} {base n g : Nat} {v : Value} {e : TypeId} {xs : List Value} (h : w.ownsRow base e 1 v n xs) (hg : v.ownBlock = some g) : ∃ cs, Blk w g cs e ∧ base ≤ g := by
  obtain ⟨_, h' | ⟨g', cap, cur, e', hb, hc, _⟩⟩ := h
  · rw [h'.1] at hg; simp [Value.ownBlock] at hg
  · rw [e'] at hg; simp [Value.ownBlock] at hg
    subst hg
    exact ⟨cur.toList, by show w.heap[g']? = _; rw [hc], hb⟩
theorem rowG_kept {w w' : World} {base n : Nat} {v : Value} {e : TypeId} {xs : List Value} {S : Nat → Prop} (h : w.ownsRow base e 1 v n xs) (hk : Kp S w w') (hne : ∀ g, v.ownBlock = some g → ¬ S g) : w'.ownsRow base e 1 v n xs := by
  obtain ⟨hl, h | ⟨g, cap, cur, rfl, hb, hc, h1, h2, h3, h4⟩⟩ := h
  · exact ⟨hl, .inl h⟩
  · refine ⟨hl, .inr ⟨g, cap, cur, rfl, hb, ?_, h1, h2, h3, h4⟩⟩
    rw [hk.block g (Array.getElem?_eq_some_iff.1 hc).1 (hne g rfl)]; exact hc
theorem rowG_slice {w : World} {B n : Nat} {v : Value} {e : TypeId} {xs : List Value} (h : w.ownsRow B e 1 v n xs) : ∃ a c, v = .slice a n c := by
  obtain ⟨_, ⟨rfl, rfl⟩ | ⟨g, cap, cur, rfl, _⟩⟩ := h
  · exact ⟨_, _, rfl⟩
  · exact ⟨_, _, rfl⟩
theorem cell_newG (w : World) (v : Value) (t : TypeId) (g : Nat) (hg : g = w.heap.size) : ∀ j u, [v][j]? = some u → (w.alloc (.cells #[v] t)).cell? ((⟨g, 0, none⟩ : Addr).add j) = some u := by
  subst hg
  have h := World.ownsRow_lit (base := 0) (e := t) (size := 1) w #[v] 1 (Nat.zero_le _) (by simp [maxLen]) rfl
  exact h.cells rfl
theorem infoY : (Tryd.prog.info? 22).map (fun i => (i.zero, i.size, i.bytes)) = some (some (.slice none 0 0), 1, 24) := by kernel_rfl
/-- What was told: both answers, how many bytes, which. -/
structure TE where
  a : Value
  b : Value
  n : Nat
  f : Nat → Int
structure TL (W : World) (B : Nat) (tl : List TE) : Prop where
  own : ∀ q ∈ tl, By.Own W B q.a q.n q.f ∧ By.Own W B q.b q.n q.f
  ap : tl.Pairwise (fun p q => p.a.ownBlock = none ∨ p.a.ownBlock ≠ q.a.ownBlock)
  sz : ∀ q ∈ tl, q.n ≤ 65536
/-- The rows of what was told. -/
structure RW (W : World) (B : Nat) (tv wv : Value) (ts ws : List Value) (tl : List TE) : Prop where
  r3 : W.ownsRow B 22 1 tv ts.length ts
  r4 : W.ownsRow B 22 1 wv ws.length ws
  dis : ∀ g, tv.ownBlock = some g → wv.ownBlock ≠ some g
  tl : TL W B tl
theorem Kz.own {W W' : World} (h : Kz W W') {base n : Nat} {v : Value} {f : Nat → Int} (ho : By.Own W base v n f) : By.Own W' base v n f := by
  obtain ⟨hf, hl, h' | ⟨g, cap, cur, rfl, hb, hc, h1, h2, h3, h4⟩⟩ := ho
  · exact ⟨hf, hl, .inl h'⟩
  · refine ⟨hf, hl, .inr ⟨g, cap, cur, rfl, hb, ?_, h1, h2, h3, h4⟩⟩
    exact h g cur.toList 5 (by show W.heap[g]? = _; rw [hc]) (.inl rfl)
theorem Kz.row {W W' : World} (h : Kz W W') {base n : Nat} {v : Value} {xs : List Value} (ho : W.ownsRow base 22 1 v n xs) : W'.ownsRow base 22 1 v n xs := by
  obtain ⟨hl, h' | ⟨g, cap, cur, rfl, hb, hc, h1, h2, h3, h4⟩⟩ := ho
  · exact ⟨hl, .inl h'⟩
  · refine ⟨hl, .inr ⟨g, cap, cur, rfl, hb, ?_, h1, h2, h3, h4⟩⟩
    exact h g cur.toList 22 (by show W.heap[g]? = _; rw [hc]) (.inr rfl)
theorem TL.kz {W W' : World} {B : Nat} {tl : List TE} (h : TL W B tl) (hk : Kz W W') : TL W' B tl := ⟨fun q hq => ⟨hk.own (h.own q hq).1, hk.own (h.own q hq).2⟩, h.ap, h.sz⟩
theorem RW.kz {W W' : World} {B : Nat} {tv wv : Value} {ts ws : List Value} {tl : List TE} (h : RW W B tv wv ts ws tl) (hk : Kz W W') : RW W' B tv wv ts ws tl := ⟨hk.row h.r3, hk.row h.r4, h.dis, h.tl.kz hk⟩
/-- The property that the pair's record carries. -/
def RX (w0 : World) (tv wv : Value) (ts ws : List Value) (tl : List TE) (W : World) : Prop := RW W w0.heap.size tv wv ts ws tl
theorem RX.exk {w0 : World} {tv wv : Value} {ts ws : List Value} {tl : List TE} : ∀ V V', Kz V V' → RX w0 tv wv ts ws tl V → RX w0 tv wv ts ws tl V' := fun _ _ hk h => RW.kz h hk
theorem TL.old {W : World} {B : Nat} {tl : List TE} (h : TL W B tl) : ∀ q ∈ tl, ∀ g, q.a.ownBlock = some g → g < W.heap.size := fun q hq g hg => by
  obtain ⟨c, hc⟩ := own8_type (h.own q hq).1 hg
  exact (Array.getElem?_eq_some_iff.1 hc).1
section
variable {w0 W W' W1 W2 : World} {xb lb mb : Nat} {lv mv tv wv u x : Value} {cv rv : Nat → Value} {D E : Nat → KD} {L M : List Rn} {ts ws ts' ws' : List Value} {tl tl' : List TE} {tv' wv' : Value}
/-- The blocks that an append to either list may turn. -/
def SF (xb : Nat) (tv wv : Value) (j : Nat) : Prop := j = xb ∨ tv.ownBlock = some j ∨ wv.ownBlock = some j
theorem PS.sf_ty (h : PS (RX w0 tv wv ts ws tl) w0 xb lb mb lv mv tv wv cv rv D E L M W) {g : Nat} {cs : List Value} {t : TypeId} (hg : Blk W g cs t) (h1 : t ≠ 35) (h2 : t ≠ 22) : ¬ SF xb tv wv g := by
  rintro (e | e | e)
  · subst e; exact h1 (blk_ty hg h.here)
  · obtain ⟨c, hc, _⟩ := rowG_type h.ex.r3 e; exact h2 (blk_ty hg hc)
  · obtain ⟨c, hc, _⟩ := rowG_type h.ex.r4 e; exact h2 (blk_ty hg hc)
theorem PS.sf_B (h : PS (RX w0 tv wv ts ws tl) w0 xb lb mb lv mv tv wv cv rv D E L M W) (g : Nat) (hg : SF xb tv wv g) : w0.heap.size ≤ g := by
  rcases hg with e | e | e
  · rw [e]; exact h.xB
  · exact (rowG_type h.ex.r3 e).choose_spec.2
  · exact (rowG_type h.ex.r4 e).choose_spec.2
theorem PS.sf_own (h : PS (RX w0 tv wv ts ws tl) w0 xb lb mb lv mv tv wv cv rv D E L M W) (hk : Kp (SF xb tv wv) W W') {base n : Nat} {v : Value} {f : Nat → Int} (ho : By.Own W base v n f) : By.Own W' base v n f := by
  refine own_kept ho hk (fun g hg => ?_)
  obtain ⟨c, hc⟩ := own8_type ho hg
  exact h.sf_ty (cs := c.toList) (t := 5) (by show W.heap[g]? = _; rw [hc]) (by decide) (by decide)
theorem PS.turnX (h : PS (RX w0 tv wv ts ws tl) w0 xb lb mb lv mv tv wv cv rv D E L M W) (hk : Kp (SF xb tv wv) W W') (hx : Blk W' xb (pairC cv rv lb mb tv' wv') 35) (hX : RX w0 tv' wv' ts' ws' tl' W') : PS (RX w0 tv' wv' ts' ws' tl') w0 xb lb mb lv mv tv' wv' cv rv D E L M W' := by
  have keep : ∀ g cs t, Blk W g cs t → t ≠ 35 → t ≠ 22 → Blk W' g cs t := fun g cs t hg h1 h2 => hg.kept hk (h.sf_ty hg h1 h2)
  exact ⟨h.bel.trans (hk.below h.size (fun j hj e => by have := h.sf_B j e; omega)), hx, h.xB, h.lB, h.mB,
    h.led.kept hk (h.sf_ty (show Blk W _ _ 47 from h.led.here) (by decide) (by decide)) (fun g hg => by obtain ⟨cs, hc⟩ := own_blk h.led.own hg; exact h.sf_ty hc (by decide) (by decide)),
    h.rled.kept hk (h.sf_ty (show Blk W _ _ 49 from h.rled.here) (by decide) (by decide)) (fun g hg => by obtain ⟨cs, hc⟩ := own_blk h.rled.own hg; exact h.sf_ty hc (by decide) (by decide)),
    h.lvB, h.mvB, h.dis, fun j hj => (h.pc j hj).blks (fun g cs _ hg => keep g cs _ hg (by decide) (by decide)), fun j hj => (h.qc j hj).blks (fun g cs _ hg => keep g cs _ hg (by decide) (by decide)) (fun g cs hg => keep g cs _ hg (by decide) (by decide)) (fun g cs hg => keep g cs _ hg (by decide) (by decide)), h.pB, h.qB, h.pne, h.qne, h.km, h.ku, RX.exk, hX⟩
theorem pair_t (cv rv : Nat → Value) (lb mb : Nat) (tv wv u : Value) : (pairC cv rv lb mb tv wv).set 6 u = pairC cv rv lb mb u wv := rfl
theorem pair_w (cv rv : Nat → Value) (lb mb : Nat) (tv wv u : Value) : (pairC cv rv lb mb tv wv).set 7 u = pairC cv rv lb mb tv u := rfl
theorem PS.rowX (h : PS (RX w0 tv wv ts ws tl) w0 xb lb mb lv mv tv wv cv rv D E L M W) {B n : Nat} {v : Value} {xs : List Value} (hr : W.ownsRow B 22 1 v n xs) : ∀ g, v.ownBlock = some g → g ≠ xb := fun g hg e => by
  obtain ⟨c, hc, _⟩ := rowG_type hr hg
  subst e
  exact absurd (blk_ty hc h.here) (by decide)
theorem PS.pushT (h : PS (RX w0 tv wv ts ws tl) w0 xb lb mb lv mv tv wv cv rv D E L M W) (hw : Below W.heap.size W W1) (ho : W2.ownsRow w0.heap.size 22 1 u (ts.length + 1) (ts ++ [x])) (hk : Kp (fun j => tv.ownBlock = some j) W1 W2) (hs : SameOrNew W1 tv u) :
    Blk W2 xb (pairC cv rv lb mb tv wv) 35 ∧ PS (RX w0 u wv (ts ++ [x]) ws tl) w0 xb lb mb lv mv u wv cv rv D E L M (W2.setCell ⟨xb, 6, none⟩ u) ∧ Kp (SF xb tv wv) W (W2.setCell ⟨xb, 6, none⟩ u) := by
  have h0 := h.below hw
  have hsz := hw.size
  have b2 : Blk W2 xb _ 35 := h0.here.kept hk (fun e => h0.rowX h0.ex.r3 _ e rfl)
  have k1 : Kp (fun j => j = xb) W2 (W2.setCell ⟨xb, 6, none⟩ u) := Kp.setCell _ _ _
  have ka : Kp (SF xb tv wv) W (W2.setCell ⟨xb, 6, none⟩ u) := ((Kp.of_below _ hw).trans (hk.mono (fun k _ e => .inr (.inl e))) (fun _ _ e => e)).trans (k1.mono (fun _ _ e => .inl e)) (fun k _ e => e)
  have nx : ∀ g, u.ownBlock = some g → g ≠ xb := fun g hg e => by
    obtain ⟨c, hc, _⟩ := rowG_type ho hg
    subst e
    exact absurd (blk_ty hc b2) (by decide)
  have qw := rowG_kept h0.ex.r4 hk (fun g hg e => h.ex.dis g e hg)
  have nw : ∀ g, wv.ownBlock = some g → g ≠ xb := h0.rowX h0.ex.r4
  refine ⟨b2, h.turnX ka (b2.set 6 u) ⟨(by rw [show (ts ++ [x]).length = ts.length + 1 by simp]; exact rowG_kept ho k1 nx), rowG_kept qw k1 nw, fun g hg e => ?_, ⟨fun q hq => ⟨h.sf_own ka (h.ex.tl.own q hq).1, h.sf_own ka (h.ex.tl.own q hq).2⟩, h.ex.tl.ap, h.ex.tl.sz⟩⟩, ka⟩
  rcases hs with hs | hs
  · rw [hs] at hg; exact h.ex.dis g hg e
  · have := hs g hg; have := (h0.ex.r4.lt g e).2; omega
theorem PS.pushW (h : PS (RX w0 tv wv ts ws tl) w0 xb lb mb lv mv tv wv cv rv D E L M W) (hw : Below W.heap.size W W1) (ho : W2.ownsRow w0.heap.size 22 1 u (ws.length + 1) (ws ++ [x])) (hk : Kp (fun j => wv.ownBlock = some j) W1 W2) (hs : SameOrNew W1 wv u) :
    Blk W2 xb (pairC cv rv lb mb tv wv) 35 ∧ PS (RX w0 tv u ts (ws ++ [x]) tl) w0 xb lb mb lv mv tv u cv rv D E L M (W2.setCell ⟨xb, 7, none⟩ u) ∧ Kp (SF xb tv wv) W (W2.setCell ⟨xb, 7, none⟩ u) := by
  have h0 := h.below hw
  have hsz := hw.size
  have b2 : Blk W2 xb _ 35 := h0.here.kept hk (fun e => h0.rowX h0.ex.r4 _ e rfl)
  have k1 : Kp (fun j => j = xb) W2 (W2.setCell ⟨xb, 7, none⟩ u) := Kp.setCell _ _ _
  have ka : Kp (SF xb tv wv) W (W2.setCell ⟨xb, 7, none⟩ u) := ((Kp.of_below _ hw).trans (hk.mono (fun k _ e => .inr (.inr e))) (fun _ _ e => e)).trans (k1.mono (fun _ _ e => .inl e)) (fun k _ e => e)
  have nx : ∀ g, u.ownBlock = some g → g ≠ xb := fun g hg e => by
    obtain ⟨c, hc, _⟩ := rowG_type ho hg
    subst e
    exact absurd (blk_ty hc b2) (by decide)
  have qt := rowG_kept h0.ex.r3 hk (fun g hg e => h.ex.dis g hg e)
  have nt : ∀ g, tv.ownBlock = some g → g ≠ xb := h0.rowX h0.ex.r3
  refine ⟨b2, h.turnX ka (b2.set 7 u) ⟨rowG_kept qt k1 nt, (by rw [show (ws ++ [x]).length = ws.length + 1 by simp]; exact rowG_kept ho k1 nx), fun g hg e => ?_, ⟨fun q hq => ⟨h.sf_own ka (h.ex.tl.own q hq).1, h.sf_own ka (h.ex.tl.own q hq).2⟩, h.ex.tl.ap, h.ex.tl.sz⟩⟩, ka⟩
  rcases hs with hs | hs
  · rw [hs] at e; exact h.ex.dis g hg e
  · have := hs g e; have := (h0.ex.r3.lt g hg).2; omega
/-- Both answers are told. -/
theorem PS.told (h : PS (RX w0 tv wv (tl.map (·.a) ++ [u]) (tl.map (·.b) ++ [x]) tl) w0 xb lb mb lv mv tv wv cv rv D E L M W) (n N : Nat) (f : Nat → Int) (ha : By.Own W N u n f) (hb : By.Own W w0.heap.size x n f) (hN : w0.heap.size ≤ N) (hold : ∀ q ∈ tl, ∀ g, q.a.ownBlock = some g → g < N) (hn : n ≤ 65536) :
    PS (RX w0 tv wv ((tl ++ [TE.mk u x n f]).map (·.a)) ((tl ++ [TE.mk u x n f]).map (·.b)) (tl ++ [TE.mk u x n f])) w0 xb lb mb lv mv tv wv cv rv D E L M W := by
  refine ⟨h.bel, h.here, h.xB, h.lB, h.mB, h.led, h.rled, h.lvB, h.mvB, h.dis, h.pc, h.qc, h.pB, h.qB, h.pne, h.qne, h.km, h.ku, RX.exk, ⟨by simpa using h.ex.r3, by simpa using h.ex.r4, h.ex.dis, ⟨fun q hq => ?_, ?_, fun q hq => ?_⟩⟩⟩
  · rcases List.mem_append.1 hq with hq | hq
    · exact h.ex.tl.own q hq
    · rw [List.mem_singleton.1 hq]
      exact ⟨own_mono ha hN, hb⟩
  · refine List.pairwise_append.2 ⟨h.ex.tl.ap, List.pairwise_singleton _ _, fun p hp q hq => ?_⟩
    rw [List.mem_singleton.1 hq]
    cases e1 : p.a.ownBlock with
    | none => exact .inl rfl
    | some g =>
      refine .inr (fun e2 => ?_)
      have h1 := hold p hp g e1
      have h2 := own_row ha g e2.symm
      omega
  · rcases List.mem_append.1 hq with hq | hq
    · exact h.ex.tl.sz q hq
    · rw [List.mem_singleton.1 hq]; exact hn
end
end Go.Proofs.YtehhnneomoddgaaDoor.Ae
