/- What CmacScript was told: two lists of lists, gone on with. The helper tell. The helper make of CmacScript. Between two acts of CmacScript. -/
import Derived.Test.YtbgdjjfonmoemaaDoorWj
import Derived.Deep.AppendLies
import Derived.Test.YtbgdjjfonmoemaaDoorYr
namespace Go.Proofs.YtbgdjjfonmoemaaDoor.Vm
open Go.ChangeShapes Go.WideShapes Go.ChangeAt Go.RowKit
open Go.Proofs.YtbgdjjfonmoemaaDoor.By Go.Proofs.YtbgdjjfonmoemaaDoor.Gf Go.Proofs.YtbgdjjfonmoemaaDoor.Ae
open Go.Proofs.YtbgdjjfonmoemaaDoor.Kc (own_kept own_mono own8_type)
theorem rowG_type {w : World} {base n g : Nat} {v : Value} {e : TypeId} {xs : List Value} (h : w.ownsRow base e 1 v n xs) (hg : v.ownBlock = some g) : ∃ cs, Blk w g cs e ∧ base ≤ g := by
  obtain ⟨_, h' | ⟨g', cap, cur, e', hb, hc, _⟩⟩ := h
  · rw [h'.1] at hg; simp [Value.ownBlock] at hg
  · rw [e'] at hg; simp [Value.ownBlock] at hg
    subst hg
    exact ⟨cur.toList, by show w.heap[g']? = _; rw [hc], hb⟩
theorem rowG_kept {w w' : World} {base n : Nat} {v : Value} {e : TypeId} {xs : List Value} {S : Nat → Prop} (h : w.ownsRow base e 1 v n xs) (hk : Kp S w w') (hne : ∀ g, v.ownBlock = some g → ¬ S g) : w'.ownsRow base e 1 v n xs := by
  obtain ⟨hl, h | ⟨g, cap, cur, rfl, hb, hc, h1, h2, h3, h4⟩⟩ := h
  · exact ⟨hl, .inl h⟩
  · refine ⟨hl, .inr ⟨g, cap, cur, rfl, hb, ?_, h1, h2, h3, h4⟩⟩
    rw [hk.block g (Array.getElem?_eq_some_iff.1 hc).1 (hne g rfl)]; exact hc
theorem rowG_slice {w : World} {B n : Nat} {v : Value} {e : TypeId} {xs : List Value} (h : w.ownsRow B e 1 v n xs) : ∃ a c, v = .slice a n c := by
  obtain ⟨_, ⟨rfl, rfl⟩ | ⟨g, cap, cur, rfl, _⟩⟩ := h
  · exact ⟨_, _, rfl⟩
  · exact ⟨_, _, rfl⟩
theorem cell_newG (w : World) (v : Value) (t : TypeId) (g : Nat) (hg : g = w.heap.size) : ∀ j u, [v][j]? = some u → (w.alloc (.cells #[v] t)).cell? ((⟨g, 0, none⟩ : Addr).add j) = some u := by
  subst hg
  have h := World.ownsRow_lit (base := 0) (e := t) (size := 1) w #[v] 1 (Nat.zero_le _) (by simp [maxLen]) rfl
  exact h.cells rfl
theorem infoY : (Tryd.prog.info? 22).map (fun i => (i.zero, i.size, i.bytes)) = some (some (.slice none 0 0), 1, 24) := by kernel_rfl
/-- A list of bytes of its own: a list, or sixteen bytes that are a variable. -/
def OA (W : World) (B : Nat) (v : Value) (n : Nat) (f : Nat → Int) : Prop :=
  By.Own W B v n f ∨ (n = 16 ∧ (∀ i, 0 ≤ f i ∧ f i < 256) ∧ ∃ b, v = .slice (some ⟨b, 0, none⟩) 16 16 ∧ B ≤ b ∧ Blk W b (bl 16 f) 82)
theorem Kz.own {W W' : World} (h : Kz W W') {base n : Nat} {v : Value} {f : Nat → Int} (ho : By.Own W base v n f) : By.Own W' base v n f := own_kz (fun g cs hg => h g cs _ hg (.inl rfl)) ho
theorem Kz.row {W W' : World} (h : Kz W W') {base n : Nat} {v : Value} {xs : List Value} (ho : W.ownsRow base 22 1 v n xs) : W'.ownsRow base 22 1 v n xs := by
  obtain ⟨hl, h' | ⟨g, cap, cur, rfl, hb, hc, h1, h2, h3, h4⟩⟩ := ho
  · exact ⟨hl, .inl h'⟩
  · refine ⟨hl, .inr ⟨g, cap, cur, rfl, hb, ?_, h1, h2, h3, h4⟩⟩
    exact h g cur.toList 22 (by show W.heap[g]? = _; rw [hc]) (.inr (.inl rfl))
theorem OA.kz {W W' : World} {B n : Nat} {v : Value} {f : Nat → Int} (h : OA W B v n f) (hk : Kz W W') : OA W' B v n f := by
  rcases h with h | ⟨h1, h2, b, h3, h4, h5⟩
  · exact .inl (hk.own h)
  · exact .inr ⟨h1, h2, b, h3, h4, hk _ _ _ h5 (.inr (.inr rfl))⟩
theorem OA.reads {W : World} {B n : Nat} {v : Value} {f : Nat → Int} (h : OA W B v n f) : By.RB W v n f := by
  rcases h with h | ⟨h1, h2, b, h3, h4, h5⟩
  · exact h.reads
  · subst h1 h3; exact rb_blk h5 h2 (by simp [maxLen])
theorem OA.blk {W : World} {B n g : Nat} {v : Value} {f : Nat → Int} (h : OA W B v n f) (hg : v.ownBlock = some g) : B ≤ g ∧ ∃ cs t, Blk W g cs t ∧ (t = 5 ∨ t = 82) := by
  rcases h with h | ⟨h1, h2, b, h3, h4, h5⟩
  · obtain ⟨c, hc⟩ := own8_type h hg
    exact ⟨own_ge h hg, c.toList, _, by show W.heap[g]? = _; rw [hc], .inl rfl⟩
  · subst h3
    simp [Value.ownBlock] at hg
    subst hg
    exact ⟨h4, _, _, h5, .inr rfl⟩
theorem OA.kept {W W' : World} {S : Nat → Prop} {B n : Nat} {v : Value} {f : Nat → Int} (h : OA W B v n f) (hk : Kp S W W') (hne : ∀ g, v.ownBlock = some g → ¬ S g) : OA W' B v n f := by
  rcases h with h | ⟨h1, h2, b, h3, h4, h5⟩
  · exact .inl (own_kept h hk hne)
  · exact .inr ⟨h1, h2, b, h3, h4, h5.kept hk (hne b (by rw [h3]; rfl))⟩
theorem OA.mono {W : World} {B B' n : Nat} {v : Value} {f : Nat → Int} (h : OA W B v n f) (hB : B' ≤ B) : OA W B' v n f := by
  rcases h with h | ⟨h1, h2, b, h3, h4, h5⟩
  · exact .inl (own_mono h hB)
  · exact .inr ⟨h1, h2, b, h3, Nat.le_trans hB h4, h5⟩
/-- What was told: both answers, how many bytes, which. -/
structure TE where
  a : Value
  b : Value
  n : Nat
  f : Nat → Int
structure TL (W : World) (B : Nat) (tl : List TE) : Prop where
  own : ∀ q ∈ tl, OA W B q.a q.n q.f ∧ By.Own W B q.b q.n q.f
  ap : tl.Pairwise (fun p q => p.a.ownBlock = none ∨ p.a.ownBlock ≠ q.a.ownBlock)
  sz : ∀ q ∈ tl, q.n ≤ 65536
/-- The rows of what was told. -/
structure RW (W : World) (B : Nat) (tv wv : Value) (ts ws : List Value) (tl : List TE) : Prop where
  r3 : W.ownsRow B 22 1 tv ts.length ts
  r4 : W.ownsRow B 22 1 wv ws.length ws
  dis : ∀ g, tv.ownBlock = some g → wv.ownBlock ≠ some g
  tl : TL W B tl
theorem TL.kz {W W' : World} {B : Nat} {tl : List TE} (h : TL W B tl) (hk : Kz W W') : TL W' B tl := ⟨fun q hq => ⟨(h.own q hq).1.kz hk, hk.own (h.own q hq).2⟩, h.ap, h.sz⟩
theorem RW.kz {W W' : World} {B : Nat} {tv wv : Value} {ts ws : List Value} {tl : List TE} (h : RW W B tv wv ts ws tl) (hk : Kz W W') : RW W' B tv wv ts ws tl := ⟨hk.row h.r3, hk.row h.r4, h.dis, h.tl.kz hk⟩
/-- The property that the pair's record carries. -/
def RX (w0 : World) (tv wv : Value) (ts ws : List Value) (tl : List TE) (W : World) : Prop := RW W w0.heap.size tv wv ts ws tl
theorem RX.exk {w0 : World} {tv wv : Value} {ts ws : List Value} {tl : List TE} : ∀ V V', Kz V V' → RX w0 tv wv ts ws tl V → RX w0 tv wv ts ws tl V' := fun _ _ hk h => RW.kz h hk
theorem TL.old {W : World} {B : Nat} {tl : List TE} (h : TL W B tl) : ∀ q ∈ tl, ∀ g, q.a.ownBlock = some g → g < W.heap.size := fun q hq g hg => by
  obtain ⟨_, cs, t, hc, _⟩ := (h.own q hq).1.blk hg
  exact hc.lt
section
variable {w0 W W' W1 W2 : World} {av : Nat → Prop} {xb lb mb : Nat} {lv mv tv wv u x : Value} {cv rv : Nat → Value} {cc : Nat → Nat} {D E : Nat → MD} {L M : List Rn} {ts ws ts' ws' : List Value} {tl tl' : List TE} {tv' wv' : Value}
/-- The blocks that an append to either list may turn. -/
def SF (xb : Nat) (tv wv : Value) (j : Nat) : Prop := j = xb ∨ tv.ownBlock = some j ∨ wv.ownBlock = some j
theorem PSm.sf_ty (h : PSm (RX w0 tv wv ts ws tl) w0 av xb lb mb lv mv tv wv cv rv cc D E L M W) {g : Nat} {cs : List Value} {t : TypeId} (hg : Blk W g cs t) (h1 : t ≠ 36) (h2 : t ≠ 22) : ¬ SF xb tv wv g := by
  rintro (e | e | e)
  · subst e; exact h1 (blk_ty hg h.here)
  · obtain ⟨c, hc, _⟩ := rowG_type h.ex.r3 e; exact h2 (blk_ty hg hc)
  · obtain ⟨c, hc, _⟩ := rowG_type h.ex.r4 e; exact h2 (blk_ty hg hc)
theorem PSm.sf_B (h : PSm (RX w0 tv wv ts ws tl) w0 av xb lb mb lv mv tv wv cv rv cc D E L M W) (g : Nat) (hg : SF xb tv wv g) : w0.heap.size ≤ g := by
  rcases hg with e | e | e
  · rw [e]; exact h.xB
  · exact (rowG_type h.ex.r3 e).choose_spec.2
  · exact (rowG_type h.ex.r4 e).choose_spec.2
theorem PSm.sf_own (h : PSm (RX w0 tv wv ts ws tl) w0 av xb lb mb lv mv tv wv cv rv cc D E L M W) (hk : Kp (SF xb tv wv) W W') {base n : Nat} {v : Value} {f : Nat → Int} (ho : By.Own W base v n f) : By.Own W' base v n f := by
  refine own_kept ho hk (fun g hg => ?_)
  obtain ⟨c, hc⟩ := own8_type ho hg
  exact h.sf_ty (cs := c.toList) (t := 5) (by show W.heap[g]? = _; rw [hc]) (by decide) (by decide)
theorem PSm.turnX (h : PSm (RX w0 tv wv ts ws tl) w0 av xb lb mb lv mv tv wv cv rv cc D E L M W) (hk : Kp (SF xb tv wv) W W') (hx : Blk W' xb (pairM cv rv lb mb tv' wv') 36) (hX : RX w0 tv' wv' ts' ws' tl' W') : PSm (RX w0 tv' wv' ts' ws' tl') w0 av xb lb mb lv mv tv' wv' cv rv cc D E L M W' := by
  have keep : ∀ g cs t, Blk W g cs t → t ≠ 36 → t ≠ 22 → Blk W' g cs t := fun g cs t hg h1 h2 => hg.kept hk (h.sf_ty hg h1 h2)
  exact { h with
    bel := h.bel.trans (hk.below h.size (fun j hj e => by have := h.sf_B j e; omega))
    here := hx
    led := h.led.kept hk (h.sf_ty (show Blk W _ _ 48 from h.led.here) (by decide) (by decide)) (fun g hg => by obtain ⟨cs, hc⟩ := own_blk h.led.own hg; exact h.sf_ty hc (by decide) (by decide))
    rled := h.rled.kept hk (h.sf_ty (show Blk W _ _ 50 from h.rled.here) (by decide) (by decide)) (fun g hg => by obtain ⟨cs, hc⟩ := own_blk h.rled.own hg; exact h.sf_ty hc (by decide) (by decide))
    pc := fun j hj => (h.pc j hj).blks (fun g cs _ hg => keep g cs _ hg (by decide) (by decide)) (fun _ cs hg => keep _ cs _ hg (by decide) (by decide))
    qc := fun j hj => (h.qc j hj).blks (fun g cs _ hg => keep g cs _ hg (by decide) (by decide)) (fun g cs _ hg => keep g cs _ hg (by decide) (by decide))
    exk := RX.exk
    ex := hX }
theorem PSm.sf_oa (h : PSm (RX w0 tv wv ts ws tl) w0 av xb lb mb lv mv tv wv cv rv cc D E L M W) (hk : Kp (SF xb tv wv) W W') {base n : Nat} {v : Value} {f : Nat → Int} (ho : OA W base v n f) : OA W' base v n f := by
  refine ho.kept hk (fun g hg => ?_)
  obtain ⟨_, cs, t, hc, ht⟩ := ho.blk hg
  exact h.sf_ty hc (by rcases ht with rfl | rfl <;> decide) (by rcases ht with rfl | rfl <;> decide)
theorem pair_t (cv rv : Nat → Value) (lb mb : Nat) (tv wv u : Value) : (pairM cv rv lb mb tv wv).set 6 u = pairM cv rv lb mb u wv := rfl
theorem pair_w (cv rv : Nat → Value) (lb mb : Nat) (tv wv u : Value) : (pairM cv rv lb mb tv wv).set 7 u = pairM cv rv lb mb tv u := rfl
theorem PSm.rowX (h : PSm (RX w0 tv wv ts ws tl) w0 av xb lb mb lv mv tv wv cv rv cc D E L M W) {B n : Nat} {v : Value} {xs : List Value} (hr : W.ownsRow B 22 1 v n xs) : ∀ g, v.ownBlock = some g → g ≠ xb := fun g hg e => by
  obtain ⟨c, hc, _⟩ := rowG_type hr hg
  subst e
  exact absurd (blk_ty hc h.here) (by decide)
theorem PSm.pushT (h : PSm (RX w0 tv wv ts ws tl) w0 av xb lb mb lv mv tv wv cv rv cc D E L M W) (hw : Below W.heap.size W W1) (ho : W2.ownsRow w0.heap.size 22 1 u (ts.length + 1) (ts ++ [x])) (hk : Kp (fun j => tv.ownBlock = some j) W1 W2) (hs : SameOrNew W1 tv u) :
    Blk W2 xb (pairM cv rv lb mb tv wv) 36 ∧ PSm (RX w0 u wv (ts ++ [x]) ws tl) w0 av xb lb mb lv mv u wv cv rv cc D E L M (W2.setCell ⟨xb, 6, none⟩ u) ∧ Kp (SF xb tv wv) W (W2.setCell ⟨xb, 6, none⟩ u) := by
  have h0 := h.below hw
  have hsz := hw.size
  have b2 : Blk W2 xb _ 36 := h0.here.kept hk (fun e => h0.rowX h0.ex.r3 _ e rfl)
  have k1 : Kp (fun j => j = xb) W2 (W2.setCell ⟨xb, 6, none⟩ u) := Kp.setCell _ _ _
  have ka : Kp (SF xb tv wv) W (W2.setCell ⟨xb, 6, none⟩ u) := ((Kp.of_below _ hw).trans (hk.mono (fun k _ e => .inr (.inl e))) (fun _ _ e => e)).trans (k1.mono (fun _ _ e => .inl e)) (fun k _ e => e)
  have nx : ∀ g, u.ownBlock = some g → g ≠ xb := fun g hg e => by
    obtain ⟨c, hc, _⟩ := rowG_type ho hg
    subst e
    exact absurd (blk_ty hc b2) (by decide)
  have qw := rowG_kept h0.ex.r4 hk (fun g hg e => h.ex.dis g e hg)
  have nw : ∀ g, wv.ownBlock = some g → g ≠ xb := h0.rowX h0.ex.r4
  refine ⟨b2, h.turnX ka (b2.set 6 u) ⟨(by rw [show (ts ++ [x]).length = ts.length + 1 by simp]; exact rowG_kept ho k1 nx), rowG_kept qw k1 nw, fun g hg e => ?_, ⟨fun q hq => ⟨h.sf_oa ka (h.ex.tl.own q hq).1, h.sf_own ka (h.ex.tl.own q hq).2⟩, h.ex.tl.ap, h.ex.tl.sz⟩⟩, ka⟩
  rcases hs with hs | hs
  · rw [hs] at hg; exact h.ex.dis g hg e
  · have := hs g hg; have := (h0.ex.r4.lt g e).2; omega
theorem PSm.pushW (h : PSm (RX w0 tv wv ts ws tl) w0 av xb lb mb lv mv tv wv cv rv cc D E L M W) (hw : Below W.heap.size W W1) (ho : W2.ownsRow w0.heap.size 22 1 u (ws.length + 1) (ws ++ [x])) (hk : Kp (fun j => wv.ownBlock = some j) W1 W2) (hs : SameOrNew W1 wv u) :
    Blk W2 xb (pairM cv rv lb mb tv wv) 36 ∧ PSm (RX w0 tv u ts (ws ++ [x]) tl) w0 av xb lb mb lv mv tv u cv rv cc D E L M (W2.setCell ⟨xb, 7, none⟩ u) ∧ Kp (SF xb tv wv) W (W2.setCell ⟨xb, 7, none⟩ u) := by
  have h0 := h.below hw
  have hsz := hw.size
  have b2 : Blk W2 xb _ 36 := h0.here.kept hk (fun e => h0.rowX h0.ex.r4 _ e rfl)
  have k1 : Kp (fun j => j = xb) W2 (W2.setCell ⟨xb, 7, none⟩ u) := Kp.setCell _ _ _
  have ka : Kp (SF xb tv wv) W (W2.setCell ⟨xb, 7, none⟩ u) := ((Kp.of_below _ hw).trans (hk.mono (fun k _ e => .inr (.inr e))) (fun _ _ e => e)).trans (k1.mono (fun _ _ e => .inl e)) (fun k _ e => e)
  have nx : ∀ g, u.ownBlock = some g → g ≠ xb := fun g hg e => by
    obtain ⟨c, hc, _⟩ := rowG_type ho hg
    subst e
    exact absurd (blk_ty hc b2) (by decide)
  have qt := rowG_kept h0.ex.r3 hk (fun g hg e => h.ex.dis g hg e)
  have nt : ∀ g, tv.ownBlock = some g → g ≠ xb := h0.rowX h0.ex.r3
  refine ⟨b2, h.turnX ka (b2.set 7 u) ⟨rowG_kept qt k1 nt, (by rw [show (ws ++ [x]).length = ws.length + 1 by simp]; exact rowG_kept ho k1 nx), fun g hg e => ?_, ⟨fun q hq => ⟨h.sf_oa ka (h.ex.tl.own q hq).1, h.sf_own ka (h.ex.tl.own q hq).2⟩, h.ex.tl.ap, h.ex.tl.sz⟩⟩, ka⟩
  rcases hs with hs | hs
  · rw [hs] at e; exact h.ex.dis g hg e
  · have := hs g e; have := (h0.ex.r3.lt g hg).2; omega
/-- Both answers are told. -/
theorem PSm.told (h : PSm (RX w0 tv wv (tl.map (·.a) ++ [u]) (tl.map (·.b) ++ [x]) tl) w0 av xb lb mb lv mv tv wv cv rv cc D E L M W) (n N : Nat) (f : Nat → Int) (ha : OA W N u n f) (hb : By.Own W w0.heap.size x n f) (hN : w0.heap.size ≤ N) (hold : ∀ q ∈ tl, ∀ g, q.a.ownBlock = some g → g < N) (hn : n ≤ 65536) :
    PSm (RX w0 tv wv ((tl ++ [TE.mk u x n f]).map (·.a)) ((tl ++ [TE.mk u x n f]).map (·.b)) (tl ++ [TE.mk u x n f])) w0 av xb lb mb lv mv tv wv cv rv cc D E L M W := by
  refine { h with exk := RX.exk, ex := ⟨by simpa using h.ex.r3, by simpa using h.ex.r4, h.ex.dis, ⟨fun q hq => ?_, ?_, fun q hq => ?_⟩⟩ }
  · rcases List.mem_append.1 hq with hq | hq
    · exact h.ex.tl.own q hq
    · rw [List.mem_singleton.1 hq]
      exact ⟨ha.mono hN, hb⟩
  · refine List.pairwise_append.2 ⟨h.ex.tl.ap, List.pairwise_singleton _ _, fun p hp q hq => ?_⟩
    rw [List.mem_singleton.1 hq]
    cases e1 : p.a.ownBlock with
    | none => exact .inl rfl
    | some g =>
      refine .inr (fun e2 => ?_)
      have h1 := hold p hp g e1
      have h2 := (ha.blk e2.symm).1
      omega
  · rcases List.mem_append.1 hq with hq | hq
    · exact h.ex.tl.sz q hq
    · rw [List.mem_singleton.1 hq]; exact hn
end
end Go.Proofs.YtbgdjjfonmoemaaDoor.Vm
namespace Go.Proofs.YtbgdjjfonmoemaaDoor.Vm
open Go.ChangeShapes Go.WideShapes Go.ChangeAt Go.RowKit
open Go.Proofs.YtbgdjjfonmoemaaDoor.By Go.Proofs.YtbgdjjfonmoemaaDoor.Gf Go.Proofs.YtbgdjjfonmoemaaDoor.Ae
open Go.Proofs.YtbgdjjfonmoemaaDoor.Kc (own_kept own_mono own8_type)
section
variable {tl : List TE} {w0 W W' : World} {av : Nat → Prop} {xb lb mb : Nat} {lv mv tv wv : Value} {cv rv : Nat → Value} {cc : Nat → Nat} {D E : Nat → MD} {L M : List Rn}
set_option maxRecDepth 4000 in
set_option maxHeartbeats 8000000 in
theorem PSm.tell (h : PSm (RX w0 tv wv (tl.map (·.a)) (tl.map (·.b)) tl) w0 av xb lb mb lv mv tv wv cv rv cc D E L M W) (htl : tl.length ≤ 1000) (u x : Value) (n N : Nat) (f : Nat → Int) (ha : OA W N u n f) (hb : By.Own W w0.heap.size x n f) (hN : w0.heap.size ≤ N) (hold : ∀ q ∈ tl, ∀ g, q.a.ownBlock = some g → g < N) (hn : n ≤ 65536) :
    Calls Tryd.prog 24 #[.pointer (some ⟨xb, 0, none⟩), u, x] W fun e w' => e = .returned (.bool true) ∧ (∃ tv' wv', PSm (RX w0 tv' wv' ((tl ++ [TE.mk u x n f]).map (·.a)) ((tl ++ [TE.mk u x n f]).map (·.b)) (tl ++ [TE.mk u x n f])) w0 av xb lb mb lv mv tv' wv' cv rv cc D E L M w') ∧ (∀ B n v f, By.Own W B v n f → By.Own w' B v n f) ∧ ∀ g cs, Blk W g cs 40 → Blk w' g cs 40 := by
  have G0 := hid h
  have HTL := hid htl
  have HA := hid ha
  have HBB := hid hb
  have HO := hid hold
  obtain ⟨au, cu, rfl⟩ : ∃ a c, u = .slice a n c := by obtain ⟨_, a, c, e, _⟩ := ha.reads; exact ⟨a, c, e⟩
  obtain ⟨ax, cx, rfl⟩ := own8_slice hb
  have cf := h.here.cell 6 _ rfl
  have hlx := h.here.lt
  have R0 : Hid (W.ownsRow w0.heap.size 22 1 tv tl.length (tl.map (·.a))) := by have := h.ex.r3; rw [List.length_map] at this; exact this
  obtain ⟨i0, hi, hz0, hz1, hz2⟩ := info_parts infoY
  clear h htl ha hb hold
  go_enter Tryd.func24, Tryd.ntmps24
  go_wp2_with (at_builtin; go_must (refine wpList_append_lies _ rfl _ _ 34 rfl w0.heap.size 22 i0 (.slice none 0 0) 1 24 Tryd.underlying34 hi hz0 hz1 hz2 rfl (by decide) tv tl.length (tl.map (·.a)) rfl (rowG_kept R0.out (Kp.of_below (fun _ => False) (below_alloc W _)) (fun _ _ => id)) ⟨_, 0, none⟩ 1 1 [.slice au n cu] rfl rfl (cell_newG W _ _ _ rfl) (by intro v hv; simp at hv; subst hv; rfl) (by decide) (by have := HTL.out; simp [maxLen]; omega) (by have := HTL.out; omega) (by have := G0.out.size; simp; omega) _ rfl ?_))
  intro gq cgq w5 hown hgrow hat hltq
  have PR := hid (G0.out.pushT (below_alloc W _) (by rw [List.length_map]; exact hown) (Kp.of_grown hgrow) (by rcases hat with e | e; exact .inl e.symm; exact .inr (fun g hg => by simp [Value.ownBlock] at hg; simp at e ⊢; omega)))
  have o6 := PR.out.1.cell 6 _ rfl
  have p6 := PR.out.1.frozen 6
  have G2 := hid PR.out.2.1
  have K2 := hid PR.out.2.2
  obtain ⟨V2, hV2⟩ : ∃ x, w5.setCell ⟨xb, 6, none⟩ (Value.slice (some ⟨gq, 0, none⟩) (tl.length + 1) cgq) = x := ⟨_, rfl⟩
  rw [hV2] at G2 K2
  have A2 := hid (G0.out.sf_oa K2.out HA.out)
  have X2 := hid (G0.out.sf_own K2.out HBB.out)
  have cf2 := G2.out.here.cell 7 _ rfl
  have hl2 := G2.out.here.lt
  have R2 : Hid (V2.ownsRow w0.heap.size 22 1 wv tl.length (tl.map (·.b))) := by have := G2.out.ex.r4; rw [List.length_map] at this; exact this
  clear hown hgrow hat hltq PR
  go_wp2_with (at_builtin; go_must (refine wpList_append_lies _ rfl _ _ 34 rfl w0.heap.size 22 i0 (.slice none 0 0) 1 24 Tryd.underlying34 hi hz0 hz1 hz2 rfl (by decide) wv tl.length (tl.map (·.b)) rfl (rowG_kept R2.out (Kp.of_below (fun _ => False) (below_alloc V2 _)) (fun _ _ => id)) ⟨_, 0, none⟩ 1 1 [.slice ax n cx] rfl rfl (cell_newG V2 _ _ _ rfl) (by intro v hv; simp at hv; subst hv; rfl) (by decide) (by have := HTL.out; simp [maxLen]; omega) (by have := HTL.out; omega) (by have := G2.out.size; simp; omega) _ rfl ?_))
  intro gr cgr w6 hown hgrow hat hltq
  have PR := hid (G2.out.pushW (below_alloc V2 _) (by rw [List.length_map]; exact hown) (Kp.of_grown hgrow) (by rcases hat with e | e; exact .inl e.symm; exact .inr (fun g hg => by simp [Value.ownBlock] at hg; simp at e ⊢; omega)))
  have o7 := PR.out.1.cell 7 _ rfl
  have p7 := PR.out.1.frozen 7
  have G3 := hid PR.out.2.1
  have K3 := hid PR.out.2.2
  obtain ⟨V3, hV3⟩ : ∃ x, w6.setCell ⟨xb, 7, none⟩ (Value.slice (some ⟨gr, 0, none⟩) (tl.length + 1) cgr) = x := ⟨_, rfl⟩
  rw [hV3] at G3 K3
  have A3 := hid (G2.out.sf_oa K3.out A2.out)
  have X3 := hid (G2.out.sf_own K3.out X2.out)
  have KO := hid (show ∀ B n v f, By.Own W B v n f → By.Own V3 B v n f from fun B n v f ho => G2.out.sf_own K3.out (G0.out.sf_own K2.out ho))
  have KA := hid (show ∀ g cs, Blk W g cs 40 → Blk V3 g cs 40 from fun g cs hg => by
    have h2 := hg.kept K2.out (G0.out.sf_ty hg (by decide) (by decide))
    exact h2.kept K3.out (G2.out.sf_ty h2 (by decide) (by decide)))
  have G4 := hid (G3.out.told n N f A3.out X3.out hN HO.out hn)
  have SC := hid (same_true (.slice au n cu) (.slice ax n cx) n f f V3 A3.out.reads X3.out.reads (by omega) (fun _ _ => rfl))
  clear hown hgrow hat hltq PR cf cf2 hl2 hlx
  go_wp2_with fail
  refine SC.out.mono ?_
  rintro e w7 ⟨rfl, d, hw7⟩
  have b7 : Below V3.heap.size V3 w7 := by rw [hw7]; exact below_drewN V3 d
  have G5 := hid (G4.out.below b7)
  have KO2 := hid (show ∀ B n v f, By.Own W B v n f → By.Own w7 B v n f from fun B n v f ho => own_below (KO.out B n v f ho) b7)
  have KA2 := hid (show ∀ g cs, Blk W g cs 40 → Blk w7 g cs 40 from fun g cs hg => (KA.out g cs hg).below b7)
  clear hw7 b7
  go_wp2_with fail
  go_ret
  exact ⟨by simp, ⟨_, _, G5.out⟩, KO2.out, KA2.out⟩
end
/-- What was told stays when a list that is none of it is written over. -/
theorem RX.over {w0 V V' : World} {tv wv : Value} {ts ws : List Value} {tl : List TE} (h : RX w0 tv wv ts ws tl V) {g : Nat} {cs : List Value} (hg : Blk V g cs 5) (hk : Kp (fun j => j = g) V V') (hne : ∀ q ∈ tl, q.a.ownBlock ≠ some g ∧ q.b.ownBlock ≠ some g) : RX w0 tv wv ts ws tl V' := by
  refine ⟨rowG_kept h.r3 hk (fun x hx e => ?_), rowG_kept h.r4 hk (fun x hx e => ?_), h.dis, ⟨fun q hq => ⟨(h.tl.own q hq).1.kept hk (fun x hx e => ?_), own_kept (h.tl.own q hq).2 hk (fun x hx e => ?_)⟩, h.tl.ap, h.tl.sz⟩⟩
  · have e' : x = g := e
    subst e'
    obtain ⟨c, hc, _⟩ := rowG_type h.r3 hx
    exact absurd (blk_ty hc hg) (by decide)
  · have e' : x = g := e
    subst e'
    obtain ⟨c, hc, _⟩ := rowG_type h.r4 hx
    exact absurd (blk_ty hc hg) (by decide)
  · have e' : x = g := e
    subst e'
    exact (hne q hq).1 hx
  · have e' : x = g := e
    subst e'
    exact (hne q hq).2 hx
/-- A tag of both sides. -/
theorem tg_pair {B B' : Nat} {W W' : World} {v v' : Value} {d : MD} (hp : TgP B W v d) (hq : TgQ B' W' v' d) : ∃ n f, n ≤ 65536 ∧ OA W B v n f ∧ By.Own W' B' v' n f := by
  match d, hp, hq with
  | none, hp, hq =>
    obtain rfl : v = .slice none 0 0 := hp
    obtain rfl : v' = .slice none 0 0 := hq
    exact ⟨0, cb nought, by decide, .inl (own_nil _ _ _ nought_c), own_nil _ _ _ nought_c⟩
  | some (k, key, n, m), ⟨b, e, hb, hbk⟩, hq =>
    refine ⟨16, _, by decide, .inr ⟨rfl, hq.1, b, e, hb, ?_⟩, hq⟩
    rw [show bl 16 (cb (upto 16 (tgn (wds k key (3 * k + 28)) (k + 6) m n))) = bl 16 (cb (tgn (rk k key) (k + 6) m n)) from bl_congr _ _ _ (fun i hi => by
      show ((upto 16 (tgn (wds k key (3 * k + 28)) (k + 6) m n) i : Nat) : Int) = ((tgn (rk k key) (k + 6) m n i : Nat) : Int)
      rw [upto_get _ _ _ hi, tg_same k key m n i hi])]
    exact hbk
/-- A form of both sides. -/
theorem fm_pair {B B' : Nat} {W W' : World} {v v' : Value} {d : MD} (hp : FmP B W v d) (hq : FmQ B' W' v' d) (hk : ∀ k key n m, d = some (k, key, n, m) → k ≤ 8) : ∃ n f, n ≤ 65536 ∧ OA W B v n f ∧ By.Own W' B' v' n f := by
  match d, hp, hq with
  | none, hp, hq =>
    obtain rfl : v = .slice none 0 0 := hp
    obtain rfl : v' = .slice none 0 0 := hq
    exact ⟨0, cb nought, by decide, .inl (own_nil _ _ _ nought_c), own_nil _ _ _ nought_c⟩
  | some (k, key, n, m), hp, hq =>
    have hk8 := hk k key n m rfl
    exact ⟨fml k, _, by unfold fml; omega, .inl (own_congr hp hq.1 (fun i hi => by
      show ((fmf k (rk k key) n m i : Nat) : Int) = ((fmf k (wds k key (3 * k + 28)) n m i : Nat) : Int)
      rw [fm_same k key n m i hi])), hq⟩
end Go.Proofs.YtbgdjjfonmoemaaDoor.Vm
namespace Go.Proofs.YtbgdjjfonmoemaaDoor.Vm
open Go.ChangeShapes Go.WideShapes Go.ChangeAt Go.RowKit
open Go.Proofs.YtbgdjjfonmoemaaDoor.By Go.Proofs.YtbgdjjfonmoemaaDoor.Gf Go.Proofs.YtbgdjjfonmoemaaDoor.Ae
open Go.Proofs.YtbgdjjfonmoemaaDoor.Kc (own_kept own_mono own8_type)
section
variable {X : World → Prop} {w0 W W' : World} {av : Nat → Prop} {xb lb mb : Nat} {lv mv tv wv : Value} {cv rv : Nat → Value} {cc : Nat → Nat} {D E : Nat → MD} {L M : List Rn}
/-- What was told lies in elder blocks: a younger one may turn. -/
def Yg (X : World → Prop) (N : Nat) : Prop := ∀ V V' g, N ≤ g → Kp (fun j => j = g) V V' → X V → X V'
theorem PSm.yg {ts ws : List Value} {tl : List TE} (h : PSm (RX w0 tv wv ts ws tl) w0 av xb lb mb lv mv tv wv cv rv cc D E L M W) : Yg (RX w0 tv wv ts ws tl) W.heap.size := fun V V' g hN hk hX => by
  have old : ∀ q ∈ tl, (∀ x, q.a.ownBlock = some x → x < W.heap.size) ∧ ∀ x, q.b.ownBlock = some x → x < W.heap.size := fun q hq =>
    ⟨fun g hg => by obtain ⟨_, c, t, hc, _⟩ := (h.ex.tl.own q hq).1.blk hg; exact hc.lt, fun g hg => by obtain ⟨c, hc⟩ := own8_type (h.ex.tl.own q hq).2 hg; exact (Array.getElem?_eq_some_iff.1 hc).1⟩
  refine ⟨rowG_kept hX.r3 hk (fun x hx e => ?_), rowG_kept hX.r4 hk (fun x hx e => ?_), hX.dis, ⟨fun q hq => ⟨(hX.tl.own q hq).1.kept hk (fun x hx e => ?_), own_kept (hX.tl.own q hq).2 hk (fun x hx e => ?_)⟩, hX.tl.ap, hX.tl.sz⟩⟩
  · have e' : x = g := e
    have := (h.ex.r3.lt x hx).2; omega
  · have e' : x = g := e
    have := (h.ex.r4.lt x hx).2; omega
  · have e' : x = g := e
    have := (old q hq).1 x hx; omega
  · have e' : x = g := e
    have := (old q hq).2 x hx; omega
/-- One block more that is not touched. -/
def avx (av : Nat → Prop) (g x : Nat) : Prop := av x ∨ x = g
theorem KeP.own8 {W W' : World} (h : KeP W W') {base n : Nat} {v : Value} {f : Nat → Int} (ho : By.Own W base v n f) : By.Own W' base v n f := own_kz (fun g cs hg => h g cs _ hg (by decide) (by decide) (by decide) (by decide)) ho
theorem KeQ.own8 {W W' : World} (h : KeQ W W') {base n : Nat} {v : Value} {f : Nat → Int} (ho : By.Own W base v n f) : By.Own W' base v n f := own_kz (fun g cs hg => h g cs _ hg (by decide) (by decide) (by decide)) ho
set_option maxRecDepth 4000 in
set_option maxHeartbeats 8000000 in
theorem PSm.make (h : PSm X w0 av xb lb mb lv mv tv wv cv rv cc D D L L W) (k : Nat) (hk2 : k < 2) (pa : Option Addr) (pn pc : Nat) (f : Nat → Nat) (hp : ∀ V, Below w0.heap.size w0 V → By.RB V (.slice pa pn pc) pn (cb f)) (hpn : pn ≤ 140737488351232) (mute : Bool) (hpos : Pos L) (hr : tot L ≤ 2305843009213693952 ∧ L.length ≤ 9000000) (hav : ∀ x, av x → ∃ cs, Blk W x cs 5) (hX : Yg X W.heap.size) :
    Calls Tryd.prog 7 #[.pointer (some ⟨xb, 0, none⟩), .int .i64 k, .slice pa pn pc, lpv (lo lb mute), lpv (lo mb mute)] W fun e w' => e = .returned (.bool true) ∧ (∃ lv' mv' cv' rv' cc' D', PSm X w0 av xb lb mb lv' mv' tv wv cv' rv' cc' D' D' (sel mute L (evNw L (newM pn f))) (sel mute L (evNw L (newM pn f))) w' ∧ ∀ i, i < 2 → mdN (D' i) ≤ mdN (D i)) ∧ (∀ B n v f, By.Own W B v n f → By.Own w' B v n f) ∧ ∀ g cs, Blk W g cs 40 → Blk w' g cs 40 := by
  have H0 := hid h
  have HP := hid hp
  have HF := hid (show ∀ i, 0 ≤ cb f i ∧ cb f i < 256 from (hp W h.bel).1)
  have HR := hid hr
  have HPO := hid hpos
  have HAV := hid hav
  have HXo := hid hX
  have hk2' : (k : Int) < 2 := by omega
  clear h hp hr hX hav hpos
  go_enter Tryd.func7, Tryd.ntmps7
  go_wp2_with fail
  refine (lent14 _ pn (cb f) _ (HP.out _ H0.out.bel) (by omega)).mono ?_
  rintro e w2 ⟨fu, rfl, ho, hb⟩
  rcases ho.shape with ⟨_, h0⟩ | ⟨gf, cf, rfl, hgb, hgl, hnc, hcm, _, _⟩
  · omega
  have G2 := hid ((H0.out.moved (avx av gf) (fun x hx => by rcases hx with hx | hx; exact .inl hx; exact .inr (by omega))).below hb)
  have O2 := hid ho
  have HGB := hid hgb
  have BK2 : Hid (∃ cs, Blk w2 gf cs 5) := by
    obtain ⟨c, hc⟩ := own8_type ho (show (Value.slice (some ⟨gf, 0, none⟩) (pn + 6) cf).ownBlock = some gf from rfl)
    exact ⟨c.toList, by show w2.heap[gf]? = _; rw [hc]⟩
  have AV2 := hid (show ∀ x, avx av gf x → ∃ cs, Blk w2 x cs 5 from fun x hx => by
    rcases hx with hx | hx
    · obtain ⟨cs, hc⟩ := HAV.out x hx
      exact ⟨cs, hc.below hb⟩
    · rw [hx]; exact BK2.out)
  have KO2 := hid (show ∀ B n v f, By.Own W B v n f → By.Own w2 B v n f from fun B n v f h => own_below h hb)
  have KA2 := hid (show ∀ g cs, Blk W g cs 40 → Blk w2 g cs 40 from fun g cs hg => hg.below hb)
  have NG := hid (show ∀ B n v f, By.Own W B v n f → v.ownBlock ≠ some gf from fun B n v f h e => by obtain ⟨c, hc⟩ := own8_type h e; have := (Array.getElem?_eq_some_iff.1 hc).1; omega)
  have l1 : (pn : Int) ≤ cf := by omega
  clear hb ho hgb
  have NC := hid (G2.out.newP mute pn f (some ⟨gf, 0, none⟩) cf (fun V hV => (((hV.own8 O2.out).reads.first pn (by omega)).congr HF.out (fun i hi => by unfold lent; rw [if_pos hi]))) HPO.out ⟨HR.out.1, by have := HR.out.2; omega⟩)
  go_wp2_with fail
  refine NC.out.mono ?_
  rintro e w3 ⟨v1, c1, rfl, hn1, ⟨lv', hG3⟩, hk3⟩
  have G3 := hid hG3
  have N1 := hid hn1
  have O3 := hid (hk3.own8 O2.out)
  have KO3 := hid (show ∀ B n v f, By.Own W B v n f → By.Own w3 B v n f from fun B n v f h => hk3.own8 (KO2.out B n v f h))
  have KA3 := hid (show ∀ g cs, Blk W g cs 40 → Blk w3 g cs 40 from fun g cs hg => hk3 _ _ _ (KA2.out g cs hg) (by decide) (by decide) (by decide) (by decide))
  have AV3 := hid (show ∀ x, avx av gf x → ∃ cs, Blk w3 x cs 5 from fun x hx => by obtain ⟨cs, hc⟩ := AV2.out x hx; exact ⟨cs, hk3 _ _ _ hc (by decide) (by decide) (by decide) (by decide)⟩)
  clear hG3 hn1 NC KO2 hk3
  have NQ := hid (G3.out.newQ mute pn f pa pc (HP.out _ G3.out.bel) (fun x hx => (AV3.out x hx).choose_spec.lt) HPO.out HR.out)
  rcases hnk : newM pn f with _ | ⟨kk, key, nn, mm⟩
  · rw [hnk] at N1 NQ G3
    obtain rfl : v1 = .pointer none := N1.out
    show _
    simp only [mdE]
    go_wp2_with fail
    refine NQ.out.mono ?_
    rintro e w4 ⟨v2, rfl, hn2, ⟨mv', hG4⟩, hk4⟩
    obtain rfl : v2 = .pointer none := hn2
    have G4 := hid hG4
    have O4 := hid (hk4.own8 O3.out)
    have KO4 := hid (show ∀ B n v f, By.Own W B v n f → By.Own w4 B v n f from fun B n v f h => hk4.own8 (KO3.out B n v f h))
    have KA4 := hid (show ∀ g cs, Blk W g cs 40 → Blk w4 g cs 40 from fun g cs hg => hk4 _ _ _ (KA3.out g cs hg) (by decide) (by decide) (by decide))
    clear hG4 hk4 NQ N1 KO3
    simp only [mdE]
    go_wp2_with fail
    refine (kept17 _ _ pn (cb f) w4 O4.out.reads (HP.out _ G4.out.bel) (by omega)).mono ?_
    rintro e w5 ⟨rfl, hb5⟩
    have G5 := hid (G4.out.below hb5)
    have O5 := hid (own_below O4.out hb5)
    have KO5 := hid (show ∀ B n v f, By.Own W B v n f → By.Own w5 B v n f from fun B n v f h => own_below (KO4.out B n v f h) hb5)
    have KA5 := hid (show ∀ g cs, Blk W g cs 40 → Blk w5 g cs 40 from fun g cs hg => (KA4.out g cs hg).below hb5)
    clear hb5
    go_wp2_with fail
    refine (over18 gf cf (pn + 6) _ _ w5 O5.out (by omega)).mono ?_
    rintro e w6 ⟨rfl, -, hg6⟩
    obtain ⟨c, hc⟩ := own8_type O5.out (show (Value.slice (some ⟨gf, 0, none⟩) (pn + 6) cf).ownBlock = some gf from rfl)
    have hbk : Blk w5 gf c.toList 5 := by show w5.heap[gf]? = _; rw [hc]
    have hk6 : Kp (fun j => j = gf) w5 w6 := (Kp.of_grown hg6).mono (fun j _ e => (Option.some.inj e).symm)
    have G6 := hid ((G5.out.over (g := gf) (.inr rfl) hbk (Nat.le_trans H0.out.size HGB.out) hk6 (HXo.out _ _ gf HGB.out hk6 G5.out.ex)).moved av (fun x hx => .inl (.inl hx)))
    have KO6 := hid (show ∀ B n v f, By.Own W B v n f → By.Own w6 B v n f from fun B n v f h => own_kept (KO5.out B n v f h) hk6 (fun x hx e => NG.out B n v f h (by have e' : x = gf := e; rw [← e']; exact hx)))
    have KA6 := hid (show ∀ g cs, Blk W g cs 40 → Blk w6 g cs 40 from fun g cs hg => (KA5.out g cs hg).kept hk6 (fun e => by have e' : g = gf := e; subst e'; exact absurd (blk_ty (KA5.out _ cs hg) hbk) (by decide)))
    clear hbk hk6 hg6 hc
    go_wp2
    go_ret
    rw [hnk]
    exact ⟨by simp, ⟨lv', mv', cv, rv, cc, D, G6.out, fun _ _ => Nat.le_refl _⟩, KO6.out, KA6.out⟩
  · rw [hnk] at N1 NQ G3
    have hn0 : nn = 0 := by
      unfold newM at hnk
      split at hnk
      · simp at hnk; exact hnk.2.2.1.symm
      · simp at hnk
    obtain ⟨g1, hv1, hg1, hc1, hm1⟩ := N1.out
    subst hv1
    have P3 := hid (show PMm w3 (.pointer (some ⟨g1, 0, none⟩)) c1 (some (kk, key, nn, mm)) from ⟨g1, rfl, hm1⟩)
    have F1 := hid (show w0.heap.size ≤ g1 ∧ cv (1 - k) ≠ .pointer (some ⟨g1, 0, none⟩) from ⟨Nat.le_trans G2.out.size hg1, fun e' => by
      obtain ⟨cs, hc⟩ := (G2.out.pc (1 - k) (by omega)).blk e'
      have := hc.lt
      omega⟩)
    have FC := hid (show w0.heap.size ≤ c1 ∧ (D (1 - k) ≠ none → cc (1 - k) ≠ c1) from ⟨Nat.le_trans G2.out.size hc1, fun hd e' => by
      obtain ⟨cs, hc⟩ := (G2.out.pc (1 - k) (by omega)).cblk hd
      have := hc.lt
      omega⟩)
    clear hm1 hg1 hc1 N1
    simp only [mdE]
    go_wp2_with fail
    refine NQ.out.mono ?_
    rintro e w4 ⟨v2, rfl, hn2, ⟨mv', hG4⟩, hk4⟩
    obtain ⟨g2, kv2, mv2, hv2, hg2, hm2, ha1, ha2⟩ := hn2
    subst hv2
    have G4 := hid hG4
    have O4 := hid (hk4.own8 O3.out)
    have KO4 := hid (show ∀ B n v f, By.Own W B v n f → By.Own w4 B v n f from fun B n v f h => hk4.own8 (KO3.out B n v f h))
    have P4 := hid (P3.out.blks (W' := w4) (fun g cs _ hg => hk4 g cs _ hg (by decide) (by decide) (by decide)) (fun _ cs hg => hk4 _ cs _ hg (by decide) (by decide) (by decide)))
    have Q4 := hid (show QMm (avx av gf) w4 (.pointer (some ⟨g2, 0, none⟩)) (some (kk, key, nn, mm)) from ⟨g2, kv2, mv2, rfl, hm2, ha1, ha2⟩)
    have F2 := hid (show w0.heap.size ≤ g2 ∧ rv (1 - k) ≠ .pointer (some ⟨g2, 0, none⟩) from ⟨Nat.le_trans G3.out.size hg2, fun e' => by
      obtain ⟨cs, hc⟩ := (G3.out.qc (1 - k) (by omega)).blk e'
      have := hc.lt
      omega⟩)
    have KA4 := hid (show ∀ g cs, Blk W g cs 40 → Blk w4 g cs 40 from fun g cs hg => hk4 _ _ _ (KA3.out g cs hg) (by decide) (by decide) (by decide))
    clear hG4 hk4 NQ hm2 hg2 ha1 ha2 KO3
    simp only [mdE]
    go_wp2_with fail
    refine (kept17 _ _ pn (cb f) w4 O4.out.reads (HP.out _ G4.out.bel) (by omega)).mono ?_
    rintro e w5 ⟨rfl, hb5⟩
    have G5 := hid (G4.out.below hb5)
    have O5 := hid (own_below O4.out hb5)
    have KO5 := hid (show ∀ B n v f, By.Own W B v n f → By.Own w5 B v n f from fun B n v f h => own_below (KO4.out B n v f h) hb5)
    have P5 := hid (P4.out.blks (W' := w5) (fun _ _ _ hg => hg.below hb5) (fun _ _ hg => hg.below hb5))
    have Q5 := hid (Q4.out.blks (W' := w5) (fun _ _ _ hg => hg.below hb5) (fun _ _ _ hg => hg.below hb5))
    have KA5 := hid (show ∀ g cs, Blk W g cs 40 → Blk w5 g cs 40 from fun g cs hg => (KA4.out g cs hg).below hb5)
    clear hb5
    go_wp2_with fail
    refine (over18 gf cf (pn + 6) _ _ w5 O5.out (by omega)).mono ?_
    rintro e w6 ⟨rfl, -, hg6⟩
    obtain ⟨c, hc⟩ := own8_type O5.out (show (Value.slice (some ⟨gf, 0, none⟩) (pn + 6) cf).ownBlock = some gf from rfl)
    have hbk : Blk w5 gf c.toList 5 := by show w5.heap[gf]? = _; rw [hc]
    have hk6 : Kp (fun j => j = gf) w5 w6 := (Kp.of_grown hg6).mono (fun j _ e => (Option.some.inj e).symm)
    have ng : ∀ {g cs t}, Blk w5 g cs t → t ≠ 5 → Blk w6 g cs t := fun {g cs t} hg ht => hg.kept hk6 (fun e => by have e' : g = gf := e; subst e'; exact ht (blk_ty hg hbk))
    have G6 := hid (G5.out.over (g := gf) (.inr rfl) hbk (Nat.le_trans H0.out.size HGB.out) hk6 (HXo.out _ _ gf HGB.out hk6 G5.out.ex))
    have P6 := hid (P5.out.blks (W' := w6) (fun g cs _ hg => ng hg (by decide)) (fun _ cs hg => ng hg (by decide)))
    have Q6 := hid (Q5.out.blks (W' := w6) (fun g cs _ hg => ng hg (by decide)) (fun g cs hne hg => hg.kept hk6 (fun e => hne (.inr e))))
    have KO6 := hid (show ∀ B n v f, By.Own W B v n f → By.Own w6 B v n f from fun B n v f h => own_kept (KO5.out B n v f h) hk6 (fun x hx e => NG.out B n v f h (by have e' : x = gf := e; rw [← e']; exact hx)))
    have KA6 := hid (show ∀ g cs, Blk W g cs 40 → Blk w6 g cs 40 from fun g cs hg => ng (KA5.out g cs hg) (by decide))
    clear hbk hk6 hg6 hc ng
    have f1 := G6.out.here.frozen k
    have f2 := G6.out.here.frozen (2 + k)
    have x1 := G6.out.here.cell k _ (pairM_c _ _ _ _ _ _ k hk2)
    have x2 := G6.out.here.cell (2 + k) _ (pairM_r _ _ _ _ _ _ k hk2)
    have G7 := hid (G6.out.slot k hk2 (.pointer (some ⟨g1, 0, none⟩)) (.pointer (some ⟨g2, 0, none⟩)) c1 (some (kk, key, nn, mm)) P6.out Q6.out (fun g e => by simp at e; subst e; exact F1.out) (fun _ => FC.out) (fun g e => by simp at e; subst e; exact F2.out))
    have KO7 := hid (show ∀ B n v f, By.Own W B v n f → By.Own ((w6.setCell ⟨xb, k, none⟩ (.pointer (some ⟨g1, 0, none⟩))).setCell ⟨xb, 2 + k, none⟩ (.pointer (some ⟨g2, 0, none⟩))) B v n f from fun B n v f h => own_kept (KO6.out B n v f h) ((Kp.setCell xb k _).trans (Kp.setCell xb (2 + k) _) (fun _ _ e => e)) (fun x hx e => by have e' : x = xb := e; subst e'; exact own_ne8 (KO6.out B n v f h) G6.out.here (by decide) hx))
    go_wp2
    go_ret
    rw [hnk]
    refine ⟨by simp, ⟨lv', mv', _, _, _, _, G7.out.moved av (fun x hx => .inl (.inl hx)), fun i _ => ?_⟩, KO7.out, fun g cs hg => (KA6.out g cs hg).kept ((Kp.setCell xb k _).trans (Kp.setCell xb (2 + k) _) (fun _ _ e => e)) (fun e => by have e' : g = xb := e; subst e'; exact absurd (blk_ty (KA6.out _ cs hg) G6.out.here) (by decide))⟩
    by_cases e : i = k
    · subst e; rw [upd_at]; show nn ≤ _; omega
    · rw [upd_ne _ _ _ _ e]; exact Nat.le_refl _
end
end Go.Proofs.YtbgdjjfonmoemaaDoor.Vm
namespace Go.Proofs.YtbgdjjfonmoemaaDoor.Vm
open Go.ChangeShapes Go.WideShapes Go.ChangeAt Go.RowKit
open Go.Proofs.YtbgdjjfonmoemaaDoor.By Go.Proofs.YtbgdjjfonmoemaaDoor.Gf Go.Proofs.YtbgdjjfonmoemaaDoor.Ae
open Go.Proofs.YtbgdjjfonmoemaaDoor.Kc (own_kept own_mono own8_type)
theorem pickN (i : Int) (N : Nat) (h0 : 0 < N) (h1 : N ≤ 1000000) (w : World) :
    Calls Tryd.prog 19 #[.int .i64 i, .int .i64 N] w fun e w' => (∃ p : Nat, p < N ∧ e = .returned (.int .i64 p)) ∧ w' = w := by
  have hN : (0 : Int) < N := by omega
  have a1 := Int.tmod_lt_of_pos i hN
  have a2 : - (N : Int) < i.tmod N := by
    have := Int.lt_tmod_of_pos i hN
    omega
  have nz : ¬ (N : Int) = 0 := by omega
  have nz2 : ¬ N = 0 := by omega
  obtain ⟨q, hq⟩ : ∃ q, i.tmod N = q := ⟨_, rfl⟩
  rw [hq] at a1 a2
  have w1 : IntKind.i64.wrap q = q := by rw [IntKind.wrap_i64]; omega
  by_cases hlt : q < 0
  · have w2 : IntKind.i64.wrap (q + N) = q + N := by rw [IntKind.wrap_i64]; omega
    go_enter Tryd.func19, Tryd.ntmps19
    go_wp2
    go_ret
    exact ⟨⟨(q + N).toNat, by omega, by rw [show (((q + N).toNat : Nat) : Int) = q + N by omega]; rfl⟩, rfl⟩
  · go_enter Tryd.func19, Tryd.ntmps19
    go_wp2
    go_ret
    exact ⟨⟨q.toNat, by omega, by rw [show ((q.toNat : Nat) : Int) = q by omega]; rfl⟩, rfl⟩
def av0 : Nat → Prop := fun _ => False
def av1 (g : Nat) : Nat → Prop := fun x => x = g
/-- What a ledger may have behind T acts. -/
structure Lt (L : List Rn) (T : Nat) : Prop where
  pos : Pos L
  tt : tot L ≤ 1000 * (T : Int)
  ln : L.length ≤ 10 * T
/-- Behind T acts: the program's and the document's are alike. -/
def SCm (w0 : World) (xb lb mb T : Nat) (W : World) : Prop := ∃ tl lv mv tv wv cv rv cc D L, PSm (RX w0 tv wv (tl.map (·.a)) (tl.map (·.b)) tl) w0 av0 xb lb mb lv mv tv wv cv rv cc D D L L W ∧ tl.length ≤ T ∧ Lt L T ∧ ∀ i, i < 2 → mdN (D i) ≤ 4000 * T
theorem Lt.next {L : List Rn} {T : Nat} (h : Lt L T) : Lt L (T + 1) := ⟨h.pos, by have := h.tt; omega, by have := h.ln; omega⟩
theorem Lt.put {L : List Rn} {T : Nat} (h : Lt L T) (hT : T ≤ 1000) (r : Rn) (hr : 0 ≤ r.c ∧ r.c ≤ 500) : Pos (putL L r) ∧ tot (putL L r) ≤ tot L + 500 ∧ (putL L r).length ≤ L.length + 1 := by
  refine ⟨putL_pos h.pos, ?_, (putL_len (L := L) (r := r)).1⟩
  by_cases h0 : r.c = 0
  · obtain ⟨k, s, c⟩ := r
    simp only at h0; subst h0
    rw [putL_none]; omega
  · rw [tot_put h.pos (by omega) (by have := h.tt; omega)]; omega
theorem Lt.of {L L' : List Rn} {T : Nat} (h : Lt L T) (hp : Pos L') (ht : tot L' ≤ tot L + 1000) (hl : L'.length ≤ L.length + 2) : Lt L' (T + 1) := ⟨hp, by have := h.tt; omega, by have := h.ln; omega⟩
theorem Lt.sel {L L' : List Rn} {T : Nat} (mute : Bool) (h : Lt L T) (h' : Lt L' (T + 1)) : Lt (sel mute L L') (T + 1) := by
  cases mute
  · exact h'
  · exact h.next
theorem Lt.one {L : List Rn} {T : Nat} (h : Lt L T) (hT : T ≤ 1000) (r : Rn) (hr : 0 ≤ r.c ∧ r.c ≤ 500) : Lt (putL L r) (T + 1) := by
  obtain ⟨h1, h2, h3⟩ := h.put hT r hr
  exact h.of h1 (by omega) (by omega)
theorem Lt.room {L : List Rn} {T : Nat} (h : Lt L T) (hT : T ≤ 1000) : Room L ∧ Low L ∧ (tot L ≤ 2305843009213693952 ∧ L.length ≤ 9000000) := by
  have h1 := h.tt
  have h2 := h.ln
  exact ⟨⟨by omega, by omega⟩, ⟨by omega, by omega⟩, by omega, by omega⟩
theorem lt_wr {L : List Rn} {T : Nat} (h : Lt L T) (hT : T ≤ 100) (q : Nat) (hq : q ≤ 4000) (d : MD) : Lt (evWr L q d) (T + 1) := by
  match d with
  | none => exact h.next
  | some (k, key, n, m) => exact h.one (by omega) ⟨5, _, _⟩ ⟨Int.natCast_nonneg _, by show ((nbl (n + q) - nbl n : Nat) : Int) ≤ 500; unfold nbl; omega⟩
theorem lt_s {L : List Rn} {T : Nat} (h : Lt L T) (hT : T ≤ 100) (d : MD) : Lt (evS L d) (T + 1) := by
  match d with
  | none => exact h.next
  | some (k, key, n, m) => exact h.one (by omega) ⟨5, _, _⟩ ⟨by show (0 : Int) ≤ ((1 : Nat) : Int); omega, by show ((1 : Nat) : Int) ≤ 500; omega⟩
theorem lt_wi {L : List Rn} {T : Nat} (h : Lt L T) (hT : T ≤ 100) (d : MD) : Lt (evWi L d) (T + 1) := by
  match d with
  | none => exact h.next
  | some (k, key, n, m) => exact h.one (by omega) ⟨8, _, _⟩ ⟨by show (0 : Int) ≤ 1; omega, by show (1 : Int) ≤ 500; omega⟩
theorem lt_two {L : List Rn} {T : Nat} (h : Lt L T) (hT : T ≤ 100) (r r' : Rn) (hr : 0 ≤ r.c ∧ r.c ≤ 500) (hr' : 0 ≤ r'.c ∧ r'.c ≤ 500) : Lt (putL (putL L r) r') (T + 1) := by
  obtain ⟨h1, h2, h3⟩ := h.put (by omega) r hr
  obtain ⟨g1, g2, g3⟩ := (h.one (by omega) r hr).put (by omega) r' hr'
  exact h.of g1 (by omega) (by omega)
theorem lt_nw {L : List Rn} {T : Nat} (h : Lt L T) (hT : T ≤ 100) (d : MD) : Lt (evNw L d) (T + 1) := by
  match d with
  | none => exact h.next
  | some (k, key, n, m) => exact lt_two h hT ⟨4, _, 1⟩ ⟨5, _, ((1 : Nat) : Int)⟩ ⟨by show (0 : Int) ≤ 1; omega, by show (1 : Int) ≤ 500; omega⟩ ⟨by show (0 : Int) ≤ ((1 : Nat) : Int); omega, by show ((1 : Nat) : Int) ≤ 500; omega⟩
theorem lt_tg {L : List Rn} {T : Nat} (h : Lt L T) (hT : T ≤ 100) (q : Nat) (hq : q ≤ 4000) (d : MD) : Lt (evTg L q d) (T + 1) := by
  match d with
  | none => exact h.next
  | some (k, key, n, m) => exact lt_two h hT ⟨4, _, 1⟩ ⟨5, _, ((nbl q + 2 : Nat) : Int)⟩ ⟨by show (0 : Int) ≤ 1; omega, by show (1 : Int) ≤ 500; omega⟩ ⟨Int.natCast_nonneg _, by show ((nbl q + 2 : Nat) : Int) ≤ 500; unfold nbl; omega⟩
theorem mdW_le {D : Nat → MD} {T : Nat} (h : ∀ i, i < 2 → mdN (D i) ≤ 4000 * T) (k q : Nat) (f : Nat → Nat) (hq : q ≤ 4000) : ∀ i, i < 2 → mdN (upd D k (mdW q f (D k)) i) ≤ 4000 * (T + 1) := fun i hi => by
  by_cases e : i = k
  · subst e; rw [upd_at]; have := h i hi
    match hd : D i with
    | none => exact Nat.zero_le _
    | some (k, key, n, m) => rw [hd] at this; have h2 : n ≤ 4000 * T := this; show n + q ≤ _; omega
  · rw [upd_ne _ _ _ _ e]; have := h i hi; omega
theorem md_next {D : Nat → MD} {T : Nat} (h : ∀ i, i < 2 → mdN (D i) ≤ 4000 * T) : ∀ i, i < 2 → mdN (D i) ≤ 4000 * (T + 1) := fun i hi => by have := h i hi; omega
theorem mdO_le {D : Nat → MD} {T : Nat} (h : ∀ i, i < 2 → mdN (D i) ≤ 4000 * T) (k : Nat) (d : MD) (hd : mdN d ≤ 4000 * T) : ∀ i, i < 2 → mdN (upd D k d i) ≤ 4000 * (T + 1) := fun i hi => by
  by_cases e : i = k
  · subst e; rw [upd_at]; omega
  · rw [upd_ne _ _ _ _ e]; have := h i hi; omega
theorem own_blt {w : World} {b n : Nat} {v : Value} {f : Nat → Int} (h : By.Own w b v n f) {g : Nat} (hg : v.ownBlock = some g) : g < w.heap.size := by
  obtain ⟨c, hc⟩ := own8_type h hg
  exact (Array.getElem?_eq_some_iff.1 hc).1
end Go.Proofs.YtbgdjjfonmoemaaDoor.Vm
