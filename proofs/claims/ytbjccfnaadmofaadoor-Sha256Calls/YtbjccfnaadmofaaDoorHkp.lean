/- The record's two lists of what was told, gone on with; the helper keep. -/
import Derived.Test.YtbjccfnaadmofaaDoorHgw
namespace Go.Proofs.YtbjccfnaadmofaaDoor.Sh
open Go.ChangeShapes Go.WideShapes Go.ChangeAt Go.RowKit
open Go.Proofs.YtbjccfnaadmofaaDoor.By Go.Proofs.YtbjccfnaadmofaaDoor.Wd
theorem wpList_pushG {w : World} {ops : Array Oper} {rest : List Oper} {o : Oper} {a : Act} {Q : Exit → Act → World → Prop} (t el : TypeId) (z : Value) (bytes : Nat) (hut : Tryd.prog.underlying t = some (.slice el)) (hinfo : (Tryd.prog.info? el).map (fun i => (i.zero, i.size, i.bytes)) = some (some z, 1, bytes)) (hz : z.cells.size = 1) (hby : bytes ≤ 24) (hgd : o.guard = none) (s x : Operand)
    (ho : o.op = .call { callee := .builtin .append, args := #[s, x], argTypes := #[t, t] })
    (base : Nat) (u : Value) (n : Nat) (T : List Value) (v : Value) (hu : w.ownsRow base el 1 u n T) (hv : v.oneCell' = true) (hb0 : base ≤ w.heap.size) (hN : n ≤ 10000000) (ad : Addr)
    (hs : a.eval s = u) (hx : a.eval x = .slice (some ad) 1 1) (hc : ∀ j u, [v][j]? = some u → w.cell? (ad.add j) = some u)
    (h : ∀ u' w', w'.ownsRow base el 1 u' (n + 1) (T ++ [v]) → Kp (fun k => u.ownBlock = some k) w w' → SameOrNew w u u' → wpList Tryd.prog ops Q rest (a.put o.dst u') w') : wpList Tryd.prog ops Q (o :: rest) a w := by
  obtain ⟨i0, hi, hz0, hz1, hz2⟩ := info_parts hinfo
  have h1 : ∀ u ∈ [v], u.oneCell' = true := fun u hu => by simp at hu; subst hu; exact hv
  have hNb : (n + 1) * bytes ≤ 140737488355328 := by have := Nat.mul_le_mul (show n + 1 ≤ 10000001 by omega) hby; omega
  have grows : ∀ (ao : Option Addr) (cap : Nat), u = .slice ao n cap → (ao = none → n = 0 ∧ cap = 0) → (∀ b, ao = some b → ∀ j v, T[j]? = some v → w.cell? (b.add j) = some v) → cap < n + 1 →
      wpList Tryd.prog ops Q (o :: rest) a w := by
    intro ao cap hu' hnone hcells hcap
    refine wpList_append_grows _ hgd s x t ho el i0 z 1 bytes hut hi hz0 hz1 hz2 hz (by decide) ao n cap T (hs.trans hu') hnone hu.1 hcells ad 1 1 [v] hx rfl hc h1 hcap (by simp [maxLen]; omega) hNb ?_
    intro u' w' hown hgr
    refine h u' w' ⟨hown.1, ?_⟩ ((Kp.of_grown hgr).mono fun k _ e => by cases e) (.inr fun g hg => (hown.lt g hg).1)
    rcases hown.2 with h' | ⟨g, c, cur, e1, e2, e3⟩
    · exact .inl h'
    · exact .inr ⟨g, c, cur, e1, by omega, e3⟩
  rcases hu.2 with ⟨hun, hn0⟩ | ⟨g, cap, cur, hun, hgb, hg, hnc, hcm, hcs, ht⟩
  · subst hn0
    exact grows none 0 hun (fun _ => ⟨rfl, rfl⟩) (fun b hb => by cases hb) (by simp)
  · by_cases hcap : n + 1 ≤ cap
    · subst hun
      refine wpList_append_fits _ hgd s x t ho base el i0 1 hut hi hz1 g n cap T hs hu ad 1 1 [v] hx rfl hc h1 hcap ?_
      intro w' hown hgr
      exact h _ w' hown (Kp.of_grown hgr) (.inl rfl)
    · subst hun
      refine grows (some ⟨g, 0, none⟩) cap rfl (fun h => by cases h) (fun b hb => ?_) (by omega)
      cases hb
      exact hu.cells rfl
theorem cell_newG (w : World) (v : Value) (t : TypeId) (g : Nat) (hg : g = w.heap.size) : ∀ j u, [v][j]? = some u → (w.alloc (.cells #[v] t)).cell? ((⟨g, 0, none⟩ : Addr).add j) = some u := by
  subst hg
  have h := World.ownsRow_lit (base := 0) (e := t) (size := 1) w #[v] 1 (Nat.zero_le _) (by simp [maxLen]) rfl
  exact h.cells rfl
theorem infoY : (Tryd.prog.info? 40).map (fun i => (i.zero, i.size, i.bytes)) = some (some (.slice none 0 0), 1, 24) := by kernel_rfl
theorem rowG_type {w : World} {base n g : Nat} {v : Value} {e : TypeId} {xs : List Value} (h : w.ownsRow base e 1 v n xs) (hg : v.ownBlock = some g) : ∃ cs, Blk w g cs e ∧ base ≤ g := by
  obtain ⟨_, h' | ⟨g', cap, cur, e', hb, hc, _⟩⟩ := h
  · rw [h'.1] at hg; simp [Value.ownBlock] at hg
  · rw [e'] at hg; simp [Value.ownBlock] at hg
    subst hg
    exact ⟨cur.toList, by show w.heap[g']? = _; rw [hc], hb⟩
theorem rowG_kept {w w' : World} {base n : Nat} {v : Value} {e : TypeId} {xs : List Value} {S : Nat → Prop} (h : w.ownsRow base e 1 v n xs) (hk : Kp S w w') (hne : ∀ g, v.ownBlock = some g → ¬ S g) : w'.ownsRow base e 1 v n xs := by
  obtain ⟨hl, h | ⟨g, cap, cur, rfl, hb, hc, h1, h2, h3, h4⟩⟩ := h
  · exact ⟨hl, .inl h⟩
  · refine ⟨hl, .inr ⟨g, cap, cur, rfl, hb, ?_, h1, h2, h3, h4⟩⟩
    rw [hk.block g (Array.getElem?_eq_some_iff.1 hc).1 (hne g rfl)]; exact hc
theorem rowG_ne {w : World} {B B' n n' : Nat} {v v' : Value} {e e' : TypeId} {xs xs' : List Value} (h : w.ownsRow B e 1 v n xs) (h' : w.ownsRow B' e' 1 v' n' xs') (hne : e ≠ e') : ∀ g, v.ownBlock = some g → v'.ownBlock ≠ some g := fun g hg hg' => by
  obtain ⟨c, hc, _⟩ := rowG_type h hg
  obtain ⟨c', hc', _⟩ := rowG_type h' hg'
  exact Blk.ne hc hc' hne rfl
theorem rowG_blk {w : World} {B n b : Nat} {v : Value} {e e' : TypeId} {xs cs : List Value} (h : w.ownsRow B e 1 v n xs) (hb : Blk w b cs e') (hne : e ≠ e') : ∀ g, v.ownBlock = some g → g ≠ b := fun g hg => by
  obtain ⟨c, hc, _⟩ := rowG_type h hg
  exact Blk.ne hc hb hne
theorem rowG_slice {w : World} {B n : Nat} {v : Value} {e : TypeId} {xs : List Value} (h : w.ownsRow B e 1 v n xs) : ∃ a c, v = .slice a n c := by
  obtain ⟨_, ⟨rfl, rfl⟩ | ⟨g, cap, cur, rfl, _⟩⟩ := h
  · exact ⟨_, _, rfl⟩
  · exact ⟨_, _, rfl⟩
/-- The record: eight cells, and the two lists of what was told. -/
structure Two (W : World) (B xb : Nat) (c8 : List Value) (tv wv : Value) (ts ws : List Value) : Prop where
  here : Blk W xb (c8 ++ [tv, wv]) 36
  l8 : c8.length = 8
  r3 : W.ownsRow B 40 1 tv ts.length ts
  r4 : W.ownsRow B 40 1 wv ws.length ws
  dis : ∀ g, tv.ownBlock = some g → wv.ownBlock ≠ some g
  hB : B ≤ xb
/-- The blocks that keep may turn. -/
def SF (xb : Nat) (tv wv : Value) (j : Nat) : Prop := j = xb ∨ tv.ownBlock = some j ∨ wv.ownBlock = some j
theorem c8_8 (c8 : List Value) (tv wv : Value) (h : c8.length = 8) : (c8 ++ [tv, wv])[8]? = some tv := by
  rw [List.getElem?_append_right (by omega), h]; rfl
theorem c8_9 (c8 : List Value) (tv wv : Value) (h : c8.length = 8) : (c8 ++ [tv, wv])[9]? = some wv := by
  rw [List.getElem?_append_right (by omega), h]; rfl
theorem c8_s8 (c8 : List Value) (tv wv u : Value) (h : c8.length = 8) : (c8 ++ [tv, wv]).set 8 u = c8 ++ [u, wv] := by
  rw [List.set_append_right _ _ (by omega), h]; rfl
theorem c8_s9 (c8 : List Value) (tv wv u : Value) (h : c8.length = 8) : (c8 ++ [tv, wv]).set 9 u = c8 ++ [tv, u] := by
  rw [List.set_append_right _ _ (by omega), h]; rfl
section
variable {W W1 W2 : World} {B xb : Nat} {c8 : List Value} {tv wv u x : Value} {ts ws : List Value}
theorem Two.below (h : Two W B xb c8 tv wv ts ws) (hb : Below W.heap.size W W1) : Two W1 B xb c8 tv wv ts ws :=
  ⟨h.here.below hb, h.l8, rowG_kept h.r3 (Kp.of_below (fun _ => False) hb) (fun _ _ => id), rowG_kept h.r4 (Kp.of_below (fun _ => False) hb) (fun _ _ => id), h.dis, h.hB⟩
theorem Two.pushT (h : Two W B xb c8 tv wv ts ws) (hw : Below W.heap.size W W1) (ho : W2.ownsRow B 40 1 u (ts.length + 1) (ts ++ [x])) (hk : Kp (fun j => tv.ownBlock = some j) W1 W2) (hs : SameOrNew W1 tv u) :
    Blk W2 xb (c8 ++ [tv, wv]) 36 ∧ Two (W2.setCell ⟨xb, 8, none⟩ u) B xb c8 u wv (ts ++ [x]) ws ∧ Kp (fun j => j = xb ∨ tv.ownBlock = some j) W (W2.setCell ⟨xb, 8, none⟩ u) ∧ SameOrNew W tv u := by
  have h0 := h.below hw
  have hsz := hw.size
  have b2 : Blk W2 xb _ 36 := h0.here.kept hk (fun e => rowG_blk h0.r3 h0.here (by decide) _ e rfl)
  have k1 : Kp (fun j => j = xb) W2 (W2.setCell ⟨xb, 8, none⟩ u) := Kp.setCell _ _ _
  have qw := rowG_kept h0.r4 hk (fun g hg e => h.dis g e hg)
  refine ⟨b2, ⟨(by rw [← c8_s8 c8 tv wv u h.l8]; exact b2.set 8 u), h.l8, (by rw [show (ts ++ [x]).length = ts.length + 1 by simp]; exact rowG_kept ho k1 (rowG_blk ho b2 (by decide))), rowG_kept qw k1 (rowG_blk qw b2 (by decide)), ?_, h.hB⟩, ?_, hs.imp id (fun h g hg => by have := h g hg; omega)⟩
  · intro g hg e
    rcases hs with hs | hs
    · rw [hs] at hg; exact h.dis g hg e
    · have := hs g hg; have := (h0.r4.lt g e).2; omega
  · exact ((Kp.of_below _ hw).trans (hk.mono (fun k _ e => .inr e)) (fun _ _ e => e)).trans k1 (fun k _ e => .inl e)
theorem Two.pushW (h : Two W B xb c8 tv wv ts ws) (hw : Below W.heap.size W W1) (ho : W2.ownsRow B 40 1 u (ws.length + 1) (ws ++ [x])) (hk : Kp (fun j => wv.ownBlock = some j) W1 W2) (hs : SameOrNew W1 wv u) :
    Blk W2 xb (c8 ++ [tv, wv]) 36 ∧ Two (W2.setCell ⟨xb, 9, none⟩ u) B xb c8 tv u ts (ws ++ [x]) ∧ Kp (fun j => j = xb ∨ wv.ownBlock = some j) W (W2.setCell ⟨xb, 9, none⟩ u) ∧ SameOrNew W wv u := by
  have h0 := h.below hw
  have hsz := hw.size
  have b2 : Blk W2 xb _ 36 := h0.here.kept hk (fun e => rowG_blk h0.r4 h0.here (by decide) _ e rfl)
  have k1 : Kp (fun j => j = xb) W2 (W2.setCell ⟨xb, 9, none⟩ u) := Kp.setCell _ _ _
  have qt := rowG_kept h0.r3 hk (fun g hg e => h.dis g hg e)
  refine ⟨b2, ⟨(by rw [← c8_s9 c8 tv wv u h.l8]; exact b2.set 9 u), h.l8, rowG_kept qt k1 (rowG_blk qt b2 (by decide)), (by rw [show (ws ++ [x]).length = ws.length + 1 by simp]; exact rowG_kept ho k1 (rowG_blk ho b2 (by decide))), ?_, h.hB⟩, ?_, hs.imp id (fun h g hg => by have := h g hg; omega)⟩
  · intro g hg e
    rcases hs with hs | hs
    · rw [hs] at e; exact h.dis g hg e
    · have := hs g e; have := (h0.r3.lt g hg).2; omega
  · exact ((Kp.of_below _ hw).trans (hk.mono (fun k _ e => .inr e)) (fun _ _ e => e)).trans k1 (fun k _ e => .inl e)
end
set_option maxHeartbeats 2000000 in
theorem keep1 (B xb n : Nat) (c8 : List Value) (tv wv b c : Value) (ts ws : List Value) (f : Nat → Int) (w : World) (h : Two w B xb c8 tv wv ts ws) (hb : ∀ w', Kp (SF xb tv wv) w w' → By.RB w' b n f) (hc : ∀ w', Kp (SF xb tv wv) w w' → By.RB w' c n f) (hn : n ≤ 140737488355328) (hB : B ≤ w.heap.size) (ht : ts.length ≤ 1000000) (hwl : ws.length ≤ 1000000) :
    Calls Tryd.prog 28 #[.pointer (some ⟨xb, 0, none⟩), b, c] w fun e w' => e = .returned (.bool true) ∧ ∃ tv' wv', Two w' B xb c8 tv' wv' (ts ++ [b]) (ws ++ [c]) ∧ Kp (SF xb tv wv) w w' ∧ SameOrNew w tv tv' ∧ SameOrNew w wv wv' := by
  obtain ⟨xa, xc, rfl⟩ : ∃ a cap, b = .slice a n cap := by obtain ⟨_, a, cap, e, _⟩ := hb w (Kp.refl _ _); exact ⟨a, cap, e⟩
  obtain ⟨ya, yc, rfl⟩ : ∃ a cap, c = .slice a n cap := by obtain ⟨_, a, cap, e, _⟩ := hc w (Kp.refl _ _); exact ⟨a, cap, e⟩
  have HX := hid hb
  have HY := hid hc
  have H := hid h
  have c4 := h.here.cell 8 _ (c8_8 _ _ _ h.l8)
  have f4 := h.here.frozen 8
  have L8 := hid h.l8
  have hlt := h.here.lt
  obtain ⟨tn, htn⟩ : ∃ m, ts.length = m := ⟨_, rfl⟩
  obtain ⟨wn, hwn⟩ : ∃ m, ws.length = m := ⟨_, rfl⟩
  have TN := hid htn
  have WN := hid hwn
  have R3 : Hid (w.ownsRow B 40 1 tv tn ts) := by have := h.r3; rw [htn] at this; exact this
  have R4 : Hid (w.ownsRow B 40 1 wv wn ws) := by have := h.r4; rw [hwn] at this; exact this
  rw [htn] at ht
  rw [hwn] at hwl
  obtain ⟨ta, tc, rfl⟩ := rowG_slice R3.out
  obtain ⟨wa, wc, rfl⟩ := rowG_slice R4.out
  clear hb hc h htn hwn
  go_enter Tryd.func28, Tryd.ntmps28
  go_wp2_with (at_builtin; go_must (refine wpList_pushG 34 40 (.slice none 0 0) 24 Tryd.underlying34 infoY rfl (by decide) rfl _ _ rfl B _ tn ts _ (rowG_kept R3.out (Kp.of_below (fun _ => False) (below_alloc _ _)) (fun _ _ => id)) rfl ?c1 ?c2 ⟨_, 0, none⟩ rfl rfl (cell_newG _ _ _ _ rfl) ?_))
  case c1 => simp; omega
  case c2 => omega
  intro u1 w1 hown hkp hson
  obtain ⟨b1, t1, k1, s1⟩ := H.out.pushT (below_alloc w _) (by rw [TN.out]; exact hown) hkp hson
  obtain ⟨ua, uc, rfl⟩ := rowG_slice hown
  have hsz1 := hkp.size
  have hz1 : w.heap.size ≤ w1.heap.size := by simp at hsz1; omega
  have d4 := b1.cell 8 _ (c8_8 _ _ _ L8.out)
  have d5 := b1.cell 9 _ (c8_9 _ _ _ L8.out)
  have g4 := b1.frozen 8
  have hlt1 := b1.lt
  have T1 := hid t1
  have K1 := hid k1
  have S1 := hid s1
  have e5 := t1.here.cell 9 _ (c8_9 _ _ _ L8.out)
  have hset : (w1.setCell ⟨xb, 8, none⟩ (.slice ua (tn + 1) uc)).heap.size = w1.heap.size := by simp [World.setCell]
  have R4' : Hid ((w1.setCell ⟨xb, 8, none⟩ (.slice ua (tn + 1) uc)).ownsRow B 40 1 (.slice wa wn wc) wn ws) := by have := t1.r4; rw [WN.out] at this; exact this
  clear hown hkp hson b1 t1 k1 s1 hsz1
  go_wp2_with (at_builtin; go_must (refine wpList_pushG 34 40 (.slice none 0 0) 24 Tryd.underlying34 infoY rfl (by decide) rfl _ _ rfl B _ wn ws _ (rowG_kept R4'.out (Kp.of_below (fun _ => False) (below_alloc _ _)) (fun _ _ => id)) rfl ?c1 ?c2 ⟨_, 0, none⟩ rfl rfl (cell_newG _ _ _ _ (by simp)) ?_))
  case c1 => simp; omega
  case c2 => omega
  intro u2 w2 hown hkp hson
  obtain ⟨b2, t2, k2, s2⟩ := T1.out.pushW (below_alloc _ _) (by rw [WN.out]; exact hown) hkp hson
  obtain ⟨ub, ud, rfl⟩ := rowG_slice hown
  have e4 := b2.cell 8 _ (c8_8 _ _ _ L8.out)
  have e6 := b2.cell 9 _ (c8_9 _ _ _ L8.out)
  have i5 := b2.frozen 9
  have T2 := hid t2
  have KK : Hid (Kp (SF xb (.slice ta tn tc) (.slice wa wn wc)) w (w2.setCell ⟨xb, 9, none⟩ (.slice ub (wn + 1) ud))) := by
    refine (K1.out.mono (fun j _ e => ?_)).trans k2 (fun j _ e => ?_)
    · exact e.elim .inl (fun e => .inr (.inl e))
    · exact e.elim .inl (fun e => .inr (.inr e))
  have S2 : Hid (SameOrNew w (.slice wa wn wc) (.slice ub (wn + 1) ud)) := s2.imp id (fun h g hg => by have := h g hg; omega)
  clear hown hkp hson b2 t2 k2 s2
  go_wp2_with fail
  have RX := hid (HX.out _ KK.out)
  have RY := hid (HY.out _ KK.out)
  refine (same_true _ _ n f f _ RX.out RY.out (by omega) (fun _ _ => rfl)).mono ?_
  rintro e w3 ⟨rfl, d, rfl⟩
  go_wp2
  go_ret
  exact ⟨by simp, _, _, T2.out.below (below_drewN _ _), KK.out.trans (Kp.of_below _ (below_drewN _ _)) (fun _ _ e => e), S1.out, S2.out⟩
end Go.Proofs.YtbjccfnaadmofaaDoor.Sh
