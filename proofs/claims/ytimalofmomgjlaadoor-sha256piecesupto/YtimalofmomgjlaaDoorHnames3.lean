/- The law Sha256Names: what its loop keeps. -/
import Derived.Test.YtimalofmomgjlaaDoorHnames
import Derived.Deep.AppendLies
namespace Go.Proofs.YtimalofmomgjlaaDoor.Sh
open Go.ChangeShapes Go.WideShapes Go.ChangeAt Go.RowKit
open Go.Proofs.YtimalofmomgjlaaDoor.By Go.Proofs.YtimalofmomgjlaaDoor.Wd

theorem infoI : (Tryd.prog.info? 3).map (fun i => (i.zero, i.size, i.bytes)) = some (some (.int .i64 0), 1, 8) := by kernel_rfl
theorem row_type {w : World} {base n : Nat} {v : Value} {e : TypeId} {size : Nat} {xs : List Value} (h : w.ownsRow base e size v n xs) {g : Nat} (hg : v.ownBlock = some g) : ∃ cs, w.heap[g]? = some (.cells cs e (0, 0)) := by
  obtain ⟨_, h | ⟨g', cap, cur, rfl, _, hc, _⟩⟩ := h
  · obtain ⟨rfl, _⟩ := h; simp [Value.ownBlock] at hg
  · simp [Value.ownBlock] at hg; subst hg; exact ⟨cur, hc⟩
theorem row_kept {w w' : World} {base n : Nat} {v : Value} {e : TypeId} {size : Nat} {xs : List Value} {S : Nat → Prop} (h : w.ownsRow base e size v n xs) (hk : Kp S w w') (hne : ∀ g, v.ownBlock = some g → ¬ S g) : w'.ownsRow base e size v n xs := by
  obtain ⟨hl, h | ⟨g, cap, cur, rfl, hb, hc, h1, h2, h3, h4⟩⟩ := h
  · exact ⟨hl, .inl h⟩
  · refine ⟨hl, .inr ⟨g, cap, cur, rfl, hb, ?_, h1, h2, h3, h4⟩⟩
    rw [hk.block g (Array.getElem?_eq_some_iff.1 hc).1 (hne g rfl)]; exact hc
def szl : List Value := [.int .i64 63, .int .i64 1, .int .i64 65]
structure NS (w0 : World) (B b kb zb : Nat) (u cv : Value) (m : Nat) (L : List Rn) (cs : List Int) (W : World) : Prop where
  st : St W b m f0
  led : ∃ rv, Led W kb rv L ∧ ∀ q, rv.ownBlock = some q → B ≤ q
  form : By.Own W B u 104 (formf 0 f0)
  sizes : Blk W zb szl 3
  counts : W.ownsRow B 3 1 cv cs.length (cs.map (Value.int .i64))
  bel : Below B w0 W
  kt : KT W
  hb : B ≤ b
  hkb : B ≤ kb
  hB : B ≤ W.heap.size
  h0 : 0 < B
  hz : ∀ q, cv.ownBlock = some q → q ≠ zb
theorem NS.below {w0 W W' : World} {B b kb zb m : Nat} {u cv : Value} {L : List Rn} {cs : List Int} (h : NS w0 B b kb zb u cv m L cs W) (hb : Below W.heap.size W W') : NS w0 B b kb zb u cv m L cs W' := by
  obtain ⟨rv, hl, ho⟩ := h.led
  exact ⟨h.st.below hb, ⟨rv, hl.below hb, ho⟩, own_below h.form hb, h.sizes.below hb, row_kept h.counts (Kp.of_below (fun _ => False) hb) (fun _ _ e => e), h.bel.trans (hb.mono h.hB), h.kt.below hb, h.hb, h.hkb, Nat.le_trans h.hB hb.size, h.h0, h.hz⟩
theorem cat_f0 (m : Nat) : cat m f0 f0 = f0 := by funext i; unfold cat f0; split <;> rfl
/-- Write of n noughts, with the ledger. -/
theorem NS.write {w0 W : World} {B b kb zb m n : Nat} {u cv : Value} {L : List Rn} {cs : List Int} (h : NS w0 B b kb zb u cv m L cs W) (v : Value) (hr : ∀ w', (∀ g cells, Blk W g cells 5 → Blk w' g cells 5) → By.RB w' v n f0) (hn : m + n ≤ 1000) (hL : tot L ≤ 1000) :
    Calls Tryd.prog 26 #[.pointer (some ⟨b, 0, none⟩), .pointer (some ⟨kb, 0, none⟩), v] W fun e w' => e = .returned (.int .i64 0) ∧ NS w0 B b kb zb u cv (m + n) (evs256 L ((m + n) / 64 - m / 64)) cs w' := by
  obtain ⟨rv, hl, ho⟩ := h.led
  have key : ∀ g cells t, Blk W g cells t → t ≠ 75 → t ≠ 80 → t ≠ 68 → ¬ (g = b ∨ SL kb rv g) := by
    rintro g cells t hg h1 h2 h3 (e | e)
    · exact Blk.ne hg h.st.here h1 e
    · exact led_apart hl hg h2 h3 e
  refine (write26 b m n v f0 f0 (some kb) L (fun j => j = b ∨ SL kb rv j) W h.st h.kt (by rintro (e | e | e); have := h.hb; have := h.h0; omega; have := h.hkb; have := h.h0; omega; have := ho 0 e; have := h.h0; omega) (.inl rfl) ⟨.inr (.inl rfl), rv, hl, fun g hg _ => .inr (.inr hg)⟩ hl.pos (fun w' hk => hr w' (fun g cells hg => hg.kept hk (key g cells _ hg (by decide) (by decide) (by decide)))) (by omega) (by omega)).mono ?_
  rintro e w' ⟨rfl, hs, hlg, hk⟩
  rw [cat_f0] at hs
  obtain ⟨_, rv', hl', ho'⟩ := hlg
  have hbel : Below B W w' := hk.below h.hB (fun k hk e => by rcases e with e | e | e; have := h.hb; omega; have := h.hkb; omega; have := ho k e; omega)
  refine ⟨rfl, hs, ⟨rv', hl', fun q hq => ?_⟩, ?_, h.sizes.kept hk (key zb _ _ h.sizes (by decide) (by decide) (by decide)), ?_, h.bel.trans hbel, h.kt.kept hk (by rintro (e | e | e); have := h.hb; have := h.h0; omega; have := h.hkb; have := h.h0; omega; have := ho 0 e; have := h.h0; omega), h.hb, h.hkb, Nat.le_trans h.hB hk.size, h.h0, h.hz⟩
  · by_cases hlt : q < W.heap.size
    · rcases ho' q hq hlt with e | e | e
      · have := h.hb; omega
      · have := h.hkb; omega
      · exact ho q e
    · have := h.hB; omega
  · refine own_kept h.form hk (fun g hg => ?_)
    obtain ⟨c, hc⟩ := own8_type h.form hg
    exact key g c.toList 5 (by show W.heap[g]? = _; rw [hc]) (by decide) (by decide) (by decide)
  · refine row_kept h.counts hk (fun g hg => ?_)
    obtain ⟨c, hc⟩ := row_type h.counts hg
    exact key g c.toList 3 (by show W.heap[g]? = _; rw [hc]) (by decide) (by decide) (by decide)
/-- Sum, with the ledger. -/
theorem NS.sum {w0 W : World} {B b kb zb m : Nat} {u cv : Value} {L : List Rn} {cs : List Int} (h : NS w0 B b kb zb u cv m L cs W) (hm : m ≤ 1000) (hL : tot L ≤ 1000) :
    Calls Tryd.prog 32 #[.pointer (some ⟨b, 0, none⟩), .pointer (some ⟨kb, 0, none⟩)] W fun e w' => ∃ v, e = .returned (.tuple #[v, .int .i64 0]) ∧ NS w0 B b kb zb u cv m (evs256 L (last m)) cs w' := by
  obtain ⟨rv, hl, ho⟩ := h.led
  have key : ∀ g cells t, Blk W g cells t → t ≠ 80 → t ≠ 68 → ¬ SL kb rv g := fun g cells t hg h2 h3 e => led_apart hl hg h2 h3 e
  refine (sum32 b m f0 (some kb) L (SL kb rv) W h.st h.kt (by rintro (e | e); have := h.hkb; have := h.h0; omega; have := ho 0 e; have := h.h0; omega) (lg_led hl) hl.pos (by omega) (by omega)).mono ?_
  rintro e w' ⟨v, rfl, -, hlg, hk⟩
  obtain ⟨_, rv', hl', ho'⟩ := hlg
  have hbel : Below B W w' := hk.below h.hB (fun k hk e => by rcases e with e | e; have := h.hkb; omega; have := ho k e; omega)
  refine ⟨v, rfl, h.st.kept hk (key b _ _ h.st.here (by decide) (by decide)), ⟨rv', hl', fun q hq => ?_⟩, ?_, h.sizes.kept hk (key zb _ _ h.sizes (by decide) (by decide)), ?_, h.bel.trans hbel, h.kt.kept hk (by rintro (e | e); have := h.hkb; have := h.h0; omega; have := ho 0 e; have := h.h0; omega), h.hb, h.hkb, Nat.le_trans h.hB hk.size, h.h0, h.hz⟩
  · by_cases hlt : q < W.heap.size
    · rcases ho' q hq hlt with e | e
      · have := h.hkb; omega
      · exact ho q e
    · have := h.hB; omega
  · refine own_kept h.form hk (fun g hg => ?_)
    obtain ⟨c, hc⟩ := own8_type h.form hg
    exact key g c.toList 5 (by show W.heap[g]? = _; rw [hc]) (by decide) (by decide)
  · refine row_kept h.counts hk (fun g hg => ?_)
    obtain ⟨c, hc⟩ := row_type h.counts hg
    exact key g c.toList 3 (by show W.heap[g]? = _; rw [hc]) (by decide) (by decide)
theorem row_cell {w : World} {base g cap n : Nat} {xs : List Value} (h : w.ownsRow base 3 1 (.slice (some ⟨g, 0, none⟩) n cap) n xs) (i : Nat) (x : Value) (hi : xs[i]? = some x) : w.cell? ⟨g, i, none⟩ = some x := by
  obtain ⟨hl, h | ⟨g', cap', cur, e, hb, hc, h1, h2, h3, h4⟩⟩ := h
  · simp at h
  · simp only [Value.slice.injEq, Option.some.injEq, Addr.mk.injEq] at e
    obtain ⟨⟨rfl, _⟩, _, rfl⟩ := e
    rw [cell_of_row w g i cur 3 (0, 0) hc]
    rw [← h4, List.getElem?_take] at hi
    split at hi
    · simpa using hi
    · cases hi
set_option maxRecDepth 4000 in
theorem ints3 (p q cp : Nat) (x y z : Int) (w : World) (a0 : w.cell? ⟨p, 0, none⟩ = some (.int .i64 x)) (a1 : w.cell? ⟨p, 1, none⟩ = some (.int .i64 y)) (a2 : w.cell? ⟨p, 2, none⟩ = some (.int .i64 z))
    (b0 : w.cell? ⟨q, 0, none⟩ = some (.int .i64 x)) (b1 : w.cell? ⟨q, 1, none⟩ = some (.int .i64 y)) (b2 : w.cell? ⟨q, 2, none⟩ = some (.int .i64 z)) :
    Calls Tryd.prog 36 #[.slice (some ⟨p, 0, none⟩) 3 cp, .slice (some ⟨q, 0, none⟩) 3 3] w fun e w' => e = .returned (.bool true) ∧ ∃ d, w' = w.drewN d := by
  go_enter Tryd.func36, Tryd.ntmps36
  go_wp2_with fail
  refine wp_loop_rounds 4 ?_
  rw [rounds_succ]
  go_wp2_with fail
  go_quiet (fail)
  go_wp2_with fail
  rw [rounds_succ]
  go_wp2_with fail
  go_quiet (fail)
  go_wp2_with fail
  rw [rounds_succ]
  go_wp2_with fail
  go_quiet (fail)
  go_wp2_with fail
  rw [rounds_succ]
  go_wp2
  go_ret
  exact ⟨rfl, _, rfl⟩
theorem bel_al {w w' : World} {o : Obj} (h : Below w.heap.size w w') : Below w.heap.size w (w'.alloc o) := h.alloc h.size o
theorem bel_dn {w w' : World} {d : Nat} (h : Below w.heap.size w w') : Below w.heap.size w (w'.drewN d) := below_drew' h d
theorem bel_d1 {w w' : World} (h : Below w.heap.size w w') : Below w.heap.size w w'.drew := below_drew' h 1
theorem rb_top (w : World) (n : Nat) (f : Nat → Int) (hf : ∀ i, 0 ≤ f i ∧ f i < 256) (hn : n ≤ maxLen) : By.RB (w.alloc (.cells (bl n f).toArray 5)) (.slice (some ⟨w.heap.size, 0, none⟩) n n) n f := rb_blk (Blk.new w (bl n f) 5) hf hn
theorem rb_tail {w : World} {g cap : Nat} {f : Nat → Int} (h : By.RB w (.slice (some ⟨g, 0, none⟩) 104 cap) 104 f) : By.RB w (sub (some ⟨g, 0, none⟩) cap 32 104) 72 (fun i => f (32 + i)) := by
  have hc := rb_cap h
  obtain ⟨hf, a', cap', he, h1, h2, hc'⟩ := h
  simp only [Value.slice.injEq] at he
  obtain ⟨e1, _, e3⟩ := he
  refine ⟨fun i => hf _, some ⟨g, 32, none⟩, cap - 32, ?_, by omega, by omega, ?_⟩
  · show Value.slice (if cap = 32 then _ else _) _ _ = _
    rw [if_neg (by omega)]
    rfl
  · rcases hc' with ⟨h, _⟩ | ⟨b, off, e, hc'⟩
    · omega
    · rw [← e1] at e
      simp only [Option.some.injEq, Addr.mk.injEq] at e
      obtain ⟨rfl, rfl, _⟩ := e
      exact .inr ⟨_, _, rfl, fun i hi => by have := hc' (32 + i) (by omega); rwa [Nat.zero_add] at this⟩
def beg8 : Nat → Int := lst [106, 9, 230, 103, 187, 103, 174, 133]
theorem beg8_bound (i : Nat) : 0 ≤ beg8 i ∧ beg8 i < 256 := lst_bound _ (by decide) i
theorem form_8 (i : Nat) (hi : i < 8) : formf 0 f0 i = beg8 i := (show ∀ j, j < 8 → formf 0 f0 j = beg8 j from by decide +kernel) i hi
theorem form_72 (i : Nat) (hi : i < 72) : formf 0 f0 (32 + i) = f0 i := (show ∀ j, j < 72 → formf 0 f0 (32 + j) = f0 j from by decide +kernel) i hi
/-- A count more. -/
theorem NS.count {w0 W W' : World} {B b kb zb m g cap : Nat} {u cv : Value} {L : List Rn} {cs : List Int} {x : Int} (h : NS w0 B b kb zb u cv m L cs W) (hg : W.grownBy W' cv.ownBlock) (ho : W'.ownsRow B 3 1 (.slice (some ⟨g, 0, none⟩) (cs.length + 1) cap) (cs.length + 1) (cs.map (Value.int .i64) ++ [.int .i64 x])) (hw : cv.ownBlock = some g ∨ g = W.heap.size) :
    NS w0 B b kb zb u (.slice (some ⟨g, 0, none⟩) (cs.length + 1) cap) m L (cs ++ [x]) W' := by
  obtain ⟨rv, hl, hro⟩ := h.led
  have hk := Kp.of_grown hg
  have key : ∀ q cells t, Blk W q cells t → t ≠ 3 → ¬ (cv.ownBlock = some q) := by
    intro q cells t hq ht e
    obtain ⟨c, hc⟩ := row_type h.counts e
    exact Blk.ne hq (show Blk W q c.toList 3 from by show W.heap[q]? = _; rw [hc]) ht rfl
  have hB2 : ∀ q, cv.ownBlock = some q → B ≤ q := fun q hq => by
    obtain ⟨_, h' | ⟨g', cap', cur, e, hb, _⟩⟩ := h.counts
    · rw [h'.1] at hq; simp [Value.ownBlock] at hq
    · rw [e] at hq; simp [Value.ownBlock] at hq; omega
  have hbel : Below B W W' := hk.below h.hB (fun k hk e => by have := hB2 k e; omega)
  refine ⟨⟨h.st.here.kept hk (key b _ _ h.st.here (by decide)), h.st.byte, h.st.few⟩, ⟨rv, hl.kept hk (fun e => ?_) (fun q hq e => ?_), hro⟩, ?_, h.sizes.kept hk (fun e => h.hz zb e rfl), ?_, h.bel.trans hbel, h.kt.kept hk (fun e => by have := hB2 0 e; have := h.h0; omega), h.hb, h.hkb, Nat.le_trans h.hB hg.size, h.h0, fun q hq => ?_⟩
  · obtain ⟨c, hc⟩ := row_type h.counts e
    have := Option.some.inj (hc.symm.trans hl.here)
    simp at this
  · obtain ⟨c, hc⟩ := row_type h.counts e
    obtain ⟨c2, hc2⟩ := own_type hl.own hq
    have := Option.some.inj (hc.symm.trans hc2)
    simp at this
  · refine own_kept h.form hk (fun q hq => ?_)
    obtain ⟨c, hc⟩ := own8_type h.form hq
    exact key q c.toList 5 (by show W.heap[q]? = _; rw [hc]) (by decide)
  · rw [List.length_append, List.map_append]; exact ho
  · simp only [Value.ownBlock, Option.some.injEq] at hq
    subst hq
    rcases hw with e | e
    · exact h.hz _ e
    · have := h.sizes.lt; omega
end Go.Proofs.YtimalofmomgjlaaDoor.Sh
