/- The law Sha512Plays: both sides' states as the law holds them. -/
import Derived.Test.YtdhbkekpjojlnaaDoorJref
import Derived.Deep.RegionLaw
import Derived.Deep.AppendLies
namespace Go.Proofs.YtdhbkekpjojlnaaDoor.Sg
open Go.ChangeShapes Go.WideShapes Go.ChangeAt Go.RowKit
open Go.Proofs.YtdhbkekpjojlnaaDoor.By Go.Proofs.YtdhbkekpjojlnaaDoor.Wd

/-- A block of another kind than those of states of the program and of ledgers. -/
def Ot (W : World) (B j : Nat) : Prop := B ≤ j ∧ ∃ cs t, Blk W j cs t ∧ t ≠ 38 ∧ t ≠ 79 ∧ t ≠ 56 ∧ t ≠ 58
section
variable {w0 W W' : World} {B : Nat} {sts : List (Nat × SK)} {leds leds1 leds2 : List LE} {e e' : LE}
theorem Ot.st {j b : Nat} {k : SK} (h : Ot W B j) (hs : IsSt W b k) : b ≠ j := by
  obtain ⟨_, cs, t, hc, h1, _⟩ := h
  obtain ⟨c, hb⟩ := hs.blk
  exact Blk.ne hb hc (fun e => h1 e.symm)
theorem Ot.led {j : Nat} {q : LE} (h : Ot W B j) (hq : IsLed W q) : ¬ SE q j := by
  obtain ⟨_, cs, t, hc, _, h2, h3, h4⟩ := h
  rintro (e1 | e1)
  · obtain ⟨c, hb⟩ := hq.blk
    rw [e1] at hc
    refine Blk.ne hc hb ?_ rfl
    cases ho : q.own with
    | true => exact h3
    | false => exact h4
  · obtain ⟨c, hb⟩ := hq.run e1
    exact Blk.ne hc hb h2 rfl
theorem GS.turnO (h : GS w0 B sts leds W) {S : Nat → Prop} (hS : ∀ j, S j → Ot W B j) (hk : Kp S W W') : GS w0 B sts leds W' :=
  ⟨fun p hp => ⟨(h.st p hp).1.kept hk (fun hs => (hS _ hs).st (h.st p hp).1 rfl), (h.st p hp).2⟩, h.stn,
    fun q hq => ⟨(h.led q hq).1.kept hk (fun hs => (hS _ hs).led (h.led q hq).1 (.inl rfl)) (fun g hg hs => (hS _ hs).led (h.led q hq).1 (.inr hg)), (h.led q hq).2⟩, h.ledn,
    h.bel.trans (hk.below h.hB (fun j hj hs => by have := (hS j hs).1; omega)), h.kt.kept hk (fun hs => by have := (hS 0 hs).1; have := h.h0; omega), h.h0, Nat.le_trans h.hB hk.size⟩
/-- One ledger is turned, and blocks of other kinds. -/
theorem GS.turnLO (h : GS w0 B sts (leds1 ++ e :: leds2) W) {S : Nat → Prop} (hS : ∀ j, S j → SE e j ∨ Ot W B j) (hk : Kp S W W') (hn : IsLed W' e') (hb : e'.blk = e.blk) (hr : ∀ g, e'.rv.ownBlock = some g → g < W.heap.size → e.rv.ownBlock = some g) : GS w0 B sts (leds1 ++ e' :: leds2) W' := by
  obtain ⟨he, hB1, hB2, hap⟩ := h.midL
  have hSB : ∀ j, S j → B ≤ j := fun j hj => by
    rcases hS j hj with (e1 | e1) | e1
    · rw [e1]; exact hB1
    · exact hB2 j e1
    · exact e1.1
  have nst : ∀ p ∈ sts, ¬ S p.1 := fun p hp hs => by
    rcases hS _ hs with (e1 | e1) | e1
    · obtain ⟨c, hc⟩ := (h.st p hp).1.blk
      obtain ⟨c', hc'⟩ := he.blk
      rw [e1] at hc
      exact Blk.ne hc hc' (tl_ne e.own).1 rfl
    · obtain ⟨c, hc⟩ := (h.st p hp).1.blk
      obtain ⟨c', hc'⟩ := he.run e1
      exact Blk.ne hc hc' (by decide) rfl
    · exact e1.st (h.st p hp).1 rfl
  have hS' : ∀ j, SE e j → (∃ cs, Blk W j cs 38) ∨ SE e j := fun _ hj => .inr hj
  have nl : ∀ q, q ∈ leds1 ∨ q ∈ leds2 → ¬ S q.blk ∧ ∀ g, q.rv.ownBlock = some g → ¬ S g := fun q hq => by
    have hq1 : IsLed W q := (h.led q (by rcases hq with hq | hq <;> simp [hq])).1
    have a1 := h.apartL hS' q hq
    refine ⟨fun hs => ?_, fun g hg hs => ?_⟩
    · rcases hS _ hs with e1 | e1
      · exact a1.1 e1
      · exact e1.led hq1 (.inl rfl)
    · rcases hS _ hs with e1 | e1
      · exact a1.2 g hg e1
      · exact e1.led hq1 (.inr hg)
  refine ⟨fun p hp => ⟨(h.st p hp).1.kept hk (nst p hp), (h.st p hp).2⟩, h.stn, fun q hq => ?_, h.lednL (h.newL hS' hb (fun g hg hlt => .inr (hr g hg hlt))), h.bel.trans (hk.below h.hB (fun j hj hs => by have := hSB j hs; omega)), h.kt.kept hk (fun hs => by have := hSB 0 hs; have := h.h0; omega), h.h0, Nat.le_trans h.hB hk.size⟩
  have old : ∀ q, q ∈ leds1 ∨ q ∈ leds2 → IsLed W' q ∧ B ≤ q.blk ∧ ∀ g, q.rv.ownBlock = some g → B ≤ g := fun q hq => by
    have h1 := h.led q (by rcases hq with hq | hq <;> simp [hq])
    exact ⟨h1.1.kept hk (nl q hq).1 (nl q hq).2, h1.2⟩
  rcases List.mem_append.1 hq with hq | hq
  · exact old q (.inl hq)
  · rcases List.mem_cons.1 hq with rfl | hq
    · refine ⟨hn, by rw [hb]; exact hB1, fun g hg => ?_⟩
      by_cases hlt : g < W.heap.size
      · exact hB2 g (hr g hg hlt)
      · have := h.hB; omega
    · exact old q (.inr hq)
end

/-- A row gone on with by one value that lies in a block of its own. -/
theorem wpList_pushG {w : World} {ops : Array Oper} {rest : List Oper} {o : Oper} {a : Act} {Q : Exit → Act → World → Prop} (t el : TypeId) (z : Value) (bytes : Nat) (hut : Tryd.prog.underlying t = some (.slice el)) (hinfo : (Tryd.prog.info? el).map (fun i => (i.zero, i.size, i.bytes)) = some (some z, 1, bytes)) (hz : z.cells.size = 1) (hby : bytes ≤ 24) (hgd : o.guard = none) (s x : Operand)
    (ho : o.op = .call { callee := .builtin .append, args := #[s, x], argTypes := #[t, t] })
    (base : Nat) (u : Value) (n : Nat) (T : List Value) (v : Value) (hu : w.ownsRow base el 1 u n T) (hv : v.oneCell' = true) (hb0 : base ≤ w.heap.size) (hN : n ≤ 10000000) (ad : Addr)
    (hs : a.eval s = u) (hx : a.eval x = .slice (some ad) 1 1) (hc : ∀ j u, [v][j]? = some u → w.cell? (ad.add j) = some u)
    (h : ∀ u' w', w'.ownsRow base el 1 u' (n + 1) (T ++ [v]) → Kp (fun k => u.ownBlock = some k) w w' → SameOrNew w u u' → wpList Tryd.prog ops Q rest (a.put o.dst u') w') : wpList Tryd.prog ops Q (o :: rest) a w := by
  obtain ⟨i0, hi, hz0, hz1, hz2⟩ := info_parts hinfo
  have h1 : ∀ u ∈ [v], u.oneCell' = true := fun u hu => by simp at hu; subst hu; exact hv
  have hNb : (n + 1) * bytes ≤ 140737488355328 := by have := Nat.mul_le_mul (show n + 1 ≤ 10000001 by omega) hby; omega
  have grows : ∀ (ao : Option Addr) (cap : Nat), u = .slice ao n cap → (ao = none → n = 0 ∧ cap = 0) → (∀ b, ao = some b → ∀ j v, T[j]? = some v → w.cell? (b.add j) = some v) → cap < n + 1 →
      wpList Tryd.prog ops Q (o :: rest) a w := by
    intro ao cap hu' hnone hcells hcap
    refine wpList_append_grows _ hgd s x t ho el i0 z 1 bytes hut hi hz0 hz1 hz2 hz (by decide) ao n cap T (hs.trans hu') hnone hu.1 hcells ad 1 1 [v] hx rfl hc h1 hcap (by simp [maxLen]; omega) hNb ?_
    intro u' w' hown hgr
    refine h u' w' ⟨hown.1, ?_⟩ ((Kp.of_grown hgr).mono fun k _ e => by cases e) (.inr fun g hg => (hown.lt g hg).1)
    rcases hown.2 with h' | ⟨g, c, cur, e1, e2, e3⟩
    · exact .inl h'
    · exact .inr ⟨g, c, cur, e1, by omega, e3⟩
  rcases hu.2 with ⟨hun, hn0⟩ | ⟨g, cap, cur, hun, hgb, hg, hnc, hcm, hcs, ht⟩
  · subst hn0
    exact grows none 0 hun (fun _ => ⟨rfl, rfl⟩) (fun b hb => by cases hb) (by simp)
  · by_cases hcap : n + 1 ≤ cap
    · subst hun
      refine wpList_append_fits _ hgd s x t ho base el i0 1 hut hi hz1 g n cap T hs hu ad 1 1 [v] hx rfl hc h1 hcap ?_
      intro w' hown hgr
      exact h _ w' hown (Kp.of_grown hgr) (.inl rfl)
    · subst hun
      refine grows (some ⟨g, 0, none⟩) cap rfl (fun h => by cases h) (fun b hb => ?_) (by omega)
      cases hb
      exact hu.cells rfl
theorem cell_newG (w : World) (v : Value) (t : TypeId) (g : Nat) (hg : g = w.heap.size) : ∀ j u, [v][j]? = some u → (w.alloc (.cells #[v] t)).cell? ((⟨g, 0, none⟩ : Addr).add j) = some u := by
  subst hg
  have h := World.ownsRow_lit (base := 0) (e := t) (size := 1) w #[v] 1 (Nat.zero_le _) (by simp [maxLen]) rfl
  exact h.cells rfl
theorem infoP : (Tryd.prog.info? 33).map (fun i => (i.zero, i.size, i.bytes)) = some (some (.pointer none), 1, 8) := by kernel_rfl
theorem infoQ : (Tryd.prog.info? 40).map (fun i => (i.zero, i.size, i.bytes)) = some (some (.pointer none), 1, 8) := by kernel_rfl
theorem infoY : (Tryd.prog.info? 41).map (fun i => (i.zero, i.size, i.bytes)) = some (some (.slice none 0 0), 1, 24) := by kernel_rfl
theorem rowG_type {w : World} {base n g : Nat} {v : Value} {e : TypeId} {xs : List Value} (h : w.ownsRow base e 1 v n xs) (hg : v.ownBlock = some g) : ∃ cs, Blk w g cs e ∧ base ≤ g := by
  obtain ⟨_, h' | ⟨g', cap, cur, e', hb, hc, _⟩⟩ := h
  · rw [h'.1] at hg; simp [Value.ownBlock] at hg
  · rw [e'] at hg; simp [Value.ownBlock] at hg
    subst hg
    exact ⟨cur.toList, by show w.heap[g']? = _; rw [hc], hb⟩
theorem rowG_kept {w w' : World} {base n : Nat} {v : Value} {e : TypeId} {xs : List Value} {S : Nat → Prop} (h : w.ownsRow base e 1 v n xs) (hk : Kp S w w') (hne : ∀ g, v.ownBlock = some g → ¬ S g) : w'.ownsRow base e 1 v n xs := by
  obtain ⟨hl, h | ⟨g, cap, cur, rfl, hb, hc, h1, h2, h3, h4⟩⟩ := h
  · exact ⟨hl, .inl h⟩
  · refine ⟨hl, .inr ⟨g, cap, cur, rfl, hb, ?_, h1, h2, h3, h4⟩⟩
    rw [hk.block g (Array.getElem?_eq_some_iff.1 hc).1 (hne g rfl)]; exact hc
/-- The law's record: its block, and the four lists. -/
structure Four (W : World) (B xb lb mb : Nat) (sv rv tv wv : Value) (ss rs ts ws : List Value) : Prop where
  here : Blk W xb [.pointer (some ⟨lb, 0, none⟩), .pointer (some ⟨mb, 0, none⟩), sv, rv, tv, wv] 32
  r1 : W.ownsRow B 33 1 sv ss.length ss
  r2 : W.ownsRow B 40 1 rv rs.length rs
  r3 : W.ownsRow B 41 1 tv ts.length ts
  r4 : W.ownsRow B 41 1 wv ws.length ws
  dis : ∀ g, tv.ownBlock = some g → wv.ownBlock ≠ some g
  hB : B ≤ xb
/-- Its blocks. -/
def SF (xb : Nat) (sv rv tv wv : Value) (j : Nat) : Prop := j = xb ∨ sv.ownBlock = some j ∨ rv.ownBlock = some j ∨ tv.ownBlock = some j ∨ wv.ownBlock = some j
section
variable {W W' : World} {B xb lb mb : Nat} {sv rv tv wv : Value} {ss rs ts ws : List Value}
theorem Four.kept (h : Four W B xb lb mb sv rv tv wv ss rs ts ws) {S : Nat → Prop} (hk : Kp S W W') (hn : ∀ j, SF xb sv rv tv wv j → ¬ S j) : Four W' B xb lb mb sv rv tv wv ss rs ts ws :=
  ⟨h.here.kept hk (hn _ (.inl rfl)), rowG_kept h.r1 hk (fun g hg => hn g (.inr (.inl hg))), rowG_kept h.r2 hk (fun g hg => hn g (.inr (.inr (.inl hg)))), rowG_kept h.r3 hk (fun g hg => hn g (.inr (.inr (.inr (.inl hg))))), rowG_kept h.r4 hk (fun g hg => hn g (.inr (.inr (.inr (.inr hg))))), h.dis, h.hB⟩
theorem Four.below (h : Four W B xb lb mb sv rv tv wv ss rs ts ws) (hb : Below W.heap.size W W') : Four W' B xb lb mb sv rv tv wv ss rs ts ws := h.kept (Kp.of_below (fun _ => False) hb) (fun _ _ => id)
/-- A block of the record is of one of four kinds. -/
theorem Four.kind (h : Four W B xb lb mb sv rv tv wv ss rs ts ws) {j : Nat} (hj : SF xb sv rv tv wv j) : B ≤ j ∧ ∃ cs t, Blk W j cs t ∧ (t = 32 ∨ t = 33 ∨ t = 40 ∨ t = 41) := by
  rcases hj with rfl | e | e | e | e
  · exact ⟨h.hB, _, _, h.here, .inl rfl⟩
  · obtain ⟨c, hc, hb⟩ := rowG_type h.r1 e; exact ⟨hb, c, _, hc, .inr (.inl rfl)⟩
  · obtain ⟨c, hc, hb⟩ := rowG_type h.r2 e; exact ⟨hb, c, _, hc, .inr (.inr (.inl rfl))⟩
  · obtain ⟨c, hc, hb⟩ := rowG_type h.r3 e; exact ⟨hb, c, _, hc, .inr (.inr (.inr rfl))⟩
  · obtain ⟨c, hc, hb⟩ := rowG_type h.r4 e; exact ⟨hb, c, _, hc, .inr (.inr (.inr rfl))⟩
theorem Four.apart (h : Four W B xb lb mb sv rv tv wv ss rs ts ws) {g : Nat} {cs : List Value} {t : TypeId} (hg : Blk W g cs t) (h1 : t ≠ 32) (h2 : t ≠ 33) (h3 : t ≠ 40) (h4 : t ≠ 41) : ¬ SF xb sv rv tv wv g := fun hs => by
  obtain ⟨_, c, t', hc, e | e | e | e⟩ := h.kind hs
  · exact Blk.ne hg hc (by rw [e]; exact h1) rfl
  · exact Blk.ne hg hc (by rw [e]; exact h2) rfl
  · exact Blk.ne hg hc (by rw [e]; exact h3) rfl
  · exact Blk.ne hg hc (by rw [e]; exact h4) rfl
theorem Four.ot (h : Four W B xb lb mb sv rv tv wv ss rs ts ws) {j : Nat} (hj : SF xb sv rv tv wv j) : Ot W B j := by
  obtain ⟨hb, c, t, hc, e⟩ := h.kind hj
  refine ⟨hb, c, t, hc, ?_⟩
  rcases e with rfl | rfl | rfl | rfl <;> decide
theorem Four.ko (h : Four W B xb lb mb sv rv tv wv ss rs ts ws) (hk : Ko W W') : Four W' B xb lb mb sv rv tv wv ss rs ts ws := by
  have key : ∀ {n : Nat} {v : Value} {e : TypeId} {xs : List Value}, W.ownsRow B e 1 v n xs → e ≠ 38 → e ≠ 79 → e ≠ 56 → e ≠ 58 → W'.ownsRow B e 1 v n xs := by
    rintro n v e xs ⟨hl, h' | ⟨g, cap, cur, rfl, hb, hc, q1, q2, q3, q4⟩⟩ h1 h2 h3 h4
    · exact ⟨hl, .inl h'⟩
    · refine ⟨hl, .inr ⟨g, cap, cur, rfl, hb, ?_, q1, q2, q3, q4⟩⟩
      exact hk g cur.toList e (by show W.heap[g]? = _; rw [hc]) h1 h2 h3 h4
  exact ⟨hk _ _ _ h.here (by decide) (by decide) (by decide) (by decide), key h.r1 (by decide) (by decide) (by decide) (by decide), key h.r2 (by decide) (by decide) (by decide) (by decide), key h.r3 (by decide) (by decide) (by decide) (by decide), key h.r4 (by decide) (by decide) (by decide) (by decide), h.dis, h.hB⟩
end
end Go.Proofs.YtdhbkekpjojlnaaDoor.Sg
