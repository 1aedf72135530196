/- A sponge of the program and one of the document side by side, each with its ledger. -/
import Derived.Test.YtjfjjhjajgodiaaDoorXsh
import Derived.Test.YtjfjjhjajgodiaaDoorRreads
namespace Go.Proofs.YtjfjjhjajgodiaaDoor.Kc
open Go.ChangeShapes Go.WideShapes Go.ChangeAt Go.RowKit
open Go.Proofs.YtjfjjhjajgodiaaDoor.By Go.Proofs.YtjfjjhjajgodiaaDoor.Wd
/-- Lists of bytes and lists of these stay. -/
def Kb8 (W W' : World) : Prop := ∀ g cs t, Blk W g cs t → (t = 5 ∨ t = 22) → Blk W' g cs t
theorem Ko.kb8 {W W' : World} (h : Ko W W') : Kb8 W W' := fun g cs t hb ht => by
  rcases ht with rfl | rfl
  · exact h g cs _ hb (by decide) (by decide) (by decide) (by decide)
  · exact h g cs _ hb (by decide) (by decide) (by decide) (by decide)
theorem Kb8.below {W W' : World} (hb : Below W.heap.size W W') : Kb8 W W' := fun _ _ _ h _ => h.below hb
theorem Kb8.own {W W' : World} (h : Kb8 W W') {base n : Nat} {v : Value} {f : Nat → Int} (ho : By.Own W base v n f) : By.Own W' base v n f := by
  obtain ⟨hf, hl, h' | ⟨g, cap, cur, rfl, hb, hc, h1, h2, h3, h4⟩⟩ := ho
  · exact ⟨hf, hl, .inl h'⟩
  · refine ⟨hf, hl, .inr ⟨g, cap, cur, rfl, hb, ?_, h1, h2, h3, h4⟩⟩
    have := h g cur.toList 5 (by show W.heap[g]? = _; rw [hc]) (.inl rfl)
    exact this
theorem Kb8.row {W W' : World} (h : Kb8 W W') {base n : Nat} {v : Value} {xs : List Value} (ho : W.ownsRow base 22 1 v n xs) : W'.ownsRow base 22 1 v n xs := by
  obtain ⟨hl, h' | ⟨g, cap, cur, rfl, hb, hc, h1, h2, h3, h4⟩⟩ := ho
  · exact ⟨hl, .inl h'⟩
  · refine ⟨hl, .inr ⟨g, cap, cur, rfl, hb, ?_, h1, h2, h3, h4⟩⟩
    have := h g cur.toList 22 (by show W.heap[g]? = _; rw [hc]) (.inr rfl)
    exact this
theorem Cuts.kb8 {W W' : World} {B : Nat} {f : Nat → Int} {vs : List Value} {s e : Nat} (h : Cuts W B f vs s e) (hk : Kb8 W W') : Cuts W' B f vs s e := h.imp (fun _ _ _ ho => hk.own ho)
theorem LS.kb8 {W W' : World} {B : Nat} {xs : List LI} (h : LS W B xs) (hk : Kb8 W W') (hB : B ≤ W'.heap.size) : LS W' B xs := ⟨hB, fun x hx => hk.own (h.own x hx), h.ap⟩
/-- A ledger of the document's and a block of another kind are turned. -/
theorem GS.turnR {w0 W W' : World} {B rb : Nat} {sts : List (Nat × SK)} {leds1 leds2 : List LE} {e e' : LE} {cr : List Value} (h : GS w0 B sts (leds1 ++ e :: leds2) W) (hr : Blk W rb cr 90) (hrb : B ≤ rb) (ho : e.own = false) (hk : Kp (fun j => j = rb ∨ SE e j) W W') (hn : IsLed W' e') (hb : e'.blk = e.blk) (hrv : ∀ g, e'.rv.ownBlock = some g → g < W.heap.size → g = rb ∨ SE e g) : GS w0 B sts (leds1 ++ e' :: leds2) W' ∧ Kb8 W W' := by
  obtain ⟨he, hB1, hB2, hap⟩ := h.midL
  obtain ⟨ce, hce⟩ := he.blk
  rw [ho] at hce
  have hSB : ∀ j, j = rb ∨ SE e j → B ≤ j := fun j hj => by
    rcases hj with e1 | e1 | e1
    · rw [e1]; exact hrb
    · rw [e1]; exact hB1
    · exact hB2 j e1
  have n1 : ∀ x cs t, Blk W x cs t → t ≠ 90 → t ≠ 65 → t ≠ 75 → ¬ (x = rb ∨ SE e x) := fun x cs t hx h0 h1 h2 hs => by
    rcases hs with e1 | e1 | e1
    · exact Blk.ne hx hr h0 e1
    · rw [e1] at hx; exact Blk.ne hx hce h2 rfl
    · obtain ⟨c, hc⟩ := he.run e1; exact Blk.ne hx hc h1 rfl
  have n3 : ∀ q, q ∈ leds1 ∨ q ∈ leds2 → ¬ (q.blk = rb ∨ SE e q.blk) ∧ ∀ g, q.rv.ownBlock = some g → ¬ (g = rb ∨ SE e g) := fun q hq => by
    have hq1 : IsLed W q := (h.led q (by rcases hq with hq | hq <;> simp [hq])).1
    obtain ⟨cq, hcq⟩ := hq1.blk
    refine ⟨fun hs => ?_, fun g hg hs => ?_⟩
    · rcases hs with e1 | e1 | e1
      · rw [e1] at hcq; exact Blk.ne hcq hr (by cases q.own <;> decide) rfl
      · exact (hap q hq).1 e1
      · obtain ⟨c, hc⟩ := he.run e1
        exact Blk.ne hcq hc (fun e => (tl_ne q.own).2 e.symm) rfl
    · obtain ⟨cg, hcg⟩ := hq1.run hg
      rcases hs with e1 | e1 | e1
      · rw [e1] at hcg; exact Blk.ne hcg hr (by decide) rfl
      · rw [e1] at hcg
        exact Blk.ne hcg hce (by decide) rfl
      · exact (hap q hq).2 g hg e1
  have hap' : ∀ q, q ∈ leds1 ∨ q ∈ leds2 → LApart q e' := fun q hq => by
    have hq1 : IsLed W q := (h.led q (by rcases hq with hq | hq <;> simp [hq])).1
    refine ⟨fun e1 => (hap q hq).1 (e1.trans hb), fun g hg e1 => ?_⟩
    obtain ⟨c, hc⟩ := hq1.run hg
    exact (n3 q hq).2 g hg (hrv g e1 hc.lt)
  refine ⟨⟨fun p hp => ⟨(h.st p hp).1.kept hk ?_, (h.st p hp).2⟩, h.stn, fun q hq => ?_, h.lednL hap', h.bel.trans (hk.below h.hB (fun j hj hs => by have := hSB j hs; omega)), h.kt.kept hk (fun hs => by have := hSB 0 hs; have := h.h0; omega) (fun hs => by have := hSB 1 hs; have := h.h0; omega), h.h0, Nat.le_trans h.hB hk.size⟩, fun g cs t hg ht => hg.kept hk (n1 _ _ _ hg ?_ ?_ ?_)⟩
  · obtain ⟨c, hc⟩ := (h.st p hp).1.blk; exact n1 _ _ _ hc (by decide) (by decide) (by decide)
  · have old : ∀ q, q ∈ leds1 ∨ q ∈ leds2 → IsLed W' q ∧ B ≤ q.blk ∧ ∀ g, q.rv.ownBlock = some g → B ≤ g := fun q hq => by
      have h1 := h.led q (by rcases hq with hq | hq <;> simp [hq])
      exact ⟨h1.1.kept hk (n3 q hq).1 (n3 q hq).2, h1.2⟩
    rcases List.mem_append.1 hq with hq | hq
    · exact old q (.inl hq)
    · rcases List.mem_cons.1 hq with rfl | hq
      · refine ⟨hn, by rw [hb]; exact hB1, fun g hg => ?_⟩
        by_cases hlt : g < W.heap.size
        · exact hSB g (hrv g hg hlt)
        · have := h.hB; omega
      · exact old q (.inr hq)
  · rcases ht with rfl | rfl <;> decide
  · rcases ht with rfl | rfl <;> decide
  · rcases ht with rfl | rfl <;> decide
/-- Both sponges, both ledgers; each ledger has as many events as its sponge has permuted. -/
structure BW (w0 : World) (B sb lb rb mb r : Nat) (sf : Int) (z y : Z) (sh th : Bool) (lv mv : Value) (W : World) : Prop where
  gs : GS w0 B [(sb, some (r, sf, z, sh))] [⟨true, lb, lv, evk [] z.c⟩, ⟨false, mb, mv, evk [] y.c⟩] W
  rs : RSp W rb r sf y th
  hb : B ≤ rb
section
variable {w0 W W' : World} {B sb lb rb mb r : Nat} {sf : Int} {z y : Z} {sh th : Bool} {lv mv : Value}
theorem RSp.ko (h : RSp W rb r sf y th) (hk : Ko W W') : RSp W' rb r sf y th := ⟨hk _ _ _ h.here (by decide) (by decide) (by decide) (by decide), h.ok, h.lo, h.hi, h.sf⟩
theorem BW.below (h : BW w0 B sb lb rb mb r sf z y sh th lv mv W) (hb : Below W.heap.size W W') : BW w0 B sb lb rb mb r sf z y sh th lv mv W' := ⟨h.gs.below hb, h.rs.below hb, h.hb⟩
theorem BW.sp (h : BW w0 B sb lb rb mb r sf z y sh th lv mv W) : Sp W sb r sf z sh := (GS.mid (sts1 := []) (sts2 := []) h.gs).1
theorem BW.over8 {n : Nat} {v : Value} {f : Nat → Int} (h : BW w0 B sb lb rb mb r sf z y sh th lv mv W) (ho : By.Own W B v n f) (hg : W.grownBy W' v.ownBlock) : BW w0 B sb lb rb mb r sf z y sh th lv mv W' := by
  refine ⟨GS.over8 h.gs ho hg, h.rs.kept (Kp.of_grown hg) (fun e => ?_), h.hb⟩
  obtain ⟨cs, hc⟩ := own8_type ho e
  have := Option.some.inj (h.rs.here.symm.trans hc)
  simp only [Obj.cells.injEq] at this
  exact absurd this.2.1 (by decide)
/-- The blocks that a call on the program's sponge may turn. -/
def S1 (sb lb : Nat) (lv : Value) (L : List Rn) (j : Nat) : Prop := j = sb ∨ SE ⟨true, lb, lv, L⟩ j
def S2 (rb mb : Nat) (mv : Value) (L : List Rn) (j : Nat) : Prop := j = rb ∨ SE ⟨false, mb, mv, L⟩ j
theorem BW.k1 (h : BW w0 B sb lb rb mb r sf z y sh th lv mv W) {L : List Rn} (hL : L = evk [] z.c) (hk : Kp (S1 sb lb lv L) W W') : Kb8 W W' ∧ Below B w0 W' := by
  subst hL
  have := GS.koB (sts1 := []) (sts2 := []) (leds1 := []) h.gs hk
  exact ⟨this.1.kb8, this.2⟩
theorem BW.turn1 (h : BW w0 B sb lb rb mb r sf z y sh th lv mv W) {z' : Z} {sh' : Bool} (hk : Kp (S1 sb lb lv (evk [] z.c)) W W') (hs : Sp W' sb r sf z' sh') (hl : LG (S1 sb lb lv (evk [] z.c)) W W' (some lb) (evk [] z'.c)) : ∃ lv', BW w0 B sb lb rb mb r sf z' y sh' th lv' mv W' ∧ Kb8 W W' := by
  obtain ⟨_, rv', hl', ho'⟩ := hl
  have g := GS.turnB (sts1 := []) (sts2 := []) (leds1 := []) (leds2 := [⟨false, mb, mv, evk [] y.c⟩]) (k' := some (r, sf, z', sh')) (e' := ⟨true, lb, rv', evk [] z'.c⟩) h.gs (fun _ e => e) hk hs hl' rfl ho'
  exact ⟨rv', ⟨g.1, RSp.ko h.rs g.2, h.hb⟩, g.2.kb8⟩
theorem BW.lg1 (h : BW w0 B sb lb rb mb r sf z y sh th lv mv W) : LG (S1 sb lb lv (evk [] z.c)) W W (some lb) (evk [] z.c) := ⟨.inr (.inl rfl), lv, (GS.midL (leds1 := []) h.gs).1, fun _ hg _ => .inr (.inr hg)⟩
theorem BW.no1 (h : BW w0 B sb lb rb mb r sf z y sh th lv mv W) (j : Nat) (hj : j < 2) : ¬ S1 sb lb lv (evk [] z.c) j := by
  have h1 := (GS.mid (sts1 := []) (sts2 := []) h.gs).2.1
  have h2 := GS.midL (leds1 := []) h.gs
  have h3 := h.gs.h0
  rintro (e | e | e)
  · omega
  · have := h2.2.1; have e' : j = lb := e; have h4 : B ≤ lb := this; omega
  · have := h2.2.2.1 j e; omega
theorem BW.rg2 (h : BW w0 B sb lb rb mb r sf z y sh th lv mv W) : RG (S2 rb mb mv (evk [] y.c)) W W (some mb) (evk [] y.c) := ⟨.inr (.inl rfl), mv, (GS.midL (leds1 := [⟨true, lb, lv, evk [] z.c⟩]) h.gs).1, fun _ hg _ => .inr (.inr hg)⟩
theorem BW.k2 (h : BW w0 B sb lb rb mb r sf z y sh th lv mv W) (hk : Kp (S2 rb mb mv (evk [] y.c)) W W') : Kb8 W W' ∧ Below B w0 W' := by
  obtain ⟨he, hB1, hB2, _⟩ := GS.midL (leds1 := [⟨true, lb, lv, evk [] z.c⟩]) h.gs
  obtain ⟨ce, hce⟩ : ∃ cs, Blk W mb cs 75 := he.blk
  refine ⟨fun g cs t hg ht => hg.kept hk (fun hs => ?_), h.gs.bel.trans (hk.below h.gs.hB (fun j hj hs => ?_))⟩
  · rcases hs with e1 | e1 | e1
    · rw [e1] at hg; exact Blk.ne hg h.rs.here (by rcases ht with rfl | rfl <;> decide) rfl
    · rw [e1] at hg; exact Blk.ne hg hce (by rcases ht with rfl | rfl <;> decide) rfl
    · obtain ⟨c, hc⟩ := he.run e1; exact Blk.ne hg hc (by rcases ht with rfl | rfl <;> decide) rfl
  · rcases hs with e1 | e1 | e1
    · have := h.hb; omega
    · have e' : j = mb := e1; have h4 : B ≤ mb := hB1; omega
    · have := hB2 j e1; omega
theorem BW.turn2 (h : BW w0 B sb lb rb mb r sf z y sh th lv mv W) {y' : Z} {th' : Bool} (hk : Kp (S2 rb mb mv (evk [] y.c)) W W') (hs : RSp W' rb r sf y' th') (hl : RG (S2 rb mb mv (evk [] y.c)) W W' (some mb) (evk [] y'.c)) : ∃ mv', BW w0 B sb lb rb mb r sf z y' sh th' lv mv' W' ∧ Kb8 W W' := by
  obtain ⟨_, rv', hl', ho'⟩ := hl
  have g := GS.turnR (leds1 := [⟨true, lb, lv, evk [] z.c⟩]) (leds2 := []) (e' := ⟨false, mb, rv', evk [] y'.c⟩) h.gs h.rs.here h.hb rfl hk hl' rfl ho'
  exact ⟨rv', ⟨g.1, hs, h.hb⟩, g.2⟩
/-- What Read makes of a sponge. -/
def rz (r : Nat) (sf : Int) (z : Z) (sh : Bool) : Z := if sh = true then z else Z.fin r sf z
def rO (r : Nat) (sf : Int) (z : Z) (sh : Bool) (n : Int) : Z := if n < 0 ∨ 65536 < n then z else Z.out r (rz r sf z sh) n.toNat
def rH (sh : Bool) (n : Int) : Bool := if n < 0 ∨ 65536 < n then sh else true
def rD (r : Nat) (sf : Int) (z : Z) (sh : Bool) (n : Int) (i : Nat) : Int := if n < 0 ∨ 65536 < n then 0 else Z.say r (rz r sf z sh) i
theorem rO_le (r : Nat) (sf : Int) (z : Z) (sh : Bool) (n : Int) : (rO r sf z sh n).c ≤ z.c + 65537 := by
  unfold rO; split
  · omega
  · have h1 := out_le r (rz r sf z sh) n.toNat
    have h2 : (rz r sf z sh).c ≤ z.c + 1 := by unfold rz; split; exact Nat.le_succ _; exact Nat.le_refl _
    omega
theorem rz_ok (h : z.Ok r sh) (hr : 0 < r) : (rz r sf z sh).Ok r true := by
  unfold rz; split
  · exact h.shut
  · exact Z.Ok.fin z true sf hr
theorem rD_b (h : z.Ok r sh) (hr : 0 < r) (n : Int) (i : Nat) : 0 ≤ rD r sf z sh n i ∧ rD r sf z sh n i < 256 := by
  unfold rD; split
  · decide
  · exact say_b (rz_ok h hr) hr i
theorem BW.write1 (h : BW w0 B sb lb rb mb r sf z y false th lv mv W) (q : Nat) (v : Value) (g : Nat → Int) (hr : ∀ w', Kb8 W w' → By.RB w' v q g) (hq : q ≤ 9000000) (hc : z.c ≤ 1000000) :
    Calls Tryd.prog 29 #[.pointer (some ⟨sb, 0, none⟩), .pointer (some ⟨lb, 0, none⟩), v] W fun e w' => e = .returned (.int .i64 0) ∧ ∃ lv', BW w0 B sb lb rb mb r sf (Z.ins r z g q) y false th lv' mv w' ∧ Kb8 W w' := by
  have hs := h.sp
  refine (write_sp sb r q sf v z g (some lb) (evk [] z.c) (S1 sb lb lv (evk [] z.c)) W hs h.gs.kt (h.no1 0 (by omega)) (h.no1 1 (by omega)) (.inl rfl) h.lg1 (evn_pos _) (fun w' hk => hr w' (h.k1 rfl hk).1) hq (evn_big _ hc)).mono ?_
  rintro e w' ⟨rfl, hs', hl, hk⟩
  rw [← evk_add, show z.c + ((Z.ins r z g q).c - z.c) = (Z.ins r z g q).c from by have := ins_ge (hs.ok.o rfl) g q; omega] at hl
  exact ⟨rfl, h.turn1 hk hs' hl⟩
theorem BW.write2 (h : BW w0 B sb lb rb mb r sf z y sh false lv mv W) (q : Nat) (v : Value) (g : Nat → Int) (hr : ∀ w', Kb8 W w' → By.RB w' v q g) (hq : q ≤ 9000000) (hc : y.c ≤ 1000000) :
    Calls Tryd.prog 30 #[.pointer (some ⟨rb, 0, none⟩), .pointer (some ⟨mb, 0, none⟩), v] W fun e w' => e = .returned (.int .i64 0) ∧ ∃ mv', BW w0 B sb lb rb mb r sf z (Z.ins r y g q) sh false lv mv' w' ∧ Kb8 W w' := by
  have hs := h.rs
  refine (rwrite_sp rb r q sf v y g (some mb) (evk [] y.c) (S2 rb mb mv (evk [] y.c)) W hs (.inl rfl) h.rg2 (evn_pos _) (fun w' hk => hr w' (h.k2 hk).1) hq (evn_big _ hc)).mono ?_
  rintro e w' ⟨rfl, hs', hl, hk⟩
  rw [← evk_add, show y.c + ((Z.ins r y g q).c - y.c) = (Z.ins r y g q).c from by have := ins_ge (hs.ok.o rfl) g q; omega] at hl
  exact ⟨rfl, h.turn2 hk hs' hl⟩
theorem BW.read1 (h : BW w0 B sb lb rb mb r sf z y sh th lv mv W) (n : Int) (hc : z.c ≤ 1000000) :
    Calls Tryd.prog 31 #[.pointer (some ⟨sb, 0, none⟩), .pointer (some ⟨lb, 0, none⟩), .int .i64 n] W fun e w' => ∃ v, e = .returned (.tuple #[v, .int .i64 (tc n)]) ∧ By.Own w' W.heap.size v (tk n) (rD r sf z sh n) ∧ ∃ lv', BW w0 B sb lb rb mb r sf (rO r sf z sh n) y (rH sh n) th lv' mv w' ∧ Kb8 W w' := by
  have hs := h.sp
  have hr8 : 0 < r := by have := hs.lo; omega
  by_cases hn : n < 0 ∨ 65536 < n
  · refine (read_arg sb r sf z sh n _ W hs hn).mono ?_
    rintro e w' ⟨rfl, rfl⟩
    have e1 : rO r sf z sh n = z := if_pos hn
    have e2 : tk n = 0 := if_pos hn
    have e3 : tc n = 2 := if_pos hn
    have e4 : rH sh n = sh := if_pos hn
    rw [e1, e2, e3, e4]
    exact ⟨_, rfl, own_nil _ _ _ (rD_b hs.ok hr8 n), lv, h, Kb8.below (Below.refl _ _)⟩
  · obtain ⟨k, rfl⟩ : ∃ k : Nat, n = k := ⟨n.toNat, by omega⟩
    have e1 : rO r sf z sh k = Z.out r (rz r sf z sh) k := if_neg hn
    have e2 : tk k = k := if_neg hn
    have e3 : tc k = 0 := if_neg hn
    have e4 : rH sh k = true := if_neg hn
    have e5 : rD r sf z sh k = Z.say r (rz r sf z sh) := by funext i; exact if_neg hn
    rw [e1, e2, e3, e4, e5]
    have hk1 : k ≤ 65536 := by omega
    have ge := out_ge r (rz r sf z sh) k
    cases sh with
    | true =>
      refine (read_shut sb r k sf z (some lb) (evk [] z.c) (S1 sb lb lv (evk [] z.c)) W hs h.gs.kt (h.no1 0 (by omega)) (h.no1 1 (by omega)) (.inl rfl) h.lg1 (evn_pos _) hk1 (evn_big _ hc)).mono ?_
      rintro e w' ⟨gb, rfl, hgb, hs', hbl, hl, hk⟩
      have ge' : z.c ≤ (Z.out r z k).c := ge
      rw [← evk_add, show z.c + ((Z.out r z k).c - z.c) = (Z.out r z k).c from by omega] at hl
      exact ⟨_, rfl, own_blk hbl (say_b (rz_ok (sf := sf) hs.ok hr8) hr8) hgb (by simp [maxLen]; omega), h.turn1 hk hs' hl⟩
    | false =>
      refine (read_open sb r k sf z _ (some lb) (evk [] z.c) (S1 sb lb lv (evk [] z.c)) W hs h.gs.kt (h.no1 0 (by omega)) (h.no1 1 (by omega)) (.inl rfl) h.lg1 (evn_pos _) hk1 (evn_big _ hc) _ rfl rfl).mono ?_
      rintro e w' ⟨gb, rfl, hgb, hs', hbl, hl, hk⟩
      have ge' : (Z.fin r sf z).c ≤ (Z.out r (Z.fin r sf z) k).c := ge
      have hf : (Z.fin r sf z).c = z.c + 1 := rfl
      rw [← evk_add, ← evk_add, show z.c + (1 + ((Z.out r (Z.fin r sf z) k).c - (Z.fin r sf z).c)) = (Z.out r (Z.fin r sf z) k).c from by omega] at hl
      exact ⟨_, rfl, own_blk hbl (say_b (rz_ok (sf := sf) hs.ok hr8) hr8) hgb (by simp [maxLen]; omega), h.turn1 hk hs' hl⟩
theorem BW.read2 (h : BW w0 B sb lb rb mb r sf z y sh th lv mv W) (n : Int) (hc : y.c ≤ 1000000) :
    Calls Tryd.prog 32 #[.pointer (some ⟨rb, 0, none⟩), .pointer (some ⟨mb, 0, none⟩), .int .i64 n] W fun e w' => ∃ v, e = .returned (.tuple #[v, .int .i64 (tc n)]) ∧ By.Own w' W.heap.size v (tk n) (rD r sf y th n) ∧ ∃ mv', BW w0 B sb lb rb mb r sf z (rO r sf y th n) sh (rH th n) lv mv' w' ∧ Kb8 W w' := by
  have hs := h.rs
  have hr8 : 0 < r := by have := hs.lo; omega
  by_cases hn : n < 0 ∨ 65536 < n
  · refine (rread_arg rb r sf y th n _ W hs hn).mono ?_
    rintro e w' ⟨rfl, rfl⟩
    have e1 : rO r sf y th n = y := if_pos hn
    have e2 : tk n = 0 := if_pos hn
    have e3 : tc n = 2 := if_pos hn
    have e4 : rH th n = th := if_pos hn
    rw [e1, e2, e3, e4]
    exact ⟨_, rfl, own_nil _ _ _ (rD_b hs.ok hr8 n), mv, h, Kb8.below (Below.refl _ _)⟩
  · obtain ⟨k, rfl⟩ : ∃ k : Nat, n = k := ⟨n.toNat, by omega⟩
    have e1 : rO r sf y th k = Z.out r (rz r sf y th) k := if_neg hn
    have e2 : tk k = k := if_neg hn
    have e3 : tc k = 0 := if_neg hn
    have e4 : rH th k = true := if_neg hn
    have e5 : rD r sf y th k = Z.say r (rz r sf y th) := by funext i; exact if_neg hn
    rw [e1, e2, e3, e4, e5]
    have hk1 : k ≤ 65536 := by omega
    have ge := out_ge r (rz r sf y th) k
    cases th with
    | true =>
      refine (rread_shut rb r k sf y (some mb) (evk [] y.c) (S2 rb mb mv (evk [] y.c)) W hs (.inl rfl) h.rg2 (evn_pos _) hk1 (evn_big _ hc)).mono ?_
      rintro e w' ⟨v, rfl, hs', ho, hl, hk⟩
      have ge' : y.c ≤ (Z.out r y k).c := ge
      rw [← evk_add, show y.c + ((Z.out r y k).c - y.c) = (Z.out r y k).c from by omega] at hl
      exact ⟨_, rfl, ho, h.turn2 hk hs' hl⟩
    | false =>
      refine (rread_open rb r k sf y _ (some mb) (evk [] y.c) (S2 rb mb mv (evk [] y.c)) W hs (.inl rfl) h.rg2 (evn_pos _) hk1 (evn_big _ hc) _ rfl rfl).mono ?_
      rintro e w' ⟨v, rfl, hs', ho, hl, hk⟩
      have ge' : (Z.fin r sf y).c ≤ (Z.out r (Z.fin r sf y) k).c := ge
      have hf : (Z.fin r sf y).c = y.c + 1 := rfl
      rw [← evk_add, ← evk_add, show y.c + (1 + ((Z.out r (Z.fin r sf y) k).c - (Z.fin r sf y).c)) = (Z.out r (Z.fin r sf y) k).c from by omega] at hl
      exact ⟨_, rfl, ho, h.turn2 hk hs' hl⟩
end
end Go.Proofs.YtjfjjhjajgodiaaDoor.Kc
