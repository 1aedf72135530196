/- Several states and ledgers at once: what one call leaves of the others. Several states and ledgers at once: the calls. A state of the document: what its calls answer. -/
import Derived.Test.YtjhhnajgfngbhaaGreatDoorZhd
import Derived.Test.YtjhhnajgfngbhaaGreatDoorZdb
namespace Go.Proofs.YtjhhnajgfngbhaaGreatDoor.Sh
open Go.ChangeShapes Go.WideShapes Go.ChangeAt Go.RowKit
open Go.Proofs.YtjhhnajgfngbhaaGreatDoor.By Go.Proofs.YtjhhnajgfngbhaaGreatDoor.Wd

/-- What a state is: none, or one with a message. -/
abbrev SK := Option (Nat × (Nat → Int))
def IsSt (W : World) (b : Nat) : SK → Prop
  | none => NoSt W b
  | some (m, f) => St W b m f
theorem IsSt.blk {W : World} {b : Nat} {k : SK} (h : IsSt W b k) : ∃ cs, Blk W b cs 115 := by
  match k, h with
  | none, h => obtain ⟨cs, h, _⟩ := h; exact ⟨_, h⟩
  | some (m, f), h => exact ⟨_, h.here⟩
theorem IsSt.kept {W W' : World} {b : Nat} {k : SK} {S : Nat → Prop} (h : IsSt W b k) (hk : Kp S W W') (hn : ¬ S b) : IsSt W' b k := by
  match k, h with
  | none, h => obtain ⟨cs, h, hl⟩ := h; exact ⟨cs, h.kept hk hn, hl⟩
  | some (m, f), h => exact St.kept h hk hn
/-- A ledger: the program's or the document's, its block, its runs' slice, its runs. -/
structure LE where
  own : Bool
  blk : Nat
  rv : Value
  runs : List Rn
def tl (b : Bool) : TypeId := match b with | true => 46 | false => 48
def IsLed (W : World) (q : LE) : Prop := match q.own with | true => Led W q.blk q.rv q.runs | false => RLed W q.blk q.rv q.runs
theorem IsLed.blk {W : World} {q : LE} (h : IsLed W q) : ∃ cs, Blk W q.blk cs (tl q.own) := by
  obtain ⟨o, b, rv, L⟩ := q
  cases o with
  | true => exact ⟨_, (show Led W b rv L from h).here⟩
  | false => exact ⟨_, (show RLed W b rv L from h).here⟩
theorem IsLed.run {W : World} {q : LE} (h : IsLed W q) {g : Nat} (hg : q.rv.ownBlock = some g) : ∃ cs, Blk W g cs 66 := by
  obtain ⟨o, b, rv, L⟩ := q
  have key : ∀ x, Own W 0 rv x → ∃ cs, Blk W g cs 66 := fun x hx => by
    obtain ⟨c, hc⟩ := own_type hx hg
    exact ⟨c.toList, by show W.heap[g]? = _; rw [hc]⟩
  cases o with
  | true => exact key _ (show Led W b rv L from h).own
  | false => exact key _ (show RLed W b rv L from h).own
theorem IsLed.kept {W W' : World} {q : LE} {S : Nat → Prop} (h : IsLed W q) (hk : Kp S W W') (h1 : ¬ S q.blk) (h2 : ∀ g, q.rv.ownBlock = some g → ¬ S g) : IsLed W' q := by
  obtain ⟨o, b, rv, L⟩ := q
  cases o with
  | true => exact (show Led W b rv L from h).kept hk h1 h2
  | false => exact (show RLed W b rv L from h).kept hk h1 h2
theorem tl_ne (o : Bool) : 115 ≠ tl o ∧ 66 ≠ tl o := by cases o <;> decide
/-- Two ledgers have no block in common. -/
def LApart (p q : LE) : Prop := p.blk ≠ q.blk ∧ ∀ g, p.rv.ownBlock = some g → q.rv.ownBlock ≠ some g
theorem LApart.symm {p q : LE} (h : LApart p q) : LApart q p := ⟨fun e => h.1 e.symm, fun g hg e => h.2 g e hg⟩
structure GS (w0 : World) (B : Nat) (sts : List (Nat × SK)) (leds : List LE) (W : World) : Prop where
  st : ∀ p ∈ sts, IsSt W p.1 p.2 ∧ B ≤ p.1
  stn : sts.Pairwise (fun p q => p.1 ≠ q.1)
  led : ∀ q ∈ leds, IsLed W q ∧ B ≤ q.blk ∧ ∀ g, q.rv.ownBlock = some g → B ≤ g
  ledn : leds.Pairwise LApart
  bel : Below B w0 W
  kt : KT W
  h0 : 0 < B
  hB : B ≤ W.heap.size
/-- Blocks of other kinds stay. -/
def Ko (W W' : World) : Prop := ∀ g cs t, Blk W g cs t → t ≠ 115 → t ≠ 66 → t ≠ 46 → t ≠ 48 → Blk W' g cs t
/-- A ledger's blocks. -/
def SE (e : LE) (j : Nat) : Prop := j = e.blk ∨ e.rv.ownBlock = some j
section
variable {w0 W W' : World} {B : Nat} {sts : List (Nat × SK)} {leds : List LE}
theorem GS.below (h : GS w0 B sts leds W) (hb : Below W.heap.size W W') : GS w0 B sts leds W' := by
  have hk := Kp.of_below (fun _ => False) hb
  exact ⟨fun p hp => ⟨(h.st p hp).1.kept hk id, (h.st p hp).2⟩, h.stn, fun q hq => ⟨(h.led q hq).1.kept hk id (fun _ _ => id), (h.led q hq).2⟩, h.ledn, h.bel.trans (hb.mono h.hB), h.kt.below hb, h.h0, Nat.le_trans h.hB hb.size⟩
theorem Ko.below (hb : Below W.heap.size W W') : Ko W W' := fun _ _ _ h _ _ _ _ => h.below hb
/-- A block of another kind is written. -/
theorem GS.other (h : GS w0 B sts leds W) {g : Nat} {cs : List Value} {t : TypeId} (hg : Blk W g cs t) (h1 : t ≠ 115) (h2 : t ≠ 66) (h3 : t ≠ 46) (h4 : t ≠ 48) (hk : Kp (fun k => k = g) W W') (hB : B ≤ g) : GS w0 B sts leds W' := by
  have n1 : ∀ x cs' t', Blk W x cs' t' → t' ≠ t → ¬ (x = g) := fun x cs' t' hx ht e => Blk.ne hx hg ht e
  refine ⟨fun p hp => ⟨(h.st p hp).1.kept hk ?_, (h.st p hp).2⟩, h.stn, fun q hq => ⟨(h.led q hq).1.kept hk ?_ (fun x hx => ?_), (h.led q hq).2⟩, h.ledn, h.bel.trans (hk.below h.hB (fun k hk e => by have : k = g := e; omega)), h.kt.kept hk (by have := h.h0; omega), h.h0, Nat.le_trans h.hB hk.size⟩
  · obtain ⟨c, hc⟩ := (h.st p hp).1.blk; exact n1 _ _ _ hc (fun e => h1 e.symm)
  · obtain ⟨c, hc⟩ := (h.led q hq).1.blk
    refine n1 _ _ _ hc (fun e => ?_)
    cases ho : q.own with
    | true => rw [ho] at e; exact h3 e.symm
    | false => rw [ho] at e; exact h4 e.symm
  · obtain ⟨c, hc⟩ := (h.led q hq).1.run hx; exact n1 _ _ _ hc (fun e => h2 e.symm)
variable {sts1 sts2 : List (Nat × SK)} {leds1 leds2 : List LE} {b : Nat} {k k' : SK} {e e' : LE}
theorem GS.mid (h : GS w0 B (sts1 ++ (b, k) :: sts2) leds W) : IsSt W b k ∧ B ≤ b ∧ ∀ p, p ∈ sts1 ∨ p ∈ sts2 → p.1 ≠ b := by
  refine ⟨(h.st (b, k) (by simp)).1, (h.st (b, k) (by simp)).2, ?_⟩
  have := List.pairwise_append.1 h.stn
  rintro p (hp | hp)
  · exact this.2.2 p hp (b, k) (by simp)
  · exact fun e => (List.pairwise_cons.1 this.2.1).1 p hp e.symm
theorem GS.midL (h : GS w0 B sts (leds1 ++ e :: leds2) W) : IsLed W e ∧ B ≤ e.blk ∧ (∀ g, e.rv.ownBlock = some g → B ≤ g) ∧ ∀ q, q ∈ leds1 ∨ q ∈ leds2 → LApart q e := by
  have h1 := h.led e (by simp)
  refine ⟨h1.1, h1.2.1, h1.2.2, ?_⟩
  have := List.pairwise_append.1 h.ledn
  rintro p (hp | hp)
  · exact this.2.2 p hp e (by simp)
  · exact ((List.pairwise_cons.1 this.2.1).1 p hp).symm
theorem GS.stnS (h : GS w0 B (sts1 ++ (b, k) :: sts2) leds W) : (sts1 ++ (b, k') :: sts2).Pairwise (fun p q => p.1 ≠ q.1) := by
  have h1 := List.pairwise_append.1 h.stn
  have h2 := List.pairwise_cons.1 h1.2.1
  refine List.pairwise_append.2 ⟨h1.1, List.pairwise_cons.2 ⟨h2.1, h2.2⟩, fun a ha c hc => ?_⟩
  rcases List.mem_cons.1 hc with rfl | hc
  · exact h1.2.2 a ha (b, k) (by simp)
  · exact h1.2.2 a ha c (by simp [hc])
/-- One state is turned, and no ledger. -/
theorem GS.turnS (h : GS w0 B (sts1 ++ (b, k) :: sts2) leds W) (hk : Kp (fun j => j = b) W W') (hn : IsSt W' b k') : GS w0 B (sts1 ++ (b, k') :: sts2) leds W' ∧ Ko W W' := by
  obtain ⟨hb, hB, hne⟩ := h.mid
  obtain ⟨cb, hcb⟩ := hb.blk
  have n1 : ∀ x cs' t', Blk W x cs' t' → t' ≠ 115 → ¬ (x = b) := fun x cs' t' hx ht e => Blk.ne hx hcb ht e
  refine ⟨⟨fun p hp => ?_, h.stnS, fun q hq => ⟨(h.led q hq).1.kept hk ?_ (fun x hx => ?_), (h.led q hq).2⟩, h.ledn, h.bel.trans (hk.below h.hB (fun k hk e => by have : k = b := e; omega)), h.kt.kept hk (by have := h.h0; omega), h.h0, Nat.le_trans h.hB hk.size⟩, fun g cs t hg h1 _ _ _ => hg.kept hk (n1 _ _ _ hg h1)⟩
  · rcases List.mem_append.1 hp with hp | hp
    · exact ⟨(h.st p (by simp [hp])).1.kept hk (hne p (.inl hp)), (h.st p (by simp [hp])).2⟩
    · rcases List.mem_cons.1 hp with rfl | hp
      · exact ⟨hn, hB⟩
      · exact ⟨(h.st p (by simp [hp])).1.kept hk (hne p (.inr hp)), (h.st p (by simp [hp])).2⟩
  · obtain ⟨c, hc⟩ := (h.led q hq).1.blk; exact n1 _ _ _ hc (fun e => (tl_ne q.own).1 e.symm)
  · obtain ⟨c, hc⟩ := (h.led q hq).1.run hx; exact n1 _ _ _ hc (by decide)
theorem GS.lednL (h : GS w0 B sts (leds1 ++ e :: leds2) W) (h1 : ∀ q, q ∈ leds1 ∨ q ∈ leds2 → LApart q e') : (leds1 ++ e' :: leds2).Pairwise LApart := by
  have g1 := List.pairwise_append.1 h.ledn
  have g2 := List.pairwise_cons.1 g1.2.1
  refine List.pairwise_append.2 ⟨g1.1, List.pairwise_cons.2 ⟨fun q hq => (h1 q (.inr hq)).symm, g2.2⟩, fun a ha c hc => ?_⟩
  rcases List.mem_cons.1 hc with rfl | hc
  · exact h1 a (.inl ha)
  · exact g1.2.2 a ha c (by simp [hc])
/-- A set of blocks that one ledger and perhaps one state have. -/
theorem GS.apartL (h : GS w0 B sts (leds1 ++ e :: leds2) W) {S : Nat → Prop} (hS : ∀ j, S j → (∃ cs, Blk W j cs 115) ∨ SE e j) : ∀ q, q ∈ leds1 ∨ q ∈ leds2 → ¬ S q.blk ∧ ∀ g, q.rv.ownBlock = some g → ¬ S g := by
  obtain ⟨he, _, _, hap⟩ := h.midL
  obtain ⟨ce, hce⟩ := he.blk
  intro q hq
  have hq1 : IsLed W q := (h.led q (by rcases hq with hq | hq <;> simp [hq])).1
  obtain ⟨cq, hcq⟩ := hq1.blk
  refine ⟨fun hs => ?_, fun g hg hs => ?_⟩
  · rcases hS _ hs with ⟨c, hc⟩ | e1 | e1
    · exact Blk.ne hcq hc (fun e => (tl_ne q.own).1 e.symm) rfl
    · exact (hap q hq).1 e1
    · obtain ⟨c, hc⟩ := he.run e1
      exact Blk.ne hcq hc (fun e => (tl_ne q.own).2 e.symm) rfl
  · obtain ⟨cg, hcg⟩ := hq1.run hg
    rcases hS _ hs with ⟨c, hc⟩ | e1 | e1
    · exact Blk.ne hcg hc (by decide) rfl
    · rw [e1] at hcg
      exact Blk.ne hcg hce (tl_ne e.own).2 rfl
    · exact (hap q hq).2 g hg e1
theorem GS.newL (h : GS w0 B sts (leds1 ++ e :: leds2) W) {S : Nat → Prop} (hS : ∀ j, S j → (∃ cs, Blk W j cs 115) ∨ SE e j) (hb : e'.blk = e.blk) (hn : ∀ g, e'.rv.ownBlock = some g → g < W.heap.size → S g) : ∀ q, q ∈ leds1 ∨ q ∈ leds2 → LApart q e' := by
  intro q hq
  have hq1 : IsLed W q := (h.led q (by rcases hq with hq | hq <;> simp [hq])).1
  refine ⟨fun e1 => (h.midL.2.2.2 q hq).1 (e1.trans hb), fun g hg e1 => ?_⟩
  obtain ⟨c, hc⟩ := hq1.run hg
  exact ((h.apartL hS q hq).2 g hg) (hn g e1 hc.lt)
/-- One ledger is turned, and no state. -/
theorem GS.turnL (h : GS w0 B sts (leds1 ++ e :: leds2) W) {S : Nat → Prop} (hS : ∀ j, S j → SE e j) (hk : Kp S W W') (hn : IsLed W' e') (hb : e'.blk = e.blk) (hr : ∀ g, e'.rv.ownBlock = some g → g < W.heap.size → S g) : GS w0 B sts (leds1 ++ e' :: leds2) W' ∧ Ko W W' := by
  obtain ⟨he, hB1, hB2, hap⟩ := h.midL
  obtain ⟨ce, hce⟩ := he.blk
  have hS' : ∀ j, S j → (∃ cs, Blk W j cs 115) ∨ SE e j := fun j hj => .inr (hS j hj)
  have hSB : ∀ j, S j → B ≤ j := fun j hj => by
    rcases hS j hj with e1 | e1
    · rw [e1]; exact hB1
    · exact hB2 j e1
  have n1 : ∀ x cs t, Blk W x cs t → t ≠ 66 → t ≠ tl e.own → ¬ S x := fun x cs t hx h1 h2 hs => by
    rcases hS x hs with e1 | e1
    · rw [e1] at hx; exact Blk.ne hx hce h2 rfl
    · obtain ⟨c, hc⟩ := he.run e1; exact Blk.ne hx hc h1 rfl
  refine ⟨⟨fun p hp => ⟨(h.st p hp).1.kept hk ?_, (h.st p hp).2⟩, h.stn, fun q hq => ?_, h.lednL (h.newL hS' hb hr), h.bel.trans (hk.below h.hB (fun j hj hs => by have := hSB j hs; omega)), h.kt.kept hk (fun hs => by have := hSB 0 hs; have := h.h0; omega), h.h0, Nat.le_trans h.hB hk.size⟩, fun g cs t hg h1 h2 h3 h4 => hg.kept hk (n1 _ _ _ hg h2 ?_)⟩
  · obtain ⟨c, hc⟩ := (h.st p hp).1.blk; exact n1 _ _ _ hc (by decide) (tl_ne e.own).1
  · have old : ∀ q, q ∈ leds1 ∨ q ∈ leds2 → IsLed W' q ∧ B ≤ q.blk ∧ ∀ g, q.rv.ownBlock = some g → B ≤ g := fun q hq => by
      have h1 := h.led q (by rcases hq with hq | hq <;> simp [hq])
      exact ⟨h1.1.kept hk (h.apartL hS' q hq).1 (h.apartL hS' q hq).2, h1.2⟩
    rcases List.mem_append.1 hq with hq | hq
    · exact old q (.inl hq)
    · rcases List.mem_cons.1 hq with rfl | hq
      · refine ⟨hn, by rw [hb]; exact hB1, fun g hg => ?_⟩
        by_cases hlt : g < W.heap.size
        · exact hSB g (hr g hg hlt)
        · have := h.hB; omega
      · exact old q (.inr hq)
  · cases ho : e.own with
    | true => exact h3
    | false => exact h4
/-- One state and one ledger are turned. -/
theorem GS.turnB (h : GS w0 B (sts1 ++ (b, k) :: sts2) (leds1 ++ e :: leds2) W) {S : Nat → Prop} (hS : ∀ j, S j → j = b ∨ SE e j) (hk : Kp S W W') (hs : IsSt W' b k') (hn : IsLed W' e') (hb : e'.blk = e.blk) (hr : ∀ g, e'.rv.ownBlock = some g → g < W.heap.size → S g) : GS w0 B (sts1 ++ (b, k') :: sts2) (leds1 ++ e' :: leds2) W' ∧ Ko W W' := by
  obtain ⟨he, hB1, hB2, hap⟩ := h.midL
  obtain ⟨ce, hce⟩ := he.blk
  obtain ⟨hbs, hBb, hne⟩ := h.mid
  obtain ⟨cb, hcb⟩ := hbs.blk
  have hS' : ∀ j, S j → (∃ cs, Blk W j cs 115) ∨ SE e j := fun j hj => (hS j hj).imp (fun e1 => ⟨cb, by rw [e1]; exact hcb⟩) id
  have hSB : ∀ j, S j → B ≤ j := fun j hj => by
    rcases hS j hj with e1 | e1 | e1
    · rw [e1]; exact hBb
    · rw [e1]; exact hB1
    · exact hB2 j e1
  have n1 : ∀ x cs t, Blk W x cs t → t ≠ 115 → t ≠ 66 → t ≠ tl e.own → ¬ S x := fun x cs t hx h0 h1 h2 hs => by
    rcases hS x hs with e1 | e1 | e1
    · exact Blk.ne hx hcb h0 e1
    · rw [e1] at hx; exact Blk.ne hx hce h2 rfl
    · obtain ⟨c, hc⟩ := he.run e1; exact Blk.ne hx hc h1 rfl
  have n2 : ∀ p, p ∈ sts1 ∨ p ∈ sts2 → ¬ S p.1 := fun p hp hs => by
    have hp1 : IsSt W p.1 p.2 := (h.st p (by rcases hp with hp | hp <;> simp [hp])).1
    obtain ⟨c, hc⟩ := hp1.blk
    rcases hS _ hs with e1 | e1 | e1
    · exact hne p hp e1
    · rw [e1] at hc; exact Blk.ne hc hce (tl_ne e.own).1 rfl
    · obtain ⟨c', hc'⟩ := he.run e1; exact Blk.ne hc hc' (by decide) rfl
  refine ⟨⟨fun p hp => ?_, h.stnS, fun q hq => ?_, h.lednL (h.newL hS' hb hr), h.bel.trans (hk.below h.hB (fun j hj hs => by have := hSB j hs; omega)), h.kt.kept hk (fun hs => by have := hSB 0 hs; have := h.h0; omega), h.h0, Nat.le_trans h.hB hk.size⟩, fun g cs t hg h1 h2 h3 h4 => hg.kept hk (n1 _ _ _ hg h1 h2 ?_)⟩
  · have old : ∀ p, p ∈ sts1 ∨ p ∈ sts2 → IsSt W' p.1 p.2 ∧ B ≤ p.1 := fun p hp => by
      have h1 := h.st p (by rcases hp with hp | hp <;> simp [hp])
      exact ⟨h1.1.kept hk (n2 p hp), h1.2⟩
    rcases List.mem_append.1 hp with hp | hp
    · exact old p (.inl hp)
    · rcases List.mem_cons.1 hp with rfl | hp
      · exact ⟨hs, hBb⟩
      · exact old p (.inr hp)
  · have old : ∀ q, q ∈ leds1 ∨ q ∈ leds2 → IsLed W' q ∧ B ≤ q.blk ∧ ∀ g, q.rv.ownBlock = some g → B ≤ g := fun q hq => by
      have h1 := h.led q (by rcases hq with hq | hq <;> simp [hq])
      exact ⟨h1.1.kept hk (h.apartL hS' q hq).1 (h.apartL hS' q hq).2, h1.2⟩
    rcases List.mem_append.1 hq with hq | hq
    · exact old q (.inl hq)
    · rcases List.mem_cons.1 hq with rfl | hq
      · refine ⟨hn, by rw [hb]; exact hB1, fun g hg => ?_⟩
        by_cases hlt : g < W.heap.size
        · exact hSB g (hr g hg hlt)
        · have := h.hB; omega
      · exact old q (.inr hq)
  · cases ho : e.own with
    | true => exact h3
    | false => exact h4
end
end Go.Proofs.YtjhhnajgfngbhaaGreatDoor.Sh
namespace Go.Proofs.YtjhhnajgfngbhaaGreatDoor.Sh
open Go.ChangeShapes Go.WideShapes Go.ChangeAt Go.RowKit
open Go.Proofs.YtjhhnajgfngbhaaGreatDoor.By Go.Proofs.YtjhhnajgfngbhaaGreatDoor.Wd

theorem Ko.own {W W' : World} (h : Ko W W') {base n : Nat} {v : Value} {f : Nat → Int} (ho : By.Own W base v n f) : By.Own W' base v n f := by
  obtain ⟨hf, hl, h' | ⟨g, cap, cur, rfl, hb, hc, h1, h2, h3, h4⟩⟩ := ho
  · exact ⟨hf, hl, .inl h'⟩
  · refine ⟨hf, hl, .inr ⟨g, cap, cur, rfl, hb, ?_, h1, h2, h3, h4⟩⟩
    have := h g cur.toList 5 (by show W.heap[g]? = _; rw [hc]) (by decide) (by decide) (by decide) (by decide)
    exact this
theorem Ko.trans {W W' W2 : World} (h : Ko W W') (h' : Ko W' W2) : Ko W W2 := fun g cs t hg h1 h2 h3 h4 => h' g cs t (h g cs t hg h1 h2 h3 h4) h1 h2 h3 h4
theorem Ko.row {W W' : World} (h : Ko W W') {base n : Nat} {v : Value} {xs : List Value} (ho : W.ownsRow base 22 1 v n xs) : W'.ownsRow base 22 1 v n xs := by
  obtain ⟨hl, h' | ⟨g, cap, cur, rfl, hb, hc, h1, h2, h3, h4⟩⟩ := ho
  · exact ⟨hl, .inl h'⟩
  · refine ⟨hl, .inr ⟨g, cap, cur, rfl, hb, ?_, h1, h2, h3, h4⟩⟩
    have := h g cur.toList 22 (by show W.heap[g]? = _; rw [hc]) (by decide) (by decide) (by decide) (by decide)
    exact this
section
variable {w0 W W' : World} {B : Nat} {sts sts1 sts2 : List (Nat × SK)} {leds leds1 leds2 : List LE} {b lb : Nat} {k : SK} {e : LE} {rv : Value} {L : List Rn} {m : Nat} {f : Nat → Int}
theorem GS.koS (h : GS w0 B (sts1 ++ (b, k) :: sts2) leds W) (hk : Kp (fun j => j = b) W W') : Ko W W' ∧ Below B w0 W' := by
  obtain ⟨hb, hB, _⟩ := h.mid
  obtain ⟨cb, hcb⟩ := hb.blk
  exact ⟨fun g cs t hg h1 _ _ _ => hg.kept hk (fun e => Blk.ne hg hcb h1 e), h.bel.trans (hk.below h.hB (fun k hk e => by have : k = b := e; omega))⟩
theorem GS.koL (h : GS w0 B sts (leds1 ++ e :: leds2) W) (hk : Kp (SE e) W W') : Ko W W' ∧ Below B w0 W' := by
  obtain ⟨he, hB1, hB2, _⟩ := h.midL
  obtain ⟨ce, hce⟩ := he.blk
  refine ⟨fun g cs t hg h1 h2 h3 h4 => hg.kept hk (fun hs => ?_), h.bel.trans (hk.below h.hB (fun j hj hs => ?_))⟩
  · rcases hs with e1 | e1
    · rw [e1] at hg
      refine Blk.ne hg hce ?_ rfl
      cases ho : e.own with
      | true => exact h3
      | false => exact h4
    · obtain ⟨c, hc⟩ := he.run e1; exact Blk.ne hg hc h2 rfl
  · rcases hs with e1 | e1
    · omega
    · have := hB2 j e1; omega
theorem GS.koB (h : GS w0 B (sts1 ++ (b, k) :: sts2) (leds1 ++ e :: leds2) W) (hk : Kp (fun j => j = b ∨ SE e j) W W') : Ko W W' ∧ Below B w0 W' := by
  obtain ⟨hb, hB, _⟩ := h.mid
  obtain ⟨cb, hcb⟩ := hb.blk
  obtain ⟨he, hB1, hB2, _⟩ := h.midL
  obtain ⟨ce, hce⟩ := he.blk
  refine ⟨fun g cs t hg h1 h2 h3 h4 => hg.kept hk (fun hs => ?_), h.bel.trans (hk.below h.hB (fun j hj hs => ?_))⟩
  · rcases hs with e1 | e1 | e1
    · exact Blk.ne hg hcb h1 e1
    · rw [e1] at hg
      refine Blk.ne hg hce ?_ rfl
      cases ho : e.own with
      | true => exact h3
      | false => exact h4
    · obtain ⟨c, hc⟩ := he.run e1; exact Blk.ne hg hc h2 rfl
  · rcases hs with e1 | e1 | e1
    · omega
    · omega
    · have := hB2 j e1; omega
theorem GS.no0 (h : GS w0 B sts (leds1 ++ e :: leds2) W) : ¬ SE e 0 := by
  obtain ⟨_, hB1, hB2, _⟩ := h.midL
  have := h.h0
  rintro (e1 | e1)
  · omega
  · have := hB2 0 e1; omega
/-- Write, with a ledger. -/
theorem GS.write (h : GS w0 B (sts1 ++ (b, some (m, f)) :: sts2) (leds1 ++ ⟨true, lb, rv, L⟩ :: leds2) W) (n : Nat) (v : Value) (g : Nat → Int) (hr : ∀ w', Kp (fun j => j = b ∨ SE ⟨true, lb, rv, L⟩ j) W w' → By.RB w' v n g) (hmn : m + n ≤ 140737488354328) (hroom : tq L + (n / 64 : Nat) ≤ 5000000000000) :
    Calls Tryz.prog 146 #[.pointer (some ⟨b, 0, none⟩), .pointer (some ⟨lb, 0, none⟩), v] W fun e w' => e = .returned (.int .i64 0) ∧ ∃ rv', GS w0 B (sts1 ++ (b, some (m + n, cat m f g)) :: sts2) (leds1 ++ ⟨true, lb, rv', evs256 L ((m + n) / 64 - m / 64)⟩ :: leds2) w' ∧ Ko W w' := by
  obtain ⟨hb, hB, _⟩ := h.mid
  obtain ⟨he, hB1, hB2, _⟩ := h.midL
  have hl : Led W lb rv L := he
  refine (write26 b m n v f g (some lb) L (fun j => j = b ∨ SE ⟨true, lb, rv, L⟩ j) W hb h.kt (by have := h.h0; rintro (e | e); omega; exact h.no0 e) (.inl rfl) ⟨.inr (.inl rfl), rv, hl, fun g hg _ => .inr (.inr hg)⟩ hl.pos hr hmn hroom).mono ?_
  rintro e w' ⟨rfl, hs, hlg, hk⟩
  obtain ⟨_, rv', hl', ho'⟩ := hlg
  exact ⟨rfl, rv', h.turnB (e' := ⟨true, lb, rv', evs256 L ((m + n) / 64 - m / 64)⟩) (fun _ hj => hj) hk hs hl' rfl (fun g hg hlt => ho' g hg hlt)⟩
/-- Write, without a ledger. -/
theorem GS.write0 (h : GS w0 B (sts1 ++ (b, some (m, f)) :: sts2) leds W) (n : Nat) (v : Value) (g : Nat → Int) (hr : ∀ w', Kp (fun j => j = b) W w' → By.RB w' v n g) (hmn : m + n ≤ 140737488354328) :
    Calls Tryz.prog 146 #[.pointer (some ⟨b, 0, none⟩), .pointer none, v] W fun e w' => e = .returned (.int .i64 0) ∧ GS w0 B (sts1 ++ (b, some (m + n, cat m f g)) :: sts2) leds w' ∧ Ko W w' := by
  obtain ⟨hb, hB, _⟩ := h.mid
  refine (write26 b m n v f g none [] (fun j => j = b) W hb h.kt (by have := h.h0; omega) rfl (lg_nil _ _) pos_nil' hr hmn (by have h0 : tq ([] : List Rn) = 0 := rfl; omega)).mono ?_
  rintro e w' ⟨rfl, hs, -, hk⟩
  exact ⟨rfl, h.turnS hk hs⟩
/-- Sum, with a ledger. -/
theorem GS.sum (h : GS w0 B (sts1 ++ (b, some (m, f)) :: sts2) (leds1 ++ ⟨true, lb, rv, L⟩ :: leds2) W) (hm : m ≤ 140737488353328) (hroom : tq L ≤ 4400000000000) :
    Calls Tryz.prog 60 #[.pointer (some ⟨b, 0, none⟩), .pointer (some ⟨lb, 0, none⟩)] W fun e w' => ∃ v rv', e = .returned (.tuple #[v, .int .i64 0]) ∧ By.Own w' W.heap.size v 32 (dig m f) ∧ GS w0 B (sts1 ++ (b, some (m, f)) :: sts2) (leds1 ++ ⟨true, lb, rv', evs256 L (last m)⟩ :: leds2) w' ∧ Ko W w' := by
  obtain ⟨hb, hB, _⟩ := h.mid
  obtain ⟨he, hB1, hB2, _⟩ := h.midL
  have hl : Led W lb rv L := he
  refine (sum32 b m f (some lb) L (SE ⟨true, lb, rv, L⟩) W hb h.kt h.no0 ⟨.inl rfl, rv, hl, fun g hg _ => .inr hg⟩ hl.pos hm hroom).mono ?_
  rintro e w' ⟨v, rfl, hv, hlg, hk⟩
  obtain ⟨_, rv', hl', ho'⟩ := hlg
  exact ⟨v, rv', rfl, hv, h.turnL (e' := ⟨true, lb, rv', evs256 L (last m)⟩) (fun _ hj => hj) hk hl' rfl (fun g hg hlt => ho' g hg hlt)⟩
/-- Sum, without a ledger. -/
theorem GS.sum0 (h : GS w0 B (sts1 ++ (b, some (m, f)) :: sts2) leds W) (hm : m ≤ 140737488353328) :
    Calls Tryz.prog 60 #[.pointer (some ⟨b, 0, none⟩), .pointer none] W fun e w' => ∃ v, e = .returned (.tuple #[v, .int .i64 0]) ∧ By.Own w' W.heap.size v 32 (dig m f) ∧ Below W.heap.size W w' := by
  refine (sum32 b m f none [] (fun _ => False) W h.mid.1 h.kt (fun e => e) (lg_nil _ _) pos_nil' hm (by decide)).mono ?_
  rintro e w' ⟨v, rfl, hv, -, hk⟩
  exact ⟨v, rfl, hv, below_kp hk⟩
/-- A state more. -/
theorem GS.add (h : GS w0 B sts leds W) (hk : IsSt W b k) (hb : B ≤ b) (hn : ∀ p ∈ sts, p.1 ≠ b) : GS w0 B (sts ++ [(b, k)]) leds W := by
  refine ⟨fun p hp => ?_, List.pairwise_append.2 ⟨h.stn, List.pairwise_singleton _ _, fun a ha c hc => by rw [List.mem_singleton.1 hc]; exact hn a ha⟩, h.led, h.ledn, h.bel, h.kt, h.h0, h.hB⟩
  rcases List.mem_append.1 hp with hp | hp
  · exact h.st p hp
  · rw [List.mem_singleton.1 hp]; exact ⟨hk, hb⟩
theorem GS.addNew (h : GS w0 B sts leds W) (hb : Below W.heap.size W W') (hk : IsSt W' W.heap.size k) : GS w0 B (sts ++ [(W.heap.size, k)]) leds W' := by
  refine (h.below hb).add hk h.hB (fun p hp e => ?_)
  obtain ⟨c, hc⟩ := (h.st p hp).1.blk
  have := hc.lt
  omega
theorem GS.addLed (h : GS w0 B sts leds W) (hb : Below W.heap.size W W') {o : Bool} (hl : IsLed W' ⟨o, W.heap.size, .slice none 0 0, []⟩) : GS w0 B sts (leds ++ [⟨o, W.heap.size, .slice none 0 0, []⟩]) W' := by
  have h' := h.below hb
  refine ⟨h'.st, h'.stn, fun q hq => ?_, List.pairwise_append.2 ⟨h'.ledn, List.pairwise_singleton _ _, fun a ha c hc => ?_⟩, h'.bel, h'.kt, h'.h0, h'.hB⟩
  · rcases List.mem_append.1 hq with hq | hq
    · exact h'.led q hq
    · rw [List.mem_singleton.1 hq]
      exact ⟨hl, h.hB, fun g hg => by simp [Value.ownBlock] at hg⟩
  · rw [List.mem_singleton.1 hc]
    refine ⟨fun e1 => ?_, fun g hg e1 => by simp [Value.ownBlock] at e1⟩
    obtain ⟨c, hc⟩ := (h.led a ha).1.blk
    have := hc.lt
    have e2 : a.blk = W.heap.size := e1
    omega
theorem GS.start (w : World) (hk : KT w) : GS w w.heap.size [] [] w :=
  ⟨fun p hp => by simp at hp, List.Pairwise.nil, fun p hp => by simp at hp, List.Pairwise.nil, Below.refl _ _, hk, hk.lt, Nat.le_refl _⟩
end
end Go.Proofs.YtjhhnajgfngbhaaGreatDoor.Sh
namespace Go.Proofs.YtjhhnajgfngbhaaGreatDoor.Sh
open Go.ChangeShapes Go.WideShapes Go.ChangeAt Go.RowKit
open Go.Proofs.YtjhhnajgfngbhaaGreatDoor.By Go.Proofs.YtjhhnajgfngbhaaGreatDoor.Wd

/-- The document's state in block b: none, or its message. -/
def IsR (w : World) (b : Nat) : SK → Prop
  | none => ∃ v, Blk w b [v, .bool false] 133
  | some (m, f) => m ≤ 140737488353328 ∧ ∃ v, Blk w b [v, .bool true] 133 ∧ By.Own w 0 v m f
theorem IsR.kept {w w' : World} {b : Nat} {k : SK} {S : Nat → Prop} (h : IsR w b k) (hk : Kp S w w') (h1 : ¬ S b) (h2 : ∀ g cs, Blk w g cs 5 → ¬ S g) : IsR w' b k := by
  match k, h with
  | none, ⟨v, h⟩ => exact ⟨v, h.kept hk h1⟩
  | some (m, f), ⟨hm, v, h, ho⟩ =>
    refine ⟨hm, v, h.kept hk h1, own_kept ho hk (fun g hg => ?_)⟩
    obtain ⟨c, hc⟩ := own8_type ho hg
    exact h2 g c.toList (by show w.heap[g]? = _; rw [hc])
theorem IsR.below {w w' : World} {b : Nat} {k : SK} (h : IsR w b k) (hb : Below w.heap.size w w') : IsR w' b k := h.kept (Kp.of_below (fun _ => False) hb) id (fun _ _ _ => id)
theorem rnew11 (w : World) : Calls Tryz.prog 80 #[] w fun e w' => e = .returned (.pointer (some ⟨w.heap.size, 0, none⟩)) ∧ IsR w' w.heap.size (some (0, fun _ => 0)) ∧ Below w.heap.size w w' := by
  go_enter Tryz.func80, Tryz.ntmps80
  go_wp2
  go_ret
  exact ⟨rfl, ⟨by omega, _, Blk.newAt w _ _ _ _ rfl rfl, By.own_nil _ _ _ (fun _ => by decide)⟩, below_alloc _ _⟩
theorem none_st (b : Nat) (w : World) (x : Bool) (h : w.cell? ⟨b, 1, none⟩ = some (.bool x)) : Calls Tryz.prog 90 #[.pointer (some ⟨b, 0, none⟩)] w fun e w' => e = .returned (.bool (!x)) ∧ w' = w := by
  go_enter Tryz.func90, Tryz.ntmps90
  go_wp2
  go_ret
  exact ⟨rfl, rfl⟩
theorem none_nil (w : World) : Calls Tryz.prog 90 #[.pointer none] w fun e w' => e = .returned (.bool true) ∧ w' = w := by
  go_enter Tryz.func90, Tryz.ntmps90
  go_wp2
  go_ret
  exact ⟨rfl, rfl⟩
theorem rled_apart {w : World} {lb : Nat} {rv : Value} {L : List Rn} (h : RLed w lb rv L) {g : Nat} {cs : List Value} {t : TypeId} (hg : Blk w g cs t) (h1 : t ≠ 48) (h2 : t ≠ 66) : ¬ (g = lb ∨ rv.ownBlock = some g) := by
  rintro (e | e)
  · subst e
    exact Blk.ne hg (show Blk w g _ 48 from h.here) h1 rfl
  · obtain ⟨c, hc⟩ := own_type h.own e
    exact Blk.ne hg (show Blk w g c.toList 66 from by show w.heap[g]? = _; rw [hc]) h2 rfl
theorem rsum36n (b : Nat) (lp : Value) (w : World) (h : IsR w b none) : Calls Tryz.prog 82 #[.pointer (some ⟨b, 0, none⟩), lp] w fun e w' => e = .returned (.tuple #[.slice none 0 0, .int .i64 1]) ∧ w' = w := by
  obtain ⟨v, hb⟩ := h
  have h1 := hb.cell 1 _ rfl
  clear hb
  go_enter Tryz.func82, Tryz.ntmps82
  go_wp2_with (go_at_call 90; refine (none_st _ _ false h1).mono ?_; rintro e w ⟨rfl, rfl⟩)
  go_ret2
  exact ⟨rfl, rfl⟩
theorem rsum36z (lp : Value) (w : World) : Calls Tryz.prog 82 #[.pointer none, lp] w fun e w' => e = .returned (.tuple #[.slice none 0 0, .int .i64 1]) ∧ w' = w := by
  go_enter Tryz.func82, Tryz.ntmps82
  go_wp2_with (go_at_call 90; refine (none_nil _).mono ?_; rintro e w ⟨rfl, rfl⟩)
  go_ret2
  exact ⟨rfl, rfl⟩
theorem rwrite35n (b : Nat) (lp v : Value) (w : World) (h : IsR w b none) : Calls Tryz.prog 81 #[.pointer (some ⟨b, 0, none⟩), lp, v] w fun e w' => e = .returned (.int .i64 1) ∧ w' = w := by
  obtain ⟨v', hb⟩ := h
  have h1 := hb.cell 1 _ rfl
  clear hb
  go_enter Tryz.func81, Tryz.ntmps81
  go_wp2_with (go_at_call 90; refine (none_st _ _ false h1).mono ?_; rintro e w ⟨rfl, rfl⟩)
  go_ret
  exact ⟨rfl, rfl⟩
theorem rwrite35z (lp v : Value) (w : World) : Calls Tryz.prog 81 #[.pointer none, lp, v] w fun e w' => e = .returned (.int .i64 1) ∧ w' = w := by
  go_enter Tryz.func81, Tryz.ntmps81
  go_wp2_with (go_at_call 90; refine (none_nil _).mono ?_; rintro e w ⟨rfl, rfl⟩)
  go_ret
  exact ⟨rfl, rfl⟩
end Go.Proofs.YtjhhnajgfngbhaaGreatDoor.Sh
