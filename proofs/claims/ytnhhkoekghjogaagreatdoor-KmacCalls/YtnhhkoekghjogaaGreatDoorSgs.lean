/- Several sponges and ledgers at once: what one call leaves of the others. -/
import Derived.Test.YtnhhkoekghjogaaGreatDoorSfm
import Derived.Test.YtnhhkoekghjogaaGreatDoorRref
namespace Go.Proofs.YtnhhkoekghjogaaGreatDoor.Kc
open Go.ChangeShapes Go.WideShapes Go.ChangeAt Go.RowKit
open Go.Proofs.YtnhhkoekghjogaaGreatDoor.By Go.Proofs.YtnhhkoekghjogaaGreatDoor.Wd

/-- What a sponge is: none, or one with its numbers. -/
abbrev SK := Option (Nat × Int × Z × Bool)
def IsSt (W : World) (b : Nat) : SK → Prop
  | none => NoSp W b
  | some (r, sf, z, sh) => Sp W b r sf z sh
theorem IsSt.blk {W : World} {b : Nat} {k : SK} (h : IsSt W b k) : ∃ cs, Blk W b cs 109 := by
  match k, h with
  | none, h => obtain ⟨cs, h⟩ := h; exact ⟨_, h⟩
  | some (r, sf, z, sh), h => exact ⟨_, h.here⟩
theorem IsSt.kept {W W' : World} {b : Nat} {k : SK} {S : Nat → Prop} (h : IsSt W b k) (hk : Kp S W W') (hn : ¬ S b) : IsSt W' b k := by
  match k, h with
  | none, h => obtain ⟨cs, h⟩ := h; exact ⟨cs, h.kept hk hn⟩
  | some (r, sf, z, sh), h => exact Sp.kept h hk hn
/-- A ledger: the program's or the document's, its block, its runs' slice, its runs. -/
structure LE where
  own : Bool
  blk : Nat
  rv : Value
  runs : List Rn
def tl (b : Bool) : TypeId := match b with | true => 59 | false => 61
def IsLed (W : World) (q : LE) : Prop := match q.own with | true => Led W q.blk q.rv q.runs | false => RLed W q.blk q.rv q.runs
theorem IsLed.blk {W : World} {q : LE} (h : IsLed W q) : ∃ cs, Blk W q.blk cs (tl q.own) := by
  obtain ⟨o, b, rv, L⟩ := q
  cases o with
  | true => exact ⟨_, (show Led W b rv L from h).here⟩
  | false => exact ⟨_, (show RLed W b rv L from h).here⟩
theorem IsLed.run {W : World} {q : LE} (h : IsLed W q) {g : Nat} (hg : q.rv.ownBlock = some g) : ∃ cs, Blk W g cs 81 := by
  obtain ⟨o, b, rv, L⟩ := q
  have key : ∀ x, Own W 0 rv x → ∃ cs, Blk W g cs 81 := fun x hx => by
    obtain ⟨c, hc⟩ := own_type hx hg
    exact ⟨c.toList, by show W.heap[g]? = _; rw [hc]⟩
  cases o with
  | true => exact key _ (show Led W b rv L from h).own
  | false => exact key _ (show RLed W b rv L from h).own
theorem IsLed.kept {W W' : World} {q : LE} {S : Nat → Prop} (h : IsLed W q) (hk : Kp S W W') (h1 : ¬ S q.blk) (h2 : ∀ g, q.rv.ownBlock = some g → ¬ S g) : IsLed W' q := by
  obtain ⟨o, b, rv, L⟩ := q
  cases o with
  | true => exact (show Led W b rv L from h).kept hk h1 h2
  | false => exact (show RLed W b rv L from h).kept hk h1 h2
theorem tl_ne (o : Bool) : 109 ≠ tl o ∧ 81 ≠ tl o := by cases o <;> decide
/-- Two ledgers have no block in common. -/
def LApart (p q : LE) : Prop := p.blk ≠ q.blk ∧ ∀ g, p.rv.ownBlock = some g → q.rv.ownBlock ≠ some g
theorem LApart.symm {p q : LE} (h : LApart p q) : LApart q p := ⟨fun e => h.1 e.symm, fun g hg e => h.2 g e hg⟩
structure GS (w0 : World) (B : Nat) (sts : List (Nat × SK)) (leds : List LE) (W : World) : Prop where
  st : ∀ p ∈ sts, IsSt W p.1 p.2 ∧ B ≤ p.1
  stn : sts.Pairwise (fun p q => p.1 ≠ q.1)
  led : ∀ q ∈ leds, IsLed W q ∧ B ≤ q.blk ∧ ∀ g, q.rv.ownBlock = some g → B ≤ g
  ledn : leds.Pairwise LApart
  bel : Below B w0 W
  kt : KT W
  h0 : 1 < B
  hB : B ≤ W.heap.size
/-- Blocks of other kinds stay. -/
def Ko (W W' : World) : Prop := ∀ g cs t, Blk W g cs t → t ≠ 109 → t ≠ 81 → t ≠ 59 → t ≠ 61 → Blk W' g cs t
/-- A ledger's blocks. -/
def SE (e : LE) (j : Nat) : Prop := j = e.blk ∨ e.rv.ownBlock = some j
section
variable {w0 W W' : World} {B : Nat} {sts : List (Nat × SK)} {leds : List LE}
theorem GS.below (h : GS w0 B sts leds W) (hb : Below W.heap.size W W') : GS w0 B sts leds W' := by
  have hk := Kp.of_below (fun _ => False) hb
  exact ⟨fun p hp => ⟨(h.st p hp).1.kept hk id, (h.st p hp).2⟩, h.stn, fun q hq => ⟨(h.led q hq).1.kept hk id (fun _ _ => id), (h.led q hq).2⟩, h.ledn, h.bel.trans (hb.mono h.hB), h.kt.below hb, h.h0, Nat.le_trans h.hB hb.size⟩
theorem Ko.below (hb : Below W.heap.size W W') : Ko W W' := fun _ _ _ h _ _ _ _ => h.below hb
/-- A block of another kind is written. -/
theorem GS.other (h : GS w0 B sts leds W) {g : Nat} {cs : List Value} {t : TypeId} (hg : Blk W g cs t) (h1 : t ≠ 109) (h2 : t ≠ 81) (h3 : t ≠ 59) (h4 : t ≠ 61) (hk : Kp (fun k => k = g) W W') (hB : B ≤ g) : GS w0 B sts leds W' := by
  have n1 : ∀ x cs' t', Blk W x cs' t' → t' ≠ t → ¬ (x = g) := fun x cs' t' hx ht e => Blk.ne hx hg ht e
  refine ⟨fun p hp => ⟨(h.st p hp).1.kept hk ?_, (h.st p hp).2⟩, h.stn, fun q hq => ⟨(h.led q hq).1.kept hk ?_ (fun x hx => ?_), (h.led q hq).2⟩, h.ledn, h.bel.trans (hk.below h.hB (fun k hk e => by have : k = g := e; omega)), h.kt.kept hk (by have := h.h0; omega) (by have := h.h0; omega), h.h0, Nat.le_trans h.hB hk.size⟩
  · obtain ⟨c, hc⟩ := (h.st p hp).1.blk; exact n1 _ _ _ hc (fun e => h1 e.symm)
  · obtain ⟨c, hc⟩ := (h.led q hq).1.blk
    refine n1 _ _ _ hc (fun e => ?_)
    cases ho : q.own with
    | true => rw [ho] at e; exact h3 e.symm
    | false => rw [ho] at e; exact h4 e.symm
  · obtain ⟨c, hc⟩ := (h.led q hq).1.run hx; exact n1 _ _ _ hc (fun e => h2 e.symm)
variable {sts1 sts2 : List (Nat × SK)} {leds1 leds2 : List LE} {b : Nat} {k k' : SK} {e e' : LE}
theorem GS.mid (h : GS w0 B (sts1 ++ (b, k) :: sts2) leds W) : IsSt W b k ∧ B ≤ b ∧ ∀ p, p ∈ sts1 ∨ p ∈ sts2 → p.1 ≠ b := by
  refine ⟨(h.st (b, k) (by simp)).1, (h.st (b, k) (by simp)).2, ?_⟩
  have := List.pairwise_append.1 h.stn
  rintro p (hp | hp)
  · exact this.2.2 p hp (b, k) (by simp)
  · exact fun e => (List.pairwise_cons.1 this.2.1).1 p hp e.symm
theorem GS.midL (h : GS w0 B sts (leds1 ++ e :: leds2) W) : IsLed W e ∧ B ≤ e.blk ∧ (∀ g, e.rv.ownBlock = some g → B ≤ g) ∧ ∀ q, q ∈ leds1 ∨ q ∈ leds2 → LApart q e := by
  have h1 := h.led e (by simp)
  refine ⟨h1.1, h1.2.1, h1.2.2, ?_⟩
  have := List.pairwise_append.1 h.ledn
  rintro p (hp | hp)
  · exact this.2.2 p hp e (by simp)
  · exact ((List.pairwise_cons.1 this.2.1).1 p hp).symm
theorem GS.stnS (h : GS w0 B (sts1 ++ (b, k) :: sts2) leds W) : (sts1 ++ (b, k') :: sts2).Pairwise (fun p q => p.1 ≠ q.1) := by
  have h1 := List.pairwise_append.1 h.stn
  have h2 := List.pairwise_cons.1 h1.2.1
  refine List.pairwise_append.2 ⟨h1.1, List.pairwise_cons.2 ⟨h2.1, h2.2⟩, fun a ha c hc => ?_⟩
  rcases List.mem_cons.1 hc with rfl | hc
  · exact h1.2.2 a ha (b, k) (by simp)
  · exact h1.2.2 a ha c (by simp [hc])
/-- One state is turned, and no ledger. -/
theorem GS.turnS (h : GS w0 B (sts1 ++ (b, k) :: sts2) leds W) (hk : Kp (fun j => j = b) W W') (hn : IsSt W' b k') : GS w0 B (sts1 ++ (b, k') :: sts2) leds W' ∧ Ko W W' := by
  obtain ⟨hb, hB, hne⟩ := h.mid
  obtain ⟨cb, hcb⟩ := hb.blk
  have n1 : ∀ x cs' t', Blk W x cs' t' → t' ≠ 109 → ¬ (x = b) := fun x cs' t' hx ht e => Blk.ne hx hcb ht e
  refine ⟨⟨fun p hp => ?_, h.stnS, fun q hq => ⟨(h.led q hq).1.kept hk ?_ (fun x hx => ?_), (h.led q hq).2⟩, h.ledn, h.bel.trans (hk.below h.hB (fun k hk e => by have : k = b := e; omega)), h.kt.kept hk (by have := h.h0; omega) (by have := h.h0; omega), h.h0, Nat.le_trans h.hB hk.size⟩, fun g cs t hg h1 _ _ _ => hg.kept hk (n1 _ _ _ hg h1)⟩
  · rcases List.mem_append.1 hp with hp | hp
    · exact ⟨(h.st p (by simp [hp])).1.kept hk (hne p (.inl hp)), (h.st p (by simp [hp])).2⟩
    · rcases List.mem_cons.1 hp with rfl | hp
      · exact ⟨hn, hB⟩
      · exact ⟨(h.st p (by simp [hp])).1.kept hk (hne p (.inr hp)), (h.st p (by simp [hp])).2⟩
  · obtain ⟨c, hc⟩ := (h.led q hq).1.blk; exact n1 _ _ _ hc (fun e => (tl_ne q.own).1 e.symm)
  · obtain ⟨c, hc⟩ := (h.led q hq).1.run hx; exact n1 _ _ _ hc (by decide)
theorem GS.lednL (h : GS w0 B sts (leds1 ++ e :: leds2) W) (h1 : ∀ q, q ∈ leds1 ∨ q ∈ leds2 → LApart q e') : (leds1 ++ e' :: leds2).Pairwise LApart := by
  have g1 := List.pairwise_append.1 h.ledn
  have g2 := List.pairwise_cons.1 g1.2.1
  refine List.pairwise_append.2 ⟨g1.1, List.pairwise_cons.2 ⟨fun q hq => (h1 q (.inr hq)).symm, g2.2⟩, fun a ha c hc => ?_⟩
  rcases List.mem_cons.1 hc with rfl | hc
  · exact h1 a (.inl ha)
  · exact g1.2.2 a ha c (by simp [hc])
/-- A set of blocks that one ledger and perhaps one state have. -/
theorem GS.apartL (h : GS w0 B sts (leds1 ++ e :: leds2) W) {S : Nat → Prop} (hS : ∀ j, S j → (∃ cs, Blk W j cs 109) ∨ SE e j) : ∀ q, q ∈ leds1 ∨ q ∈ leds2 → ¬ S q.blk ∧ ∀ g, q.rv.ownBlock = some g → ¬ S g := by
  obtain ⟨he, _, _, hap⟩ := h.midL
  obtain ⟨ce, hce⟩ := he.blk
  intro q hq
  have hq1 : IsLed W q := (h.led q (by rcases hq with hq | hq <;> simp [hq])).1
  obtain ⟨cq, hcq⟩ := hq1.blk
  refine ⟨fun hs => ?_, fun g hg hs => ?_⟩
  · rcases hS _ hs with ⟨c, hc⟩ | e1 | e1
    · exact Blk.ne hcq hc (fun e => (tl_ne q.own).1 e.symm) rfl
    · exact (hap q hq).1 e1
    · obtain ⟨c, hc⟩ := he.run e1
      exact Blk.ne hcq hc (fun e => (tl_ne q.own).2 e.symm) rfl
  · obtain ⟨cg, hcg⟩ := hq1.run hg
    rcases hS _ hs with ⟨c, hc⟩ | e1 | e1
    · exact Blk.ne hcg hc (by decide) rfl
    · rw [e1] at hcg
      exact Blk.ne hcg hce (tl_ne e.own).2 rfl
    · exact (hap q hq).2 g hg e1
theorem GS.newL (h : GS w0 B sts (leds1 ++ e :: leds2) W) {S : Nat → Prop} (hS : ∀ j, S j → (∃ cs, Blk W j cs 109) ∨ SE e j) (hb : e'.blk = e.blk) (hn : ∀ g, e'.rv.ownBlock = some g → g < W.heap.size → S g) : ∀ q, q ∈ leds1 ∨ q ∈ leds2 → LApart q e' := by
  intro q hq
  have hq1 : IsLed W q := (h.led q (by rcases hq with hq | hq <;> simp [hq])).1
  refine ⟨fun e1 => (h.midL.2.2.2 q hq).1 (e1.trans hb), fun g hg e1 => ?_⟩
  obtain ⟨c, hc⟩ := hq1.run hg
  exact ((h.apartL hS q hq).2 g hg) (hn g e1 hc.lt)
/-- One ledger is turned, and no state. -/
theorem GS.turnL (h : GS w0 B sts (leds1 ++ e :: leds2) W) {S : Nat → Prop} (hS : ∀ j, S j → SE e j) (hk : Kp S W W') (hn : IsLed W' e') (hb : e'.blk = e.blk) (hr : ∀ g, e'.rv.ownBlock = some g → g < W.heap.size → S g) : GS w0 B sts (leds1 ++ e' :: leds2) W' ∧ Ko W W' := by
  obtain ⟨he, hB1, hB2, hap⟩ := h.midL
  obtain ⟨ce, hce⟩ := he.blk
  have hS' : ∀ j, S j → (∃ cs, Blk W j cs 109) ∨ SE e j := fun j hj => .inr (hS j hj)
  have hSB : ∀ j, S j → B ≤ j := fun j hj => by
    rcases hS j hj with e1 | e1
    · rw [e1]; exact hB1
    · exact hB2 j e1
  have n1 : ∀ x cs t, Blk W x cs t → t ≠ 81 → t ≠ tl e.own → ¬ S x := fun x cs t hx h1 h2 hs => by
    rcases hS x hs with e1 | e1
    · rw [e1] at hx; exact Blk.ne hx hce h2 rfl
    · obtain ⟨c, hc⟩ := he.run e1; exact Blk.ne hx hc h1 rfl
  refine ⟨⟨fun p hp => ⟨(h.st p hp).1.kept hk ?_, (h.st p hp).2⟩, h.stn, fun q hq => ?_, h.lednL (h.newL hS' hb hr), h.bel.trans (hk.below h.hB (fun j hj hs => by have := hSB j hs; omega)), h.kt.kept hk (fun hs => by have := hSB 0 hs; have := h.h0; omega) (fun hs => by have := hSB 1 hs; have := h.h0; omega), h.h0, Nat.le_trans h.hB hk.size⟩, fun g cs t hg h1 h2 h3 h4 => hg.kept hk (n1 _ _ _ hg h2 ?_)⟩
  · obtain ⟨c, hc⟩ := (h.st p hp).1.blk; exact n1 _ _ _ hc (by decide) (tl_ne e.own).1
  · have old : ∀ q, q ∈ leds1 ∨ q ∈ leds2 → IsLed W' q ∧ B ≤ q.blk ∧ ∀ g, q.rv.ownBlock = some g → B ≤ g := fun q hq => by
      have h1 := h.led q (by rcases hq with hq | hq <;> simp [hq])
      exact ⟨h1.1.kept hk (h.apartL hS' q hq).1 (h.apartL hS' q hq).2, h1.2⟩
    rcases List.mem_append.1 hq with hq | hq
    · exact old q (.inl hq)
    · rcases List.mem_cons.1 hq with rfl | hq
      · refine ⟨hn, by rw [hb]; exact hB1, fun g hg => ?_⟩
        by_cases hlt : g < W.heap.size
        · exact hSB g (hr g hg hlt)
        · have := h.hB; omega
      · exact old q (.inr hq)
  · cases ho : e.own with
    | true => exact h3
    | false => exact h4
/-- One state and one ledger are turned. -/
theorem GS.turnB (h : GS w0 B (sts1 ++ (b, k) :: sts2) (leds1 ++ e :: leds2) W) {S : Nat → Prop} (hS : ∀ j, S j → j = b ∨ SE e j) (hk : Kp S W W') (hs : IsSt W' b k') (hn : IsLed W' e') (hb : e'.blk = e.blk) (hr : ∀ g, e'.rv.ownBlock = some g → g < W.heap.size → S g) : GS w0 B (sts1 ++ (b, k') :: sts2) (leds1 ++ e' :: leds2) W' ∧ Ko W W' := by
  obtain ⟨he, hB1, hB2, hap⟩ := h.midL
  obtain ⟨ce, hce⟩ := he.blk
  obtain ⟨hbs, hBb, hne⟩ := h.mid
  obtain ⟨cb, hcb⟩ := hbs.blk
  have hS' : ∀ j, S j → (∃ cs, Blk W j cs 109) ∨ SE e j := fun j hj => (hS j hj).imp (fun e1 => ⟨cb, by rw [e1]; exact hcb⟩) id
  have hSB : ∀ j, S j → B ≤ j := fun j hj => by
    rcases hS j hj with e1 | e1 | e1
    · rw [e1]; exact hBb
    · rw [e1]; exact hB1
    · exact hB2 j e1
  have n1 : ∀ x cs t, Blk W x cs t → t ≠ 109 → t ≠ 81 → t ≠ tl e.own → ¬ S x := fun x cs t hx h0 h1 h2 hs => by
    rcases hS x hs with e1 | e1 | e1
    · exact Blk.ne hx hcb h0 e1
    · rw [e1] at hx; exact Blk.ne hx hce h2 rfl
    · obtain ⟨c, hc⟩ := he.run e1; exact Blk.ne hx hc h1 rfl
  have n2 : ∀ p, p ∈ sts1 ∨ p ∈ sts2 → ¬ S p.1 := fun p hp hs => by
    have hp1 : IsSt W p.1 p.2 := (h.st p (by rcases hp with hp | hp <;> simp [hp])).1
    obtain ⟨c, hc⟩ := hp1.blk
    rcases hS _ hs with e1 | e1 | e1
    · exact hne p hp e1
    · rw [e1] at hc; exact Blk.ne hc hce (tl_ne e.own).1 rfl
    · obtain ⟨c', hc'⟩ := he.run e1; exact Blk.ne hc hc' (by decide) rfl
  refine ⟨⟨fun p hp => ?_, h.stnS, fun q hq => ?_, h.lednL (h.newL hS' hb hr), h.bel.trans (hk.below h.hB (fun j hj hs => by have := hSB j hs; omega)), h.kt.kept hk (fun hs => by have := hSB 0 hs; have := h.h0; omega) (fun hs => by have := hSB 1 hs; have := h.h0; omega), h.h0, Nat.le_trans h.hB hk.size⟩, fun g cs t hg h1 h2 h3 h4 => hg.kept hk (n1 _ _ _ hg h1 h2 ?_)⟩
  · have old : ∀ p, p ∈ sts1 ∨ p ∈ sts2 → IsSt W' p.1 p.2 ∧ B ≤ p.1 := fun p hp => by
      have h1 := h.st p (by rcases hp with hp | hp <;> simp [hp])
      exact ⟨h1.1.kept hk (n2 p hp), h1.2⟩
    rcases List.mem_append.1 hp with hp | hp
    · exact old p (.inl hp)
    · rcases List.mem_cons.1 hp with rfl | hp
      · exact ⟨hs, hBb⟩
      · exact old p (.inr hp)
  · have old : ∀ q, q ∈ leds1 ∨ q ∈ leds2 → IsLed W' q ∧ B ≤ q.blk ∧ ∀ g, q.rv.ownBlock = some g → B ≤ g := fun q hq => by
      have h1 := h.led q (by rcases hq with hq | hq <;> simp [hq])
      exact ⟨h1.1.kept hk (h.apartL hS' q hq).1 (h.apartL hS' q hq).2, h1.2⟩
    rcases List.mem_append.1 hq with hq | hq
    · exact old q (.inl hq)
    · rcases List.mem_cons.1 hq with rfl | hq
      · refine ⟨hn, by rw [hb]; exact hB1, fun g hg => ?_⟩
        by_cases hlt : g < W.heap.size
        · exact hSB g (hr g hg hlt)
        · have := h.hB; omega
      · exact old q (.inr hq)
  · cases ho : e.own with
    | true => exact h3
    | false => exact h4
end
end Go.Proofs.YtnhhkoekghjogaaGreatDoor.Kc
