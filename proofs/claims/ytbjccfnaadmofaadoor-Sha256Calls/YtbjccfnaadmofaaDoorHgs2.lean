/- Several states and ledgers at once: the calls. -/
import Derived.Test.YtbjccfnaadmofaaDoorHgs
namespace Go.Proofs.YtbjccfnaadmofaaDoor.Sh
open Go.ChangeShapes Go.WideShapes Go.ChangeAt Go.RowKit
open Go.Proofs.YtbjccfnaadmofaaDoor.By Go.Proofs.YtbjccfnaadmofaaDoor.Wd

theorem Ko.own {W W' : World} (h : Ko W W') {base n : Nat} {v : Value} {f : Nat → Int} (ho : By.Own W base v n f) : By.Own W' base v n f := by
  obtain ⟨hf, hl, h' | ⟨g, cap, cur, rfl, hb, hc, h1, h2, h3, h4⟩⟩ := ho
  · exact ⟨hf, hl, .inl h'⟩
  · refine ⟨hf, hl, .inr ⟨g, cap, cur, rfl, hb, ?_, h1, h2, h3, h4⟩⟩
    have := h g cur.toList 5 (by show W.heap[g]? = _; rw [hc]) (by decide) (by decide) (by decide) (by decide)
    exact this
theorem Ko.trans {W W' W2 : World} (h : Ko W W') (h' : Ko W' W2) : Ko W W2 := fun g cs t hg h1 h2 h3 h4 => h' g cs t (h g cs t hg h1 h2 h3 h4) h1 h2 h3 h4
theorem Ko.row {W W' : World} (h : Ko W W') {base n : Nat} {v : Value} {xs : List Value} (ho : W.ownsRow base 40 1 v n xs) : W'.ownsRow base 40 1 v n xs := by
  obtain ⟨hl, h' | ⟨g, cap, cur, rfl, hb, hc, h1, h2, h3, h4⟩⟩ := ho
  · exact ⟨hl, .inl h'⟩
  · refine ⟨hl, .inr ⟨g, cap, cur, rfl, hb, ?_, h1, h2, h3, h4⟩⟩
    have := h g cur.toList 40 (by show W.heap[g]? = _; rw [hc]) (by decide) (by decide) (by decide) (by decide)
    exact this
section
variable {w0 W W' : World} {B : Nat} {sts sts1 sts2 : List (Nat × SK)} {leds leds1 leds2 : List LE} {b lb : Nat} {k : SK} {e : LE} {rv : Value} {L : List Rn} {m : Nat} {f : Nat → Int}
theorem GS.koS (h : GS w0 B (sts1 ++ (b, k) :: sts2) leds W) (hk : Kp (fun j => j = b) W W') : Ko W W' ∧ Below B w0 W' := by
  obtain ⟨hb, hB, _⟩ := h.mid
  obtain ⟨cb, hcb⟩ := hb.blk
  exact ⟨fun g cs t hg h1 _ _ _ => hg.kept hk (fun e => Blk.ne hg hcb h1 e), h.bel.trans (hk.below h.hB (fun k hk e => by have : k = b := e; omega))⟩
theorem GS.koL (h : GS w0 B sts (leds1 ++ e :: leds2) W) (hk : Kp (SE e) W W') : Ko W W' ∧ Below B w0 W' := by
  obtain ⟨he, hB1, hB2, _⟩ := h.midL
  obtain ⟨ce, hce⟩ := he.blk
  refine ⟨fun g cs t hg h1 h2 h3 h4 => hg.kept hk (fun hs => ?_), h.bel.trans (hk.below h.hB (fun j hj hs => ?_))⟩
  · rcases hs with e1 | e1
    · rw [e1] at hg
      refine Blk.ne hg hce ?_ rfl
      cases ho : e.own with
      | true => exact h3
      | false => exact h4
    · obtain ⟨c, hc⟩ := he.run e1; exact Blk.ne hg hc h2 rfl
  · rcases hs with e1 | e1
    · omega
    · have := hB2 j e1; omega
theorem GS.koB (h : GS w0 B (sts1 ++ (b, k) :: sts2) (leds1 ++ e :: leds2) W) (hk : Kp (fun j => j = b ∨ SE e j) W W') : Ko W W' ∧ Below B w0 W' := by
  obtain ⟨hb, hB, _⟩ := h.mid
  obtain ⟨cb, hcb⟩ := hb.blk
  obtain ⟨he, hB1, hB2, _⟩ := h.midL
  obtain ⟨ce, hce⟩ := he.blk
  refine ⟨fun g cs t hg h1 h2 h3 h4 => hg.kept hk (fun hs => ?_), h.bel.trans (hk.below h.hB (fun j hj hs => ?_))⟩
  · rcases hs with e1 | e1 | e1
    · exact Blk.ne hg hcb h1 e1
    · rw [e1] at hg
      refine Blk.ne hg hce ?_ rfl
      cases ho : e.own with
      | true => exact h3
      | false => exact h4
    · obtain ⟨c, hc⟩ := he.run e1; exact Blk.ne hg hc h2 rfl
  · rcases hs with e1 | e1 | e1
    · omega
    · omega
    · have := hB2 j e1; omega
theorem GS.no0 (h : GS w0 B sts (leds1 ++ e :: leds2) W) : ¬ SE e 0 := by
  obtain ⟨_, hB1, hB2, _⟩ := h.midL
  have := h.h0
  rintro (e1 | e1)
  · omega
  · have := hB2 0 e1; omega
/-- Write, with a ledger. -/
theorem GS.write (h : GS w0 B (sts1 ++ (b, some (m, f)) :: sts2) (leds1 ++ ⟨true, lb, rv, L⟩ :: leds2) W) (n : Nat) (v : Value) (g : Nat → Int) (hr : ∀ w', Kp (fun j => j = b ∨ SE ⟨true, lb, rv, L⟩ j) W w' → By.RB w' v n g) (hmn : m + n ≤ 1000000) (hroom : tot L ≤ 100000) :
    Calls Tryd.prog 22 #[.pointer (some ⟨b, 0, none⟩), .pointer (some ⟨lb, 0, none⟩), v] W fun e w' => e = .returned (.int .i64 0) ∧ ∃ rv', GS w0 B (sts1 ++ (b, some (m + n, cat m f g)) :: sts2) (leds1 ++ ⟨true, lb, rv', evs256 L ((m + n) / 64 - m / 64)⟩ :: leds2) w' ∧ Ko W w' := by
  obtain ⟨hb, hB, _⟩ := h.mid
  obtain ⟨he, hB1, hB2, _⟩ := h.midL
  have hl : Led W lb rv L := he
  refine (write26 b m n v f g (some lb) L (fun j => j = b ∨ SE ⟨true, lb, rv, L⟩ j) W hb h.kt (by have := h.h0; rintro (e | e); omega; exact h.no0 e) (.inl rfl) ⟨.inr (.inl rfl), rv, hl, fun g hg _ => .inr (.inr hg)⟩ hl.pos hr hmn hroom).mono ?_
  rintro e w' ⟨rfl, hs, hlg, hk⟩
  obtain ⟨_, rv', hl', ho'⟩ := hlg
  exact ⟨rfl, rv', h.turnB (e' := ⟨true, lb, rv', evs256 L ((m + n) / 64 - m / 64)⟩) (fun _ hj => hj) hk hs hl' rfl (fun g hg hlt => ho' g hg hlt)⟩
/-- Write, without a ledger. -/
theorem GS.write0 (h : GS w0 B (sts1 ++ (b, some (m, f)) :: sts2) leds W) (n : Nat) (v : Value) (g : Nat → Int) (hr : ∀ w', Kp (fun j => j = b) W w' → By.RB w' v n g) (hmn : m + n ≤ 1000000) :
    Calls Tryd.prog 22 #[.pointer (some ⟨b, 0, none⟩), .pointer none, v] W fun e w' => e = .returned (.int .i64 0) ∧ GS w0 B (sts1 ++ (b, some (m + n, cat m f g)) :: sts2) leds w' ∧ Ko W w' := by
  obtain ⟨hb, hB, _⟩ := h.mid
  refine (write26 b m n v f g none [] (fun j => j = b) W hb h.kt (by have := h.h0; omega) rfl (lg_nil _ _) pos_nil' hr hmn (by decide)).mono ?_
  rintro e w' ⟨rfl, hs, -, hk⟩
  exact ⟨rfl, h.turnS hk hs⟩
/-- Sum, with a ledger. -/
theorem GS.sum (h : GS w0 B (sts1 ++ (b, some (m, f)) :: sts2) (leds1 ++ ⟨true, lb, rv, L⟩ :: leds2) W) (hm : m ≤ 900000) (hroom : tot L ≤ 100000) :
    Calls Tryd.prog 26 #[.pointer (some ⟨b, 0, none⟩), .pointer (some ⟨lb, 0, none⟩)] W fun e w' => ∃ v rv', e = .returned (.tuple #[v, .int .i64 0]) ∧ By.Own w' W.heap.size v 32 (dig m f) ∧ GS w0 B (sts1 ++ (b, some (m, f)) :: sts2) (leds1 ++ ⟨true, lb, rv', evs256 L (last m)⟩ :: leds2) w' ∧ Ko W w' := by
  obtain ⟨hb, hB, _⟩ := h.mid
  obtain ⟨he, hB1, hB2, _⟩ := h.midL
  have hl : Led W lb rv L := he
  refine (sum32 b m f (some lb) L (SE ⟨true, lb, rv, L⟩) W hb h.kt h.no0 ⟨.inl rfl, rv, hl, fun g hg _ => .inr hg⟩ hl.pos hm hroom).mono ?_
  rintro e w' ⟨v, rfl, hv, hlg, hk⟩
  obtain ⟨_, rv', hl', ho'⟩ := hlg
  exact ⟨v, rv', rfl, hv, h.turnL (e' := ⟨true, lb, rv', evs256 L (last m)⟩) (fun _ hj => hj) hk hl' rfl (fun g hg hlt => ho' g hg hlt)⟩
/-- Sum, without a ledger. -/
theorem GS.sum0 (h : GS w0 B (sts1 ++ (b, some (m, f)) :: sts2) leds W) (hm : m ≤ 900000) :
    Calls Tryd.prog 26 #[.pointer (some ⟨b, 0, none⟩), .pointer none] W fun e w' => ∃ v, e = .returned (.tuple #[v, .int .i64 0]) ∧ By.Own w' W.heap.size v 32 (dig m f) ∧ Below W.heap.size W w' := by
  refine (sum32 b m f none [] (fun _ => False) W h.mid.1 h.kt (fun e => e) (lg_nil _ _) pos_nil' hm (by decide)).mono ?_
  rintro e w' ⟨v, rfl, hv, -, hk⟩
  exact ⟨v, rfl, hv, below_kp hk⟩
/-- Wipe, with a ledger. -/
theorem GS.wipe (h : GS w0 B (sts1 ++ (b, some (m, f)) :: sts2) (leds1 ++ ⟨true, lb, rv, L⟩ :: leds2) W) (hroom : tot L ≤ 100000) :
    Calls Tryd.prog 33 #[.pointer (some ⟨b, 0, none⟩), .pointer (some ⟨lb, 0, none⟩)] W fun e w' => e = .returned (.int .i64 0) ∧ ∃ rv', GS w0 B (sts1 ++ (b, none) :: sts2) (leds1 ++ ⟨true, lb, rv', putL L ⟨8, 104, 1⟩⟩ :: leds2) w' ∧ Ko W w' := by
  obtain ⟨hb, hB, _⟩ := h.mid
  obtain ⟨he, hB1, hB2, _⟩ := h.midL
  have hl : Led W lb rv L := he
  refine (wipe29 b m f (some lb) L (fun j => j = b ∨ SE ⟨true, lb, rv, L⟩ j) W hb (.inl rfl) ⟨.inr (.inl rfl), rv, hl, fun g hg _ => .inr (.inr hg)⟩ hroom).mono ?_
  rintro e w' ⟨rfl, hs, hlg, hk⟩
  obtain ⟨_, rv', hl', ho'⟩ := hlg
  exact ⟨rfl, rv', h.turnB (k' := none) (e' := ⟨true, lb, rv', putL L ⟨8, 104, 1⟩⟩) (fun _ hj => hj) hk hs hl' rfl (fun g hg hlt => ho' g hg hlt)⟩
/-- Reset. -/
theorem GS.reset (h : GS w0 B (sts1 ++ (b, some (m, f)) :: sts2) leds W) :
    Calls Tryd.prog 31 #[.pointer (some ⟨b, 0, none⟩)] W fun e w' => e = .returned (.int .i64 0) ∧ GS w0 B (sts1 ++ (b, some (0, fun _ => 0)) :: sts2) leds w' ∧ Ko W w' := by
  refine (reset33 b m f W h.mid.1).mono ?_
  rintro e w' ⟨rfl, hs, hk⟩
  exact ⟨rfl, h.turnS hk hs⟩
/-- A state more. -/
theorem GS.add (h : GS w0 B sts leds W) (hk : IsSt W b k) (hb : B ≤ b) (hn : ∀ p ∈ sts, p.1 ≠ b) : GS w0 B (sts ++ [(b, k)]) leds W := by
  refine ⟨fun p hp => ?_, List.pairwise_append.2 ⟨h.stn, List.pairwise_singleton _ _, fun a ha c hc => by rw [List.mem_singleton.1 hc]; exact hn a ha⟩, h.led, h.ledn, h.bel, h.kt, h.h0, h.hB⟩
  rcases List.mem_append.1 hp with hp | hp
  · exact h.st p hp
  · rw [List.mem_singleton.1 hp]; exact ⟨hk, hb⟩
theorem GS.addNew (h : GS w0 B sts leds W) (hb : Below W.heap.size W W') (hk : IsSt W' W.heap.size k) : GS w0 B (sts ++ [(W.heap.size, k)]) leds W' := by
  refine (h.below hb).add hk h.hB (fun p hp e => ?_)
  obtain ⟨c, hc⟩ := (h.st p hp).1.blk
  have := hc.lt
  omega
theorem GS.addLed (h : GS w0 B sts leds W) (hb : Below W.heap.size W W') {o : Bool} (hl : IsLed W' ⟨o, W.heap.size, .slice none 0 0, []⟩) : GS w0 B sts (leds ++ [⟨o, W.heap.size, .slice none 0 0, []⟩]) W' := by
  have h' := h.below hb
  refine ⟨h'.st, h'.stn, fun q hq => ?_, List.pairwise_append.2 ⟨h'.ledn, List.pairwise_singleton _ _, fun a ha c hc => ?_⟩, h'.bel, h'.kt, h'.h0, h'.hB⟩
  · rcases List.mem_append.1 hq with hq | hq
    · exact h'.led q hq
    · rw [List.mem_singleton.1 hq]
      exact ⟨hl, h.hB, fun g hg => by simp [Value.ownBlock] at hg⟩
  · rw [List.mem_singleton.1 hc]
    refine ⟨fun e1 => ?_, fun g hg e1 => by simp [Value.ownBlock] at e1⟩
    obtain ⟨c, hc⟩ := (h.led a ha).1.blk
    have := hc.lt
    have e2 : a.blk = W.heap.size := e1
    omega
theorem GS.start (w : World) (hk : KT w) : GS w w.heap.size [] [] w :=
  ⟨fun p hp => by simp at hp, List.Pairwise.nil, fun p hp => by simp at hp, List.Pairwise.nil, Below.refl _ _, hk, hk.lt, Nat.le_refl _⟩
end
end Go.Proofs.YtbjccfnaadmofaaDoor.Sh
