/- Several sponges and ledgers at once: the calls. -/
import Derived.Test.YtnhhkoekghjogaaGreatDoorSgs
namespace Go.Proofs.YtnhhkoekghjogaaGreatDoor.Kc
open Go.ChangeShapes Go.WideShapes Go.ChangeAt Go.RowKit
open Go.Proofs.YtnhhkoekghjogaaGreatDoor.By Go.Proofs.YtnhhkoekghjogaaGreatDoor.Wd

theorem Ko.own {W W' : World} (h : Ko W W') {base n : Nat} {v : Value} {f : Nat → Int} (ho : By.Own W base v n f) : By.Own W' base v n f := by
  obtain ⟨hf, hl, h' | ⟨g, cap, cur, rfl, hb, hc, h1, h2, h3, h4⟩⟩ := ho
  · exact ⟨hf, hl, .inl h'⟩
  · refine ⟨hf, hl, .inr ⟨g, cap, cur, rfl, hb, ?_, h1, h2, h3, h4⟩⟩
    have := h g cur.toList 5 (by show W.heap[g]? = _; rw [hc]) (by decide) (by decide) (by decide) (by decide)
    exact this
theorem Ko.trans {W W' W2 : World} (h : Ko W W') (h' : Ko W' W2) : Ko W W2 := fun g cs t hg h1 h2 h3 h4 => h' g cs t (h g cs t hg h1 h2 h3 h4) h1 h2 h3 h4
theorem Ko.row {W W' : World} (h : Ko W W') {base n : Nat} {v : Value} {xs : List Value} (ho : W.ownsRow base 22 1 v n xs) : W'.ownsRow base 22 1 v n xs := by
  obtain ⟨hl, h' | ⟨g, cap, cur, rfl, hb, hc, h1, h2, h3, h4⟩⟩ := ho
  · exact ⟨hl, .inl h'⟩
  · refine ⟨hl, .inr ⟨g, cap, cur, rfl, hb, ?_, h1, h2, h3, h4⟩⟩
    have := h g cur.toList 22 (by show W.heap[g]? = _; rw [hc]) (by decide) (by decide) (by decide) (by decide)
    exact this
section
variable {w0 W W' : World} {B : Nat} {sts sts1 sts2 : List (Nat × SK)} {leds leds1 leds2 : List LE} {b lb : Nat} {k : SK} {e : LE} {rv : Value} {L : List Rn} {r : Nat} {sf : Int} {z : Z}
theorem GS.koS (h : GS w0 B (sts1 ++ (b, k) :: sts2) leds W) (hk : Kp (fun j => j = b) W W') : Ko W W' ∧ Below B w0 W' := by
  obtain ⟨hb, hB, _⟩ := h.mid
  obtain ⟨cb, hcb⟩ := hb.blk
  exact ⟨fun g cs t hg h1 _ _ _ => hg.kept hk (fun e => Blk.ne hg hcb h1 e), h.bel.trans (hk.below h.hB (fun k hk e => by have : k = b := e; omega))⟩
theorem GS.koL (h : GS w0 B sts (leds1 ++ e :: leds2) W) (hk : Kp (SE e) W W') : Ko W W' ∧ Below B w0 W' := by
  obtain ⟨he, hB1, hB2, _⟩ := h.midL
  obtain ⟨ce, hce⟩ := he.blk
  refine ⟨fun g cs t hg h1 h2 h3 h4 => hg.kept hk (fun hs => ?_), h.bel.trans (hk.below h.hB (fun j hj hs => ?_))⟩
  · rcases hs with e1 | e1
    · rw [e1] at hg
      refine Blk.ne hg hce ?_ rfl
      cases ho : e.own with
      | true => exact h3
      | false => exact h4
    · obtain ⟨c, hc⟩ := he.run e1; exact Blk.ne hg hc h2 rfl
  · rcases hs with e1 | e1
    · omega
    · have := hB2 j e1; omega
theorem GS.koB (h : GS w0 B (sts1 ++ (b, k) :: sts2) (leds1 ++ e :: leds2) W) (hk : Kp (fun j => j = b ∨ SE e j) W W') : Ko W W' ∧ Below B w0 W' := by
  obtain ⟨hb, hB, _⟩ := h.mid
  obtain ⟨cb, hcb⟩ := hb.blk
  obtain ⟨he, hB1, hB2, _⟩ := h.midL
  obtain ⟨ce, hce⟩ := he.blk
  refine ⟨fun g cs t hg h1 h2 h3 h4 => hg.kept hk (fun hs => ?_), h.bel.trans (hk.below h.hB (fun j hj hs => ?_))⟩
  · rcases hs with e1 | e1 | e1
    · exact Blk.ne hg hcb h1 e1
    · rw [e1] at hg
      refine Blk.ne hg hce ?_ rfl
      cases ho : e.own with
      | true => exact h3
      | false => exact h4
    · obtain ⟨c, hc⟩ := he.run e1; exact Blk.ne hg hc h2 rfl
  · rcases hs with e1 | e1 | e1
    · omega
    · omega
    · have := hB2 j e1; omega
theorem GS.no0 (h : GS w0 B sts (leds1 ++ e :: leds2) W) : ¬ SE e 0 := by
  obtain ⟨_, hB1, hB2, _⟩ := h.midL
  have := h.h0
  rintro (e1 | e1)
  · omega
  · have := hB2 0 e1; omega
theorem GS.no1 (h : GS w0 B sts (leds1 ++ e :: leds2) W) : ¬ SE e 1 := by
  obtain ⟨_, hB1, hB2, _⟩ := h.midL
  have := h.h0
  rintro (e1 | e1)
  · omega
  · have := hB2 1 e1; omega
theorem big_nil : Big [] := ⟨by decide, by decide⟩
theorem pos_nil : Pos [] := fun q hq => by simp at hq
/-- write, with a ledger. -/
theorem GS.write (h : GS w0 B (sts1 ++ (b, some (r, sf, z, false)) :: sts2) (leds1 ++ ⟨true, lb, rv, L⟩ :: leds2) W) (n : Nat) (v : Value) (g : Nat → Int) (hr : ∀ w', Kp (fun j => j = b ∨ SE ⟨true, lb, rv, L⟩ j) W w' → By.RB w' v n g) (hmn : n ≤ 9000000) (hroom : Big L) :
    Calls Tryz.prog 48 #[.pointer (some ⟨b, 0, none⟩), .pointer (some ⟨lb, 0, none⟩), v] W fun e w' => e = .returned (.int .i64 0) ∧ ∃ rv', GS w0 B (sts1 ++ (b, some (r, sf, Z.ins r z g n, false)) :: sts2) (leds1 ++ ⟨true, lb, rv', evk L ((Z.ins r z g n).c - z.c)⟩ :: leds2) w' ∧ Ko W w' := by
  obtain ⟨hb, hB, _⟩ := h.mid
  obtain ⟨he, hB1, hB2, _⟩ := h.midL
  have hl : Led W lb rv L := he
  have n0 : ¬ (0 = b ∨ SE ⟨true, lb, rv, L⟩ 0) := by have := h.h0; rintro (e | e); omega; exact h.no0 e
  have n1 : ¬ (1 = b ∨ SE ⟨true, lb, rv, L⟩ 1) := by have := h.h0; rintro (e | e); omega; exact h.no1 e
  refine (write_sp b r n sf v z g (some lb) L (fun j => j = b ∨ SE ⟨true, lb, rv, L⟩ j) W hb h.kt n0 n1 (.inl rfl) ⟨.inr (.inl rfl), rv, hl, fun g hg _ => .inr (.inr hg)⟩ hl.pos hr hmn hroom).mono ?_
  rintro e w' ⟨rfl, hs, hlg, hk⟩
  obtain ⟨_, rv', hl', ho'⟩ := hlg
  exact ⟨rfl, ⟨rv', h.turnB (k' := some (r, sf, Z.ins r z g n, false)) (e' := ⟨true, lb, rv', evk L ((Z.ins r z g n).c - z.c)⟩) (fun _ hj => hj) hk hs hl' rfl (fun g hg hlt => ho' g hg hlt)⟩⟩
/-- write, without a ledger. -/
theorem GS.write0 (h : GS w0 B (sts1 ++ (b, some (r, sf, z, false)) :: sts2) leds W) (n : Nat) (v : Value) (g : Nat → Int) (hr : ∀ w', Kp (fun j => j = b) W w' → By.RB w' v n g) (hmn : n ≤ 9000000) :
    Calls Tryz.prog 48 #[.pointer (some ⟨b, 0, none⟩), .pointer none, v] W fun e w' => e = .returned (.int .i64 0) ∧ GS w0 B (sts1 ++ (b, some (r, sf, Z.ins r z g n, false)) :: sts2) leds w' ∧ Ko W w' := by
  obtain ⟨hb, hB, _⟩ := h.mid
  have n0 : ¬ (0 = b) := by have := h.h0; omega
  have n1 : ¬ (1 = b) := by have := h.h0; omega
  refine (write_sp b r n sf v z g none [] (fun j => j = b) W hb h.kt n0 n1 rfl trivial pos_nil hr hmn big_nil).mono ?_
  rintro e w' ⟨rfl, hs, -, hk⟩
  exact ⟨rfl, h.turnS (k' := some (r, sf, Z.ins r z g n, false)) hk hs⟩
/-- wipe, with a ledger. -/
theorem GS.wipe {sh : Bool} (h : GS w0 B (sts1 ++ (b, some (r, sf, z, sh)) :: sts2) (leds1 ++ ⟨true, lb, rv, L⟩ :: leds2) W) (hroom : Big L) :
    Calls Tryz.prog 62 #[.pointer (some ⟨b, 0, none⟩), .pointer (some ⟨lb, 0, none⟩)] W fun e w' => e = .returned (.int .i64 0) ∧ ∃ rv', GS w0 B (sts1 ++ (b, none) :: sts2) (leds1 ++ ⟨true, lb, rv', putL L ⟨8, 203, 1⟩⟩ :: leds2) w' ∧ Ko W w' := by
  obtain ⟨hb, hB, _⟩ := h.mid
  obtain ⟨he, hB1, hB2, _⟩ := h.midL
  have hl : Led W lb rv L := he
  have n0 : ¬ (0 = b ∨ SE ⟨true, lb, rv, L⟩ 0) := by have := h.h0; rintro (e | e); omega; exact h.no0 e
  have n1 : ¬ (1 = b ∨ SE ⟨true, lb, rv, L⟩ 1) := by have := h.h0; rintro (e | e); omega; exact h.no1 e
  refine (wipe_sp b r sf z sh (some lb) L (fun j => j = b ∨ SE ⟨true, lb, rv, L⟩ j) W hb (.inl rfl) ⟨.inr (.inl rfl), rv, hl, fun g hg _ => .inr (.inr hg)⟩ hroom).mono ?_
  rintro e w' ⟨rfl, hs, hlg, hk⟩
  obtain ⟨_, rv', hl', ho'⟩ := hlg
  exact ⟨rfl, ⟨rv', h.turnB (k' := none) (e' := ⟨true, lb, rv', putL L ⟨8, 203, 1⟩⟩) (fun _ hj => hj) hk hs hl' rfl (fun g hg hlt => ho' g hg hlt)⟩⟩
/-- wipe, without a ledger. -/
theorem GS.wipe0 {sh : Bool} (h : GS w0 B (sts1 ++ (b, some (r, sf, z, sh)) :: sts2) leds W) :
    Calls Tryz.prog 62 #[.pointer (some ⟨b, 0, none⟩), .pointer none] W fun e w' => e = .returned (.int .i64 0) ∧ GS w0 B (sts1 ++ (b, none) :: sts2) leds w' ∧ Ko W w' := by
  obtain ⟨hb, hB, _⟩ := h.mid
  have n0 : ¬ (0 = b) := by have := h.h0; omega
  have n1 : ¬ (1 = b) := by have := h.h0; omega
  refine (wipe_sp b r sf z sh none [] (fun j => j = b) W hb rfl trivial big_nil).mono ?_
  rintro e w' ⟨rfl, hs, -, hk⟩
  exact ⟨rfl, h.turnS (k' := none) hk hs⟩
/-- readS, with a ledger. -/
theorem GS.readS (h : GS w0 B (sts1 ++ (b, some (r, sf, z, true)) :: sts2) (leds1 ++ ⟨true, lb, rv, L⟩ :: leds2) W) (n : Nat) (hmn : n ≤ 65536) (hroom : Big L) :
    Calls Tryz.prog 58 #[.pointer (some ⟨b, 0, none⟩), .pointer (some ⟨lb, 0, none⟩), .int .i64 n] W fun e w' => ∃ g, e = .returned (.tuple #[.slice (some ⟨g, 0, none⟩) n n, .int .i64 0]) ∧ W.heap.size ≤ g ∧ Blk w' g (bl n (Z.say r z)) 5 ∧ ∃ rv', GS w0 B (sts1 ++ (b, some (r, sf, Z.out r z n, true)) :: sts2) (leds1 ++ ⟨true, lb, rv', evk L ((Z.out r z n).c - z.c)⟩ :: leds2) w' ∧ Ko W w' := by
  obtain ⟨hb, hB, _⟩ := h.mid
  obtain ⟨he, hB1, hB2, _⟩ := h.midL
  have hl : Led W lb rv L := he
  have n0 : ¬ (0 = b ∨ SE ⟨true, lb, rv, L⟩ 0) := by have := h.h0; rintro (e | e); omega; exact h.no0 e
  have n1 : ¬ (1 = b ∨ SE ⟨true, lb, rv, L⟩ 1) := by have := h.h0; rintro (e | e); omega; exact h.no1 e
  refine (read_shut b r n sf z (some lb) L (fun j => j = b ∨ SE ⟨true, lb, rv, L⟩ j) W hb h.kt n0 n1 (.inl rfl) ⟨.inr (.inl rfl), rv, hl, fun g hg _ => .inr (.inr hg)⟩ hl.pos hmn hroom).mono ?_
  rintro e w' ⟨g, rfl, hg, hs, ho, hlg, hk⟩
  obtain ⟨_, rv', hl', ho'⟩ := hlg
  exact ⟨g, rfl, hg, ho, ⟨rv', h.turnB (k' := some (r, sf, Z.out r z n, true)) (e' := ⟨true, lb, rv', evk L ((Z.out r z n).c - z.c)⟩) (fun _ hj => hj) hk hs hl' rfl (fun g hg hlt => ho' g hg hlt)⟩⟩
/-- readS, without a ledger. -/
theorem GS.readS0 (h : GS w0 B (sts1 ++ (b, some (r, sf, z, true)) :: sts2) leds W) (n : Nat) (hmn : n ≤ 65536) :
    Calls Tryz.prog 58 #[.pointer (some ⟨b, 0, none⟩), .pointer none, .int .i64 n] W fun e w' => ∃ g, e = .returned (.tuple #[.slice (some ⟨g, 0, none⟩) n n, .int .i64 0]) ∧ W.heap.size ≤ g ∧ Blk w' g (bl n (Z.say r z)) 5 ∧ GS w0 B (sts1 ++ (b, some (r, sf, Z.out r z n, true)) :: sts2) leds w' ∧ Ko W w' := by
  obtain ⟨hb, hB, _⟩ := h.mid
  have n0 : ¬ (0 = b) := by have := h.h0; omega
  have n1 : ¬ (1 = b) := by have := h.h0; omega
  refine (read_shut b r n sf z none [] (fun j => j = b) W hb h.kt n0 n1 rfl trivial pos_nil hmn big_nil).mono ?_
  rintro e w' ⟨g, rfl, hg, hs, ho, -, hk⟩
  exact ⟨g, rfl, hg, ho, h.turnS (k' := some (r, sf, Z.out r z n, true)) hk hs⟩
/-- readO, with a ledger. -/
theorem GS.readO (h : GS w0 B (sts1 ++ (b, some (r, sf, z, false)) :: sts2) (leds1 ++ ⟨true, lb, rv, L⟩ :: leds2) W) (n : Nat) (hmn : n ≤ 65536) (hroom : Big L) :
    Calls Tryz.prog 58 #[.pointer (some ⟨b, 0, none⟩), .pointer (some ⟨lb, 0, none⟩), .int .i64 n] W fun e w' => ∃ g, e = .returned (.tuple #[.slice (some ⟨g, 0, none⟩) n n, .int .i64 0]) ∧ W.heap.size ≤ g ∧ Blk w' g (bl n (Z.say r (Z.fin r sf z))) 5 ∧ ∃ rv', GS w0 B (sts1 ++ (b, some (r, sf, Z.out r (Z.fin r sf z) n, true)) :: sts2) (leds1 ++ ⟨true, lb, rv', evk (evk L 1) ((Z.out r (Z.fin r sf z) n).c - (Z.fin r sf z).c)⟩ :: leds2) w' ∧ Ko W w' := by
  obtain ⟨hb, hB, _⟩ := h.mid
  obtain ⟨he, hB1, hB2, _⟩ := h.midL
  have hl : Led W lb rv L := he
  have n0 : ¬ (0 = b ∨ SE ⟨true, lb, rv, L⟩ 0) := by have := h.h0; rintro (e | e); omega; exact h.no0 e
  have n1 : ¬ (1 = b ∨ SE ⟨true, lb, rv, L⟩ 1) := by have := h.h0; rintro (e | e); omega; exact h.no1 e
  refine (read_open b r n sf z _ (some lb) L (fun j => j = b ∨ SE ⟨true, lb, rv, L⟩ j) W hb h.kt n0 n1 (.inl rfl) ⟨.inr (.inl rfl), rv, hl, fun g hg _ => .inr (.inr hg)⟩ hl.pos hmn hroom _ rfl rfl).mono ?_
  rintro e w' ⟨g, rfl, hg, hs, ho, hlg, hk⟩
  obtain ⟨_, rv', hl', ho'⟩ := hlg
  exact ⟨g, rfl, hg, ho, ⟨rv', h.turnB (k' := some (r, sf, Z.out r (Z.fin r sf z) n, true)) (e' := ⟨true, lb, rv', evk (evk L 1) ((Z.out r (Z.fin r sf z) n).c - (Z.fin r sf z).c)⟩) (fun _ hj => hj) hk hs hl' rfl (fun g hg hlt => ho' g hg hlt)⟩⟩
/-- readO, without a ledger. -/
theorem GS.readO0 (h : GS w0 B (sts1 ++ (b, some (r, sf, z, false)) :: sts2) leds W) (n : Nat) (hmn : n ≤ 65536) :
    Calls Tryz.prog 58 #[.pointer (some ⟨b, 0, none⟩), .pointer none, .int .i64 n] W fun e w' => ∃ g, e = .returned (.tuple #[.slice (some ⟨g, 0, none⟩) n n, .int .i64 0]) ∧ W.heap.size ≤ g ∧ Blk w' g (bl n (Z.say r (Z.fin r sf z))) 5 ∧ GS w0 B (sts1 ++ (b, some (r, sf, Z.out r (Z.fin r sf z) n, true)) :: sts2) leds w' ∧ Ko W w' := by
  obtain ⟨hb, hB, _⟩ := h.mid
  have n0 : ¬ (0 = b) := by have := h.h0; omega
  have n1 : ¬ (1 = b) := by have := h.h0; omega
  refine (read_open b r n sf z _ none [] (fun j => j = b) W hb h.kt n0 n1 rfl trivial pos_nil hmn big_nil _ rfl rfl).mono ?_
  rintro e w' ⟨g, rfl, hg, hs, ho, -, hk⟩
  exact ⟨g, rfl, hg, ho, h.turnS (k' := some (r, sf, Z.out r (Z.fin r sf z) n, true)) hk hs⟩
/-- A state more. -/
theorem GS.add (h : GS w0 B sts leds W) (hk : IsSt W b k) (hb : B ≤ b) (hn : ∀ p ∈ sts, p.1 ≠ b) : GS w0 B (sts ++ [(b, k)]) leds W := by
  refine ⟨fun p hp => ?_, List.pairwise_append.2 ⟨h.stn, List.pairwise_singleton _ _, fun a ha c hc => by rw [List.mem_singleton.1 hc]; exact hn a ha⟩, h.led, h.ledn, h.bel, h.kt, h.h0, h.hB⟩
  rcases List.mem_append.1 hp with hp | hp
  · exact h.st p hp
  · rw [List.mem_singleton.1 hp]; exact ⟨hk, hb⟩
theorem GS.addNew (h : GS w0 B sts leds W) (hb : Below W.heap.size W W') (hk : IsSt W' W.heap.size k) : GS w0 B (sts ++ [(W.heap.size, k)]) leds W' := by
  refine (h.below hb).add hk h.hB (fun p hp e => ?_)
  obtain ⟨c, hc⟩ := (h.st p hp).1.blk
  have := hc.lt
  omega
theorem GS.addLed (h : GS w0 B sts leds W) (hb : Below W.heap.size W W') {o : Bool} (hl : IsLed W' ⟨o, W.heap.size, .slice none 0 0, []⟩) : GS w0 B sts (leds ++ [⟨o, W.heap.size, .slice none 0 0, []⟩]) W' := by
  have h' := h.below hb
  refine ⟨h'.st, h'.stn, fun q hq => ?_, List.pairwise_append.2 ⟨h'.ledn, List.pairwise_singleton _ _, fun a ha c hc => ?_⟩, h'.bel, h'.kt, h'.h0, h'.hB⟩
  · rcases List.mem_append.1 hq with hq | hq
    · exact h'.led q hq
    · rw [List.mem_singleton.1 hq]
      exact ⟨hl, h.hB, fun g hg => by simp [Value.ownBlock] at hg⟩
  · rw [List.mem_singleton.1 hc]
    refine ⟨fun e1 => ?_, fun g hg e1 => by simp [Value.ownBlock] at e1⟩
    obtain ⟨c, hc⟩ := (h.led a ha).1.blk
    have := hc.lt
    have e2 : a.blk = W.heap.size := e1
    omega
theorem GS.start (w : World) (hk : KT w) : GS w w.heap.size [] [] w :=
  ⟨fun p hp => by simp at hp, List.Pairwise.nil, fun p hp => by simp at hp, List.Pairwise.nil, Below.refl _ _, hk, hk.lt, Nat.le_refl _⟩
end
end Go.Proofs.YtnhhkoekghjogaaGreatDoor.Kc
