/- The law Sha512Plays: its record at the start. -/
import Derived.Test.YtdhbkekpjojlnaaDoorJpl9
import Derived.Test.YtdhbkekpjojlnaaDoorJapart
namespace Go.Proofs.YtdhbkekpjojlnaaDoor.Sg
open Go.ChangeShapes Go.WideShapes Go.ChangeAt Go.RowKit
open Go.Proofs.YtdhbkekpjojlnaaDoor.By Go.Proofs.YtdhbkekpjojlnaaDoor.Wd
/-- The program's three states are laid: nil, one that nobody made, a new one. -/
theorem init1 {w X W5 : World} {B xb lb mb b0 b1 : Nat} {sv : Value} (G : GS w B [] [⟨true, lb, .slice none 0 0, []⟩, ⟨false, mb, .slice none 0 0, []⟩] X)
    (hx : Blk X xb [.pointer (some ⟨lb, 0, none⟩), .pointer (some ⟨mb, 0, none⟩), .slice none 0 0, .slice none 0 0, .slice none 0 0, .slice none 0 0] 32) (hB : B ≤ xb) (hb : Below X.heap.size X W5)
    (s0 : IsSt W5 b0 none) (s1 : IsSt W5 b1 (some (0, fun _ => 0))) (ne : b0 ≠ b1) (h0 : B ≤ b0) (h1 : B ≤ b1) (hr : W5.ownsRow B 33 1 sv 3 [.pointer none, .pointer (some ⟨b0, 0, none⟩), .pointer (some ⟨b1, 0, none⟩)]) :
    PL w B xb lb mb [none, some (b0, none), some (b1, some (0, fun _ => 0))] [] [] [] [] sv (.slice none 0 0) (.slice none 0 0) (.slice none 0 0) (.slice none 0 0) (.slice none 0 0) (W5.setCell ⟨xb, 2, none⟩ sv) := by
  have g1 := ((G.below hb).add s0 h0 (fun p hp => by simp at hp)).add s1 h1 (fun p hp => by simp at hp; rw [hp]; exact ne)
  have x5 := hx.below hb
  have k1 : Kp (fun j => j = xb) W5 (W5.setCell ⟨xb, 2, none⟩ sv) := Kp.setCell _ _ _
  refine ⟨g1.other x5 (by decide) (by decide) (by decide) (by decide) k1 hB, ⟨fun p hp => by simp at hp, List.Pairwise.nil⟩, ⟨x5.set 2 sv, rowG_kept hr k1 (rowG_blk hr x5 (by decide)), World.ownsRow_nil _ _ _ _, World.ownsRow_nil _ _ _ _, World.ownsRow_nil _ _ _ _, fun g hg => by simp [Value.ownBlock] at hg, hB⟩, ⟨fun q hq => by simp at hq, List.Pairwise.nil⟩⟩
/-- The document's three. -/
theorem init2 {w X W5 : World} {B xb lb mb c0 c1 : Nat} {sts : List EN} {sv rv : Value} (h : PL w B xb lb mb sts [] [] [] [] sv (.slice none 0 0) (.slice none 0 0) (.slice none 0 0) (.slice none 0 0) (.slice none 0 0) X) (hb : Below X.heap.size X W5)
    (s0 : IsR W5 c0 none) (s1 : IsR W5 c1 (some (0, fun _ => 0))) (ne : c0 ≠ c1) (h0 : B ≤ c0) (h1 : B ≤ c1) (hr : W5.ownsRow B 40 1 rv 3 [.pointer none, .pointer (some ⟨c0, 0, none⟩), .pointer (some ⟨c1, 0, none⟩)]) :
    PL w B xb lb mb sts [none, some (c0, none), some (c1, some (0, fun _ => 0))] [] [] [] sv rv (.slice none 0 0) (.slice none 0 0) (.slice none 0 0) (.slice none 0 0) (W5.setCell ⟨xb, 3, none⟩ rv) := by
  have h5 := h.below hb
  have x5 := h5.four.here
  have k1 : Kp (fun j => j = xb) W5 (W5.setCell ⟨xb, 3, none⟩ rv) := Kp.setCell _ _ _
  have u8 : ∀ g cs, Blk W5 g cs 5 → ¬ g = xb := fun g cs hg e => Blk.ne hg x5 (by decide) e
  refine ⟨h5.gs.other x5 (by decide) (by decide) (by decide) (by decide) k1 h5.four.hB, ⟨fun p hp => ?_, ?_⟩, ⟨x5.set 3 rv, rowG_kept h5.four.r1 k1 (rowG_blk h5.four.r1 x5 (by decide)), rowG_kept hr k1 (rowG_blk hr x5 (by decide)), World.ownsRow_nil _ _ _ _, World.ownsRow_nil _ _ _ _, fun g hg => by simp [Value.ownBlock] at hg, h5.four.hB⟩, ⟨fun q hq => by simp at hq, List.Pairwise.nil⟩⟩
  · have hp' : p = (c0, none) ∨ p = (c1, some (0, fun _ => 0)) := by simpa using hp
    rcases hp' with rfl | rfl
    · obtain ⟨c, hc⟩ := s0.blk
      exact ⟨s0.kept k1 (fun e => Blk.ne hc x5 (by decide) e) u8, h0⟩
    · obtain ⟨c, hc⟩ := s1.blk
      exact ⟨s1.kept k1 (fun e => Blk.ne hc x5 (by decide) e) u8, h1⟩
  · exact List.pairwise_cons.2 ⟨fun p hp => by have : p = (c1, some (0, fun _ => 0)) := by simpa using hp
                                               rw [this]; exact ne, List.pairwise_singleton _ _⟩
/-- Both lists, of the same kinds: the play may begin. -/
theorem init3 {w W : World} {B xb lb mb b0 b1 c0 c1 : Nat} {sv rv : Value} (h : PL w B xb lb mb [none, some (b0, none), some (b1, some (0, fun _ => 0))] [none, some (c0, none), some (c1, some (0, fun _ => 0))] [] [] [] sv rv (.slice none 0 0) (.slice none 0 0) (.slice none 0 0) (.slice none 0 0) W) : PG w B xb lb mb 0 0 0 0 W :=
  ⟨_, _, _, _, _, _, _, _, _, _, h, rfl, by simp, by simp, Nat.le_refl _, fun k hk => by
    have : k = none ∨ k = none ∨ k = some (0, fun _ => 0) := by simpa [kd] using hk
    rcases this with rfl | rfl | rfl <;> exact Nat.le_refl _, by simp [tot], Nat.le_refl _⟩
end Go.Proofs.YtdhbkekpjojlnaaDoor.Sg
