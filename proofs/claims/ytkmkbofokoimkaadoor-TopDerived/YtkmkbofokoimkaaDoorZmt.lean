/- A list of bytes gone on with: its block stays, or is a new one. -/
import Derived.Test.YtkmkbofokoimkaaDoorZma
import Derived.Deep.AppendLies
namespace Go.Proofs.YtkmkbofokoimkaaDoor.Dg
open Go.ChangeShapes Go.WideShapes Go.ChangeAt Go.RowKit
open Go.Proofs.YtkmkbofokoimkaaDoor.By
open Go.Proofs.YtkmkbofokoimkaaDoor.Sh (Blk size_alloc)
theorem wpList_catS {w : World} {ops : Array Oper} {rest : List Oper} {o : Oper} {a : Act} {Q : Exit → Act → World → Prop} (hgd : o.guard = none) (s x : Operand)
    (ho : o.op = .call { callee := .builtin .append, args := #[s, x], argTypes := #[22, 22] })
    (base n m : Nat) (v u : Value) (f g : Nat → Int) (hs : a.eval s = v) (hv : By.Own w base v n f) (hx : a.eval x = u) (hr : By.RB w u m g) (hn : n + m ≤ 140737488355328) (hb : base ≤ w.heap.size)
    (h : ∀ v' w', By.Own w' base v' (n + m) (cat n f g) → Kp (fun k => v.ownBlock = some k) w w' → SameOrNew w v v' → wpList Tryd.prog ops Q rest (a.put o.dst v') w') : wpList Tryd.prog ops Q (o :: rest) a w := by
  obtain ⟨hg, ad, cap, rfl, h1, h2, hc⟩ := hr
  obtain ⟨i0, hi, hz0, hz1, hz2⟩ := info_parts info5
  have hcat : bl n f ++ bl m g = bl (n + m) (cat n f g) := bl_append n m f g
  cases ad with
  | none =>
    have hm0 : m = 0 := by rcases hc with ⟨h, _⟩ | ⟨_, _, h, _⟩; exact h; cases h
    have hc0 : cap = 0 := by rcases hc with ⟨_, h⟩ | ⟨_, _, h, _⟩; exact h rfl; cases h
    subst hm0 hc0
    refine wpList_append_own_none hgd s x 22 ho base 5 i0 1 Tryd.underlying22 hi _ _ _ hs hv.2 hx ?_
    refine h v w ⟨Sg.cat_bound hv.1 hg, ?_⟩ (Kp.refl _ _) (.inl rfl)
    rw [← hcat]; simpa [bl] using hv.2
  | some ad =>
    have HC : ∀ j u, (bl m g)[j]? = some u → w.cell? (ad.add j) = some u := by
      intro j u hj
      obtain ⟨hj1, rfl⟩ := bl_get_inv _ _ _ _ hj
      rcases hc with ⟨h, _⟩ | ⟨b, off, h, hc⟩
      · omega
      · cases h; rw [By.add_plain]; exact hc j hj1
    have hu := hv.2
    have grows : ∀ (ao : Option Addr) (cp : Nat), v = .slice ao n cp → (ao = none → n = 0 ∧ cp = 0) → (∀ b, ao = some b → ∀ j u, (bl n f)[j]? = some u → w.cell? (b.add j) = some u) → cp < n + m → wpList Tryd.prog ops Q (o :: rest) a w := by
      intro ao cp hu' hnone hcells hcap
      refine wpList_append_grows _ hgd s x 22 ho 5 i0 (.int .u8 0) 1 1 Tryd.underlying22 hi hz0 hz1 hz2 rfl (by decide) ao n cp (bl n f) (hs.trans hu') hnone hu.1 hcells ad m cap (bl m g) hx (by rw [bl_length, Nat.mul_one]) HC (bl_one m g) hcap (by simp [maxLen]; omega) (by omega) ?_
      intro u' w' hown hgr
      refine h u' w' ⟨Sg.cat_bound hv.1 hg, ?_⟩ ((Kp.of_grown hgr).mono fun k _ e => by cases e) (.inr fun g hg => (hown.lt g hg).1)
      rw [← hcat]
      refine ⟨hown.1, ?_⟩
      rcases hown.2 with h' | ⟨g, c, cur, e1, e2, e3⟩
      · exact .inl h'
      · exact .inr ⟨g, c, cur, e1, by omega, e3⟩
    rcases hu.2 with ⟨hun, hn0⟩ | ⟨gb, cp, cur, hun, hgb, hgg, hnc, hcm, hcs, ht⟩
    · by_cases hm : m = 0
      · refine wpList_append_own _ hgd s x 22 ho base 5 i0 (.int .u8 0) 1 1 Tryd.underlying22 hi hz0 hz1 hz2 rfl (by decide) v n (bl n f) hs hv.2 ad m cap (bl m g) hx (by rw [bl_length]; omega) HC (bl_one m g) (by simp [maxLen]; omega) (by omega) hb ?_
        intro v' w' hown hgrow hnil
        have e := hnil.2 ⟨hun, hm⟩
        exact h v' w' ⟨Sg.cat_bound hv.1 hg, by rw [← hcat]; exact hown⟩ (Kp.of_grown hgrow) (.inl (by rw [e, hun]))
      · exact grows none 0 (by rw [hun, hn0]) (fun _ => ⟨hn0, rfl⟩) (fun b hb => by cases hb) (by omega)
    · by_cases hcap : n + m ≤ cp
      · subst hun
        refine wpList_append_fits _ hgd s x 22 ho base 5 i0 1 Tryd.underlying22 hi hz1 gb n cp (bl n f) hs hu ad m cap (bl m g) hx (by rw [bl_length, Nat.mul_one]) HC (bl_one m g) hcap ?_
        intro w' hown hgr
        exact h _ w' ⟨Sg.cat_bound hv.1 hg, by rw [← hcat]; exact hown⟩ (Kp.of_grown hgr) (.inl rfl)
      · subst hun
        refine grows (some ⟨gb, 0, none⟩) cp rfl (fun h => by cases h) (fun b hb => ?_) (by omega)
        cases hb
        exact hu.cells rfl
end Go.Proofs.YtkmkbofokoimkaaDoor.Dg
