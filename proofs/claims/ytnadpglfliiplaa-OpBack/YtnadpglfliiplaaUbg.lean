/- Bytes gone on with, past 2^47 of them. -/
import Derived.Test.YtnadpglfliiplaaUbq
namespace Go.Proofs.Ytnadpglfliiplaa.Ou
open Go.ChangeShapes Go.WideShapes Go.ChangeAt Go.RowKit
open Go.Proofs.Ytnadpglfliiplaa.By
theorem cap_le {need old : Nat} (h : old < need) : Builtin.nextslicecap need old ≤ need + need / 4 + 512 := by
  unfold Builtin.nextslicecap
  split
  · omega
  · split
    · omega
    · rw [growBy_four]
      repeat' split
      all_goals omega
theorem append_big (w : World) (ty : TypeId) (base n m : Nat) (v : Value) (ad : Addr) (c : Nat) (f g : Nat → Int) (hv : By.Own w base v n f) (hg : ∀ i, 0 ≤ g i ∧ g i < 256)
    (HC : ∀ j u, (bl m g)[j]? = some u → w.cell? (ad.add j) = some u) (hn : n + m ≤ 200000000000000) (hp : 0 < n) (hb : base ≤ w.heap.size) :
    ∃ v' w', (Builtin.append_ #[24, 24] ty #[v, .slice (some ad) m c]).run Try.prog w = .ok v' w' ∧ By.Own w' base v' (n + m) (cat n f g) ∧ w.grownBy w' v.ownBlock := by
  obtain ⟨i0, hi, hz0, hz1, hz2⟩ := info_parts info5
  have hcat : bl n f ++ bl m g = bl (n + m) (cat n f g) := bl_append n m f g
  have hl : (bl m g).length = m * i0.size := by rw [bl_length, hz1]; omega
  have hlo : (bl n f).length = n * i0.size := by rw [bl_length, hz1]; omega
  obtain ⟨hf, hlen, ⟨_, h0⟩ | ⟨g0, cap, cur, rfl, hbg, hg0, hnc, hcm, hcs, htake⟩⟩ := hv
  · omega
  rw [Nat.mul_one] at hcs htake
  by_cases hroom : n + m ≤ cap
  · have hr := run_append_room (P := Try.prog) w 24 ty 5 i0 Try.underlying24 hi g0 n cap cur hg0 ad m c (bl m g) hl HC (bl_one m g) hroom (by rw [hz1, bl_length]; omega)
    refine ⟨_, _, hr, ⟨cat_bound hf hg, by rw [bl_length]; omega, .inr ⟨g0, cap, _, rfl, hbg, setRow_heap w g0 cur _ _ _ hg0, hroom, hcm, ?_, ?_⟩⟩, ⟨rfl, rfl, rfl, by simp, fun k _ hk => setRow_other w g0 k _ (fun e => hk (by simp [Value.ownBlock, e]))⟩⟩
    · simp only [hz1, bl_length, List.size_toArray, List.length_append, List.length_take, List.length_drop, Array.length_toList]
      omega
    · rw [hz1, Nat.mul_one, Nat.mul_one, htake, hcat]
      refine List.take_left' ?_
      rw [bl_length]
  · have holds : ∀ j u, (bl n f)[j]? = some u → w.cell? ((⟨g0, 0, none⟩ : Addr).add j) = some u :=
      (show w.ownsRow base 5 1 (.slice (some ⟨g0, 0, none⟩) n cap) n (bl n f) from ⟨hlen, .inr ⟨g0, cap, cur, rfl, hbg, hg0, hnc, hcm, by rw [Nat.mul_one]; exact hcs, by rw [Nat.mul_one]; exact htake⟩⟩).cells rfl
    have hr := run_append_grow (P := Try.prog) w 24 ty 5 i0 (.int .u8 0) Try.underlying24 hi hz0 ⟨g0, 0, none⟩ n cap (bl n f) hlo holds ad m c (bl m g) hl HC (by omega) (by omega)
      (by rw [hz2, Nat.mul_one]; have := cap_le (need := n + m) (old := cap) (by omega); omega)
    have hge := grownCap_ge w (n + m) cap 5
    have hcm' : grownCap w (n + m) cap 5 ≤ maxLen := grownCap_le_maxLen w (n + m) cap _ (by simp [maxLen]; omega)
    refine ⟨_, _, hr, ⟨cat_bound hf hg, by rw [bl_length]; omega, .inr ⟨w.heap.size, _, _, rfl, hb, heap_alloc_last w.drew _, hge, hcm', ?_, ?_⟩⟩, ⟨rfl, rfl, rfl, by simp, fun k hk _ => ?_⟩⟩
    · simp only [Array.size_append, List.size_toArray, size_zeroCells, bl_length]
      have : (Value.int IntKind.u8 0).cells.size = 1 := rfl
      rw [this]; omega
    · simp only [Array.toList_append, List.append_assoc]
      rw [← List.append_assoc, hcat]
      refine List.take_left' ?_
      rw [bl_length]; omega
    · show (w.drew.heap.push _)[k]? = w.heap[k]?
      rw [Array.getElem?_push, if_neg (show ¬ k = w.drew.heap.size from Nat.ne_of_lt hk)]; rfl
theorem wpList_catB {w : World} {ops : Array Oper} {rest : List Oper} {o : Oper} {a : Act} {Q : Exit → Act → World → Prop} (hgd : o.guard = none) (s x : Operand)
    (ho : o.op = .call { callee := .builtin .append, args := #[s, x], argTypes := #[24, 24] })
    (base n m : Nat) (v u : Value) (f g : Nat → Int) (hs : a.eval s = v) (hv : By.Own w base v n f) (hx : a.eval x = u) (hr : By.RB w u m g) (hn : n ≤ 100000) (hm : m ≤ 140737488355328) (hb : base ≤ w.heap.size)
    (h : ∀ v' w', By.Own w' base v' (n + m) (cat n f g) → w.grownBy w' v.ownBlock → wpList Try.prog ops Q rest (a.put o.dst v') w') : wpList Try.prog ops Q (o :: rest) a w := by
  by_cases hs' : n + m ≤ 140737488355328
  · exact wpList_cat hgd s x ho base n m v u f g hs hv hx hr hs' hb h
  · obtain ⟨hg, ad, cap, rfl, h1, h2, hc⟩ := hr
    obtain ⟨ad, rfl, HC⟩ : ∃ d, ad = some d ∧ ∀ j u, (bl m g)[j]? = some u → w.cell? (d.add j) = some u := by
      rcases hc with ⟨h, _⟩ | ⟨b, off, rfl, hc⟩
      · omega
      · refine ⟨_, rfl, fun j u hj => ?_⟩
        obtain ⟨hj1, rfl⟩ := bl_get_inv _ _ _ _ hj
        rw [By.add_plain]; exact hc j hj1
    obtain ⟨v', w', hr, ho', hgr⟩ := append_big w o.type base n m v ad cap f g hv hg HC (by omega) (by omega) hb
    refine wpList_plain hgd fun K hK => ?_
    unfold Oper.wp execOp
    simp only [ho, resolve, invoke, builtin, Sem.run_bind, Sem.run_pure, Result.andThen_ok, List.map_toArray, List.map_cons, List.map_nil, hs, hx, hr]
    exact hK _ _ (h v' w' ho' hgr)
end Go.Proofs.Ytnadpglfliiplaa.Ou
