/- The document's Put: a run put behind runs whose last is of another event. -/
import Derived.Test.YtdmacflcjbkkpaaGreatCfn
import Derived.Deep.RegionWith
import Derived.Deep.AppendLies
namespace Go.Proofs.YtdmacflcjbkkpaaGreat.Cd
open Go.Proofs.YtdmacflcjbkkpaaGreat.Co
open Go.ChangeShapes Go.WideShapes Go.ChangeAt Go.RowKit
open Go.Proofs.YtdmacflcjbkkpaaGreat (Rn Own sm putL SameOrNew wpList_push)
open Go.Proofs.YtdmacflcjbkkpaaGreat.Ou (Sk sv)
set_option maxRecDepth 100000 in
set_option maxHeartbeats 1200000 in
/-- Where there is nothing to put, the list is handed back. -/
theorem rput_0 (u : Value) (k s n : Int) (w : World) (hn : n < 1) :
    Calls Tryz.prog 31 #[u, .int .u8 k, .int .i64 s, .int .i64 n] w fun e w' => e = .returned u ∧ Below w.heap.size w w' := by
  go_enter Tryz.func31, Tryz.ntmps31
  go_wp2
  go_ret
  exact ⟨rfl, below_alloc _ _⟩
set_option maxRecDepth 100000 in
set_option maxHeartbeats 1200000 in
theorem rput_new (base : Nat) (u : Value) (L : List Rn) (k s c : Int) (w : World) (hu : Own w base u L) (hr : (⟨k, s, c⟩ : Rn).Ok) (hc : 1 ≤ c) (hl : ∀ q, L.getLast? = some q → Ul q ⟨k, s, c⟩) (hb0 : base ≤ w.heap.size) (hN : (L.length + 1) * 24 ≤ 140737488355328) :
    Calls Tryz.prog 31 #[u, .int .u8 k, .int .i64 s, .int .i64 c] w fun e w' => ∃ u', e = .returned u' ∧ Own w' base u' (L ++ [⟨k, s, c⟩]) ∧ Kp (fun k => u.ownBlock = some k) w w' ∧ SameOrNew w u u' := by
  have HU := hid hu
  have HR := hid hr
  obtain ⟨n, hn⟩ : ∃ n, L.length = n := ⟨_, rfl⟩
  have HL := hid hn
  have hN' : (n + 1) * 24 ≤ 140737488355328 := by rw [← hn]; exact hN
  obtain ⟨a, cap, rfl⟩ : ∃ a cap, u = .slice a n cap := by
    obtain ⟨a, cap, h, _⟩ := hu.reads.shape
    exact ⟨a, cap, by rw [← hn]; exact h⟩
  have hK0 := hid (below_alloc w (.cells #[.int .u8 k, .int .i64 s] 84))
  clear hu hr hn hN
  have hc1 : ¬ c < 1 := by omega
  by_cases hn0 : n = 0
  · subst hn0
    go_enter Tryz.func31, Tryz.ntmps31
    go_wp2
    go_quiet (fail)
    go_wp2_with (at_builtin; go_must (refine wpList_push rfl _ _ rfl base _ L ⟨k, s, c⟩ ((HU.out.alloc _).alloc _) HR.out ?c1 ?c2 ⟨_, 0, none⟩ rfl rfl ?c3 ?_))
    case c1 => simp; omega
    case c2 => rw [HL.out]; exact hN'
    case c3 => exact cells_new' _ ⟨k, s, c⟩ _ (by simp)
    intro u' w1 hown hkp hson
    have R := hid hown
    have R2 : Hid (Kp (fun k => (Value.slice a 0 cap).ownBlock = some k) w w1) := (Kp.of_below _ (below_next (below_next hK0.out (below_drewN _ _)) (below_alloc _ _))).trans hkp (fun _ _ e => e)
    have R3 : Hid (SameOrNew w (Value.slice a 0 cap) u') := hson.imp id (fun h g hg => by have := h g hg; simp at this; omega)
    clear hown hkp hson
    go_wp2
    go_ret
    exact ⟨_, rfl, R.out, R2.out, R3.out⟩
  · obtain ⟨q, hq⟩ := get_of_lt (L := L) (k := n - 1) (by rw [HL.out]; omega)
    have hlast : L.getLast? = some q := by rw [List.getLast?_eq_getElem?, HL.out]; exact hq
    have he := hl q hlast
    clear hl hlast
    obtain ⟨g, cap', hv, hgb, hgl, hnc, hcm, hcc, hfz⟩ : ∃ g cap', Value.slice a n cap = .slice (some ⟨g, 0, none⟩) n cap' ∧ base ≤ g ∧ g < w.heap.size ∧ n ≤ cap' ∧ cap' ≤ maxLen ∧
        (∀ i r, L[i]? = some r → w.cell? ⟨g, i * 3, none⟩ = some (.int .u8 r.k) ∧ w.cell? ⟨g, i * 3 + 1, none⟩ = some (.int .i64 r.s) ∧ w.cell? ⟨g, i * 3 + 2, none⟩ = some (.int .i64 r.c)) ∧ ∀ i, w.frozen? ⟨g, i, none⟩ = false := by
      rcases HU.out.shape with ⟨_, h0⟩ | ⟨g, cap', hv, rest⟩
      · have := HL.out; rw [h0] at this; simp at this; omega
      · rw [HL.out] at hv rest; exact ⟨g, cap', hv, rest⟩
    simp only [Value.slice.injEq] at hv
    obtain ⟨rfl, _, rfl⟩ := hv
    obtain ⟨c1, c2, c3⟩ := hcc (n - 1) q hq
    clear hcc hfz hq
    obtain ⟨m, hm⟩ : ∃ m, n - 1 = m := ⟨n - 1, rfl⟩
    rw [hm] at c1 c2 c3
    have l1 : (m : Int) < n := by omega
    have l0 : 0 < n := by omega
    have hw1 : IntKind.i64.wrap ((n : Int) - 1) = m := by rw [IntKind.wrap_i64]; omega
    clear hm
    have hd := eq2_false he
    clear he
    go_enter Tryz.func31, Tryz.ntmps31
    go_wp2
    go_quiet (fail)
    go_wp2_with (at_builtin; go_must (refine wpList_push rfl _ _ rfl base _ L ⟨k, s, c⟩ ((HU.out.alloc _).alloc _) HR.out ?c1 ?c2 ⟨_, 0, none⟩ rfl rfl ?c3 ?_))
    case c1 => simp; omega
    case c2 => rw [HL.out]; exact hN'
    case c3 => exact cells_new' _ ⟨k, s, c⟩ _ (by simp)
    intro u' w1 hown hkp hson
    have R := hid hown
    have R2 : Hid (Kp (fun k => (Value.slice (some ⟨g, 0, none⟩) n cap).ownBlock = some k) w w1) := (Kp.of_below _ (below_next (below_next hK0.out (below_drewN _ _)) (below_alloc _ _))).trans hkp (fun _ _ e => e)
    have R3 : Hid (SameOrNew w (Value.slice (some ⟨g, 0, none⟩) n cap) u') := hson.imp id (fun h g hg => by have := h g hg; simp at this; omega)
    clear hown hkp hson
    go_wp2
    go_ret
    exact ⟨_, rfl, R.out, R2.out, R3.out⟩
end Go.Proofs.YtdmacflcjbkkpaaGreat.Cd
