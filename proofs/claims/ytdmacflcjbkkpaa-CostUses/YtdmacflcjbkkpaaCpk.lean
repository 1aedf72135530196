/- Pick, and two lists of codes held against each other. -/
import Derived.Test.YtdmacflcjbkkpaaCaw
namespace Go.Proofs.Ytdmacflcjbkkpaa.Co
open Go.ChangeShapes Go.WideShapes Go.ChangeAt Go.RowKit
set_option maxHeartbeats 1600000 in
theorem pick_n (i : Int) (n : Nat) (hn : 0 < n) (hn2 : n ≤ 1000000) (w : World) : Calls Try.prog 19 #[.int .i64 i, .int .i64 (n : Int)] w fun e w' => (∃ r : Nat, e = .returned (.int .i64 (r : Int)) ∧ r < n) ∧ w' = w := by
  have hn0 : ¬ (n : Int) = 0 := by omega
  have hn1 : ((n : Int) == 0) = false := beq_eq_false_iff_ne.2 hn0
  have hm1 : ¬ (n : Int) = -1 := by omega
  have ht := Int.tmod_lt_of_pos i (show (0 : Int) < n by omega)
  have ht2 : -(n : Int) < i.tmod n := by
    have := Int.natAbs_tmod i n
    have h2 : i.natAbs % (n : Int).natAbs < n := by
      have : (n : Int).natAbs = n := Int.natAbs_natCast n
      rw [this]; exact Nat.mod_lt _ hn
    omega
  have w1 : IntKind.i64.wrap (i.tmod n) = i.tmod n := by rw [IntKind.wrap_i64]; omega
  by_cases hneg : i.tmod n < 0
  · have w2 : IntKind.i64.wrap (i.tmod n + n) = i.tmod n + n := by rw [IntKind.wrap_i64]; omega
    go_enter Try.func19, Try.ntmps19
    go_wp2
    go_ret
    refine ⟨⟨(i.tmod n + n).toNat, ?_, by omega⟩, rfl⟩
    rw [show (((i.tmod n + n).toNat : Nat) : Int) = i.tmod n + n by omega]
    rfl
  · go_enter Try.func19, Try.ntmps19
    go_wp2
    go_ret
    refine ⟨⟨(i.tmod n).toNat, ?_, by omega⟩, rfl⟩
    rw [show (((i.tmod n).toNat : Nat) : Int) = i.tmod n by omega]
    rfl
set_option maxRecDepth 100000 in
set_option maxHeartbeats 1600000 in
theorem samec_ok (g g' n c c' : Nat) (F : Nat → Int) (w : World) (h : ∀ V, Below w.heap.size w V → ∀ i, i < n → V.cell? ⟨g, i, none⟩ = some (.int .i64 (F i))) (h' : ∀ V, Below w.heap.size w V → ∀ i, i < n → V.cell? ⟨g', i, none⟩ = some (.int .i64 (F i))) (hn : n ≤ 1000) :
    Calls Try.prog 20 #[.slice (some ⟨g, 0, none⟩) n c, .slice (some ⟨g', 0, none⟩) n c'] w fun e w' => e = .returned (.bool true) ∧ Below w.heap.size w w' := by
  have H := hid h
  have H' := hid h'
  clear h h'
  go_enter Try.func20, Try.ntmps20
  go_wp2
  go_loopw [5] (fun x wr => ∃ k : Nat, k ≤ n ∧ x = .int .i64 k ∧ Below w.heap.size w wr) (fun x _ => n - (RowKit.intOf x).toNat)
  case atStart => exact ⟨0, Nat.zero_le _, rfl, Below.refl _ _⟩
  case round =>
    obtain ⟨k, hk, rfl, hbel⟩ := hrel
    have HB := hid hbel
    clear hbel
    by_cases hlt : k < n
    · have x1 := H.out wr HB.out k hlt
      have x2 := H'.out wr HB.out k hlt
      obtain ⟨C, hC⟩ : ∃ C, F k = C := ⟨_, rfl⟩
      rw [hC] at x1 x2
      have kn : (k : Int) < n := by omega
      have kz : (0 : Int) ≤ (k : Int) := by omega
      clear hC
      go_wp2_with fail
      go_quiet (fail)
      go_wp2
      go_roundw
      case rel => exact ⟨k + 1, by omega, by go_num, below_next HB.out (below_drewN _ _)⟩
      case measure => simp [RowKit.intOf]; omega
    · have e : k = n := by omega
      subst e
      go_wp2
      go_ret
      exact ⟨rfl, HB.out⟩
end Go.Proofs.Ytdmacflcjbkkpaa.Co
