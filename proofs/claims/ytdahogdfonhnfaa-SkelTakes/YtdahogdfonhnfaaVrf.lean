/- What a kind uses, of the document; the skeleton of an operation. -/
import Derived.Test.YtdahogdfonhnfaaVof
namespace Go.Proofs.Ytdahogdfonhnfaa.Ou
open Go.ChangeShapes Go.WideShapes Go.ChangeAt Go.RowKit
open Go.Proofs.Ytdahogdfonhnfaa.By
open Go.Proofs.Ytdahogdfonhnfaa.Tb (Blk Blk.newAt put_all Kp.setCells)
def LDu (a : Addr) : Sem Value := loadVar 58 a
def SVu (a : Addr) (v : Value) : Sem Unit := storeVar 58 a v
@[go_sem ↓ high] theorem ldu (a : Addr) : loadVar 58 a = LDu a := rfl
@[go_sem ↓ high] theorem svu (a : Addr) (v : Value) : storeVar 58 a v = SVu a v := rfl
abbrev uL (k : Int) : List Value := [.bool (uH k), .bool (uA k), .bool (uC k), .bool (uO k), .bool (uD k), .bool (uM k)]
abbrev uv (k : Int) : Value := .agg #[.bool (uH k), .bool (uA k), .bool (uC k), .bool (uO k), .bool (uD k), .bool (uM k)]
abbrev fU : Array Value := #[Value.bool false, Value.bool false, Value.bool false, Value.bool false, Value.bool false, Value.bool false]
theorem infou (k : Int) : (Try.prog.info? 58).map (·.size) = some (uL k).length := by kernel_rfl
theorem LDu_run {W : World} {g : Nat} {k : Int} (h : Blk W g (uL k) 58) : (LDu ⟨g, 0, none⟩).run Try.prog W = .ok (uv k) W :=
  run_loadVar_mid W g 0 _ (uL k) _ (h.range 0 _ (fun _ _ hv => by rw [Nat.zero_add]; exact hv)) Try.underlying58 rfl (infou k)
theorem uL_one (k : Int) : ∀ u ∈ uL k, u.oneCell' = true := by
  intro u hu
  simp only [uL, List.mem_cons, List.not_mem_nil, or_false] at hu
  rcases hu with rfl | rfl | rfl | rfl | rfl | rfl <;> rfl
theorem SVu_run {W : World} {g : Nat} {cs : List Value} (k : Int) (h : Blk W g cs 58) (hl : cs.length = 6) : ∃ W', (SVu ⟨g, 0, none⟩ (uv k)).run Try.prog W = .ok () W' ∧ Blk W' g (uL k) 58 ∧ Kp (fun j => j = g) W W' := by
  refine ⟨W.setCells g 0 (uL k), run_storeVar_mid W g 0 _ (uL k).toArray (h.there 0 _ (by simp [hl])) (by simpa using infou k) (all_oneCell_toArray (uL_one k)), ?_, Kp.setCells g 0 _⟩
  have := h.put 0 (uL k)
  rw [put_all cs (uL k) (by rw [hl]; rfl)] at this
  exact this
set_option maxRecDepth 8000 in
set_option maxHeartbeats 1200000 in
theorem ruse_ok (k : Int) (w : World) : Calls Try.prog 31 #[.int .u8 k] w fun e w' => e = .returned (uv k) ∧ Below w.heap.size w w' := by
  have SU : Hid (∃ W', (SVu ⟨w.heap.size, 0, none⟩ (uv k)).run Try.prog (w.alloc (.cells fU 58)) = .ok () W' ∧ (LDu ⟨w.heap.size, 0, none⟩).run Try.prog W' = .ok (uv k) W' ∧ Below w.heap.size w W') := by
    have hB : Blk (w.alloc (.cells fU 58)) w.heap.size fU.toList 58 := Blk.newAt w _ _ _ _ rfl rfl
    obtain ⟨W', h1, h2, h3⟩ := SVu_run k hB rfl
    exact ⟨W', h1, LDu_run h2, (below_alloc w _).trans (h3.below (by simp) (fun j hj e => by omega))⟩
  obtain ⟨W', s1, l1, b1⟩ := SU.out
  clear SU
  have L1 := hid l1
  have B1 := hid b1
  clear l1 b1
  by_cases h : k = 1 ∨ k = 2 ∨ k = 3 ∨ k = 4 ∨ k = 5 ∨ k = 6 ∨ k = 7 ∨ k = 8 ∨ k = 9 ∨ k = 10
  · rcases h with rfl | rfl | rfl | rfl | rfl | rfl | rfl | rfl | rfl | rfl
    · have s1' : (SVu ⟨w.heap.size, 0, none⟩ (.agg #[.bool false, .bool false, .bool false, .bool false, .bool true, .bool false])).run Try.prog (w.alloc (.cells fU 58)) = .ok () W' := s1
      clear s1
      go_enter Try.func31, Try.ntmps31
      go_wp2_with fail
      exact bodyPost_ret (Tb.results_cell1 rfl rfl L1.out) rfl ⟨rfl, B1.out⟩
    · have s1' : (SVu ⟨w.heap.size, 0, none⟩ (.agg #[.bool true, .bool true, .bool false, .bool true, .bool true, .bool false])).run Try.prog (w.alloc (.cells fU 58)) = .ok () W' := s1
      clear s1
      go_enter Try.func31, Try.ntmps31
      go_wp2_with fail
      exact bodyPost_ret (Tb.results_cell1 rfl rfl L1.out) rfl ⟨rfl, B1.out⟩
    · have s1' : (SVu ⟨w.heap.size, 0, none⟩ (.agg #[.bool true, .bool false, .bool false, .bool false, .bool true, .bool false])).run Try.prog (w.alloc (.cells fU 58)) = .ok () W' := s1
      clear s1
      go_enter Try.func31, Try.ntmps31
      go_wp2_with fail
      exact bodyPost_ret (Tb.results_cell1 rfl rfl L1.out) rfl ⟨rfl, B1.out⟩
    · have s1' : (SVu ⟨w.heap.size, 0, none⟩ (.agg #[.bool true, .bool false, .bool false, .bool false, .bool false, .bool false])).run Try.prog (w.alloc (.cells fU 58)) = .ok () W' := s1
      clear s1
      go_enter Try.func31, Try.ntmps31
      go_wp2_with fail
      exact bodyPost_ret (Tb.results_cell1 rfl rfl L1.out) rfl ⟨rfl, B1.out⟩
    · have s1' : (SVu ⟨w.heap.size, 0, none⟩ (.agg #[.bool true, .bool false, .bool false, .bool false, .bool true, .bool false])).run Try.prog (w.alloc (.cells fU 58)) = .ok () W' := s1
      clear s1
      go_enter Try.func31, Try.ntmps31
      go_wp2_with fail
      exact bodyPost_ret (Tb.results_cell1 rfl rfl L1.out) rfl ⟨rfl, B1.out⟩
    · have s1' : (SVu ⟨w.heap.size, 0, none⟩ (.agg #[.bool true, .bool false, .bool false, .bool false, .bool false, .bool false])).run Try.prog (w.alloc (.cells fU 58)) = .ok () W' := s1
      clear s1
      go_enter Try.func31, Try.ntmps31
      go_wp2_with fail
      exact bodyPost_ret (Tb.results_cell1 rfl rfl L1.out) rfl ⟨rfl, B1.out⟩
    · have s1' : (SVu ⟨w.heap.size, 0, none⟩ (.agg #[.bool true, .bool true, .bool false, .bool true, .bool true, .bool true])).run Try.prog (w.alloc (.cells fU 58)) = .ok () W' := s1
      clear s1
      go_enter Try.func31, Try.ntmps31
      go_wp2_with fail
      exact bodyPost_ret (Tb.results_cell1 rfl rfl L1.out) rfl ⟨rfl, B1.out⟩
    · have s1' : (SVu ⟨w.heap.size, 0, none⟩ (.agg #[.bool true, .bool true, .bool true, .bool true, .bool true, .bool false])).run Try.prog (w.alloc (.cells fU 58)) = .ok () W' := s1
      clear s1
      go_enter Try.func31, Try.ntmps31
      go_wp2_with fail
      exact bodyPost_ret (Tb.results_cell1 rfl rfl L1.out) rfl ⟨rfl, B1.out⟩
    · have s1' : (SVu ⟨w.heap.size, 0, none⟩ (.agg #[.bool true, .bool false, .bool false, .bool false, .bool false, .bool false])).run Try.prog (w.alloc (.cells fU 58)) = .ok () W' := s1
      clear s1
      go_enter Try.func31, Try.ntmps31
      go_wp2_with fail
      exact bodyPost_ret (Tb.results_cell1 rfl rfl L1.out) rfl ⟨rfl, B1.out⟩
    · have s1' : (SVu ⟨w.heap.size, 0, none⟩ (.agg #[.bool true, .bool false, .bool false, .bool false, .bool false, .bool false])).run Try.prog (w.alloc (.cells fU 58)) = .ok () W' := s1
      clear s1
      go_enter Try.func31, Try.ntmps31
      go_wp2_with fail
      exact bodyPost_ret (Tb.results_cell1 rfl rfl L1.out) rfl ⟨rfl, B1.out⟩
  · have e : uH k = false ∧ uA k = false ∧ uC k = false ∧ uO k = false ∧ uD k = false ∧ uM k = false := by unfold uH uA uC uO uD uM; refine ⟨?_, ?_, ?_, ?_, ?_, ?_⟩ <;> simp <;> omega
    have EV : uv k = .agg fU := by show Value.agg #[.bool (uH k), .bool (uA k), .bool (uC k), .bool (uO k), .bool (uD k), .bool (uM k)] = _; rw [e.1, e.2.1, e.2.2.1, e.2.2.2.1, e.2.2.2.2.1, e.2.2.2.2.2]
    rw [EV] at s1
    have s1' : (SVu ⟨w.heap.size, 0, none⟩ (.agg #[.bool false, .bool false, .bool false, .bool false, .bool false, .bool false])).run Try.prog (w.alloc (.cells fU 58)) = .ok () W' := s1
    clear s1 EV e
    have n1 : (k == 1) = false := by simp; omega
    have n2 : (k == 2) = false := by simp; omega
    have n3 : (k == 3) = false := by simp; omega
    have n4 : (k == 4) = false := by simp; omega
    have n5 : (k == 5) = false := by simp; omega
    have n6 : (k == 6) = false := by simp; omega
    have n7 : (k == 7) = false := by simp; omega
    have n8 : (k == 8) = false := by simp; omega
    have n9 : (k == 9) = false := by simp; omega
    have n10 : (k == 10) = false := by simp; omega
    clear h
    go_enter Try.func31, Try.ntmps31
    go_wp2_with fail
    exact bodyPost_ret (Tb.results_cell1 rfl rfl L1.out) rfl ⟨rfl, B1.out⟩
end Go.Proofs.Ytdahogdfonhnfaa.Ou
