/- Skeletons as values; what a kind uses, of the program. -/
import Derived.Test.YtdahogdfonhnfaaUpl
import Derived.Laws.EntriesVeiled
namespace Go.Proofs.Ytdahogdfonhnfaa.Ou
open Go.ChangeShapes Go.WideShapes Go.ChangeAt Go.RowKit
open Go.Proofs.Ytdahogdfonhnfaa.By
open Go.Proofs.Ytdahogdfonhnfaa.Tb (Blk Blk.newAt put_all Kp.setCells)
/-- A skeleton's numbers. -/
structure Sk where
  k : Int
  h : Int
  a : Int
  c : Int
  o : Int
  d : Int
  m : Int
deriving DecidableEq
abbrev sv (s : Sk) : Value := .agg #[.int .u8 s.k, .int .i64 s.h, .int .u8 s.a, .int .i64 s.c, .int .i64 s.o, .int .i64 s.d, .int .i64 s.m]
abbrev sL (s : Sk) : List Value := [.int .u8 s.k, .int .i64 s.h, .int .u8 s.a, .int .i64 s.c, .int .i64 s.o, .int .i64 s.d, .int .i64 s.m]
abbrev zS : Sk := ⟨0, 0, 0, 0, 0, 0, 0⟩
def LDk (a : Addr) : Sem Value := loadVar 33 a
def SVk (a : Addr) (v : Value) : Sem Unit := storeVar 33 a v
@[go_sem ↓ high] theorem ldk (a : Addr) : loadVar 33 a = LDk a := rfl
@[go_sem ↓ high] theorem svk (a : Addr) (v : Value) : storeVar 33 a v = SVk a v := rfl
theorem infok (s : Sk) : (Try.prog.info? 33).map (·.size) = some (sL s).length := by kernel_rfl
theorem LDk_run {W : World} {g : Nat} {s : Sk} (h : Blk W g (sL s) 33) : (LDk ⟨g, 0, none⟩).run Try.prog W = .ok (sv s) W :=
  run_loadVar_mid W g 0 _ (sL s) _ (h.range 0 _ (fun _ _ hv => by rw [Nat.zero_add]; exact hv)) Try.underlying33 rfl (infok s)
theorem sL_one (s : Sk) : ∀ u ∈ sL s, u.oneCell' = true := by
  intro u hu
  simp only [sL, List.mem_cons, List.not_mem_nil, or_false] at hu
  rcases hu with rfl | rfl | rfl | rfl | rfl | rfl | rfl <;> rfl
theorem SVk_run {W : World} {g : Nat} {cs : List Value} (s : Sk) (h : Blk W g cs 33) (hl : cs.length = 7) : ∃ W', (SVk ⟨g, 0, none⟩ (sv s)).run Try.prog W = .ok () W' ∧ Blk W' g (sL s) 33 ∧ Kp (fun j => j = g) W W' := by
  refine ⟨W.setCells g 0 (sL s), run_storeVar_mid W g 0 _ (sL s).toArray (h.there 0 _ (by simp [hl])) (by simpa using infok s) (all_oneCell_toArray (sL_one s)), ?_, Kp.setCells g 0 _⟩
  have := h.put 0 (sL s)
  rw [put_all cs (sL s) (by rw [hl]; rfl)] at this
  exact this
/-- The skeleton without what its kind does not use. -/
def ps (s : Sk) : Sk := ⟨s.k, if uH s.k then s.h else 0, if uA s.k then s.a else 0, if uC s.k then s.c else 0, if uO s.k then s.o else 0, if uD s.k then s.d else 0, if uM s.k then s.m else 0⟩
/-- The table of what the kinds use. -/
abbrev KT : List Value := [.func (.func 48) #[] #[], .func (.func 49) #[] #[], .func (.func 50) #[] #[], .func (.func 47) #[] #[], .func (.func 46) #[] #[], .func (.func 47) #[] #[], .func (.func 46) #[] #[], .func (.func 51) #[] #[], .func (.func 52) #[] #[], .func (.func 46) #[] #[], .func (.func 46) #[] #[]]
set_option maxRecDepth 8000 in
set_option maxHeartbeats 1200000 in
theorem keepers_ok (w : World) :
    Calls Try.prog 45 #[] w fun e w' => e = .returned (.slice (some ⟨w.heap.size, 0, none⟩) 11 11) ∧ Blk w' w.heap.size KT 71 ∧ Below w.heap.size w w' := by
  go_enter Try.func45, Try.ntmps45
  go_wp2
  go_ret
  exact ⟨rfl, Blk.newAt w _ _ _ _ rfl rfl, below_alloc _ _⟩
/-- A function of one skeleton that tells another. -/
theorem two_vars (s t : Sk) (w : World) : ∃ W1, (SVk ⟨w.heap.size + 1, 0, none⟩ (sv t)).run Try.prog ((w.alloc (.cells (sL s).toArray 33)).alloc (.cells (sL zS).toArray 33)) = .ok () W1 ∧ (LDk ⟨w.heap.size + 1, 0, none⟩).run Try.prog W1 = .ok (sv t) W1 ∧ Below w.heap.size w W1 := by
  have hB : Blk ((w.alloc (.cells (sL s).toArray 33)).alloc (.cells (sL zS).toArray 33)) (w.heap.size + 1) (sL zS) 33 := Blk.newAt (w.alloc _) _ _ _ (w.heap.size + 1) (by simp) rfl
  have hb : Below w.heap.size w ((w.alloc (.cells (sL s).toArray 33)).alloc (.cells (sL zS).toArray 33)) := below_next (below_alloc _ _) (below_alloc _ _)
  obtain ⟨W1, hs, h1, hk⟩ := SVk_run t hB rfl
  exact ⟨W1, hs, LDk_run h1, hb.trans (hk.below hb.size (fun j _ e => by omega))⟩
set_option maxRecDepth 8000 in
set_option maxHeartbeats 1200000 in
theorem keep1 (s : Sk) (w : World) :
    Calls Try.prog 46 #[sv s] w fun e w' => e = .returned (sv ⟨0, s.h, 0, 0, 0, 0, 0⟩) ∧ Below w.heap.size w w' := by
  obtain ⟨W1, hs, hl, hb⟩ := two_vars s ⟨0, s.h, 0, 0, 0, 0, 0⟩ w
  have hs' : (SVk ⟨w.heap.size + 1, 0, none⟩ (.agg #[.int .u8 0, .int .i64 s.h, .int .u8 0, .int .i64 0, .int .i64 0, .int .i64 0, .int .i64 0])).run Try.prog ((w.alloc (.cells #[Value.int IntKind.u8 s.k, Value.int IntKind.i64 s.h, Value.int IntKind.u8 s.a, Value.int IntKind.i64 s.c, Value.int IntKind.i64 s.o, Value.int IntKind.i64 s.d, Value.int IntKind.i64 s.m] 33)).alloc (.cells #[Value.int IntKind.u8 0, Value.int IntKind.i64 0, Value.int IntKind.u8 0, Value.int IntKind.i64 0, Value.int IntKind.i64 0, Value.int IntKind.i64 0, Value.int IntKind.i64 0] 33)) = .ok () W1 := hs
  have HL := hid hl
  have HB := hid hb
  clear hs hl hb
  go_enter Try.func46, Try.ntmps46
  go_wp2_with fail
  exact bodyPost_ret (Tb.results_cell1 rfl rfl HL.out) rfl ⟨rfl, HB.out⟩
set_option maxRecDepth 8000 in
set_option maxHeartbeats 1200000 in
theorem keep2 (s : Sk) (w : World) :
    Calls Try.prog 47 #[sv s] w fun e w' => e = .returned (sv ⟨0, s.h, 0, 0, 0, s.d, 0⟩) ∧ Below w.heap.size w w' := by
  obtain ⟨W1, hs, hl, hb⟩ := two_vars s ⟨0, s.h, 0, 0, 0, s.d, 0⟩ w
  have hs' : (SVk ⟨w.heap.size + 1, 0, none⟩ (.agg #[.int .u8 0, .int .i64 s.h, .int .u8 0, .int .i64 0, .int .i64 0, .int .i64 s.d, .int .i64 0])).run Try.prog ((w.alloc (.cells #[Value.int IntKind.u8 s.k, Value.int IntKind.i64 s.h, Value.int IntKind.u8 s.a, Value.int IntKind.i64 s.c, Value.int IntKind.i64 s.o, Value.int IntKind.i64 s.d, Value.int IntKind.i64 s.m] 33)).alloc (.cells #[Value.int IntKind.u8 0, Value.int IntKind.i64 0, Value.int IntKind.u8 0, Value.int IntKind.i64 0, Value.int IntKind.i64 0, Value.int IntKind.i64 0, Value.int IntKind.i64 0] 33)) = .ok () W1 := hs
  have HL := hid hl
  have HB := hid hb
  clear hs hl hb
  go_enter Try.func47, Try.ntmps47
  go_wp2_with fail
  exact bodyPost_ret (Tb.results_cell1 rfl rfl HL.out) rfl ⟨rfl, HB.out⟩
set_option maxRecDepth 8000 in
set_option maxHeartbeats 1200000 in
theorem keep3 (s : Sk) (w : World) :
    Calls Try.prog 48 #[sv s] w fun e w' => e = .returned (sv ⟨0, 0, 0, 0, 0, 0, 0⟩) ∧ Below w.heap.size w w' := by
  obtain ⟨W1, hs, hl, hb⟩ := two_vars s ⟨0, 0, 0, 0, 0, 0, 0⟩ w
  have hs' : (SVk ⟨w.heap.size + 1, 0, none⟩ (.agg #[.int .u8 0, .int .i64 0, .int .u8 0, .int .i64 0, .int .i64 0, .int .i64 0, .int .i64 0])).run Try.prog ((w.alloc (.cells #[Value.int IntKind.u8 s.k, Value.int IntKind.i64 s.h, Value.int IntKind.u8 s.a, Value.int IntKind.i64 s.c, Value.int IntKind.i64 s.o, Value.int IntKind.i64 s.d, Value.int IntKind.i64 s.m] 33)).alloc (.cells #[Value.int IntKind.u8 0, Value.int IntKind.i64 0, Value.int IntKind.u8 0, Value.int IntKind.i64 0, Value.int IntKind.i64 0, Value.int IntKind.i64 0, Value.int IntKind.i64 0] 33)) = .ok () W1 := hs
  have HL := hid hl
  have HB := hid hb
  clear hs hl hb
  go_enter Try.func48, Try.ntmps48
  go_wp2_with fail
  exact bodyPost_ret (Tb.results_cell1 rfl rfl HL.out) rfl ⟨rfl, HB.out⟩
set_option maxRecDepth 8000 in
set_option maxHeartbeats 1200000 in
theorem keep4 (s : Sk) (w : World) :
    Calls Try.prog 49 #[sv s] w fun e w' => e = .returned (sv ⟨0, 0, 0, 0, 0, s.d, 0⟩) ∧ Below w.heap.size w w' := by
  obtain ⟨W1, hs, hl, hb⟩ := two_vars s ⟨0, 0, 0, 0, 0, s.d, 0⟩ w
  have hs' : (SVk ⟨w.heap.size + 1, 0, none⟩ (.agg #[.int .u8 0, .int .i64 0, .int .u8 0, .int .i64 0, .int .i64 0, .int .i64 s.d, .int .i64 0])).run Try.prog ((w.alloc (.cells #[Value.int IntKind.u8 s.k, Value.int IntKind.i64 s.h, Value.int IntKind.u8 s.a, Value.int IntKind.i64 s.c, Value.int IntKind.i64 s.o, Value.int IntKind.i64 s.d, Value.int IntKind.i64 s.m] 33)).alloc (.cells #[Value.int IntKind.u8 0, Value.int IntKind.i64 0, Value.int IntKind.u8 0, Value.int IntKind.i64 0, Value.int IntKind.i64 0, Value.int IntKind.i64 0, Value.int IntKind.i64 0] 33)) = .ok () W1 := hs
  have HL := hid hl
  have HB := hid hb
  clear hs hl hb
  go_enter Try.func49, Try.ntmps49
  go_wp2_with fail
  exact bodyPost_ret (Tb.results_cell1 rfl rfl HL.out) rfl ⟨rfl, HB.out⟩
set_option maxRecDepth 8000 in
set_option maxHeartbeats 1200000 in
theorem keep5 (s : Sk) (w : World) :
    Calls Try.prog 50 #[sv s] w fun e w' => e = .returned (sv ⟨0, s.h, s.a, 0, s.o, s.d, 0⟩) ∧ Below w.heap.size w w' := by
  obtain ⟨W1, hs, hl, hb⟩ := two_vars s ⟨0, s.h, s.a, 0, s.o, s.d, 0⟩ w
  have hs' : (SVk ⟨w.heap.size + 1, 0, none⟩ (.agg #[.int .u8 0, .int .i64 s.h, .int .u8 s.a, .int .i64 0, .int .i64 s.o, .int .i64 s.d, .int .i64 0])).run Try.prog ((w.alloc (.cells #[Value.int IntKind.u8 s.k, Value.int IntKind.i64 s.h, Value.int IntKind.u8 s.a, Value.int IntKind.i64 s.c, Value.int IntKind.i64 s.o, Value.int IntKind.i64 s.d, Value.int IntKind.i64 s.m] 33)).alloc (.cells #[Value.int IntKind.u8 0, Value.int IntKind.i64 0, Value.int IntKind.u8 0, Value.int IntKind.i64 0, Value.int IntKind.i64 0, Value.int IntKind.i64 0, Value.int IntKind.i64 0] 33)) = .ok () W1 := hs
  have HL := hid hl
  have HB := hid hb
  clear hs hl hb
  go_enter Try.func50, Try.ntmps50
  go_wp2_with fail
  exact bodyPost_ret (Tb.results_cell1 rfl rfl HL.out) rfl ⟨rfl, HB.out⟩
set_option maxRecDepth 8000 in
set_option maxHeartbeats 1200000 in
theorem keep6 (s : Sk) (w : World) :
    Calls Try.prog 51 #[sv s] w fun e w' => e = .returned (sv ⟨0, s.h, s.a, 0, s.o, s.d, s.m⟩) ∧ Below w.heap.size w w' := by
  obtain ⟨W1, hs, hl, hb⟩ := two_vars s ⟨0, s.h, s.a, 0, s.o, s.d, s.m⟩ w
  have hs' : (SVk ⟨w.heap.size + 1, 0, none⟩ (.agg #[.int .u8 0, .int .i64 s.h, .int .u8 s.a, .int .i64 0, .int .i64 s.o, .int .i64 s.d, .int .i64 s.m])).run Try.prog ((w.alloc (.cells #[Value.int IntKind.u8 s.k, Value.int IntKind.i64 s.h, Value.int IntKind.u8 s.a, Value.int IntKind.i64 s.c, Value.int IntKind.i64 s.o, Value.int IntKind.i64 s.d, Value.int IntKind.i64 s.m] 33)).alloc (.cells #[Value.int IntKind.u8 0, Value.int IntKind.i64 0, Value.int IntKind.u8 0, Value.int IntKind.i64 0, Value.int IntKind.i64 0, Value.int IntKind.i64 0, Value.int IntKind.i64 0] 33)) = .ok () W1 := hs
  have HL := hid hl
  have HB := hid hb
  clear hs hl hb
  go_enter Try.func51, Try.ntmps51
  go_wp2_with fail
  exact bodyPost_ret (Tb.results_cell1 rfl rfl HL.out) rfl ⟨rfl, HB.out⟩
set_option maxRecDepth 8000 in
set_option maxHeartbeats 1200000 in
theorem keep7 (s : Sk) (w : World) :
    Calls Try.prog 52 #[sv s] w fun e w' => e = .returned (sv ⟨0, s.h, s.a, s.c, s.o, s.d, 0⟩) ∧ Below w.heap.size w w' := by
  obtain ⟨W1, hs, hl, hb⟩ := two_vars s ⟨0, s.h, s.a, s.c, s.o, s.d, 0⟩ w
  have hs' : (SVk ⟨w.heap.size + 1, 0, none⟩ (.agg #[.int .u8 0, .int .i64 s.h, .int .u8 s.a, .int .i64 s.c, .int .i64 s.o, .int .i64 s.d, .int .i64 0])).run Try.prog ((w.alloc (.cells #[Value.int IntKind.u8 s.k, Value.int IntKind.i64 s.h, Value.int IntKind.u8 s.a, Value.int IntKind.i64 s.c, Value.int IntKind.i64 s.o, Value.int IntKind.i64 s.d, Value.int IntKind.i64 s.m] 33)).alloc (.cells #[Value.int IntKind.u8 0, Value.int IntKind.i64 0, Value.int IntKind.u8 0, Value.int IntKind.i64 0, Value.int IntKind.i64 0, Value.int IntKind.i64 0, Value.int IntKind.i64 0] 33)) = .ok () W1 := hs
  have HL := hid hl
  have HB := hid hb
  clear hs hl hb
  go_enter Try.func52, Try.ntmps52
  go_wp2_with fail
  exact bodyPost_ret (Tb.results_cell1 rfl rfl HL.out) rfl ⟨rfl, HB.out⟩
end Go.Proofs.Ytdahogdfonhnfaa.Ou
