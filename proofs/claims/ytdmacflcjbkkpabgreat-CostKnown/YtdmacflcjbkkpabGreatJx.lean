/- The examples, as the statement writes them down. What the statement's examples are. -/
import Derived.Test.YtdmacflcjbkkpabGreatXrg
import Derived.Shelf.Abstract
import Derived.Test.YtdmacflcjbkkpabGreatCeh
namespace Go.Proofs.YtdmacflcjbkkpabGreat.Co
open Go.ChangeShapes Go.WideShapes Go.ChangeAt Go.RowKit
open Go.Proofs.YtdmacflcjbkkpabGreat (putL rl)
open Go.Proofs.YtdmacflcjbkkpabGreat.Ou (Sk sv sL zS LDk SVk LDk_run SVk_run)
open Go.Proofs.YtdmacflcjbkkpabGreat.Tb (Blk Blk.newAt put_all Kp.setCells results_cell1 results_cell2)
open Go.Proofs.YtdmacflcjbkkpabGreat.Xr
def LDr (a : Addr) : Sem Value := loadVar 36 a
def SVr (a : Addr) (v : Value) : Sem Unit := storeVar 36 a v
@[go_sem ↓ high] theorem ldr (a : Addr) : loadVar 36 a = LDr a := rfl
@[go_sem ↓ high] theorem svr (a : Addr) (v : Value) : storeVar 36 a v = SVr a v := rfl
theorem infor : (Tryz.prog.info? 36).map (·.size) = some 3 := by kernel_rfl
theorem LDr_run {W : World} {g : Nat} {a b c : Int} (h : Blk W g [.int .u8 a, .int .i64 b, .int .i64 c] 36) : (LDr ⟨g, 0, none⟩).run Tryz.prog W = .ok (.agg #[.int .u8 a, .int .i64 b, .int .i64 c]) W :=
  run_loadVar_mid W g 0 _ [.int .u8 a, .int .i64 b, .int .i64 c] _ (h.range 0 _ (fun _ _ hv => by rw [Nat.zero_add]; exact hv)) Tryz.underlying36 rfl infor
theorem SVr_run {W : World} {g : Nat} {cs : List Value} (a b c : Int) (h : Blk W g cs 36) (hl : cs.length = 3) : ∃ W', (SVr ⟨g, 0, none⟩ (.agg #[.int .u8 a, .int .i64 b, .int .i64 c])).run Tryz.prog W = .ok () W' ∧ Blk W' g [.int .u8 a, .int .i64 b, .int .i64 c] 36 ∧ Kp (fun j => j = g) W W' := by
  refine ⟨W.setCells g 0 [.int .u8 a, .int .i64 b, .int .i64 c], run_storeVar_mid W g 0 _ #[.int .u8 a, .int .i64 b, .int .i64 c] (h.there 0 _ (by simp [hl])) infor (all_oneCell_toArray (all_one rfl)), ?_, Kp.setCells g 0 _⟩
  have := h.put 0 [.int .u8 a, .int .i64 b, .int .i64 c]
  rw [put_all cs [.int .u8 a, .int .i64 b, .int .i64 c] (by rw [hl]; rfl)] at this
  exact this
set_option maxRecDepth 8000 in
theorem event_ok (k s n : Int) (w : World) : Calls Tryz.prog 6 #[.int .u8 k, .int .i64 s, .int .i64 n] w fun e w' => e = .returned (.agg #[.int .u8 k, .int .i64 s, .int .i64 n]) ∧ Below w.heap.size w w' := by
  obtain ⟨W, hW⟩ : ∃ W, w.alloc (.cells #[.int .u8 0, .int .i64 0, .int .i64 0] 36) = W := ⟨_, rfl⟩
  have BW : Hid (Below w.heap.size w W) := by rw [← hW]; exact below_alloc _ _
  have kb : Blk W w.heap.size [.int .u8 0, .int .i64 0, .int .i64 0] 36 := by rw [← hW]; exact Blk.newAt w _ _ _ w.heap.size rfl rfl
  obtain ⟨W1, s1, k1, hk1⟩ := SVr_run k s n kb rfl
  have L1 := hid (LDr_run k1)
  have B1 : Hid (Below w.heap.size w W1) := hid (BW.out.trans (hk1.below BW.out.size (fun k h e => by omega)))
  clear kb k1 hk1
  go_enter Tryz.func6, Tryz.ntmps6
  go_wp2
  exact bodyPost_ret (results_cell1 rfl rfl L1.out) rfl ⟨rfl, B1.out⟩
theorem tmp_eval {a : Act} {t : Tmp} {v : Value} (h : a.tmps[t]? = some v) : a.eval (.tmp t) = v := by simp [Act.eval, h]
section
variable {o : Oper} {a : Act} {w : World} {K : Act → World → Prop} {Q : Exit → Act → World → Prop}
theorem st_ev (k s n : Int) (hop : o.op = .call { callee := .value (.func 6), args := #[.const (.int .u8 k), .const (.int .i64 s), .const (.int .i64 n)], argTypes := #[32, 3, 3] })
    (hK : ∀ w', Below w.heap.size w w' → K (a.put o.dst (.agg #[.int .u8 k, .int .i64 s, .int .i64 n])) w') : o.wp Tryz.prog a w K Q := by
  have en : ∀ args w, (callFunc 6 args).run Tryz.prog w = .ok (.enter 6 args) w := enters_of Tryz.func6 (by kernel_rfl) rfl
  have e : (execOp a.eval o).run Tryz.prog w = .ok (.enter 6 #[.int .u8 k, .int .i64 s, .int .i64 n]) w := by
    simp [execOp, hop, resolve, invoke, Act.eval, Deferred.ofValue, en]
  unfold Oper.wp
  rw [e]
  exact (event_ok k s n w).mono (fun e w' ⟨he, hb⟩ => by subst he; exact hK w' hb)
theorem st_ld (t : Tmp) (g : Nat) (k s n : Int) (hop : o.op = .load 36 (.tmp t)) (ht : a.tmps[t]? = some (.pointer (some ⟨g, 0, none⟩))) (hb : Blk w g [.int .u8 k, .int .i64 s, .int .i64 n] 36)
    (hK : K (a.put o.dst (.agg #[.int .u8 k, .int .i64 s, .int .i64 n])) w) : o.wp Tryz.prog a w K Q := by
  have l : (loadVar 36 ⟨g, 0, none⟩).run Tryz.prog w = .ok (.agg #[.int .u8 k, .int .i64 s, .int .i64 n]) w := LDr_run hb
  have e : (execOp a.eval o).run Tryz.prog w = .ok (.value (.agg #[.int .u8 k, .int .i64 s, .int .i64 n])) w := by
    simp [execOp, hop, tmp_eval ht, Instr.loadAt, Instr.sureAddr, l]
  unfold Oper.wp
  rw [e]
  exact hK
theorem st_cp (t : Tmp) (v : Value) (hop : o.op = .assign (.tmp t)) (ht : a.tmps[t]? = some v) (hK : K (a.put o.dst v) w) : o.wp Tryz.prog a w K Q := by
  have e : (execOp a.eval o).run Tryz.prog w = .ok (.value v) w := by simp [execOp, hop, tmp_eval ht]
  unfold Oper.wp
  rw [e]
  exact hK
theorem bs2 (k0 s0 c0 k1 s1 c1 : Int) (w : World) : (Instr.buildSlice 24 2 #[(0, .agg #[.int .u8 k0, .int .i64 s0, .int .i64 c0]), (1, .agg #[.int .u8 k1, .int .i64 s1, .int .i64 c1])]).run Tryz.prog w = .ok (.slice (some ⟨w.heap.size, 0, none⟩) 2 2) (w.alloc (.cells #[.int .u8 k0, .int .i64 s0, .int .i64 c0, .int .u8 k1, .int .i64 s1, .int .i64 c1] 36)) := by kernel_rfl
theorem st_sl2 (t0 t1 : Tmp) (k0 s0 c0 k1 s1 c1 : Int) (hop : o.op = .buildSlice 24 2 #[(0, .tmp t0), (1, .tmp t1)]) (h0 : a.tmps[t0]? = some (.agg #[.int .u8 k0, .int .i64 s0, .int .i64 c0])) (h1 : a.tmps[t1]? = some (.agg #[.int .u8 k1, .int .i64 s1, .int .i64 c1]))
    (hK : K (a.put o.dst (.slice (some ⟨w.heap.size, 0, none⟩) 2 2)) (w.alloc (.cells #[.int .u8 k0, .int .i64 s0, .int .i64 c0, .int .u8 k1, .int .i64 s1, .int .i64 c1] 36))) : o.wp Tryz.prog a w K Q := by
  have e : (execOp a.eval o).run Tryz.prog w = .ok (.value (.slice (some ⟨w.heap.size, 0, none⟩) 2 2)) (w.alloc (.cells #[.int .u8 k0, .int .i64 s0, .int .i64 c0, .int .u8 k1, .int .i64 s1, .int .i64 c1] 36)) := by
    simp [execOp, hop, tmp_eval h0, tmp_eval h1, bs2]
  unfold Oper.wp
  rw [e]
  exact hK
theorem bs3 (k0 s0 c0 k1 s1 c1 k2 s2 c2 : Int) (w : World) : (Instr.buildSlice 24 3 #[(0, .agg #[.int .u8 k0, .int .i64 s0, .int .i64 c0]), (1, .agg #[.int .u8 k1, .int .i64 s1, .int .i64 c1]), (2, .agg #[.int .u8 k2, .int .i64 s2, .int .i64 c2])]).run Tryz.prog w = .ok (.slice (some ⟨w.heap.size, 0, none⟩) 3 3) (w.alloc (.cells #[.int .u8 k0, .int .i64 s0, .int .i64 c0, .int .u8 k1, .int .i64 s1, .int .i64 c1, .int .u8 k2, .int .i64 s2, .int .i64 c2] 36)) := by kernel_rfl
theorem st_sl3 (t0 t1 t2 : Tmp) (k0 s0 c0 k1 s1 c1 k2 s2 c2 : Int) (hop : o.op = .buildSlice 24 3 #[(0, .tmp t0), (1, .tmp t1), (2, .tmp t2)]) (h0 : a.tmps[t0]? = some (.agg #[.int .u8 k0, .int .i64 s0, .int .i64 c0])) (h1 : a.tmps[t1]? = some (.agg #[.int .u8 k1, .int .i64 s1, .int .i64 c1])) (h2 : a.tmps[t2]? = some (.agg #[.int .u8 k2, .int .i64 s2, .int .i64 c2]))
    (hK : K (a.put o.dst (.slice (some ⟨w.heap.size, 0, none⟩) 3 3)) (w.alloc (.cells #[.int .u8 k0, .int .i64 s0, .int .i64 c0, .int .u8 k1, .int .i64 s1, .int .i64 c1, .int .u8 k2, .int .i64 s2, .int .i64 c2] 36))) : o.wp Tryz.prog a w K Q := by
  have e : (execOp a.eval o).run Tryz.prog w = .ok (.value (.slice (some ⟨w.heap.size, 0, none⟩) 3 3)) (w.alloc (.cells #[.int .u8 k0, .int .i64 s0, .int .i64 c0, .int .u8 k1, .int .i64 s1, .int .i64 c1, .int .u8 k2, .int .i64 s2, .int .i64 c2] 36)) := by
    simp [execOp, hop, tmp_eval h0, tmp_eval h1, tmp_eval h2, bs3]
  unfold Oper.wp
  rw [e]
  exact hK
theorem bs4 (k0 s0 c0 k1 s1 c1 k2 s2 c2 k3 s3 c3 : Int) (w : World) : (Instr.buildSlice 24 4 #[(0, .agg #[.int .u8 k0, .int .i64 s0, .int .i64 c0]), (1, .agg #[.int .u8 k1, .int .i64 s1, .int .i64 c1]), (2, .agg #[.int .u8 k2, .int .i64 s2, .int .i64 c2]), (3, .agg #[.int .u8 k3, .int .i64 s3, .int .i64 c3])]).run Tryz.prog w = .ok (.slice (some ⟨w.heap.size, 0, none⟩) 4 4) (w.alloc (.cells #[.int .u8 k0, .int .i64 s0, .int .i64 c0, .int .u8 k1, .int .i64 s1, .int .i64 c1, .int .u8 k2, .int .i64 s2, .int .i64 c2, .int .u8 k3, .int .i64 s3, .int .i64 c3] 36)) := by kernel_rfl
theorem st_sl4 (t0 t1 t2 t3 : Tmp) (k0 s0 c0 k1 s1 c1 k2 s2 c2 k3 s3 c3 : Int) (hop : o.op = .buildSlice 24 4 #[(0, .tmp t0), (1, .tmp t1), (2, .tmp t2), (3, .tmp t3)]) (h0 : a.tmps[t0]? = some (.agg #[.int .u8 k0, .int .i64 s0, .int .i64 c0])) (h1 : a.tmps[t1]? = some (.agg #[.int .u8 k1, .int .i64 s1, .int .i64 c1])) (h2 : a.tmps[t2]? = some (.agg #[.int .u8 k2, .int .i64 s2, .int .i64 c2])) (h3 : a.tmps[t3]? = some (.agg #[.int .u8 k3, .int .i64 s3, .int .i64 c3]))
    (hK : K (a.put o.dst (.slice (some ⟨w.heap.size, 0, none⟩) 4 4)) (w.alloc (.cells #[.int .u8 k0, .int .i64 s0, .int .i64 c0, .int .u8 k1, .int .i64 s1, .int .i64 c1, .int .u8 k2, .int .i64 s2, .int .i64 c2, .int .u8 k3, .int .i64 s3, .int .i64 c3] 36))) : o.wp Tryz.prog a w K Q := by
  have e : (execOp a.eval o).run Tryz.prog w = .ok (.value (.slice (some ⟨w.heap.size, 0, none⟩) 4 4)) (w.alloc (.cells #[.int .u8 k0, .int .i64 s0, .int .i64 c0, .int .u8 k1, .int .i64 s1, .int .i64 c1, .int .u8 k2, .int .i64 s2, .int .i64 c2, .int .u8 k3, .int .i64 s3, .int .i64 c3] 36)) := by
    simp [execOp, hop, tmp_eval h0, tmp_eval h1, tmp_eval h2, tmp_eval h3, bs4]
  unfold Oper.wp
  rw [e]
  exact hK
theorem bs5 (k0 s0 c0 k1 s1 c1 k2 s2 c2 k3 s3 c3 k4 s4 c4 : Int) (w : World) : (Instr.buildSlice 24 5 #[(0, .agg #[.int .u8 k0, .int .i64 s0, .int .i64 c0]), (1, .agg #[.int .u8 k1, .int .i64 s1, .int .i64 c1]), (2, .agg #[.int .u8 k2, .int .i64 s2, .int .i64 c2]), (3, .agg #[.int .u8 k3, .int .i64 s3, .int .i64 c3]), (4, .agg #[.int .u8 k4, .int .i64 s4, .int .i64 c4])]).run Tryz.prog w = .ok (.slice (some ⟨w.heap.size, 0, none⟩) 5 5) (w.alloc (.cells #[.int .u8 k0, .int .i64 s0, .int .i64 c0, .int .u8 k1, .int .i64 s1, .int .i64 c1, .int .u8 k2, .int .i64 s2, .int .i64 c2, .int .u8 k3, .int .i64 s3, .int .i64 c3, .int .u8 k4, .int .i64 s4, .int .i64 c4] 36)) := by kernel_rfl
theorem st_sl5 (t0 t1 t2 t3 t4 : Tmp) (k0 s0 c0 k1 s1 c1 k2 s2 c2 k3 s3 c3 k4 s4 c4 : Int) (hop : o.op = .buildSlice 24 5 #[(0, .tmp t0), (1, .tmp t1), (2, .tmp t2), (3, .tmp t3), (4, .tmp t4)]) (h0 : a.tmps[t0]? = some (.agg #[.int .u8 k0, .int .i64 s0, .int .i64 c0])) (h1 : a.tmps[t1]? = some (.agg #[.int .u8 k1, .int .i64 s1, .int .i64 c1])) (h2 : a.tmps[t2]? = some (.agg #[.int .u8 k2, .int .i64 s2, .int .i64 c2])) (h3 : a.tmps[t3]? = some (.agg #[.int .u8 k3, .int .i64 s3, .int .i64 c3])) (h4 : a.tmps[t4]? = some (.agg #[.int .u8 k4, .int .i64 s4, .int .i64 c4]))
    (hK : K (a.put o.dst (.slice (some ⟨w.heap.size, 0, none⟩) 5 5)) (w.alloc (.cells #[.int .u8 k0, .int .i64 s0, .int .i64 c0, .int .u8 k1, .int .i64 s1, .int .i64 c1, .int .u8 k2, .int .i64 s2, .int .i64 c2, .int .u8 k3, .int .i64 s3, .int .i64 c3, .int .u8 k4, .int .i64 s4, .int .i64 c4] 36))) : o.wp Tryz.prog a w K Q := by
  have e : (execOp a.eval o).run Tryz.prog w = .ok (.value (.slice (some ⟨w.heap.size, 0, none⟩) 5 5)) (w.alloc (.cells #[.int .u8 k0, .int .i64 s0, .int .i64 c0, .int .u8 k1, .int .i64 s1, .int .i64 c1, .int .u8 k2, .int .i64 s2, .int .i64 c2, .int .u8 k3, .int .i64 s3, .int .i64 c3, .int .u8 k4, .int .i64 s4, .int .i64 c4] 36)) := by
    simp [execOp, hop, tmp_eval h0, tmp_eval h1, tmp_eval h2, tmp_eval h3, tmp_eval h4, bs5]
  unfold Oper.wp
  rw [e]
  exact hK
theorem bsl (g0 g1 g2 g3 g4 g5 g6 g7 g8 g9 n0 n1 n2 n3 n4 n5 n6 n7 n8 n9 : Nat) (w : World) : (Instr.buildSlice 52 10 #[(0, .slice (some ⟨g0, 0, none⟩) n0 n0), (1, .slice (some ⟨g1, 0, none⟩) n1 n1), (2, .slice (some ⟨g2, 0, none⟩) n2 n2), (3, .slice (some ⟨g3, 0, none⟩) n3 n3), (4, .slice (some ⟨g4, 0, none⟩) n4 n4), (5, .slice (some ⟨g5, 0, none⟩) n5 n5), (6, .slice (some ⟨g6, 0, none⟩) n6 n6), (7, .slice (some ⟨g7, 0, none⟩) n7 n7), (8, .slice (some ⟨g8, 0, none⟩) n8 n8), (9, .slice (some ⟨g9, 0, none⟩) n9 n9)]).run Tryz.prog w = .ok (.slice (some ⟨w.heap.size, 0, none⟩) 10 10) (w.alloc (.cells #[.slice (some ⟨g0, 0, none⟩) n0 n0, .slice (some ⟨g1, 0, none⟩) n1 n1, .slice (some ⟨g2, 0, none⟩) n2 n2, .slice (some ⟨g3, 0, none⟩) n3 n3, .slice (some ⟨g4, 0, none⟩) n4 n4, .slice (some ⟨g5, 0, none⟩) n5 n5, .slice (some ⟨g6, 0, none⟩) n6 n6, .slice (some ⟨g7, 0, none⟩) n7 n7, .slice (some ⟨g8, 0, none⟩) n8 n8, .slice (some ⟨g9, 0, none⟩) n9 n9] 24)) := by kernel_rfl
theorem st_ll (t0 t1 t2 t3 t4 t5 t6 t7 t8 t9 : Tmp) (g0 g1 g2 g3 g4 g5 g6 g7 g8 g9 n0 n1 n2 n3 n4 n5 n6 n7 n8 n9 : Nat) (hop : o.op = .buildSlice 52 10 #[(0, .tmp t0), (1, .tmp t1), (2, .tmp t2), (3, .tmp t3), (4, .tmp t4), (5, .tmp t5), (6, .tmp t6), (7, .tmp t7), (8, .tmp t8), (9, .tmp t9)]) (h0 : a.tmps[t0]? = some (.slice (some ⟨g0, 0, none⟩) n0 n0)) (h1 : a.tmps[t1]? = some (.slice (some ⟨g1, 0, none⟩) n1 n1)) (h2 : a.tmps[t2]? = some (.slice (some ⟨g2, 0, none⟩) n2 n2)) (h3 : a.tmps[t3]? = some (.slice (some ⟨g3, 0, none⟩) n3 n3)) (h4 : a.tmps[t4]? = some (.slice (some ⟨g4, 0, none⟩) n4 n4)) (h5 : a.tmps[t5]? = some (.slice (some ⟨g5, 0, none⟩) n5 n5)) (h6 : a.tmps[t6]? = some (.slice (some ⟨g6, 0, none⟩) n6 n6)) (h7 : a.tmps[t7]? = some (.slice (some ⟨g7, 0, none⟩) n7 n7)) (h8 : a.tmps[t8]? = some (.slice (some ⟨g8, 0, none⟩) n8 n8)) (h9 : a.tmps[t9]? = some (.slice (some ⟨g9, 0, none⟩) n9 n9))
    (hK : K (a.put o.dst (.slice (some ⟨w.heap.size, 0, none⟩) 10 10)) (w.alloc (.cells #[.slice (some ⟨g0, 0, none⟩) n0 n0, .slice (some ⟨g1, 0, none⟩) n1 n1, .slice (some ⟨g2, 0, none⟩) n2 n2, .slice (some ⟨g3, 0, none⟩) n3 n3, .slice (some ⟨g4, 0, none⟩) n4 n4, .slice (some ⟨g5, 0, none⟩) n5 n5, .slice (some ⟨g6, 0, none⟩) n6 n6, .slice (some ⟨g7, 0, none⟩) n7 n7, .slice (some ⟨g8, 0, none⟩) n8 n8, .slice (some ⟨g9, 0, none⟩) n9 n9] 24))) : o.wp Tryz.prog a w K Q := by
  have e : (execOp a.eval o).run Tryz.prog w = .ok (.value (.slice (some ⟨w.heap.size, 0, none⟩) 10 10)) (w.alloc (.cells #[.slice (some ⟨g0, 0, none⟩) n0 n0, .slice (some ⟨g1, 0, none⟩) n1 n1, .slice (some ⟨g2, 0, none⟩) n2 n2, .slice (some ⟨g3, 0, none⟩) n3 n3, .slice (some ⟨g4, 0, none⟩) n4 n4, .slice (some ⟨g5, 0, none⟩) n5 n5, .slice (some ⟨g6, 0, none⟩) n6 n6, .slice (some ⟨g7, 0, none⟩) n7 n7, .slice (some ⟨g8, 0, none⟩) n8 n8, .slice (some ⟨g9, 0, none⟩) n9 n9] 24)) := by
    simp [execOp, hop, tmp_eval h0, tmp_eval h1, tmp_eval h2, tmp_eval h3, tmp_eval h4, tmp_eval h5, tmp_eval h6, tmp_eval h7, tmp_eval h8, tmp_eval h9, bsl]
  unfold Oper.wp
  rw [e]
  exact hK
end
/-- A list of runs in a block of its own. -/
def RowAt (v : Value) (w : World) (L : List Ru) : Prop := ∃ g, v = .slice (some ⟨g, 0, none⟩) L.length L.length ∧ Blk w g (rl L) 36
def RowsAt (v : Value) (w : World) (Ls : List (List Ru)) : Prop := ∃ g us, v = .slice (some ⟨g, 0, none⟩) Ls.length Ls.length ∧ Blk w g us 24 ∧ us.length = Ls.length ∧ ∀ (j : Nat) (L : List Ru), Ls[j]? = some L → ∃ u, us[j]? = some u ∧ RowAt u w L
theorem RowAt.below {v : Value} {w w' : World} {L : List Ru} (h : RowAt v w L) (hb : Below w.heap.size w w') : RowAt v w' L := by obtain ⟨g, e, k⟩ := h; exact ⟨g, e, k.below hb⟩
theorem RowsAt.below {v : Value} {w w' : World} {Ls : List (List Ru)} (h : RowsAt v w Ls) (hb : Below w.heap.size w w') : RowsAt v w' Ls := by
  obtain ⟨g, us, e, k, l, r⟩ := h
  exact ⟨g, us, e, k.below hb, l, fun j L hj => by obtain ⟨u, h1, h2⟩ := r j L hj; exact ⟨u, h1, h2.below hb⟩⟩
theorem RowAt.own {v : Value} {w : World} {L : List Ru} (h : RowAt v w L) (hL : ∀ r ∈ L, r.Ok) (hm : L.length ≤ 1000) : Own w 0 v L := by
  obtain ⟨g, e, k⟩ := h
  refine ⟨hL, rl_length L, .inr ⟨g, L.length, (rl L).toArray, e, Nat.zero_le _, k, Nat.le_refl _, by simp only [maxLen]; omega, by simp [rl_length], ?_⟩⟩
  show (rl L).take (L.length * 3) = rl L
  rw [← rl_length L, List.take_length]
def XR (i : Nat) (v : Value) (w : World) : Prop :=
  match i with
  | 0 => v = .agg #[.int .u8 11, .int .i64 1, .int .i64 1]
  | 1 => v = .agg #[.int .u8 12, .int .i64 0, .int .i64 1]
  | 2 => RowAt v w [⟨11, 1, 1⟩, ⟨12, 0, 1⟩]
  | 3 => v = .agg #[.int .u8 11, .int .i64 2, .int .i64 1]
  | 4 => v = .agg #[.int .u8 4, .int .i64 16, .int .i64 1]
  | 5 => v = .agg #[.int .u8 5, .int .i64 16, .int .i64 1]
  | 6 => v = .agg #[.int .u8 12, .int .i64 0, .int .i64 1]
  | 7 => RowAt v w [⟨11, 2, 1⟩, ⟨4, 16, 1⟩, ⟨5, 16, 1⟩, ⟨12, 0, 1⟩]
  | 8 => v = .agg #[.int .u8 11, .int .i64 3, .int .i64 1]
  | 9 => v = .agg #[.int .u8 5, .int .i64 16, .int .i64 2]
  | 10 => v = .agg #[.int .u8 12, .int .i64 0, .int .i64 1]
  | 11 => RowAt v w [⟨11, 3, 1⟩, ⟨5, 16, 2⟩, ⟨12, 0, 1⟩]
  | 12 => v = .agg #[.int .u8 11, .int .i64 4, .int .i64 1]
  | 13 => v = .agg #[.int .u8 5, .int .i64 16, .int .i64 1]
  | 14 => v = .agg #[.int .u8 8, .int .i64 1024, .int .i64 1]
  | 15 => v = .agg #[.int .u8 12, .int .i64 0, .int .i64 1]
  | 16 => RowAt v w [⟨11, 4, 1⟩, ⟨5, 16, 1⟩, ⟨8, 1024, 1⟩, ⟨12, 0, 1⟩]
  | 17 => v = .agg #[.int .u8 11, .int .i64 2, .int .i64 1]
  | 18 => v = .agg #[.int .u8 1, .int .i64 64, .int .i64 2]
  | 19 => v = .agg #[.int .u8 12, .int .i64 0, .int .i64 1]
  | 20 => RowAt v w [⟨11, 2, 1⟩, ⟨1, 64, 2⟩, ⟨12, 0, 1⟩]
  | 21 => v = .agg #[.int .u8 11, .int .i64 5, .int .i64 1]
  | 22 => v = .agg #[.int .u8 1, .int .i64 64, .int .i64 2]
  | 23 => v = .agg #[.int .u8 6, .int .i64 20, .int .i64 1]
  | 24 => v = .agg #[.int .u8 8, .int .i64 1024, .int .i64 1]
  | 25 => v = .agg #[.int .u8 12, .int .i64 0, .int .i64 1]
  | 26 => RowAt v w [⟨11, 5, 1⟩, ⟨1, 64, 2⟩, ⟨6, 20, 1⟩, ⟨8, 1024, 1⟩, ⟨12, 0, 1⟩]
  | 27 => v = .agg #[.int .u8 11, .int .i64 8, .int .i64 1]
  | 28 => v = .agg #[.int .u8 2, .int .i64 128, .int .i64 14]
  | 29 => v = .agg #[.int .u8 12, .int .i64 0, .int .i64 1]
  | 30 => RowAt v w [⟨11, 8, 1⟩, ⟨2, 128, 14⟩, ⟨12, 0, 1⟩]
  | 31 => v = .agg #[.int .u8 11, .int .i64 4, .int .i64 1]
  | 32 => v = .agg #[.int .u8 12, .int .i64 6, .int .i64 1]
  | 33 => RowAt v w [⟨11, 4, 1⟩, ⟨12, 6, 1⟩]
  | 34 => v = .agg #[.int .u8 11, .int .i64 10, .int .i64 1]
  | 35 => v = .agg #[.int .u8 12, .int .i64 5, .int .i64 1]
  | 36 => RowAt v w [⟨11, 10, 1⟩, ⟨12, 5, 1⟩]
  | 37 => v = .agg #[.int .u8 11, .int .i64 99, .int .i64 1]
  | 38 => v = .agg #[.int .u8 12, .int .i64 3, .int .i64 1]
  | 39 => RowAt v w [⟨11, 99, 1⟩, ⟨12, 3, 1⟩]
  | 40 => RowsAt v w exr
  | 41 => RowsAt v w exr
  | _ => True
theorem XR_below : ∀ i v w w', XR i v w → Below w.heap.size w w' → XR i v w' := by
  intro i v w w' h hb
  unfold XR at h ⊢
  split at h <;> first | exact h | exact RowAt.below h hb | exact RowsAt.below h hb | trivial
end Go.Proofs.YtdmacflcjbkkpabGreat.Co
namespace Go.Proofs.YtdmacflcjbkkpabGreat.Co
open Go.ChangeShapes Go.WideShapes Go.ChangeAt Go.RowKit
open Go.Proofs.YtdmacflcjbkkpabGreat (putL rl)
open Go.Proofs.YtdmacflcjbkkpabGreat.Ou (Sk sv sL zS LDk SVk LDk_run SVk_run)
open Go.Proofs.YtdmacflcjbkkpabGreat.Tb (Blk Blk.newAt put_all Kp.setCells results_cell1 results_cell2)
open Go.Proofs.YtdmacflcjbkkpabGreat.Xr
def exf (i : Nat) : Sk := exl.getD i zS
theorem exf_lf : lf exf 10 = exl := by rfl
theorem no_dst {ops : Array Oper} {t : Tmp} (h : ((List.range ops.size).all fun i => dstOf ops i != some t) = true) : ∀ i, dstOf ops i ≠ some t := fun i hi => by
  obtain ⟨o, ho, hd⟩ := dst_inv hi
  have hlt : i < ops.size := (Array.getElem?_eq_some_iff.1 ho).1
  have := List.all_eq_true.1 h i (by simpa using hlt)
  simp only [bne_iff_ne, ne_eq] at this
  exact this hi
set_option maxRecDepth 100000 in
set_option maxHeartbeats 4000000 in
theorem example_ok (w : World) : Calls Tryz.prog 16 #[] w fun e w' => ∃ v2 g, e = .returned (.tuple #[.slice (some ⟨g, 0, none⟩) 10 10, v2]) ∧ Blk w' g (Sx.sl 10 exf) 31 ∧ RowsAt v2 w' exr ∧ Below w.heap.size w w' := by
  obtain ⟨W, hW⟩ : ∃ W, w.alloc (.cells (Sx.sl 10 exf).toArray 31) = W := ⟨_, rfl⟩
  have BW : Hid (Below w.heap.size w W) := by rw [← hW]; exact below_alloc _ _
  have KL : Hid (Blk W w.heap.size (Sx.sl 10 exf) 31) := by rw [← hW]; exact Blk.newAt w _ _ _ w.heap.size rfl rfl
  have hW' : w.alloc (.cells #[.int .u8 1, .int .i64 0, .int .u8 0, .int .i64 0, .int .i64 0, .int .i64 16, .int .i64 0, .int .u8 2, .int .i64 0, .int .u8 3, .int .i64 0, .int .i64 16, .int .i64 0, .int .i64 0, .int .u8 3, .int .i64 1, .int .u8 0, .int .i64 0, .int .i64 0, .int .i64 33, .int .i64 0, .int .u8 4, .int .i64 1, .int .u8 0, .int .i64 0, .int .i64 0, .int .i64 0, .int .i64 0, .int .u8 2, .int .i64 0, .int .u8 1, .int .i64 0, .int .i64 20, .int .i64 0, .int .i64 0, .int .u8 5, .int .i64 1, .int .u8 0, .int .i64 0, .int .i64 0, .int .i64 20, .int .i64 0, .int .u8 8, .int .i64 0, .int .u8 2, .int .i64 3, .int .i64 65, .int .i64 4, .int .i64 0, .int .u8 4, .int .i64 0, .int .u8 0, .int .i64 0, .int .i64 0, .int .i64 0, .int .i64 0, .int .u8 10, .int .i64 5, .int .u8 0, .int .i64 0, .int .i64 0, .int .i64 0, .int .i64 0, .int .u8 99, .int .i64 0, .int .u8 0, .int .i64 0, .int .i64 0, .int .i64 0, .int .i64 0] 31) = W := hW
  clear hW
  go_enter Tryz.func16, Tryz.ntmps16
  go_wp2_with fail
  clear hW'
  refine (event_ok 12 0 1 _).mono ?_
  rintro e W1 ⟨rfl, hb⟩
  have N1 : Hid (Below W.heap.size W W1) := hid hb
  obtain ⟨U, hU⟩ : ∃ U, W1.alloc (.cells #[.int .u8 0, .int .i64 0, .int .i64 0] 36) = U := ⟨_, rfl⟩
  have NU : Hid (Below W1.heap.size W1 U) := by rw [← hU]; exact below_alloc _ _
  have ku : Blk U W1.heap.size [.int .u8 0, .int .i64 0, .int .i64 0] 36 := by rw [← hU]; exact Blk.newAt W1 _ _ _ W1.heap.size rfl rfl
  obtain ⟨V, s1, kv, hkv⟩ := SVr_run 12 0 1 ku rfl
  have KV := hid kv
  have NV : Hid (Below W.heap.size W V) := hid (below_next N1.out (NU.out.trans (hkv.below NU.out.size (fun k h e => by omega))))
  obtain ⟨ge, hge⟩ : ∃ ge, W1.heap.size = ge := ⟨_, rfl⟩
  rw [hge] at KV s1
  clear ku kv hkv hb
  go_wp2_with fail
  clear hU hge s1
  refine region_okB (R := XR) (by kernel_rfl) (by kernel_rfl) XR_below ?_ ?_
  · intro i o ho listed a w3 h dep K hK
    match i, ho with
    | 0, ho =>
      cases ho
      exact st_ev 11 1 1 rfl (fun w4 hb => hK _ w4 hb (fun _ _ => rfl))
    | 1, ho =>
      cases ho
      exact st_ld 3 ge 12 0 1 rfl ((h.keep 3 (no_dst (by kernel_rfl))).trans rfl) (KV.out.below h.bel) (hK _ w3 (Below.refl _ _) (fun _ _ => rfl))
    | 2, ho =>
      cases ho
      obtain ⟨v0, h0, r0⟩ := h.done 0 17 (dep ⟨0, .data⟩ (by simp) rfl) rfl
      obtain rfl : v0 = .agg #[.int .u8 11, .int .i64 1, .int .i64 1] := r0
      obtain ⟨v1, h1, r1⟩ := h.done 1 18 (dep ⟨1, .data⟩ (by simp) rfl) rfl
      obtain rfl : v1 = .agg #[.int .u8 12, .int .i64 0, .int .i64 1] := r1
      exact st_sl2 17 18 11 1 1 12 0 1 rfl h0 h1 (hK _ _ (below_alloc _ _) (fun _ _ => ⟨w3.heap.size, rfl, Blk.newAt w3 _ _ _ w3.heap.size rfl rfl⟩))
    | 3, ho =>
      cases ho
      exact st_ev 11 2 1 rfl (fun w4 hb => hK _ w4 hb (fun _ _ => rfl))
    | 4, ho =>
      cases ho
      exact st_ev 4 16 1 rfl (fun w4 hb => hK _ w4 hb (fun _ _ => rfl))
    | 5, ho =>
      cases ho
      exact st_ev 5 16 1 rfl (fun w4 hb => hK _ w4 hb (fun _ _ => rfl))
    | 6, ho =>
      cases ho
      exact st_ld 3 ge 12 0 1 rfl ((h.keep 3 (no_dst (by kernel_rfl))).trans rfl) (KV.out.below h.bel) (hK _ w3 (Below.refl _ _) (fun _ _ => rfl))
    | 7, ho =>
      cases ho
      obtain ⟨v0, h0, r0⟩ := h.done 3 20 (dep ⟨3, .data⟩ (by simp) rfl) rfl
      obtain rfl : v0 = .agg #[.int .u8 11, .int .i64 2, .int .i64 1] := r0
      obtain ⟨v1, h1, r1⟩ := h.done 4 21 (dep ⟨4, .data⟩ (by simp) rfl) rfl
      obtain rfl : v1 = .agg #[.int .u8 4, .int .i64 16, .int .i64 1] := r1
      obtain ⟨v2, h2, r2⟩ := h.done 5 22 (dep ⟨5, .data⟩ (by simp) rfl) rfl
      obtain rfl : v2 = .agg #[.int .u8 5, .int .i64 16, .int .i64 1] := r2
      obtain ⟨v3, h3, r3⟩ := h.done 6 23 (dep ⟨6, .data⟩ (by simp) rfl) rfl
      obtain rfl : v3 = .agg #[.int .u8 12, .int .i64 0, .int .i64 1] := r3
      exact st_sl4 20 21 22 23 11 2 1 4 16 1 5 16 1 12 0 1 rfl h0 h1 h2 h3 (hK _ _ (below_alloc _ _) (fun _ _ => ⟨w3.heap.size, rfl, Blk.newAt w3 _ _ _ w3.heap.size rfl rfl⟩))
    | 8, ho =>
      cases ho
      exact st_ev 11 3 1 rfl (fun w4 hb => hK _ w4 hb (fun _ _ => rfl))
    | 9, ho =>
      cases ho
      exact st_ev 5 16 2 rfl (fun w4 hb => hK _ w4 hb (fun _ _ => rfl))
    | 10, ho =>
      cases ho
      exact st_ld 3 ge 12 0 1 rfl ((h.keep 3 (no_dst (by kernel_rfl))).trans rfl) (KV.out.below h.bel) (hK _ w3 (Below.refl _ _) (fun _ _ => rfl))
    | 11, ho =>
      cases ho
      obtain ⟨v0, h0, r0⟩ := h.done 8 25 (dep ⟨8, .data⟩ (by simp) rfl) rfl
      obtain rfl : v0 = .agg #[.int .u8 11, .int .i64 3, .int .i64 1] := r0
      obtain ⟨v1, h1, r1⟩ := h.done 9 26 (dep ⟨9, .data⟩ (by simp) rfl) rfl
      obtain rfl : v1 = .agg #[.int .u8 5, .int .i64 16, .int .i64 2] := r1
      obtain ⟨v2, h2, r2⟩ := h.done 10 27 (dep ⟨10, .data⟩ (by simp) rfl) rfl
      obtain rfl : v2 = .agg #[.int .u8 12, .int .i64 0, .int .i64 1] := r2
      exact st_sl3 25 26 27 11 3 1 5 16 2 12 0 1 rfl h0 h1 h2 (hK _ _ (below_alloc _ _) (fun _ _ => ⟨w3.heap.size, rfl, Blk.newAt w3 _ _ _ w3.heap.size rfl rfl⟩))
    | 12, ho =>
      cases ho
      exact st_ev 11 4 1 rfl (fun w4 hb => hK _ w4 hb (fun _ _ => rfl))
    | 13, ho =>
      cases ho
      exact st_ev 5 16 1 rfl (fun w4 hb => hK _ w4 hb (fun _ _ => rfl))
    | 14, ho =>
      cases ho
      exact st_ev 8 1024 1 rfl (fun w4 hb => hK _ w4 hb (fun _ _ => rfl))
    | 15, ho =>
      cases ho
      exact st_ld 3 ge 12 0 1 rfl ((h.keep 3 (no_dst (by kernel_rfl))).trans rfl) (KV.out.below h.bel) (hK _ w3 (Below.refl _ _) (fun _ _ => rfl))
    | 16, ho =>
      cases ho
      obtain ⟨v0, h0, r0⟩ := h.done 12 29 (dep ⟨12, .data⟩ (by simp) rfl) rfl
      obtain rfl : v0 = .agg #[.int .u8 11, .int .i64 4, .int .i64 1] := r0
      obtain ⟨v1, h1, r1⟩ := h.done 13 30 (dep ⟨13, .data⟩ (by simp) rfl) rfl
      obtain rfl : v1 = .agg #[.int .u8 5, .int .i64 16, .int .i64 1] := r1
      obtain ⟨v2, h2, r2⟩ := h.done 14 31 (dep ⟨14, .data⟩ (by simp) rfl) rfl
      obtain rfl : v2 = .agg #[.int .u8 8, .int .i64 1024, .int .i64 1] := r2
      obtain ⟨v3, h3, r3⟩ := h.done 15 32 (dep ⟨15, .data⟩ (by simp) rfl) rfl
      obtain rfl : v3 = .agg #[.int .u8 12, .int .i64 0, .int .i64 1] := r3
      exact st_sl4 29 30 31 32 11 4 1 5 16 1 8 1024 1 12 0 1 rfl h0 h1 h2 h3 (hK _ _ (below_alloc _ _) (fun _ _ => ⟨w3.heap.size, rfl, Blk.newAt w3 _ _ _ w3.heap.size rfl rfl⟩))
    | 17, ho =>
      cases ho
      exact st_ev 11 2 1 rfl (fun w4 hb => hK _ w4 hb (fun _ _ => rfl))
    | 18, ho =>
      cases ho
      exact st_ev 1 64 2 rfl (fun w4 hb => hK _ w4 hb (fun _ _ => rfl))
    | 19, ho =>
      cases ho
      exact st_ld 3 ge 12 0 1 rfl ((h.keep 3 (no_dst (by kernel_rfl))).trans rfl) (KV.out.below h.bel) (hK _ w3 (Below.refl _ _) (fun _ _ => rfl))
    | 20, ho =>
      cases ho
      obtain ⟨v0, h0, r0⟩ := h.done 17 34 (dep ⟨17, .data⟩ (by simp) rfl) rfl
      obtain rfl : v0 = .agg #[.int .u8 11, .int .i64 2, .int .i64 1] := r0
      obtain ⟨v1, h1, r1⟩ := h.done 18 35 (dep ⟨18, .data⟩ (by simp) rfl) rfl
      obtain rfl : v1 = .agg #[.int .u8 1, .int .i64 64, .int .i64 2] := r1
      obtain ⟨v2, h2, r2⟩ := h.done 19 36 (dep ⟨19, .data⟩ (by simp) rfl) rfl
      obtain rfl : v2 = .agg #[.int .u8 12, .int .i64 0, .int .i64 1] := r2
      exact st_sl3 34 35 36 11 2 1 1 64 2 12 0 1 rfl h0 h1 h2 (hK _ _ (below_alloc _ _) (fun _ _ => ⟨w3.heap.size, rfl, Blk.newAt w3 _ _ _ w3.heap.size rfl rfl⟩))
    | 21, ho =>
      cases ho
      exact st_ev 11 5 1 rfl (fun w4 hb => hK _ w4 hb (fun _ _ => rfl))
    | 22, ho =>
      cases ho
      exact st_ev 1 64 2 rfl (fun w4 hb => hK _ w4 hb (fun _ _ => rfl))
    | 23, ho =>
      cases ho
      exact st_ev 6 20 1 rfl (fun w4 hb => hK _ w4 hb (fun _ _ => rfl))
    | 24, ho =>
      cases ho
      exact st_ev 8 1024 1 rfl (fun w4 hb => hK _ w4 hb (fun _ _ => rfl))
    | 25, ho =>
      cases ho
      exact st_ld 3 ge 12 0 1 rfl ((h.keep 3 (no_dst (by kernel_rfl))).trans rfl) (KV.out.below h.bel) (hK _ w3 (Below.refl _ _) (fun _ _ => rfl))
    | 26, ho =>
      cases ho
      obtain ⟨v0, h0, r0⟩ := h.done 21 38 (dep ⟨21, .data⟩ (by simp) rfl) rfl
      obtain rfl : v0 = .agg #[.int .u8 11, .int .i64 5, .int .i64 1] := r0
      obtain ⟨v1, h1, r1⟩ := h.done 22 39 (dep ⟨22, .data⟩ (by simp) rfl) rfl
      obtain rfl : v1 = .agg #[.int .u8 1, .int .i64 64, .int .i64 2] := r1
      obtain ⟨v2, h2, r2⟩ := h.done 23 40 (dep ⟨23, .data⟩ (by simp) rfl) rfl
      obtain rfl : v2 = .agg #[.int .u8 6, .int .i64 20, .int .i64 1] := r2
      obtain ⟨v3, h3, r3⟩ := h.done 24 41 (dep ⟨24, .data⟩ (by simp) rfl) rfl
      obtain rfl : v3 = .agg #[.int .u8 8, .int .i64 1024, .int .i64 1] := r3
      obtain ⟨v4, h4, r4⟩ := h.done 25 42 (dep ⟨25, .data⟩ (by simp) rfl) rfl
      obtain rfl : v4 = .agg #[.int .u8 12, .int .i64 0, .int .i64 1] := r4
      exact st_sl5 38 39 40 41 42 11 5 1 1 64 2 6 20 1 8 1024 1 12 0 1 rfl h0 h1 h2 h3 h4 (hK _ _ (below_alloc _ _) (fun _ _ => ⟨w3.heap.size, rfl, Blk.newAt w3 _ _ _ w3.heap.size rfl rfl⟩))
    | 27, ho =>
      cases ho
      exact st_ev 11 8 1 rfl (fun w4 hb => hK _ w4 hb (fun _ _ => rfl))
    | 28, ho =>
      cases ho
      exact st_ev 2 128 14 rfl (fun w4 hb => hK _ w4 hb (fun _ _ => rfl))
    | 29, ho =>
      cases ho
      exact st_ld 3 ge 12 0 1 rfl ((h.keep 3 (no_dst (by kernel_rfl))).trans rfl) (KV.out.below h.bel) (hK _ w3 (Below.refl _ _) (fun _ _ => rfl))
    | 30, ho =>
      cases ho
      obtain ⟨v0, h0, r0⟩ := h.done 27 44 (dep ⟨27, .data⟩ (by simp) rfl) rfl
      obtain rfl : v0 = .agg #[.int .u8 11, .int .i64 8, .int .i64 1] := r0
      obtain ⟨v1, h1, r1⟩ := h.done 28 45 (dep ⟨28, .data⟩ (by simp) rfl) rfl
      obtain rfl : v1 = .agg #[.int .u8 2, .int .i64 128, .int .i64 14] := r1
      obtain ⟨v2, h2, r2⟩ := h.done 29 46 (dep ⟨29, .data⟩ (by simp) rfl) rfl
      obtain rfl : v2 = .agg #[.int .u8 12, .int .i64 0, .int .i64 1] := r2
      exact st_sl3 44 45 46 11 8 1 2 128 14 12 0 1 rfl h0 h1 h2 (hK _ _ (below_alloc _ _) (fun _ _ => ⟨w3.heap.size, rfl, Blk.newAt w3 _ _ _ w3.heap.size rfl rfl⟩))
    | 31, ho =>
      cases ho
      exact st_ev 11 4 1 rfl (fun w4 hb => hK _ w4 hb (fun _ _ => rfl))
    | 32, ho =>
      cases ho
      exact st_ev 12 6 1 rfl (fun w4 hb => hK _ w4 hb (fun _ _ => rfl))
    | 33, ho =>
      cases ho
      obtain ⟨v0, h0, r0⟩ := h.done 31 48 (dep ⟨31, .data⟩ (by simp) rfl) rfl
      obtain rfl : v0 = .agg #[.int .u8 11, .int .i64 4, .int .i64 1] := r0
      obtain ⟨v1, h1, r1⟩ := h.done 32 49 (dep ⟨32, .data⟩ (by simp) rfl) rfl
      obtain rfl : v1 = .agg #[.int .u8 12, .int .i64 6, .int .i64 1] := r1
      exact st_sl2 48 49 11 4 1 12 6 1 rfl h0 h1 (hK _ _ (below_alloc _ _) (fun _ _ => ⟨w3.heap.size, rfl, Blk.newAt w3 _ _ _ w3.heap.size rfl rfl⟩))
    | 34, ho =>
      cases ho
      exact st_ev 11 10 1 rfl (fun w4 hb => hK _ w4 hb (fun _ _ => rfl))
    | 35, ho =>
      cases ho
      exact st_ev 12 5 1 rfl (fun w4 hb => hK _ w4 hb (fun _ _ => rfl))
    | 36, ho =>
      cases ho
      obtain ⟨v0, h0, r0⟩ := h.done 34 51 (dep ⟨34, .data⟩ (by simp) rfl) rfl
      obtain rfl : v0 = .agg #[.int .u8 11, .int .i64 10, .int .i64 1] := r0
      obtain ⟨v1, h1, r1⟩ := h.done 35 52 (dep ⟨35, .data⟩ (by simp) rfl) rfl
      obtain rfl : v1 = .agg #[.int .u8 12, .int .i64 5, .int .i64 1] := r1
      exact st_sl2 51 52 11 10 1 12 5 1 rfl h0 h1 (hK _ _ (below_alloc _ _) (fun _ _ => ⟨w3.heap.size, rfl, Blk.newAt w3 _ _ _ w3.heap.size rfl rfl⟩))
    | 37, ho =>
      cases ho
      exact st_ev 11 99 1 rfl (fun w4 hb => hK _ w4 hb (fun _ _ => rfl))
    | 38, ho =>
      cases ho
      exact st_ev 12 3 1 rfl (fun w4 hb => hK _ w4 hb (fun _ _ => rfl))
    | 39, ho =>
      cases ho
      obtain ⟨v0, h0, r0⟩ := h.done 37 54 (dep ⟨37, .data⟩ (by simp) rfl) rfl
      obtain rfl : v0 = .agg #[.int .u8 11, .int .i64 99, .int .i64 1] := r0
      obtain ⟨v1, h1, r1⟩ := h.done 38 55 (dep ⟨38, .data⟩ (by simp) rfl) rfl
      obtain rfl : v1 = .agg #[.int .u8 12, .int .i64 3, .int .i64 1] := r1
      exact st_sl2 54 55 11 99 1 12 3 1 rfl h0 h1 (hK _ _ (below_alloc _ _) (fun _ _ => ⟨w3.heap.size, rfl, Blk.newAt w3 _ _ _ w3.heap.size rfl rfl⟩))
    | 40, ho =>
      cases ho
      obtain ⟨v0, h0, r0⟩ := h.done 2 19 (dep ⟨2, .data⟩ (by simp) rfl) rfl
      obtain ⟨g0, e0, k0⟩ := r0
      subst e0
      obtain ⟨v1, h1, r1⟩ := h.done 7 24 (dep ⟨7, .data⟩ (by simp) rfl) rfl
      obtain ⟨g1, e1, k1⟩ := r1
      subst e1
      obtain ⟨v2, h2, r2⟩ := h.done 11 28 (dep ⟨11, .data⟩ (by simp) rfl) rfl
      obtain ⟨g2, e2, k2⟩ := r2
      subst e2
      obtain ⟨v3, h3, r3⟩ := h.done 16 33 (dep ⟨16, .data⟩ (by simp) rfl) rfl
      obtain ⟨g3, e3, k3⟩ := r3
      subst e3
      obtain ⟨v4, h4, r4⟩ := h.done 20 37 (dep ⟨20, .data⟩ (by simp) rfl) rfl
      obtain ⟨g4, e4, k4⟩ := r4
      subst e4
      obtain ⟨v5, h5, r5⟩ := h.done 26 43 (dep ⟨26, .data⟩ (by simp) rfl) rfl
      obtain ⟨g5, e5, k5⟩ := r5
      subst e5
      obtain ⟨v6, h6, r6⟩ := h.done 30 47 (dep ⟨30, .data⟩ (by simp) rfl) rfl
      obtain ⟨g6, e6, k6⟩ := r6
      subst e6
      obtain ⟨v7, h7, r7⟩ := h.done 33 50 (dep ⟨33, .data⟩ (by simp) rfl) rfl
      obtain ⟨g7, e7, k7⟩ := r7
      subst e7
      obtain ⟨v8, h8, r8⟩ := h.done 36 53 (dep ⟨36, .data⟩ (by simp) rfl) rfl
      obtain ⟨g8, e8, k8⟩ := r8
      subst e8
      obtain ⟨v9, h9, r9⟩ := h.done 39 56 (dep ⟨39, .data⟩ (by simp) rfl) rfl
      obtain ⟨g9, e9, k9⟩ := r9
      subst e9
      refine st_ll 19 24 28 33 37 43 47 50 53 56 g0 g1 g2 g3 g4 g5 g6 g7 g8 g9 2 4 3 4 3 5 3 2 2 2 rfl h0 h1 h2 h3 h4 h5 h6 h7 h8 h9 (hK _ _ (below_alloc _ _) (fun _ _ => ⟨w3.heap.size, [.slice (some ⟨g0, 0, none⟩) 2 2, .slice (some ⟨g1, 0, none⟩) 4 4, .slice (some ⟨g2, 0, none⟩) 3 3, .slice (some ⟨g3, 0, none⟩) 4 4, .slice (some ⟨g4, 0, none⟩) 3 3, .slice (some ⟨g5, 0, none⟩) 5 5, .slice (some ⟨g6, 0, none⟩) 3 3, .slice (some ⟨g7, 0, none⟩) 2 2, .slice (some ⟨g8, 0, none⟩) 2 2, .slice (some ⟨g9, 0, none⟩) 2 2], rfl, Blk.newAt w3 _ _ _ w3.heap.size rfl rfl, rfl, fun j L hj => ?_⟩))
      match j, hj with
      | 0, hj => cases hj; exact ⟨_, rfl, g0, rfl, k0.below (below_alloc _ _)⟩
      | 1, hj => cases hj; exact ⟨_, rfl, g1, rfl, k1.below (below_alloc _ _)⟩
      | 2, hj => cases hj; exact ⟨_, rfl, g2, rfl, k2.below (below_alloc _ _)⟩
      | 3, hj => cases hj; exact ⟨_, rfl, g3, rfl, k3.below (below_alloc _ _)⟩
      | 4, hj => cases hj; exact ⟨_, rfl, g4, rfl, k4.below (below_alloc _ _)⟩
      | 5, hj => cases hj; exact ⟨_, rfl, g5, rfl, k5.below (below_alloc _ _)⟩
      | 6, hj => cases hj; exact ⟨_, rfl, g6, rfl, k6.below (below_alloc _ _)⟩
      | 7, hj => cases hj; exact ⟨_, rfl, g7, rfl, k7.below (below_alloc _ _)⟩
      | 8, hj => cases hj; exact ⟨_, rfl, g8, rfl, k8.below (below_alloc _ _)⟩
      | 9, hj => cases hj; exact ⟨_, rfl, g9, rfl, k9.below (below_alloc _ _)⟩
      | j + 10, hj => simp [exr] at hj
    | 41, ho =>
      cases ho
      obtain ⟨v, hv, r⟩ := h.done 40 57 (dep ⟨40, .data⟩ (by simp) rfl) rfl
      exact st_cp 57 v rfl hv (hK _ w3 (Below.refl _ _) (fun _ _ => r))
    | n + 42, ho => simp at ho
  · intro listed a w3 h all
    obtain ⟨v, hv, r⟩ := h.done 41 4 (all 41 (by decide)) rfl
    have h2 : a.tmps[2]? = some (.slice (some ⟨w.heap.size, 0, none⟩) 10 10) := (h.keep 2 (no_dst (by kernel_rfl))).trans rfl
    have ha : a.defers = [] := h.dfr
    have HR := hid r
    have H3 := hid h.bel
    have hs : a.tmps.size = 60 := h.size.trans rfl
    go_wp2
    refine bodyPost_ret (results_tmp2 rfl _ _ _) rfl ?_
    obtain ⟨l2, q2⟩ := Array.getElem?_eq_some_iff.1 h2
    obtain ⟨l4, q4⟩ := Array.getElem?_eq_some_iff.1 hv
    have B3 : Below w.heap.size w w3 := BW.out.trans ((NV.out.trans (H3.out.mono NV.out.size)).mono BW.out.size)
    refine ⟨v, w.heap.size, ?_, (KL.out.below NV.out).below H3.out, HR.out, B3⟩
    exact congrArg Ending.returned (congrArg Value.tuple (by simp [Array.getD_eq_getD_getElem?, hs, q2, q4]))
end Go.Proofs.YtdmacflcjbkkpabGreat.Co
