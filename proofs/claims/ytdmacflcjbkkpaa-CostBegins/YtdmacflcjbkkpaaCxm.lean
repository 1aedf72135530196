/- The examples, as the statement writes them down. -/
import Derived.Test.YtdmacflcjbkkpaaXrg
import Derived.Shelf.Abstract
import Derived.Test.YtdmacflcjbkkpaaCeh
namespace Go.Proofs.Ytdmacflcjbkkpaa.Co
open Go.ChangeShapes Go.WideShapes Go.ChangeAt Go.RowKit
open Go.Proofs.Ytdmacflcjbkkpaa (putL rl)
open Go.Proofs.Ytdmacflcjbkkpaa.Ou (Sk sv sL zS LDk SVk LDk_run SVk_run)
open Go.Proofs.Ytdmacflcjbkkpaa.Tb (Blk Blk.newAt put_all Kp.setCells results_cell1 results_cell2)
open Go.Proofs.Ytdmacflcjbkkpaa.Xr
def LDr (a : Addr) : Sem Value := loadVar 49 a
def SVr (a : Addr) (v : Value) : Sem Unit := storeVar 49 a v
@[go_sem ↓ high] theorem ldr (a : Addr) : loadVar 49 a = LDr a := rfl
@[go_sem ↓ high] theorem svr (a : Addr) (v : Value) : storeVar 49 a v = SVr a v := rfl
theorem infor : (Try.prog.info? 49).map (·.size) = some 3 := by kernel_rfl
theorem LDr_run {W : World} {g : Nat} {a b c : Int} (h : Blk W g [.int .u8 a, .int .i64 b, .int .i64 c] 49) : (LDr ⟨g, 0, none⟩).run Try.prog W = .ok (.agg #[.int .u8 a, .int .i64 b, .int .i64 c]) W :=
  run_loadVar_mid W g 0 _ [.int .u8 a, .int .i64 b, .int .i64 c] _ (h.range 0 _ (fun _ _ hv => by rw [Nat.zero_add]; exact hv)) Try.underlying49 rfl infor
theorem SVr_run {W : World} {g : Nat} {cs : List Value} (a b c : Int) (h : Blk W g cs 49) (hl : cs.length = 3) : ∃ W', (SVr ⟨g, 0, none⟩ (.agg #[.int .u8 a, .int .i64 b, .int .i64 c])).run Try.prog W = .ok () W' ∧ Blk W' g [.int .u8 a, .int .i64 b, .int .i64 c] 49 ∧ Kp (fun j => j = g) W W' := by
  refine ⟨W.setCells g 0 [.int .u8 a, .int .i64 b, .int .i64 c], run_storeVar_mid W g 0 _ #[.int .u8 a, .int .i64 b, .int .i64 c] (h.there 0 _ (by simp [hl])) infor (all_oneCell_toArray (all_one rfl)), ?_, Kp.setCells g 0 _⟩
  have := h.put 0 [.int .u8 a, .int .i64 b, .int .i64 c]
  rw [put_all cs [.int .u8 a, .int .i64 b, .int .i64 c] (by rw [hl]; rfl)] at this
  exact this
set_option maxRecDepth 8000 in
theorem event_ok (k s n : Int) (w : World) : Calls Try.prog 13 #[.int .u8 k, .int .i64 s, .int .i64 n] w fun e w' => e = .returned (.agg #[.int .u8 k, .int .i64 s, .int .i64 n]) ∧ Below w.heap.size w w' := by
  obtain ⟨W, hW⟩ : ∃ W, w.alloc (.cells #[.int .u8 0, .int .i64 0, .int .i64 0] 49) = W := ⟨_, rfl⟩
  have BW : Hid (Below w.heap.size w W) := by rw [← hW]; exact below_alloc _ _
  have kb : Blk W w.heap.size [.int .u8 0, .int .i64 0, .int .i64 0] 49 := by rw [← hW]; exact Blk.newAt w _ _ _ w.heap.size rfl rfl
  obtain ⟨W1, s1, k1, hk1⟩ := SVr_run k s n kb rfl
  have L1 := hid (LDr_run k1)
  have B1 : Hid (Below w.heap.size w W1) := hid (BW.out.trans (hk1.below BW.out.size (fun k h e => by omega)))
  clear kb k1 hk1
  go_enter Try.func13, Try.ntmps13
  go_wp2
  exact bodyPost_ret (results_cell1 rfl rfl L1.out) rfl ⟨rfl, B1.out⟩
theorem tmp_eval {a : Act} {t : Tmp} {v : Value} (h : a.tmps[t]? = some v) : a.eval (.tmp t) = v := by simp [Act.eval, h]
section
variable {o : Oper} {a : Act} {w : World} {K : Act → World → Prop} {Q : Exit → Act → World → Prop}
theorem st_ev (k s n : Int) (hop : o.op = .call { callee := .value (.func 13), args := #[.const (.int .u8 k), .const (.int .i64 s), .const (.int .i64 n)], argTypes := #[45, 3, 3] })
    (hK : ∀ w', Below w.heap.size w w' → K (a.put o.dst (.agg #[.int .u8 k, .int .i64 s, .int .i64 n])) w') : o.wp Try.prog a w K Q := by
  have en : ∀ args w, (callFunc 13 args).run Try.prog w = .ok (.enter 13 args) w := enters_of Try.func13 (by kernel_rfl) rfl
  have e : (execOp a.eval o).run Try.prog w = .ok (.enter 13 #[.int .u8 k, .int .i64 s, .int .i64 n]) w := by
    simp [execOp, hop, resolve, invoke, Act.eval, Deferred.ofValue, en]
  unfold Oper.wp
  rw [e]
  exact (event_ok k s n w).mono (fun e w' ⟨he, hb⟩ => by subst he; exact hK w' hb)
theorem st_ld (t : Tmp) (g : Nat) (k s n : Int) (hop : o.op = .load 49 (.tmp t)) (ht : a.tmps[t]? = some (.pointer (some ⟨g, 0, none⟩))) (hb : Blk w g [.int .u8 k, .int .i64 s, .int .i64 n] 49)
    (hK : K (a.put o.dst (.agg #[.int .u8 k, .int .i64 s, .int .i64 n])) w) : o.wp Try.prog a w K Q := by
  have l : (loadVar 49 ⟨g, 0, none⟩).run Try.prog w = .ok (.agg #[.int .u8 k, .int .i64 s, .int .i64 n]) w := LDr_run hb
  have e : (execOp a.eval o).run Try.prog w = .ok (.value (.agg #[.int .u8 k, .int .i64 s, .int .i64 n])) w := by
    simp [execOp, hop, tmp_eval ht, Instr.loadAt, Instr.sureAddr, l]
  unfold Oper.wp
  rw [e]
  exact hK
theorem st_cp (t : Tmp) (v : Value) (hop : o.op = .assign (.tmp t)) (ht : a.tmps[t]? = some v) (hK : K (a.put o.dst v) w) : o.wp Try.prog a w K Q := by
  have e : (execOp a.eval o).run Try.prog w = .ok (.value v) w := by simp [execOp, hop, tmp_eval ht]
  unfold Oper.wp
  rw [e]
  exact hK
theorem bs2 (k0 s0 c0 k1 s1 c1 : Int) (w : World) : (Instr.buildSlice 32 2 #[(0, .agg #[.int .u8 k0, .int .i64 s0, .int .i64 c0]), (1, .agg #[.int .u8 k1, .int .i64 s1, .int .i64 c1])]).run Try.prog w = .ok (.slice (some ⟨w.heap.size, 0, none⟩) 2 2) (w.alloc (.cells #[.int .u8 k0, .int .i64 s0, .int .i64 c0, .int .u8 k1, .int .i64 s1, .int .i64 c1] 49)) := by kernel_rfl
theorem st_sl2 (t0 t1 : Tmp) (k0 s0 c0 k1 s1 c1 : Int) (hop : o.op = .buildSlice 32 2 #[(0, .tmp t0), (1, .tmp t1)]) (h0 : a.tmps[t0]? = some (.agg #[.int .u8 k0, .int .i64 s0, .int .i64 c0])) (h1 : a.tmps[t1]? = some (.agg #[.int .u8 k1, .int .i64 s1, .int .i64 c1]))
    (hK : K (a.put o.dst (.slice (some ⟨w.heap.size, 0, none⟩) 2 2)) (w.alloc (.cells #[.int .u8 k0, .int .i64 s0, .int .i64 c0, .int .u8 k1, .int .i64 s1, .int .i64 c1] 49))) : o.wp Try.prog a w K Q := by
  have e : (execOp a.eval o).run Try.prog w = .ok (.value (.slice (some ⟨w.heap.size, 0, none⟩) 2 2)) (w.alloc (.cells #[.int .u8 k0, .int .i64 s0, .int .i64 c0, .int .u8 k1, .int .i64 s1, .int .i64 c1] 49)) := by
    simp [execOp, hop, tmp_eval h0, tmp_eval h1, bs2]
  unfold Oper.wp
  rw [e]
  exact hK
theorem bs3 (k0 s0 c0 k1 s1 c1 k2 s2 c2 : Int) (w : World) : (Instr.buildSlice 32 3 #[(0, .agg #[.int .u8 k0, .int .i64 s0, .int .i64 c0]), (1, .agg #[.int .u8 k1, .int .i64 s1, .int .i64 c1]), (2, .agg #[.int .u8 k2, .int .i64 s2, .int .i64 c2])]).run Try.prog w = .ok (.slice (some ⟨w.heap.size, 0, none⟩) 3 3) (w.alloc (.cells #[.int .u8 k0, .int .i64 s0, .int .i64 c0, .int .u8 k1, .int .i64 s1, .int .i64 c1, .int .u8 k2, .int .i64 s2, .int .i64 c2] 49)) := by kernel_rfl
theorem st_sl3 (t0 t1 t2 : Tmp) (k0 s0 c0 k1 s1 c1 k2 s2 c2 : Int) (hop : o.op = .buildSlice 32 3 #[(0, .tmp t0), (1, .tmp t1), (2, .tmp t2)]) (h0 : a.tmps[t0]? = some (.agg #[.int .u8 k0, .int .i64 s0, .int .i64 c0])) (h1 : a.tmps[t1]? = some (.agg #[.int .u8 k1, .int .i64 s1, .int .i64 c1])) (h2 : a.tmps[t2]? = some (.agg #[.int .u8 k2, .int .i64 s2, .int .i64 c2]))
    (hK : K (a.put o.dst (.slice (some ⟨w.heap.size, 0, none⟩) 3 3)) (w.alloc (.cells #[.int .u8 k0, .int .i64 s0, .int .i64 c0, .int .u8 k1, .int .i64 s1, .int .i64 c1, .int .u8 k2, .int .i64 s2, .int .i64 c2] 49))) : o.wp Try.prog a w K Q := by
  have e : (execOp a.eval o).run Try.prog w = .ok (.value (.slice (some ⟨w.heap.size, 0, none⟩) 3 3)) (w.alloc (.cells #[.int .u8 k0, .int .i64 s0, .int .i64 c0, .int .u8 k1, .int .i64 s1, .int .i64 c1, .int .u8 k2, .int .i64 s2, .int .i64 c2] 49)) := by
    simp [execOp, hop, tmp_eval h0, tmp_eval h1, tmp_eval h2, bs3]
  unfold Oper.wp
  rw [e]
  exact hK
theorem bs4 (k0 s0 c0 k1 s1 c1 k2 s2 c2 k3 s3 c3 : Int) (w : World) : (Instr.buildSlice 32 4 #[(0, .agg #[.int .u8 k0, .int .i64 s0, .int .i64 c0]), (1, .agg #[.int .u8 k1, .int .i64 s1, .int .i64 c1]), (2, .agg #[.int .u8 k2, .int .i64 s2, .int .i64 c2]), (3, .agg #[.int .u8 k3, .int .i64 s3, .int .i64 c3])]).run Try.prog w = .ok (.slice (some ⟨w.heap.size, 0, none⟩) 4 4) (w.alloc (.cells #[.int .u8 k0, .int .i64 s0, .int .i64 c0, .int .u8 k1, .int .i64 s1, .int .i64 c1, .int .u8 k2, .int .i64 s2, .int .i64 c2, .int .u8 k3, .int .i64 s3, .int .i64 c3] 49)) := by kernel_rfl
theorem st_sl4 (t0 t1 t2 t3 : Tmp) (k0 s0 c0 k1 s1 c1 k2 s2 c2 k3 s3 c3 : Int) (hop : o.op = .buildSlice 32 4 #[(0, .tmp t0), (1, .tmp t1), (2, .tmp t2), (3, .tmp t3)]) (h0 : a.tmps[t0]? = some (.agg #[.int .u8 k0, .int .i64 s0, .int .i64 c0])) (h1 : a.tmps[t1]? = some (.agg #[.int .u8 k1, .int .i64 s1, .int .i64 c1])) (h2 : a.tmps[t2]? = some (.agg #[.int .u8 k2, .int .i64 s2, .int .i64 c2])) (h3 : a.tmps[t3]? = some (.agg #[.int .u8 k3, .int .i64 s3, .int .i64 c3]))
    (hK : K (a.put o.dst (.slice (some ⟨w.heap.size, 0, none⟩) 4 4)) (w.alloc (.cells #[.int .u8 k0, .int .i64 s0, .int .i64 c0, .int .u8 k1, .int .i64 s1, .int .i64 c1, .int .u8 k2, .int .i64 s2, .int .i64 c2, .int .u8 k3, .int .i64 s3, .int .i64 c3] 49))) : o.wp Try.prog a w K Q := by
  have e : (execOp a.eval o).run Try.prog w = .ok (.value (.slice (some ⟨w.heap.size, 0, none⟩) 4 4)) (w.alloc (.cells #[.int .u8 k0, .int .i64 s0, .int .i64 c0, .int .u8 k1, .int .i64 s1, .int .i64 c1, .int .u8 k2, .int .i64 s2, .int .i64 c2, .int .u8 k3, .int .i64 s3, .int .i64 c3] 49)) := by
    simp [execOp, hop, tmp_eval h0, tmp_eval h1, tmp_eval h2, tmp_eval h3, bs4]
  unfold Oper.wp
  rw [e]
  exact hK
theorem bs5 (k0 s0 c0 k1 s1 c1 k2 s2 c2 k3 s3 c3 k4 s4 c4 : Int) (w : World) : (Instr.buildSlice 32 5 #[(0, .agg #[.int .u8 k0, .int .i64 s0, .int .i64 c0]), (1, .agg #[.int .u8 k1, .int .i64 s1, .int .i64 c1]), (2, .agg #[.int .u8 k2, .int .i64 s2, .int .i64 c2]), (3, .agg #[.int .u8 k3, .int .i64 s3, .int .i64 c3]), (4, .agg #[.int .u8 k4, .int .i64 s4, .int .i64 c4])]).run Try.prog w = .ok (.slice (some ⟨w.heap.size, 0, none⟩) 5 5) (w.alloc (.cells #[.int .u8 k0, .int .i64 s0, .int .i64 c0, .int .u8 k1, .int .i64 s1, .int .i64 c1, .int .u8 k2, .int .i64 s2, .int .i64 c2, .int .u8 k3, .int .i64 s3, .int .i64 c3, .int .u8 k4, .int .i64 s4, .int .i64 c4] 49)) := by kernel_rfl
theorem st_sl5 (t0 t1 t2 t3 t4 : Tmp) (k0 s0 c0 k1 s1 c1 k2 s2 c2 k3 s3 c3 k4 s4 c4 : Int) (hop : o.op = .buildSlice 32 5 #[(0, .tmp t0), (1, .tmp t1), (2, .tmp t2), (3, .tmp t3), (4, .tmp t4)]) (h0 : a.tmps[t0]? = some (.agg #[.int .u8 k0, .int .i64 s0, .int .i64 c0])) (h1 : a.tmps[t1]? = some (.agg #[.int .u8 k1, .int .i64 s1, .int .i64 c1])) (h2 : a.tmps[t2]? = some (.agg #[.int .u8 k2, .int .i64 s2, .int .i64 c2])) (h3 : a.tmps[t3]? = some (.agg #[.int .u8 k3, .int .i64 s3, .int .i64 c3])) (h4 : a.tmps[t4]? = some (.agg #[.int .u8 k4, .int .i64 s4, .int .i64 c4]))
    (hK : K (a.put o.dst (.slice (some ⟨w.heap.size, 0, none⟩) 5 5)) (w.alloc (.cells #[.int .u8 k0, .int .i64 s0, .int .i64 c0, .int .u8 k1, .int .i64 s1, .int .i64 c1, .int .u8 k2, .int .i64 s2, .int .i64 c2, .int .u8 k3, .int .i64 s3, .int .i64 c3, .int .u8 k4, .int .i64 s4, .int .i64 c4] 49))) : o.wp Try.prog a w K Q := by
  have e : (execOp a.eval o).run Try.prog w = .ok (.value (.slice (some ⟨w.heap.size, 0, none⟩) 5 5)) (w.alloc (.cells #[.int .u8 k0, .int .i64 s0, .int .i64 c0, .int .u8 k1, .int .i64 s1, .int .i64 c1, .int .u8 k2, .int .i64 s2, .int .i64 c2, .int .u8 k3, .int .i64 s3, .int .i64 c3, .int .u8 k4, .int .i64 s4, .int .i64 c4] 49)) := by
    simp [execOp, hop, tmp_eval h0, tmp_eval h1, tmp_eval h2, tmp_eval h3, tmp_eval h4, bs5]
  unfold Oper.wp
  rw [e]
  exact hK
theorem bsl (g0 g1 g2 g3 g4 g5 g6 g7 g8 g9 n0 n1 n2 n3 n4 n5 n6 n7 n8 n9 : Nat) (w : World) : (Instr.buildSlice 40 10 #[(0, .slice (some ⟨g0, 0, none⟩) n0 n0), (1, .slice (some ⟨g1, 0, none⟩) n1 n1), (2, .slice (some ⟨g2, 0, none⟩) n2 n2), (3, .slice (some ⟨g3, 0, none⟩) n3 n3), (4, .slice (some ⟨g4, 0, none⟩) n4 n4), (5, .slice (some ⟨g5, 0, none⟩) n5 n5), (6, .slice (some ⟨g6, 0, none⟩) n6 n6), (7, .slice (some ⟨g7, 0, none⟩) n7 n7), (8, .slice (some ⟨g8, 0, none⟩) n8 n8), (9, .slice (some ⟨g9, 0, none⟩) n9 n9)]).run Try.prog w = .ok (.slice (some ⟨w.heap.size, 0, none⟩) 10 10) (w.alloc (.cells #[.slice (some ⟨g0, 0, none⟩) n0 n0, .slice (some ⟨g1, 0, none⟩) n1 n1, .slice (some ⟨g2, 0, none⟩) n2 n2, .slice (some ⟨g3, 0, none⟩) n3 n3, .slice (some ⟨g4, 0, none⟩) n4 n4, .slice (some ⟨g5, 0, none⟩) n5 n5, .slice (some ⟨g6, 0, none⟩) n6 n6, .slice (some ⟨g7, 0, none⟩) n7 n7, .slice (some ⟨g8, 0, none⟩) n8 n8, .slice (some ⟨g9, 0, none⟩) n9 n9] 32)) := by kernel_rfl
theorem st_ll (t0 t1 t2 t3 t4 t5 t6 t7 t8 t9 : Tmp) (g0 g1 g2 g3 g4 g5 g6 g7 g8 g9 n0 n1 n2 n3 n4 n5 n6 n7 n8 n9 : Nat) (hop : o.op = .buildSlice 40 10 #[(0, .tmp t0), (1, .tmp t1), (2, .tmp t2), (3, .tmp t3), (4, .tmp t4), (5, .tmp t5), (6, .tmp t6), (7, .tmp t7), (8, .tmp t8), (9, .tmp t9)]) (h0 : a.tmps[t0]? = some (.slice (some ⟨g0, 0, none⟩) n0 n0)) (h1 : a.tmps[t1]? = some (.slice (some ⟨g1, 0, none⟩) n1 n1)) (h2 : a.tmps[t2]? = some (.slice (some ⟨g2, 0, none⟩) n2 n2)) (h3 : a.tmps[t3]? = some (.slice (some ⟨g3, 0, none⟩) n3 n3)) (h4 : a.tmps[t4]? = some (.slice (some ⟨g4, 0, none⟩) n4 n4)) (h5 : a.tmps[t5]? = some (.slice (some ⟨g5, 0, none⟩) n5 n5)) (h6 : a.tmps[t6]? = some (.slice (some ⟨g6, 0, none⟩) n6 n6)) (h7 : a.tmps[t7]? = some (.slice (some ⟨g7, 0, none⟩) n7 n7)) (h8 : a.tmps[t8]? = some (.slice (some ⟨g8, 0, none⟩) n8 n8)) (h9 : a.tmps[t9]? = some (.slice (some ⟨g9, 0, none⟩) n9 n9))
    (hK : K (a.put o.dst (.slice (some ⟨w.heap.size, 0, none⟩) 10 10)) (w.alloc (.cells #[.slice (some ⟨g0, 0, none⟩) n0 n0, .slice (some ⟨g1, 0, none⟩) n1 n1, .slice (some ⟨g2, 0, none⟩) n2 n2, .slice (some ⟨g3, 0, none⟩) n3 n3, .slice (some ⟨g4, 0, none⟩) n4 n4, .slice (some ⟨g5, 0, none⟩) n5 n5, .slice (some ⟨g6, 0, none⟩) n6 n6, .slice (some ⟨g7, 0, none⟩) n7 n7, .slice (some ⟨g8, 0, none⟩) n8 n8, .slice (some ⟨g9, 0, none⟩) n9 n9] 32))) : o.wp Try.prog a w K Q := by
  have e : (execOp a.eval o).run Try.prog w = .ok (.value (.slice (some ⟨w.heap.size, 0, none⟩) 10 10)) (w.alloc (.cells #[.slice (some ⟨g0, 0, none⟩) n0 n0, .slice (some ⟨g1, 0, none⟩) n1 n1, .slice (some ⟨g2, 0, none⟩) n2 n2, .slice (some ⟨g3, 0, none⟩) n3 n3, .slice (some ⟨g4, 0, none⟩) n4 n4, .slice (some ⟨g5, 0, none⟩) n5 n5, .slice (some ⟨g6, 0, none⟩) n6 n6, .slice (some ⟨g7, 0, none⟩) n7 n7, .slice (some ⟨g8, 0, none⟩) n8 n8, .slice (some ⟨g9, 0, none⟩) n9 n9] 32)) := by
    simp [execOp, hop, tmp_eval h0, tmp_eval h1, tmp_eval h2, tmp_eval h3, tmp_eval h4, tmp_eval h5, tmp_eval h6, tmp_eval h7, tmp_eval h8, tmp_eval h9, bsl]
  unfold Oper.wp
  rw [e]
  exact hK
end
/-- A list of runs in a block of its own. -/
def RowAt (v : Value) (w : World) (L : List Ru) : Prop := ∃ g, v = .slice (some ⟨g, 0, none⟩) L.length L.length ∧ Blk w g (rl L) 49
def RowsAt (v : Value) (w : World) (Ls : List (List Ru)) : Prop := ∃ g us, v = .slice (some ⟨g, 0, none⟩) Ls.length Ls.length ∧ Blk w g us 32 ∧ us.length = Ls.length ∧ ∀ (j : Nat) (L : List Ru), Ls[j]? = some L → ∃ u, us[j]? = some u ∧ RowAt u w L
theorem RowAt.below {v : Value} {w w' : World} {L : List Ru} (h : RowAt v w L) (hb : Below w.heap.size w w') : RowAt v w' L := by obtain ⟨g, e, k⟩ := h; exact ⟨g, e, k.below hb⟩
theorem RowsAt.below {v : Value} {w w' : World} {Ls : List (List Ru)} (h : RowsAt v w Ls) (hb : Below w.heap.size w w') : RowsAt v w' Ls := by
  obtain ⟨g, us, e, k, l, r⟩ := h
  exact ⟨g, us, e, k.below hb, l, fun j L hj => by obtain ⟨u, h1, h2⟩ := r j L hj; exact ⟨u, h1, h2.below hb⟩⟩
theorem RowAt.own {v : Value} {w : World} {L : List Ru} (h : RowAt v w L) (hL : ∀ r ∈ L, r.Ok) (hm : L.length ≤ 1000) : Own w 0 v L := by
  obtain ⟨g, e, k⟩ := h
  refine ⟨hL, rl_length L, .inr ⟨g, L.length, (rl L).toArray, e, Nat.zero_le _, k, Nat.le_refl _, by simp only [maxLen]; omega, by simp [rl_length], ?_⟩⟩
  show (rl L).take (L.length * 3) = rl L
  rw [← rl_length L, List.take_length]
def XR (i : Nat) (v : Value) (w : World) : Prop :=
  match i with
  | 0 => v = .agg #[.int .u8 11, .int .i64 1, .int .i64 1]
  | 1 => v = .agg #[.int .u8 12, .int .i64 0, .int .i64 1]
  | 2 => RowAt v w [⟨11, 1, 1⟩, ⟨12, 0, 1⟩]
  | 3 => v = .agg #[.int .u8 11, .int .i64 2, .int .i64 1]
  | 4 => v = .agg #[.int .u8 4, .int .i64 16, .int .i64 1]
  | 5 => v = .agg #[.int .u8 5, .int .i64 16, .int .i64 1]
  | 6 => v = .agg #[.int .u8 12, .int .i64 0, .int .i64 1]
  | 7 => RowAt v w [⟨11, 2, 1⟩, ⟨4, 16, 1⟩, ⟨5, 16, 1⟩, ⟨12, 0, 1⟩]
  | 8 => v = .agg #[.int .u8 11, .int .i64 3, .int .i64 1]
  | 9 => v = .agg #[.int .u8 5, .int .i64 16, .int .i64 2]
  | 10 => v = .agg #[.int .u8 12, .int .i64 0, .int .i64 1]
  | 11 => RowAt v w [⟨11, 3, 1⟩, ⟨5, 16, 2⟩, ⟨12, 0, 1⟩]
  | 12 => v = .agg #[.int .u8 11, .int .i64 4, .int .i64 1]
  | 13 => v = .agg #[.int .u8 5, .int .i64 16, .int .i64 1]
  | 14 => v = .agg #[.int .u8 8, .int .i64 1024, .int .i64 1]
  | 15 => v = .agg #[.int .u8 12, .int .i64 0, .int .i64 1]
  | 16 => RowAt v w [⟨11, 4, 1⟩, ⟨5, 16, 1⟩, ⟨8, 1024, 1⟩, ⟨12, 0, 1⟩]
  | 17 => v = .agg #[.int .u8 11, .int .i64 2, .int .i64 1]
  | 18 => v = .agg #[.int .u8 1, .int .i64 64, .int .i64 2]
  | 19 => v = .agg #[.int .u8 12, .int .i64 0, .int .i64 1]
  | 20 => RowAt v w [⟨11, 2, 1⟩, ⟨1, 64, 2⟩, ⟨12, 0, 1⟩]
  | 21 => v = .agg #[.int .u8 11, .int .i64 5, .int .i64 1]
  | 22 => v = .agg #[.int .u8 1, .int .i64 64, .int .i64 2]
  | 23 => v = .agg #[.int .u8 6, .int .i64 20, .int .i64 1]
  | 24 => v = .agg #[.int .u8 8, .int .i64 1024, .int .i64 1]
  | 25 => v = .agg #[.int .u8 12, .int .i64 0, .int .i64 1]
  | 26 => RowAt v w [⟨11, 5, 1⟩, ⟨1, 64, 2⟩, ⟨6, 20, 1⟩, ⟨8, 1024, 1⟩, ⟨12, 0, 1⟩]
  | 27 => v = .agg #[.int .u8 11, .int .i64 8, .int .i64 1]
  | 28 => v = .agg #[.int .u8 2, .int .i64 128, .int .i64 14]
  | 29 => v = .agg #[.int .u8 12, .int .i64 0, .int .i64 1]
  | 30 => RowAt v w [⟨11, 8, 1⟩, ⟨2, 128, 14⟩, ⟨12, 0, 1⟩]
  | 31 => v = .agg #[.int .u8 11, .int .i64 4, .int .i64 1]
  | 32 => v = .agg #[.int .u8 12, .int .i64 6, .int .i64 1]
  | 33 => RowAt v w [⟨11, 4, 1⟩, ⟨12, 6, 1⟩]
  | 34 => v = .agg #[.int .u8 11, .int .i64 10, .int .i64 1]
  | 35 => v = .agg #[.int .u8 12, .int .i64 5, .int .i64 1]
  | 36 => RowAt v w [⟨11, 10, 1⟩, ⟨12, 5, 1⟩]
  | 37 => v = .agg #[.int .u8 11, .int .i64 99, .int .i64 1]
  | 38 => v = .agg #[.int .u8 12, .int .i64 3, .int .i64 1]
  | 39 => RowAt v w [⟨11, 99, 1⟩, ⟨12, 3, 1⟩]
  | 40 => RowsAt v w exr
  | 41 => RowsAt v w exr
  | _ => True
theorem XR_below : ∀ i v w w', XR i v w → Below w.heap.size w w' → XR i v w' := by
  intro i v w w' h hb
  unfold XR at h ⊢
  split at h <;> first | exact h | exact RowAt.below h hb | exact RowsAt.below h hb | trivial
end Go.Proofs.Ytdmacflcjbkkpaa.Co
