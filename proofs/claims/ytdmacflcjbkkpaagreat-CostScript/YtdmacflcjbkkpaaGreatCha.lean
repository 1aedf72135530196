/- A session's algorithm. -/
import Derived.Test.YtdmacflcjbkkpaaGreatCao
namespace Go.Proofs.YtdmacflcjbkkpaaGreat.Co
open Go.ChangeShapes Go.WideShapes Go.ChangeAt Go.RowKit
open Go.Proofs.YtdmacflcjbkkpaaGreat (putL)
open Go.Proofs.YtdmacflcjbkkpaaGreat.Ou (Sk sv sL LDk SVk LDk_run SVk_run)
open Go.Proofs.YtdmacflcjbkkpaaGreat.Tb (Blk Blk.newAt put_all Kp.setCells results_cell1 results_cell2)
set_option maxRecDepth 8000 in
set_option maxHeartbeats 1600000 in
theorem halg_h1 (h : He) (ha : h.alg = 1) (w : World) : Calls Tryz.prog 82 #[hv h] w fun e w' => ∃ g, e = .returned (algH 32 g) ∧ w.heap.size ≤ g ∧ Blk w' g [.int .i64 32, .int .i64 64, .int .u8 1, .int .i64 64] 119 ∧ Below w.heap.size w w' := by
  obtain ⟨key, alg, out, cus, msg⟩ := h
  obtain rfl : alg = 1 := ha
  obtain ⟨W, hW⟩ : ∃ W, (w.alloc (.cells #[.int .u8 1, .int .i64 out, .int .i64 key, .int .i64 cus, .int .i64 msg] 82)).alloc (.cells #[.int .i64 0, .bool false, .nilFunc, .nilFunc, .nilFunc, .nilFunc] 113) = W := ⟨_, rfl⟩
  have BW : Hid (Below w.heap.size w W) := by rw [← hW]; exact below_next (below_alloc _ _) (below_alloc _ _)
  have KB : Hid (Blk W w.heap.size [.int .u8 1, .int .i64 out, .int .i64 key, .int .i64 cus, .int .i64 msg] 82) := by rw [← hW]; exact (Blk.newAt w _ _ _ w.heap.size rfl rfl).alloc _
  have KE : Hid (Blk W (w.heap.size + 1) [.int .i64 0, .bool false, .nilFunc, .nilFunc, .nilFunc, .nilFunc] 113) := by rw [← hW]; exact Blk.newAt (w.alloc _) _ _ _ (w.heap.size + 1) (by simp) rfl
  have hz : Hid (W.heap.size = w.heap.size + 1 + 1) := by show W.heap.size = _; rw [← hW]; simp
  have x0 := KB.out.cell 0 _ rfl
  go_enter Tryz.func82, Tryz.ntmps82
  go_wp2_with fail
  clear hW
  refine (aofh1_ok _).mono ?_
  rintro e W1 ⟨g, rfl, hg, kg, hb⟩
  have hz' := hz.out
  have N1 := hid hb
  obtain ⟨U, hU⟩ : ∃ U, W1.alloc (.cells #[.int .i64 0, .bool false, .nilFunc, .nilFunc, .nilFunc, .nilFunc] 113) = U := ⟨_, rfl⟩
  have NU : Hid (Below W1.heap.size W1 U) := by rw [← hU]; exact below_alloc _ _
  have ku : Blk U W1.heap.size [.int .i64 0, .bool false, .nilFunc, .nilFunc, .nilFunc, .nilFunc] 113 := by rw [← hU]; exact Blk.newAt W1 _ _ _ W1.heap.size rfl rfl
  obtain ⟨V, s1, kv, hkv⟩ := SVa_run 32 false 125 126 127 128 #[] #[.pointer (some ⟨g, 0, none⟩)] #[.pointer (some ⟨g, 0, none⟩)] #[.pointer (some ⟨g, 0, none⟩)] ku rfl
  have l1 := LDa_run kv
  have s1z := N1.out.size
  have bv := hkv.below NU.out.size (fun k h e => by omega)
  have bv := NU.out.trans bv
  have ke := (KE.out.below N1.out).below bv
  obtain ⟨Z, s2, kz, hkz⟩ := SVa_run 32 false 125 126 127 128 #[] #[.pointer (some ⟨g, 0, none⟩)] #[.pointer (some ⟨g, 0, none⟩)] #[.pointer (some ⟨g, 0, none⟩)] ke rfl
  have L2 := hid (LDa_run kz)
  have BZ : Hid (Below w.heap.size w Z) := hid ((below_next (below_next BW.out N1.out) bv).trans (hkz.below (by have := bv.size; omega) (fun k h e => by omega)))
  have FZ := hid (show (_) from (kg.below bv).kept hkz (fun e => by omega))
  have HG : Hid (w.heap.size ≤ g) := hid (by omega)
  clear ku kv hkv ke kz hkz bv hb kg
  go_wp2
  exact bodyPost_ret (results_cell1 rfl rfl L2.out) rfl ⟨g, rfl, HG.out, FZ.out, BZ.out⟩
set_option maxRecDepth 8000 in
set_option maxHeartbeats 1600000 in
theorem halg_h2 (h : He) (ha : h.alg = 2) (w : World) : Calls Tryz.prog 82 #[hv h] w fun e w' => ∃ g, e = .returned (algH 64 g) ∧ w.heap.size ≤ g ∧ Blk w' g [.int .i64 64, .int .i64 128, .int .u8 2, .int .i64 128] 119 ∧ Below w.heap.size w w' := by
  obtain ⟨key, alg, out, cus, msg⟩ := h
  obtain rfl : alg = 2 := ha
  obtain ⟨W, hW⟩ : ∃ W, (w.alloc (.cells #[.int .u8 2, .int .i64 out, .int .i64 key, .int .i64 cus, .int .i64 msg] 82)).alloc (.cells #[.int .i64 0, .bool false, .nilFunc, .nilFunc, .nilFunc, .nilFunc] 113) = W := ⟨_, rfl⟩
  have BW : Hid (Below w.heap.size w W) := by rw [← hW]; exact below_next (below_alloc _ _) (below_alloc _ _)
  have KB : Hid (Blk W w.heap.size [.int .u8 2, .int .i64 out, .int .i64 key, .int .i64 cus, .int .i64 msg] 82) := by rw [← hW]; exact (Blk.newAt w _ _ _ w.heap.size rfl rfl).alloc _
  have KE : Hid (Blk W (w.heap.size + 1) [.int .i64 0, .bool false, .nilFunc, .nilFunc, .nilFunc, .nilFunc] 113) := by rw [← hW]; exact Blk.newAt (w.alloc _) _ _ _ (w.heap.size + 1) (by simp) rfl
  have hz : Hid (W.heap.size = w.heap.size + 1 + 1) := by show W.heap.size = _; rw [← hW]; simp
  have x0 := KB.out.cell 0 _ rfl
  go_enter Tryz.func82, Tryz.ntmps82
  go_wp2_with fail
  clear hW
  refine (aofh2_ok _).mono ?_
  rintro e W1 ⟨g, rfl, hg, kg, hb⟩
  have hz' := hz.out
  have N1 := hid hb
  obtain ⟨U, hU⟩ : ∃ U, W1.alloc (.cells #[.int .i64 0, .bool false, .nilFunc, .nilFunc, .nilFunc, .nilFunc] 113) = U := ⟨_, rfl⟩
  have NU : Hid (Below W1.heap.size W1 U) := by rw [← hU]; exact below_alloc _ _
  have ku : Blk U W1.heap.size [.int .i64 0, .bool false, .nilFunc, .nilFunc, .nilFunc, .nilFunc] 113 := by rw [← hU]; exact Blk.newAt W1 _ _ _ W1.heap.size rfl rfl
  obtain ⟨V, s1, kv, hkv⟩ := SVa_run 64 false 125 126 127 128 #[] #[.pointer (some ⟨g, 0, none⟩)] #[.pointer (some ⟨g, 0, none⟩)] #[.pointer (some ⟨g, 0, none⟩)] ku rfl
  have l1 := LDa_run kv
  have s1z := N1.out.size
  have bv := hkv.below NU.out.size (fun k h e => by omega)
  have bv := NU.out.trans bv
  have ke := (KE.out.below N1.out).below bv
  obtain ⟨Z, s2, kz, hkz⟩ := SVa_run 64 false 125 126 127 128 #[] #[.pointer (some ⟨g, 0, none⟩)] #[.pointer (some ⟨g, 0, none⟩)] #[.pointer (some ⟨g, 0, none⟩)] ke rfl
  have L2 := hid (LDa_run kz)
  have BZ : Hid (Below w.heap.size w Z) := hid ((below_next (below_next BW.out N1.out) bv).trans (hkz.below (by have := bv.size; omega) (fun k h e => by omega)))
  have FZ := hid (show (_) from (kg.below bv).kept hkz (fun e => by omega))
  have HG : Hid (w.heap.size ≤ g) := hid (by omega)
  clear ku kv hkv ke kz hkz bv hb kg
  go_wp2
  exact bodyPost_ret (results_cell1 rfl rfl L2.out) rfl ⟨g, rfl, HG.out, FZ.out, BZ.out⟩
set_option maxRecDepth 8000 in
set_option maxHeartbeats 1600000 in
theorem halg_c (h : He) (ha : h.alg = 3) (w : World) : Calls Tryz.prog 82 #[hv h] w fun e w' => ∃ g, e = .returned (algC g) ∧ w.heap.size ≤ g ∧ Blk w' g [.func (.func 130) #[] #[]] 149 ∧ Below w.heap.size w w' := by
  obtain ⟨key, alg, out, cus, msg⟩ := h
  obtain rfl : alg = 3 := ha
  obtain ⟨W, hW⟩ : ∃ W, (w.alloc (.cells #[.int .u8 3, .int .i64 out, .int .i64 key, .int .i64 cus, .int .i64 msg] 82)).alloc (.cells #[.int .i64 0, .bool false, .nilFunc, .nilFunc, .nilFunc, .nilFunc] 113) = W := ⟨_, rfl⟩
  have BW : Hid (Below w.heap.size w W) := by rw [← hW]; exact below_next (below_alloc _ _) (below_alloc _ _)
  have KB : Hid (Blk W w.heap.size [.int .u8 3, .int .i64 out, .int .i64 key, .int .i64 cus, .int .i64 msg] 82) := by rw [← hW]; exact (Blk.newAt w _ _ _ w.heap.size rfl rfl).alloc _
  have KE : Hid (Blk W (w.heap.size + 1) [.int .i64 0, .bool false, .nilFunc, .nilFunc, .nilFunc, .nilFunc] 113) := by rw [← hW]; exact Blk.newAt (w.alloc _) _ _ _ (w.heap.size + 1) (by simp) rfl
  have hz : Hid (W.heap.size = w.heap.size + 1 + 1) := by show W.heap.size = _; rw [← hW]; simp
  have x0 := KB.out.cell 0 _ rfl
  go_enter Tryz.func82, Tryz.ntmps82
  go_wp2_with fail
  clear hW
  refine (aofc_ok _).mono ?_
  rintro e W1 ⟨g, rfl, hg, kg, hb⟩
  have hz' := hz.out
  have N1 := hid hb
  obtain ⟨U, hU⟩ : ∃ U, W1.alloc (.cells #[.int .i64 0, .bool false, .nilFunc, .nilFunc, .nilFunc, .nilFunc] 113) = U := ⟨_, rfl⟩
  have NU : Hid (Below W1.heap.size W1 U) := by rw [← hU]; exact below_alloc _ _
  have ku : Blk U W1.heap.size [.int .i64 0, .bool false, .nilFunc, .nilFunc, .nilFunc, .nilFunc] 113 := by rw [← hU]; exact Blk.newAt W1 _ _ _ W1.heap.size rfl rfl
  obtain ⟨V, s1, kv, hkv⟩ := SVa_run 16 false 131 132 133 135 #[] #[.pointer (some ⟨g, 0, none⟩)] #[.pointer (some ⟨g, 0, none⟩)] #[.pointer (some ⟨g, 0, none⟩)] ku rfl
  have l1 := LDa_run kv
  have s1z := N1.out.size
  have bv := hkv.below NU.out.size (fun k h e => by omega)
  have bv := NU.out.trans bv
  have ke := (KE.out.below N1.out).below bv
  obtain ⟨Z, s2, kz, hkz⟩ := SVa_run 16 false 131 132 133 135 #[] #[.pointer (some ⟨g, 0, none⟩)] #[.pointer (some ⟨g, 0, none⟩)] #[.pointer (some ⟨g, 0, none⟩)] ke rfl
  have L2 := hid (LDa_run kz)
  have BZ : Hid (Below w.heap.size w Z) := hid ((below_next (below_next BW.out N1.out) bv).trans (hkz.below (by have := bv.size; omega) (fun k h e => by omega)))
  have FZ := hid (show (_) from (kg.below bv).kept hkz (fun e => by omega))
  have HG : Hid (w.heap.size ≤ g) := hid (by omega)
  clear ku kv hkv ke kz hkz bv hb kg
  go_wp2
  exact bodyPost_ret (results_cell1 rfl rfl L2.out) rfl ⟨g, rfl, HG.out, FZ.out, BZ.out⟩
set_option maxRecDepth 8000 in
set_option maxHeartbeats 1600000 in
theorem halg_k (h : He) (ha : 4 ≤ h.alg ∧ h.alg ≤ 7) (w : World) : Calls Tryz.prog 82 #[hv h] w fun e w' => ∃ gp gr gx, e = .returned (algK gp gr gx) ∧ (w.heap.size ≤ gp ∧ w.heap.size ≤ gr ∧ w.heap.size ≤ gx) ∧ Blk w' gp [.int .u8 3, .int .i64 200] 84 ∧ Blk w' gr [.int .i64 (rte h.alg)] 3 ∧ Blk w' gx [.bool (xof h.alg)] 4 ∧ Below w.heap.size w w' := by
  obtain ⟨key, alg, out, cus, msg⟩ := h
  have ha : 4 ≤ alg ∧ alg ≤ 7 := ha
  obtain ⟨W, hW⟩ : ∃ W, (w.alloc (.cells #[.int .u8 alg, .int .i64 out, .int .i64 key, .int .i64 cus, .int .i64 msg] 82)).alloc (.cells #[.int .i64 0, .bool false, .nilFunc, .nilFunc, .nilFunc, .nilFunc] 113) = W := ⟨_, rfl⟩
  have BW : Hid (Below w.heap.size w W) := by rw [← hW]; exact below_next (below_alloc _ _) (below_alloc _ _)
  have KB : Hid (Blk W w.heap.size [.int .u8 alg, .int .i64 out, .int .i64 key, .int .i64 cus, .int .i64 msg] 82) := by rw [← hW]; exact (Blk.newAt w _ _ _ w.heap.size rfl rfl).alloc _
  have KE : Hid (Blk W (w.heap.size + 1) [.int .i64 0, .bool false, .nilFunc, .nilFunc, .nilFunc, .nilFunc] 113) := by rw [← hW]; exact Blk.newAt (w.alloc _) _ _ _ (w.heap.size + 1) (by simp) rfl
  have hz : Hid (W.heap.size = w.heap.size + 1 + 1) := by show W.heap.size = _; rw [← hW]; simp
  have x0 := KB.out.cell 0 _ rfl
  go_enter Tryz.func82, Tryz.ntmps82
  go_wp2_with fail
  clear hW
  refine (aofk_ok alg ha _).mono ?_
  rintro e W1 ⟨gp, gr, gx, rfl, hg, kp, kr, kx, hb⟩
  have hz' := hz.out
  have N1 := hid hb
  obtain ⟨U, hU⟩ : ∃ U, W1.alloc (.cells #[.int .i64 0, .bool false, .nilFunc, .nilFunc, .nilFunc, .nilFunc] 113) = U := ⟨_, rfl⟩
  have NU : Hid (Below W1.heap.size W1 U) := by rw [← hU]; exact below_alloc _ _
  have ku : Blk U W1.heap.size [.int .i64 0, .bool false, .nilFunc, .nilFunc, .nilFunc, .nilFunc] 113 := by rw [← hU]; exact Blk.newAt W1 _ _ _ W1.heap.size rfl rfl
  obtain ⟨V, s1, kv, hkv⟩ := SVa_run 64 true 125 136 139 140 #[] #[.pointer (some ⟨gp, 0, none⟩), .pointer (some ⟨gr, 0, none⟩)] #[.pointer (some ⟨gp, 0, none⟩), .pointer (some ⟨gr, 0, none⟩)] #[.pointer (some ⟨gp, 0, none⟩), .pointer (some ⟨gr, 0, none⟩), .pointer (some ⟨gx, 0, none⟩)] ku rfl
  have l1 := LDa_run kv
  have s1z := N1.out.size
  have bv := hkv.below NU.out.size (fun k h e => by omega)
  have bv := NU.out.trans bv
  have ke := (KE.out.below N1.out).below bv
  obtain ⟨Z, s2, kz, hkz⟩ := SVa_run 64 true 125 136 139 140 #[] #[.pointer (some ⟨gp, 0, none⟩), .pointer (some ⟨gr, 0, none⟩)] #[.pointer (some ⟨gp, 0, none⟩), .pointer (some ⟨gr, 0, none⟩)] #[.pointer (some ⟨gp, 0, none⟩), .pointer (some ⟨gr, 0, none⟩), .pointer (some ⟨gx, 0, none⟩)] ke rfl
  have L2 := hid (LDa_run kz)
  have BZ : Hid (Below w.heap.size w Z) := hid ((below_next (below_next BW.out N1.out) bv).trans (hkz.below (by have := bv.size; omega) (fun k h e => by omega)))
  have FZ := hid (show (_ ∧ _ ∧ _) from ⟨(kp.below bv).kept hkz (fun e => by omega), (kr.below bv).kept hkz (fun e => by omega), (kx.below bv).kept hkz (fun e => by omega)⟩)
  have HG : Hid ((w.heap.size ≤ gp ∧ w.heap.size ≤ gr ∧ w.heap.size ≤ gx)) := hid (by omega)
  clear ku kv hkv ke kz hkz bv hb kp kr kx
  go_wp2
  exact bodyPost_ret (results_cell1 rfl rfl L2.out) rfl ⟨gp, gr, gx, rfl, HG.out, FZ.out.1, FZ.out.2.1, FZ.out.2.2, BZ.out⟩
end Go.Proofs.YtdmacflcjbkkpaaGreat.Co
