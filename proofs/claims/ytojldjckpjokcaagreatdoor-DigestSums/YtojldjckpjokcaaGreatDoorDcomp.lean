/- The document's functions on a block: right, table, begin. -/
import Derived.Test.YtojldjckpjokcaaGreatDoorHst
namespace Go.Proofs.YtojldjckpjokcaaGreatDoor.Sh
open Go.ChangeShapes Go.WideShapes Go.ChangeAt Go.RowKit
open Go.Proofs.YtojldjckpjokcaaGreatDoor.By Go.Proofs.YtojldjckpjokcaaGreatDoor.Wd

theorem or_comm32 (a b : Int) : bits .or .u32 a b = bits .or .u32 b a := by
  show IntKind.u32.wrap _ = IntKind.u32.wrap _
  rw [BitVec.or_comm]
theorem right_eq (x n : Int) (hx : W32 x) (h1 : 1 ≤ n) (h2 : n ≤ 31) : bits .or .u32 (x / 2 ^ n.toNat) (x * 2 ^ (32 - n).toNat % 4294967296) = rr x n := by
  have h := turned32 x (32 - n) hx.1 hx.2
  rw [show (32 - n) % 32 = 32 - n from by omega, show 32 - (32 - n) = n from by omega] at h
  rw [or_comm32]
  exact h
theorem right81 (x n : Int) (w : World) (hx : W32 x) (h1 : 1 ≤ n) (h2 : n ≤ 31) :
    Calls Tryz.prog 107 #[.int .u32 x, .int .i64 n] w fun e w' => e = .returned (.int .u32 (rr x n)) ∧ ∃ k, w' = w.drewN k := by
  have E := hid (right_eq x n hx h1 h2)
  clear hx
  go_enter Tryz.func107, Tryz.ntmps107
  go_wp2_with fail
  go_quiet (fail)
  go_wp2
  go_ret
  exact ⟨congrArg (fun z => Ending.returned (Value.int IntKind.u32 z)) E.out, _, rfl⟩
theorem klit : [Value.int .u32 1116352408, .int .u32 1899447441, .int .u32 3049323471, .int .u32 3921009573, .int .u32 961987163, .int .u32 1508970993, .int .u32 2453635748, .int .u32 2870763221, .int .u32 3624381080, .int .u32 310598401, .int .u32 607225278, .int .u32 1426881987, .int .u32 1925078388, .int .u32 2162078206, .int .u32 2614888103, .int .u32 3248222580, .int .u32 3835390401, .int .u32 4022224774, .int .u32 264347078, .int .u32 604807628, .int .u32 770255983, .int .u32 1249150122, .int .u32 1555081692, .int .u32 1996064986, .int .u32 2554220882, .int .u32 2821834349, .int .u32 2952996808, .int .u32 3210313671, .int .u32 3336571891, .int .u32 3584528711, .int .u32 113926993, .int .u32 338241895, .int .u32 666307205, .int .u32 773529912, .int .u32 1294757372, .int .u32 1396182291, .int .u32 1695183700, .int .u32 1986661051, .int .u32 2177026350, .int .u32 2456956037, .int .u32 2730485921, .int .u32 2820302411, .int .u32 3259730800, .int .u32 3345764771, .int .u32 3516065817, .int .u32 3600352804, .int .u32 4094571909, .int .u32 275423344, .int .u32 430227734, .int .u32 506948616, .int .u32 659060556, .int .u32 883997877, .int .u32 958139571, .int .u32 1322822218, .int .u32 1537002063, .int .u32 1747873779, .int .u32 1955562222, .int .u32 2024104815, .int .u32 2227730452, .int .u32 2361852424, .int .u32 2428436474, .int .u32 2756734187, .int .u32 3204031479, .int .u32 3329325298] = wl 64 K := by kernel_rfl
theorem blit : [Value.int .u32 1779033703, .int .u32 3144134277, .int .u32 1013904242, .int .u32 2773480762, .int .u32 1359893119, .int .u32 2600822924, .int .u32 528734635, .int .u32 1541459225] = wl 8 bg := by kernel_rfl
set_option maxRecDepth 20000 in
set_option maxHeartbeats 8000000 in
theorem table80 (w : World) : Calls Tryz.prog 106 #[] w fun e w' => e = .returned (.agg (wl 64 K).toArray) ∧ Below w.heap.size w w' := by
  have b0 := Blk.newAt w _ (wl 64 (fun _ => 0)) 132 w.heap.size rfl wz64
  have x1 := SVw_run (cs := wl 64 K) (b0.there 0 64 (by rw [wl_length]; omega)) (wl_length _ _) (wl_one _ _)
  have b1 := b0.put 0 (wl 64 K)
  rw [put_all _ _ (by rw [wl_length, wl_length])] at b1
  have l2 := hid (LDw_run (b1.range 0 _ (fun j v h => by rw [Nat.zero_add]; exact h)) (wl_length _ _))
  rw [← klit] at x1
  clear b0 b1
  go_enter Tryz.func106, Tryz.ntmps106
  go_wp2
  refine bodyPost_ret (v := .agg (wl 64 K).toArray) ?_ rfl ⟨rfl, ?_⟩
  · rw [klit]; exact results_cell1 Tryz.results106 rfl l2.out
  · exact below_cells (below_alloc w _) _ _ _ (Nat.le_refl _) (by rw [size_alloc]; omega)
set_option maxRecDepth 8000 in
theorem begin72 (w : World) : Calls Tryz.prog 94 #[] w fun e w' => e = .returned (.agg (wl 8 bg).toArray) ∧ Below w.heap.size w w' := by
  have b0 := Blk.newAt w _ (wl 8 (fun _ => 0)) 116 w.heap.size rfl h8
  have x1 := SVh_run (cs := wl 8 bg) (b0.there 0 8 (by rw [wl_length]; omega)) (wl_length _ _) (wl_one _ _)
  have b1 := b0.put 0 (wl 8 bg)
  rw [put_all _ _ (by rw [wl_length, wl_length])] at b1
  have l2 := hid (LDh_run (b1.range 0 _ (fun j v h => by rw [Nat.zero_add]; exact h)) (wl_length _ _))
  rw [← blit] at x1
  clear b0 b1
  go_enter Tryz.func94, Tryz.ntmps94
  go_wp2
  refine bodyPost_ret (v := .agg (wl 8 bg).toArray) ?_ rfl ⟨rfl, ?_⟩
  · rw [blit]; exact results_cell1 Tryz.results94 rfl l2.out
  · exact below_cells (below_alloc w _) _ _ _ (Nat.le_refl _) (by rw [size_alloc]; omega)
end Go.Proofs.YtojldjckpjokcaaGreatDoor.Sh
