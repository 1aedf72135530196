/- The document's functions on a block: right, table, begin. -/
import Derived.Test.YtojldjckpjokcaaGreatDoorJst
namespace Go.Proofs.YtojldjckpjokcaaGreatDoor.Sg
open Go.ChangeShapes Go.WideShapes Go.ChangeAt Go.RowKit
open Go.Proofs.YtojldjckpjokcaaGreatDoor.By Go.Proofs.YtojldjckpjokcaaGreatDoor.Wd

theorem or_comm64 (a b : Int) : bits .or .u64 a b = bits .or .u64 b a := by
  show IntKind.u64.wrap _ = IntKind.u64.wrap _
  rw [BitVec.or_comm]
theorem right_eq (x n : Int) (hx : W64 x) (h1 : 1 ≤ n) (h2 : n ≤ 63) : bits .or .u64 (x / 2 ^ n.toNat) (x * 2 ^ (64 - n).toNat % 18446744073709551616) = rr x n := by
  have h := turned64 x (-n) hx.1 hx.2
  rw [show (-n) % 64 = 64 - n from by omega, show 64 - (64 - n) = n from by omega] at h
  rw [or_comm64]
  exact h
theorem right81 (x n : Int) (w : World) (hx : W64 x) (h1 : 1 ≤ n) (h2 : n ≤ 63) :
    Calls Tryz.prog 110 #[.int .u64 x, .int .u64 n] w fun e w' => e = .returned (.int .u64 (rr x n)) ∧ w' = w := by
  have E := hid (right_eq x n hx h1 h2)
  rw [← IntKind.wrap_u64] at E
  clear hx
  go_enter Tryz.func110, Tryz.ntmps110
  go_wp2
  go_ret
  exact ⟨congrArg (fun z => Ending.returned (Value.int IntKind.u64 z)) E.out, rfl⟩
theorem blit : [Value.int .u64 7640891576956012808, .int .u64 13503953896175478587, .int .u64 4354685564936845355, .int .u64 11912009170470909681, .int .u64 5840696475078001361, .int .u64 11170449401992604703, .int .u64 2270897969802886507, .int .u64 6620516959819538809] = wl 8 bg := by kernel_rfl
/-- The table as an operation's parts. -/
def partsK : Array (Nat × Operand) := ((List.range 80).map fun i => (i, Operand.const (.int .u64 (K i)))).toArray
theorem builtK (a : Act) : Instr.fill (fun i => some (i, 1)) Tryz.zeroCells144 (List.map (fun x => (x.fst, a.eval x.snd)) partsK.toList) = some (wl 80 K).toArray := by kernel_rfl
set_option maxRecDepth 20000 in
set_option maxHeartbeats 8000000 in
theorem table80 (w : World) : Calls Tryz.prog 108 #[] w fun e w' => e = .returned (.agg (wl 80 K).toArray) ∧ Below w.heap.size w w' := by
  have b0 := Blk.newAt w _ (wl 80 (fun _ => 0)) 144 w.heap.size rfl wz64
  have x1 := SVw_run (cs := wl 80 K) (b0.there 0 80 (by rw [wl_length]; omega)) (wl_length _ _) (wl_one _ _)
  have b1 := b0.put 0 (wl 80 K)
  rw [put_all _ _ (by rw [wl_length, wl_length])] at b1
  have l2 := hid (LDw_run (b1.range 0 _ (fun j v h => by rw [Nat.zero_add]; exact h)) (wl_length _ _))
  clear b0 b1
  go_enter Tryz.func108, Tryz.ntmps108
  have hcode : Code.wp Tryz.prog ((Code.region 0 #[{ dst := some 0, op := Op.alloc 144, type := 0, pos := "ref.go:17", after := #[], guard := none }] false).seq
      ((Code.region 1 #[{ dst := some 1, op := Op.build 144 partsK, type := 144, pos := "ref.go:18", after := #[], guard := none },
        { dst := none, op := Op.store 144 (Operand.tmp 0) (Operand.tmp 1), type := 0, pos := "ref.go:18", after := #[{ on := 0, ground := Ground.data }, { on := 0, ground := Ground.phase }], guard := none }] false).seq Code.ret))
      (bodyPost Tryz.prog Tryz.f108 fun e w' => e = .returned (.agg (wl 80 K).toArray) ∧ Below w.heap.size w w') { tmps := #[undef, undef], defers := [] } w := by
    obtain ⟨pk, hpk⟩ : ∃ x, partsK = x := ⟨_, rfl⟩
    have hb := builtK
    rw [hpk] at hb
    rw [hpk]
    clear hpk
    obtain ⟨KV, hKV⟩ : ∃ x, wl 80 K = x := ⟨_, rfl⟩
    rw [hKV] at x1 l2 hb
    rw [hKV]
    clear hKV
    go_wp2
    refine bodyPost_ret (v := .agg KV.toArray) ?_ rfl ⟨rfl, ?_⟩
    · exact results_cell1 Tryz.results108 rfl l2.out
    · exact below_cells (below_alloc w _) _ _ _ (Nat.le_refl _) (by rw [size_alloc]; omega)
  exact hcode
set_option maxRecDepth 8000 in
theorem begin72 (w : World) : Calls Tryz.prog 96 #[] w fun e w' => e = .returned (.agg (wl 8 bg).toArray) ∧ Below w.heap.size w w' := by
  have b0 := Blk.newAt w _ (wl 8 (fun _ => 0)) 124 w.heap.size rfl h8
  have x1 := SVh_run (cs := wl 8 bg) (b0.there 0 8 (by rw [wl_length]; omega)) (wl_length _ _) (wl_one _ _)
  have b1 := b0.put 0 (wl 8 bg)
  rw [put_all _ _ (by rw [wl_length, wl_length])] at b1
  have l2 := hid (LDh_run (b1.range 0 _ (fun j v h => by rw [Nat.zero_add]; exact h)) (wl_length _ _))
  rw [← blit] at x1
  clear b0 b1
  go_enter Tryz.func96, Tryz.ntmps96
  go_wp2
  refine bodyPost_ret (v := .agg (wl 8 bg).toArray) ?_ rfl ⟨rfl, ?_⟩
  · rw [blit]; exact results_cell1 Tryz.results96 rfl l2.out
  · exact below_cells (below_alloc w _) _ _ _ (Nat.le_refl _) (by rw [size_alloc]; omega)
end Go.Proofs.YtojldjckpjokcaaGreatDoor.Sg
