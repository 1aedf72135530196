/- The script of CmacScript: its cells; the helper long. -/
import Derived.Test.YtbgdjjfonmoemaaDoorWd
import Derived.Deep.RegionHeld3
namespace Go.Proofs.YtbgdjjfonmoemaaDoor.Vm
open Go.ChangeShapes Go.WideShapes Go.ChangeAt Go.RowKit
open Go.Proofs.YtbgdjjfonmoemaaDoor.By Go.Proofs.YtbgdjjfonmoemaaDoor.Gf Go.Proofs.YtbgdjjfonmoemaaDoor.Ae
/-- An act of the script. -/
structure AE where
  on : Int
  kd : Int
  ka : Option Addr
  kn : Nat
  kc : Nat
  da : Option Addr
  dn : Nat
  dc : Nat
  mute : Bool
  fk : Nat → Nat
  fd : Nat → Nat
/-- The script's cells. -/
def Scr (W : World) (bb off m : Nat) (a : Nat → AE) : Prop := ∀ i, i < m →
  W.cell? ⟨bb, off + i * 5, none⟩ = some (.int .i64 (a i).on) ∧ W.cell? ⟨bb, off + i * 5 + 1, none⟩ = some (.int .i64 (a i).kd) ∧ W.cell? ⟨bb, off + i * 5 + 2, none⟩ = some (.slice (a i).ka (a i).kn (a i).kc) ∧
  W.cell? ⟨bb, off + i * 5 + 3, none⟩ = some (.slice (a i).da (a i).dn (a i).dc) ∧ W.cell? ⟨bb, off + i * 5 + 4, none⟩ = some (.bool (a i).mute)
theorem scr_below {w W : World} {bb off m : Nat} {a : Nat → AE} (h : Scr w bb off m a) (hb : Below w.heap.size w W) : Scr W bb off m a := fun i hi => by
  obtain ⟨c0, c1, c2, c3, c4⟩ := h i hi
  have k : ∀ j v, w.cell? ⟨bb, j, none⟩ = some v → W.cell? ⟨bb, j, none⟩ = some v := fun j v hc => by
    rw [hb.cell (p := ⟨bb, j, none⟩) (block_lt_of_cell hc)]; exact hc
  exact ⟨k _ _ c0, k _ _ c1, k _ _ c2, k _ _ c3, k _ _ c4⟩
/-- What long answers: nothing, or that no list is long. -/
def LongP (e : Ending) (m : Nat) (a : Nat → AE) : Prop := ∃ y : Bool, e = .returned (.bool y) ∧ (y = false → ∀ i, i < m → (a i).dn ≤ 4000)
theorem LongP.yes (m : Nat) (a : Nat → AE) : LongP (.returned (.bool true)) m a := ⟨true, rfl, fun h => by cases h⟩
theorem LongP.no {m : Nat} {a : Nat → AE} (h : ∀ i, i < m → (a i).dn ≤ 4000) : LongP (.returned (.bool false)) m a := ⟨false, rfl, fun _ => h⟩
set_option maxRecDepth 4000 in
set_option maxHeartbeats 4000000 in
theorem long1 (A : Option Addr) (bb off m cap : Nat) (hA : 0 < m → A = some ⟨bb, off, none⟩) (a : Nat → AE) (w : World) (hs : Scr w bb off m a) (hm60 : m ≤ 60) (hpn : ∀ i, i < m → (a i).dn ≤ 140737488355328) :
    Calls Tryd.prog 4 #[.slice A m cap] w fun e w' => LongP e m a ∧ w' = w := by
  have HS := hid hs
  have HAA := hid hA
  have HP := hid hpn
  clear hs hpn hA
  go_enter Tryd.func4, Tryd.ntmps4
  go_wp2_with fail
  go_loopw [3, 4] (fun s i wr => wr = w ∧ ∃ (k : Nat) (t : Int), k ≤ m ∧ i = .int .i64 k ∧ s = .int .i64 t ∧ 0 ≤ t ∧ t ≤ 5000 * k ∧ ∀ j, j < k → ((a j).dn : Int) ≤ t ∨ 5000 ≤ t) (fun _ i _ => m - (intOf i).toNat)
  case atStart => exact ⟨rfl, 0, 0, Nat.zero_le _, rfl, rfl, by omega, by omega, fun j hj => by omega⟩
  case round =>
    obtain ⟨rfl, k, t, hk, rfl, rfl, ht0, ht1, hall⟩ := hrel
    have HA := hid hall
    clear hall
    by_cases hlt : k < m
    · obtain rfl := HAA.out (by omega)
      obtain ⟨_, _, _, d3, _⟩ := HS.out k hlt
      have dp := HP.out k hlt
      obtain ⟨q, hq⟩ : ∃ q, a k = q := ⟨_, rfl⟩
      rw [hq] at d3 dp
      have HQ := hid hq
      clear hq
      rcases (show (q.dn : Int) < 5000 ∨ (q.dn : Int) = 5000 ∨ (5000 : Int) < q.dn by omega) with h5 | h5 | h5
      · have w1 : IntKind.i64.wrap (t + (q.dn : Int)) = t + q.dn := by rw [IntKind.wrap_i64]; omega
        have h5' : ¬ (5000 : Int) < q.dn := by omega
        go_wp2_with fail
        exact ⟨⟨trivial, k + 1, t + q.dn, by omega, by go_num, rfl, by omega, by omega, fun j hj => by
          by_cases hjk : j < k
          · rcases HA.out j hjk with h | h <;> omega
          · obtain rfl : j = k := by omega
            rw [HQ.out]; omega⟩, by simp [intOf]; omega⟩
      · have w1 : IntKind.i64.wrap (t + 5000) = t + 5000 := by rw [IntKind.wrap_i64]; omega
        go_wp2_with fail
        exact ⟨⟨trivial, k + 1, t + 5000, by omega, by go_num, rfl, by omega, by omega, fun j hj => by
          by_cases hjk : j < k
          · rcases HA.out j hjk with h | h <;> omega
          · omega⟩, by simp [intOf]; omega⟩
      · have w1 : IntKind.i64.wrap (t + 5000) = t + 5000 := by rw [IntKind.wrap_i64]; omega
        have h5' : ¬ (q.dn : Int) < 5000 := by omega
        go_wp2_with fail
        exact ⟨⟨trivial, k + 1, t + 5000, by omega, by go_num, rfl, by omega, by omega, fun j hj => by
          by_cases hjk : j < k
          · rcases HA.out j hjk with h | h <;> omega
          · omega⟩, by simp [intOf]; omega⟩
    · have ek : k = m := by omega
      subst ek
      by_cases h4 : 4000 < t
      · go_wp2
        go_ret
        exact ⟨LongP.yes _ _, rfl⟩
      · go_wp2
        go_ret
        exact ⟨LongP.no (fun i hi => by rcases HA.out i hi with h | h <;> omega), rfl⟩
end Go.Proofs.YtbgdjjfonmoemaaDoor.Vm
