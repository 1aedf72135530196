/- The script: its cells; what the helper small answers. -/
import Derived.Test.YtnbmnpfpjhpifaaDoorSact5
namespace Go.Proofs.YtnbmnpfpjhpifaaDoor.Kc
open Go.ChangeShapes Go.WideShapes Go.ChangeAt Go.RowKit
open Go.Proofs.YtnbmnpfpjhpifaaDoor.By Go.Proofs.YtnbmnpfpjhpifaaDoor.Wd
/-- A call of the script. -/
structure AE where
  on : Int
  cc : Int
  to : Int
  pa : Option Addr
  pn : Nat
  pc : Nat
  n : Int
  sf : Int
  sil : Bool
  g : Nat → Int
/-- The script's cells. -/
def Scr (W : World) (bb off m : Nat) (a : Nat → AE) : Prop := ∀ i, i < m →
  W.cell? ⟨bb, off + i * 7, none⟩ = some (.int .i64 (a i).on) ∧ W.cell? ⟨bb, off + i * 7 + 1, none⟩ = some (.int .i64 (a i).cc) ∧ W.cell? ⟨bb, off + i * 7 + 2, none⟩ = some (.int .i64 (a i).to) ∧
  W.cell? ⟨bb, off + i * 7 + 3, none⟩ = some (.slice (a i).pa (a i).pn (a i).pc) ∧ W.cell? ⟨bb, off + i * 7 + 4, none⟩ = some (.int .i64 (a i).n) ∧ W.cell? ⟨bb, off + i * 7 + 5, none⟩ = some (.int .u8 (a i).sf) ∧ W.cell? ⟨bb, off + i * 7 + 6, none⟩ = some (.bool (a i).sil)
/-- What small says. -/
def Sml (m : Nat) (a : Nat → AE) (e : Ending) : Prop := ∃ y : Bool, e = .returned (.bool y) ∧ (y = true → m ≤ 60 ∧ ∀ i, i < m → (a i).pn ≤ 6000)
set_option maxRecDepth 4000 in
set_option maxHeartbeats 4000000 in
theorem small1 (A : Option Addr) (bb off m cap : Nat) (hA : 0 < m → A = some ⟨bb, off, none⟩) (a : Nat → AE) (w : World) (hs : Scr w bb off m a) (hm : m ≤ cap) (hcap : cap ≤ maxLen) (hpn : ∀ i, i < m → (a i).pn ≤ 140737488355328) :
    Calls Tryd.prog 5 #[.slice A m cap] w fun e w' => Sml m a e ∧ w' = w := by
  have HS := hid hs
  have HAA := hid hA
  have HP := hid hpn
  have hm2 : m ≤ maxLen := Nat.le_trans hm hcap
  have hm3 : Hid (m ≤ maxLen) := hm2
  clear hs hpn hcap hm2 hA
  go_enter Tryd.func5, Tryd.ntmps5
  go_wp2_with fail
  go_loopw [3, 4] (fun s i wr => wr = w ∧ ∃ (k : Nat) (t : Int), k ≤ m ∧ i = .int .i64 k ∧ s = .int .i64 t ∧ 0 ≤ t ∧ t ≤ 6000 ∧ ∀ j, j < k → (a j).pn ≤ 6000) (fun _ i _ => m - (intOf i).toNat)
  case atStart => exact ⟨rfl, 0, 0, Nat.zero_le _, rfl, rfl, by omega, by omega, fun j hj => by omega⟩
  case round =>
    obtain ⟨rfl, k, t, hk, rfl, rfl, ht0, ht1, hall⟩ := hrel
    have HA := hid hall
    have hmx := hm3.out
    simp only [maxLen] at hmx
    clear hall
    by_cases hlt : k < m
    · obtain rfl := HAA.out (by omega)
      obtain ⟨_, d1, _, d3, d4, _, _⟩ := HS.out k hlt
      have dp := HP.out k hlt
      obtain ⟨q, hq⟩ : ∃ q, a k = q := ⟨_, rfl⟩
      rw [hq] at d1 d3 d4 dp
      have HQ := hid hq
      clear hq
      have w1 : IntKind.i64.wrap (t + (q.pn : Int)) = t + q.pn := by rw [IntKind.wrap_i64]; omega
      by_cases r1 : q.cc = 2
      · by_cases r2 : 0 < q.n
        · by_cases r3 : q.n ≤ 65536
          · have w2 : IntKind.i64.wrap (t + (q.pn : Int) + q.n) = t + q.pn + q.n := by rw [IntKind.wrap_i64]; omega
            by_cases hb : 6000 < t + (q.pn : Int) + q.n
            · go_wp2
              go_ret
              exact ⟨⟨false, rfl, fun h => by cases h⟩, rfl⟩
            · go_wp2_with fail
              exact ⟨⟨trivial, k + 1, t + (q.pn : Int) + q.n, by omega, by go_num, rfl, by omega, by omega, fun j hj => by
                by_cases e : j = k
                · rw [e, HQ.out]; omega
                · exact HA.out j (by omega)⟩, by simp [intOf]; omega⟩
          · by_cases hb : 6000 < t + (q.pn : Int)
            · go_wp2
              go_ret
              exact ⟨⟨false, rfl, fun h => by cases h⟩, rfl⟩
            · go_wp2_with fail
              exact ⟨⟨trivial, k + 1, t + (q.pn : Int), by omega, by go_num, rfl, by omega, by omega, fun j hj => by
                by_cases e : j = k
                · rw [e, HQ.out]; omega
                · exact HA.out j (by omega)⟩, by simp [intOf]; omega⟩
        · by_cases hb : 6000 < t + (q.pn : Int)
          · go_wp2
            go_ret
            exact ⟨⟨false, rfl, fun h => by cases h⟩, rfl⟩
          · go_wp2_with fail
            exact ⟨⟨trivial, k + 1, t + (q.pn : Int), by omega, by go_num, rfl, by omega, by omega, fun j hj => by
              by_cases e : j = k
              · rw [e, HQ.out]; omega
              · exact HA.out j (by omega)⟩, by simp [intOf]; omega⟩
      · by_cases hb : 6000 < t + (q.pn : Int)
        · go_wp2
          go_ret
          exact ⟨⟨false, rfl, fun h => by cases h⟩, rfl⟩
        · go_wp2_with fail
          exact ⟨⟨trivial, k + 1, t + (q.pn : Int), by omega, by go_num, rfl, by omega, by omega, fun j hj => by
            by_cases e : j = k
            · rw [e, HQ.out]; omega
            · exact HA.out j (by omega)⟩, by simp [intOf]; omega⟩
    · have ek : k = m := by omega
      subst ek
      by_cases h60 : k ≤ 60
      · have h60' : (k : Int) ≤ 60 := by omega
        go_wp2
        go_ret
        exact ⟨⟨true, rfl, fun _ => ⟨h60, HA.out⟩⟩, rfl⟩
      · have h60' : ¬ (k : Int) ≤ 60 := by omega
        go_wp2
        go_ret
        exact ⟨⟨false, rfl, fun h => by cases h⟩, rfl⟩
end Go.Proofs.YtnbmnpfpjhpifaaDoor.Kc
