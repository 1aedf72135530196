/- The script: its cells; what the helper small answers. -/
import Derived.Test.YtbjccfnaadmofaaDoorHact
namespace Go.Proofs.YtbjccfnaadmofaaDoor.Sh
open Go.ChangeShapes Go.WideShapes Go.ChangeAt Go.RowKit
open Go.Proofs.YtbjccfnaadmofaaDoor.By Go.Proofs.YtbjccfnaadmofaaDoor.Wd
/-- A call of the script. -/
structure AE where
  on : Int
  cc : Int
  to : Int
  pa : Option Addr
  pn : Nat
  pc : Nat
  sil : Bool
  g : Nat → Int
/-- The script's cells. -/
def Scr (W : World) (bb off m : Nat) (a : Nat → AE) : Prop := ∀ i, i < m →
  W.cell? ⟨bb, off + i * 5, none⟩ = some (.int .i64 (a i).on) ∧ W.cell? ⟨bb, off + i * 5 + 1, none⟩ = some (.int .i64 (a i).cc) ∧ W.cell? ⟨bb, off + i * 5 + 2, none⟩ = some (.int .i64 (a i).to) ∧
  W.cell? ⟨bb, off + i * 5 + 3, none⟩ = some (.slice (a i).pa (a i).pn (a i).pc) ∧ W.cell? ⟨bb, off + i * 5 + 4, none⟩ = some (.bool (a i).sil)
/-- The bytes of the first k calls. -/
def sm (a : Nat → AE) : Nat → Nat
  | 0 => 0
  | k + 1 => sm a k + (a k).pn
theorem sm_mono (a : Nat → AE) (k m : Nat) (h : k ≤ m) : sm a k ≤ sm a m := by
  induction m with
  | zero => rw [Nat.le_zero.1 h]; exact Nat.le_refl _
  | succ m ih =>
    by_cases e : k = m + 1
    · rw [e]; exact Nat.le_refl _
    · have := ih (by omega); show sm a k ≤ sm a m + (a m).pn; omega
theorem sm_small (a : Nat → AE) (k : Nat) (hk : k ≤ 60) (h : ∀ i, i < k → (a i).pn ≤ 140737488355328) : sm a k ≤ k * 140737488355328 := by
  induction k with
  | zero => exact Nat.le_refl _
  | succ k ih =>
    have h1 := ih (by omega) (fun i hi => h i (by omega))
    have h2 := h k (by omega)
    show sm a k + (a k).pn ≤ _
    omega
/-- What small says. -/
def Sml (m : Nat) (a : Nat → AE) (e : Ending) : Prop := ∃ y : Bool, e = .returned (.bool y) ∧ (y = true → m ≤ 60 ∧ sm a m ≤ 16384)
set_option maxRecDepth 4000 in
set_option maxHeartbeats 4000000 in
theorem small1 (A : Option Addr) (bb off m cap : Nat) (hA : 0 < m → A = some ⟨bb, off, none⟩) (a : Nat → AE) (w : World) (hs : Scr w bb off m a) (hm : m ≤ cap) (hcap : cap ≤ maxLen) (hpn : ∀ i, i < m → (a i).pn ≤ 140737488355328) :
    Calls Tryd.prog 5 #[.slice A m cap] w fun e w' => Sml m a e ∧ w' = w := by
  have HS := hid hs
  have HAA := hid hA
  have HP := hid hpn
  have hm2 : m ≤ maxLen := Nat.le_trans hm hcap
  have hm3 : Hid (m ≤ maxLen) := hm2
  clear hs hpn hcap hm2 hA
  go_enter Tryd.func5, Tryd.ntmps5
  go_wp2_with fail
  go_loopw [3, 4] (fun s i wr => wr = w ∧ ∃ (k : Nat) (t : Int), k ≤ m ∧ i = .int .i64 k ∧ s = .int .i64 t ∧ (k ≤ 60 → t = sm a k)) (fun _ i _ => m - (intOf i).toNat)
  case atStart => exact ⟨rfl, 0, 0, Nat.zero_le _, rfl, rfl, fun _ => rfl⟩
  case round =>
    obtain ⟨rfl, k, t, hk, rfl, rfl, hall⟩ := hrel
    have HA := hid hall
    have hmx := hm3.out
    simp only [maxLen] at hmx
    clear hall
    by_cases hlt : k < m
    · obtain rfl := HAA.out (by omega)
      obtain ⟨_, _, _, d3, _⟩ := HS.out k hlt
      have dp := HP.out k hlt
      obtain ⟨q, hq⟩ : ∃ q, a k = q := ⟨_, rfl⟩
      rw [hq] at d3 dp
      have HQ := hid hq
      clear hq
      obtain ⟨t', ht'⟩ : ∃ t', IntKind.i64.wrap (t + (q.pn : Int)) = t' := ⟨_, rfl⟩
      have HT' := hid ht'
      go_wp2_with fail
      refine ⟨⟨trivial, k + 1, t', by omega, by go_num, by first | rfl | (rw [← HT'.out]), fun h60 => ?_⟩, by simp [intOf]; omega⟩
      have e1 := HA.out (by omega)
      have e2 := sm_small a k (by omega) (fun i hi => HP.out i (by omega))
      rw [← HT'.out, IntKind.wrap_i64, e1]
      show _ = ((sm a k + (a k).pn : Nat) : Int)
      rw [HQ.out]
      omega
    · have ek : k = m := by omega
      subst ek
      by_cases h60 : k ≤ 60
      · have h60' : (k : Int) ≤ 60 := by omega
        by_cases hb : t ≤ 16384
        · go_wp2
          go_ret
          exact ⟨⟨true, rfl, fun _ => ⟨h60, by have := HA.out h60; omega⟩⟩, rfl⟩
        · go_wp2
          go_ret
          exact ⟨⟨false, rfl, fun h => by cases h⟩, rfl⟩
      · have h60' : ¬ (k : Int) ≤ 60 := by omega
        go_wp2
        go_ret
        exact ⟨⟨false, rfl, fun h => by cases h⟩, rfl⟩
end Go.Proofs.YtbjccfnaadmofaaDoor.Sh
