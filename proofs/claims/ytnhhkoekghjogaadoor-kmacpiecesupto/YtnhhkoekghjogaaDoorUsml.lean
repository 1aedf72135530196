/- Scripts and cases: their cells; what the helper small answers. -/
import Derived.Test.YtnhhkoekghjogaaDoorUnum
import Derived.Deep.RegionHeld3
namespace Go.Proofs.YtnhhkoekghjogaaDoor.Kc
open Go.ChangeShapes Go.WideShapes Go.ChangeAt Go.RowKit
open Go.Proofs.YtnhhkoekghjogaaDoor.By Go.Proofs.YtnhhkoekghjogaaDoor.Wd
/-- A call of the script. -/
structure AE where
  on : Int
  cc : Int
  tgt : Int
  pa : Option Addr
  pn : Nat
  pc : Nat
  n : Int
  xof : Bool
  g : Nat → Int
/-- A case. -/
structure CE where
  st : Int
  ka : Option Addr
  kn : Nat
  kc : Nat
  ca : Option Addr
  cn : Nat
  cc : Nat
  f : Nat → Int
  h : Nat → Int
/-- The script's cells. -/
def Scr (W : World) (bb off m : Nat) (a : Nat → AE) : Prop := ∀ i, i < m →
  W.cell? ⟨bb, off + i * 6, none⟩ = some (.int .i64 (a i).on) ∧ W.cell? ⟨bb, off + i * 6 + 1, none⟩ = some (.int .i64 (a i).cc) ∧ W.cell? ⟨bb, off + i * 6 + 2, none⟩ = some (.int .i64 (a i).tgt) ∧
  W.cell? ⟨bb, off + i * 6 + 3, none⟩ = some (.slice (a i).pa (a i).pn (a i).pc) ∧ W.cell? ⟨bb, off + i * 6 + 4, none⟩ = some (.int .i64 (a i).n) ∧ W.cell? ⟨bb, off + i * 6 + 5, none⟩ = some (.bool (a i).xof)
/-- The cases' cells. -/
def Cas (W : World) (cb C : Nat) (q : Nat → CE) : Prop := ∀ i, i < C →
  W.cell? ⟨cb, i * 3, none⟩ = some (.int .i64 (q i).st) ∧ W.cell? ⟨cb, i * 3 + 1, none⟩ = some (.slice (q i).ka (q i).kn (q i).kc) ∧ W.cell? ⟨cb, i * 3 + 2, none⟩ = some (.slice (q i).ca (q i).cn (q i).cc)
/-- What small says. -/
def Sml (m : Nat) (a : Nat → AE) (C : Nat) (q : Nat → CE) (e : Ending) : Prop := ∃ y : Bool, e = .returned (.bool y) ∧ (y = true → m ≤ 40 ∧ (∀ i, i < m → (a i).pn ≤ 4000) ∧ ∀ i, i < C → (q i).kn ≤ 4000 ∧ (q i).cn ≤ 4000)
set_option maxRecDepth 4000 in
set_option maxHeartbeats 8000000 in
theorem small1 (A : Option Addr) (bb off m cap : Nat) (hA : 0 < m → A = some ⟨bb, off, none⟩) (a : Nat → AE) (cb C : Nat) (q : Nat → CE) (w : World) (hs : Scr w bb off m a) (hc : Cas w cb C q) (hm : m ≤ cap) (hcap : cap ≤ maxLen) (hpn : ∀ i, i < m → (a i).pn ≤ 140737488355328) (hkn : ∀ i, i < C → (q i).kn ≤ 140737488355328 ∧ (q i).cn ≤ 140737488355328) (hC : C ≤ 2) :
    Calls Tryd.prog 8 #[.slice A m cap, .slice (some ⟨cb, 0, none⟩) C C] w fun e w' => Sml m a C q e ∧ ∃ d, w' = w.drewN d := by
  have HS := hid hs
  have HCS := hid hc
  have HAA := hid hA
  have HP := hid hpn
  have HKN := hid hkn
  have hm2 : m ≤ maxLen := Nat.le_trans hm hcap
  have hm3 : Hid (m ≤ maxLen) := hm2
  clear hs hpn hcap hm2 hA hc hkn
  go_enter Tryd.func8, Tryd.ntmps8
  go_wp2_with fail
  go_loopw [5, 6] (fun s i wr => ∃ (dd k : Nat) (t : Int), wr = w.drewN dd ∧ k ≤ C ∧ i = .int .i64 k ∧ s = .int .i64 t ∧ 0 ≤ t ∧ t ≤ 281474976710656 * k ∧ ∀ j, j < k → ((q j).kn : Int) ≤ t ∧ ((q j).cn : Int) ≤ t) (fun _ i _ => C - (intOf i).toNat)
  case atStart => exact ⟨0, 0, 0, rfl, Nat.zero_le _, rfl, rfl, by omega, by omega, fun j hj => by omega⟩
  case round =>
    obtain ⟨dd, k, t, hwr, hk, rfl, rfl, ht0, ht1, hall⟩ := hrel
    have HA := hid hall
    have HW := hid hwr
    clear hall hwr
    by_cases hlt : k < C
    · obtain ⟨_, d1, d2⟩ := (show Cas wr cb C q by rw [HW.out]; exact HCS.out) k hlt
      obtain ⟨p1, p2⟩ := HKN.out k hlt
      obtain ⟨x, hx⟩ : ∃ x, q k = x := ⟨_, rfl⟩
      rw [hx] at d1 d2 p1 p2
      have HX := hid hx
      clear hx
      have w1 : IntKind.i64.wrap (t + (x.kn : Int)) = t + x.kn := by rw [IntKind.wrap_i64]; omega
      have w2 : IntKind.i64.wrap (t + (x.kn : Int) + (x.cn : Int)) = t + x.kn + x.cn := by rw [IntKind.wrap_i64]; omega
      go_wp2_with fail
      go_region_held3 (fun W => W.cell? ⟨cb, k * 3 + 1, none⟩ = some (.slice x.ka x.kn x.kc) ∧ W.cell? ⟨cb, k * 3 + 2, none⟩ = some (.slice x.ca x.cn x.cc)) (go_keep) (fail)
      go_wp2_with fail
      refine ⟨⟨dd + 1, k + 1, t + (x.kn : Int) + (x.cn : Int), by rw [HW.out]; rfl, by omega, by go_num, rfl, by omega, by omega, fun j hj => ?_⟩, by simp [intOf]; omega⟩
      by_cases e : j = k
      · rw [e, HX.out]; omega
      · have := HA.out j (by omega); omega
    · have ek : k = C := by omega
      subst ek
      have HT0 := hid (show t ≤ 1000000000000000 by omega)
      clear ht1
      go_wp2
      go_loopw [5, 7] (fun s i wr => ∃ (d2 k2 : Nat) (T : Int), wr = w.drewN d2 ∧ k2 ≤ m ∧ i = .int .i64 k2 ∧ s = .int .i64 T ∧ t ≤ T ∧ T ≤ 1000000000000000 ∧ ∀ j, j < k2 → ((a j).pn : Int) ≤ T) (fun _ i _ => m - (intOf i).toNat)
      case atStart => exact ⟨dd, 0, t, HW.out, Nat.zero_le _, rfl, rfl, by omega, HT0.out, fun j hj => by omega⟩
      case round =>
        obtain ⟨d2, k2, T, rfl, hk2, rfl, rfl, hT0, hT1, hall⟩ := hrel
        have HB := hid hall
        have hmx := hm3.out
        simp only [maxLen] at hmx
        clear hall
        by_cases hlt2 : k2 < m
        · obtain rfl := HAA.out (by omega)
          obtain ⟨_, _, _, d3, d4, _⟩ := (show Scr (w.drewN d2) bb off m a from HS.out) k2 hlt2
          have dp := HP.out k2 hlt2
          obtain ⟨x, hx⟩ : ∃ x, a k2 = x := ⟨_, rfl⟩
          rw [hx] at d3 d4 dp
          have HX := hid hx
          clear hx
          have w1 : IntKind.i64.wrap (T + (x.pn : Int)) = T + x.pn := by rw [IntKind.wrap_i64]; omega
          by_cases r2 : 0 < x.n
          · by_cases r3 : x.n ≤ 65536
            · have w2 : IntKind.i64.wrap (T + (x.pn : Int) + x.n) = T + x.pn + x.n := by rw [IntKind.wrap_i64]; omega
              by_cases hb : 4000 < T + (x.pn : Int) + x.n
              · go_wp2
                go_ret
                exact ⟨⟨false, rfl, fun h => by cases h⟩, _, rfl⟩
              · go_wp2_with fail
                exact ⟨⟨d2, k2 + 1, T + (x.pn : Int) + x.n, rfl, by omega, by go_num, rfl, by omega, by omega, fun j hj => by
                  by_cases e : j = k2
                  · rw [e, HX.out]; omega
                  · have := HB.out j (by omega); omega⟩, by simp [intOf]; omega⟩
            · by_cases hb : 4000 < T + (x.pn : Int)
              · go_wp2
                go_ret
                exact ⟨⟨false, rfl, fun h => by cases h⟩, _, rfl⟩
              · go_wp2_with fail
                exact ⟨⟨d2, k2 + 1, T + (x.pn : Int), rfl, by omega, by go_num, rfl, by omega, by omega, fun j hj => by
                  by_cases e : j = k2
                  · rw [e, HX.out]; omega
                  · have := HB.out j (by omega); omega⟩, by simp [intOf]; omega⟩
          · by_cases hb : 4000 < T + (x.pn : Int)
            · go_wp2
              go_ret
              exact ⟨⟨false, rfl, fun h => by cases h⟩, _, rfl⟩
            · go_wp2_with fail
              exact ⟨⟨d2, k2 + 1, T + (x.pn : Int), rfl, by omega, by go_num, rfl, by omega, by omega, fun j hj => by
                by_cases e : j = k2
                · rw [e, HX.out]; omega
                · have := HB.out j (by omega); omega⟩, by simp [intOf]; omega⟩
        · have ek : k2 = m := by omega
          subst ek
          by_cases h40 : k2 ≤ 40
          · have h40' : (k2 : Int) ≤ 40 := by omega
            by_cases h4 : T ≤ 4000
            · go_wp2
              go_ret
              exact ⟨⟨true, rfl, fun _ => ⟨h40, fun i hi => by have := HB.out i hi; omega, fun i hi => by have := HA.out i hi; omega⟩⟩, _, rfl⟩
            · go_wp2
              go_ret
              exact ⟨⟨false, rfl, fun h => by cases h⟩, _, rfl⟩
          · have h40' : ¬ (k2 : Int) ≤ 40 := by omega
            go_wp2
            go_ret
            exact ⟨⟨false, rfl, fun h => by cases h⟩, _, rfl⟩
end Go.Proofs.YtnhhkoekghjogaaDoor.Kc
