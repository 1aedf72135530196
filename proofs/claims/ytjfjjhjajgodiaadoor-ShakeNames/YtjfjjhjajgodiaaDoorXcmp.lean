/- Two lists held against each other, whatever they are; the statements' begins, fill, rate, Pick. -/
import Derived.Test.YtjfjjhjajgodiaaDoorMb
namespace Go.Proofs.YtjfjjhjajgodiaaDoor.Kc
open Go.ChangeShapes Go.WideShapes Go.ChangeAt Go.RowKit
open Go.Proofs.YtjfjjhjajgodiaaDoor.By
/-- Two lists are alike. -/
def Alk (n m : Nat) (f g : Nat → Int) : Prop := n = m ∧ ∀ i, i < n → f i = g i
/-- A bool is told: true just where P holds. -/
def Tells (P : Prop) (e : Ending) : Prop := ∃ t : Bool, e = .returned (.bool t) ∧ (t = true ↔ P)
theorem tells_yes {P : Prop} (h : P) : Tells P (.returned (.bool true)) := ⟨true, rfl, fun _ => h, fun _ => rfl⟩
theorem tells_no {P : Prop} (h : ¬ P) : Tells P (.returned (.bool false)) := ⟨false, rfl, fun e => (by cases e), fun e => absurd e h⟩
set_option maxHeartbeats 1000000 in
theorem same_any (a b : Value) (n m : Nat) (f g : Nat → Int) (w : World) (ha : RB w a n f) (hb : RB w b m g) (hn : n ≤ 140737488355999) :
    Calls Tryd.prog 21 #[a, b] w fun e w' => Tells (Alk n m f g) e ∧ ∃ k, w' = w.drewN k := by
  by_cases hnm : n = m
  · subst hnm
    obtain ⟨_, a, cap, rfl, h1, h2, hc⟩ := ha
    obtain ⟨_, b, cap', rfl, h1', h2', hc'⟩ := hb
    by_cases hz : n = 0
    · subst hz
      clear hc hc'
      go_enter Tryd.func21, Tryd.ntmps21
      go_wp2
      refine wp_loop_rounds 1 ?_
      rw [rounds_succ]
      go_wp2
      go_ret
      exact ⟨tells_yes ⟨rfl, fun i hi => by omega⟩, 0, rfl⟩
    · rcases hc with ⟨h, _⟩ | ⟨b1, o1, rfl, hc⟩
      · omega
      rcases hc' with ⟨h, _⟩ | ⟨b2, o2, rfl, hc'⟩
      · omega
      have HC : Hid (∀ i, i < n → w.cell? ⟨b1, o1 + i, none⟩ = some (.int .u8 (f i))) := hc
      have HC' : Hid (∀ i, i < n → w.cell? ⟨b2, o2 + i, none⟩ = some (.int .u8 (g i))) := hc'
      clear hc hc'
      go_enter Tryd.func21, Tryd.ntmps21
      go_wp2
      go_loopw [5] (fun i wr => ∃ k : Nat, k ≤ n ∧ i = .int .i64 k ∧ (∀ j, j < k → f j = g j) ∧ ∃ d, wr = w.drewN d) (fun i _ => n - (intOf i).toNat)
      case atStart => exact ⟨0, Nat.zero_le _, rfl, fun j hj => by omega, 0, rfl⟩
      case round =>
        obtain ⟨k, hk, rfl, hall, d, rfl⟩ := hrel
        have HA := hid hall
        clear hall
        by_cases hlt : k < n
        · have c1 := HC.out k hlt
          have c2 := HC'.out k hlt
          by_cases he : f k = g k
          · rw [← he] at c2
            have HE := hid he
            clear he
            go_wp2
            go_quiet (fail)
            go_wp2
            go_roundw
            case rel => exact ⟨k + 1, by omega, by go_num, fun j hj => by
              by_cases h : j < k
              · exact HA.out j h
              · obtain rfl : j = k := by omega
                exact HE.out, _, rfl⟩
            case measure => simp [intOf]; omega
          · obtain ⟨x, hx⟩ : ∃ x, f k = x := ⟨_, rfl⟩
            obtain ⟨y, hy⟩ : ∃ y, g k = y := ⟨_, rfl⟩
            have HX := hid hx
            have HY := hid hy
            rw [hx] at c1 he
            rw [hy] at c2 he
            have hb : (x != y) = true := by rw [bne_iff_ne]; exact he
            have HE := hid he
            clear hx hy he
            go_wp2
            go_quiet (fail)
            go_wp2
            go_ret
            exact ⟨tells_no (fun h => absurd (h.2 k hlt) (by rw [HX.out, HY.out]; exact HE.out)), _, drewN_two w d _⟩
        · go_wp2
          go_ret
          exact ⟨tells_yes ⟨rfl, fun i hi => HA.out i (by omega)⟩, d, rfl⟩
  · obtain ⟨_, a, cap, rfl, h1, h2, -⟩ := ha
    obtain ⟨_, b, cap', rfl, h1', h2', -⟩ := hb
    have hb : ((n : Int) != (m : Int)) = true := by rw [bne_iff_ne]; omega
    have HN := hid hnm
    clear hnm
    go_enter Tryd.func21, Tryd.ntmps21
    go_wp2
    go_ret
    exact ⟨tells_no (fun h => HN.out h.1), 0, rfl⟩
/-- fill. -/
theorem fill1 (l : Value) (n : Nat) (f : Nat → Int) (x : Int) (hx : 0 ≤ x ∧ x < 256) (w : World) (hr : RB w l n f) (hn : n ≤ 140737488355000) :
    Calls Tryd.prog 44 #[l, .int .u8 x] w fun e w' => ∃ v, e = .returned v ∧ By.Own w' w.heap.size v n (fun _ => x) ∧ Below w.heap.size w w' := by
  obtain ⟨_, a, cap, rfl, -, -, -⟩ := hr
  have HX := hid hx
  clear hx
  go_enter Tryd.func44, Tryd.ntmps44
  go_wp2
  go_loopw [5, 6] (fun v i wr => ∃ k : Nat, k ≤ n ∧ i = .int .i64 k ∧ By.Own wr w.heap.size v k (fun _ => x) ∧ Below w.heap.size w wr) (fun _ i _ => n - (intOf i).toNat)
  case atStart => exact ⟨0, Nat.zero_le _, rfl, own_nil _ _ _ (fun _ => HX.out), Below.refl _ _⟩
  case round =>
    obtain ⟨k, hk, rfl, hown, hbel⟩ := hrel
    have HO := hid hown
    have HB := hid hbel
    clear hown hbel
    by_cases hlt : k < n
    · have HS : Hid (w.heap.size ≤ wr.heap.size) := HB.out.size
      have OV := hid (own_below HO.out (below_alloc wr (.cells #[.int .u8 x] 5)))
      have OL := hid (own_one wr x HX.out)
      go_wp2_with (at_builtin; go_must (refine wpList_cat rfl _ _ rfl w.heap.size k 1 _ _ (fun _ => x) (fun _ => x) rfl OV.out rfl OL.out.reads (by omega) (by simp; have := HS.out; omega) ?_))
      intro v3 w3 hown3 hgrow3
      have R1 : Hid (By.Own w3 w.heap.size v3 (k + 1) (fun _ => x)) := own_congr hown3 (fun _ => HX.out) (fun j hj => by unfold cat; split <;> rfl)
      have R2 : Hid (Below w.heap.size w w3) := (HB.out.alloc HS.out _).grown hgrow3 (by simp; have := HS.out; omega) (own_row OV.out)
      clear hown3 hgrow3 HO HB OV OL HS
      go_wp2
      exact ⟨⟨k + 1, by omega, by go_num, R1.out, R2.out⟩, by simp [intOf]; omega⟩
    · have e : k = n := by omega
      subst e
      go_wp2
      go_ret
      exact ⟨_, rfl, HO.out, HB.out⟩
set_option maxHeartbeats 1000000 in
theorem begins1 (a b : Value) (n m : Nat) (f g : Nat → Int) (w : World) (ha : RB w a n f) (hb : RB w b m g) (hn : n ≤ 140737488355999) :
    Calls Tryd.prog 41 #[a, b] w fun e w' => Tells (m ≤ n ∧ ∀ i, i < m → f i = g i) e ∧ ∃ k, w' = w.drewN k := by
  have HA := hid ha
  have HB := hid hb
  have hca := ha
  obtain ⟨_, a, cap, rfl, h1, h2, -⟩ := ha
  obtain ⟨_, b, cap', rfl, h1', h2', -⟩ := hb
  by_cases hm : m ≤ n
  · have HF := hid (hca.first m hm)
    have hm2 : (m : Int) ≤ n := by omega
    have hm3 : m ≤ cap := by omega
    clear hca
    go_enter Tryd.func41, Tryd.ntmps41
    go_wp2_with fail
    refine (same_any _ _ m m f g w HF.out HB.out (by omega)).mono ?_
    rintro e w1 ⟨⟨t, rfl, ht⟩, k, rfl⟩
    have HT : Hid (t = true ↔ m ≤ n ∧ ∀ i, i < m → f i = g i) := ⟨fun h => ⟨hm, (ht.1 h).2⟩, fun h => ht.2 ⟨rfl, h.2⟩⟩
    clear ht
    go_wp2
    go_ret
    exact ⟨⟨t, rfl, HT.out⟩, k, rfl⟩
  · clear hca
    have hm2 : ¬ (m : Int) ≤ n := by omega
    have HM := hid hm
    clear hm
    go_enter Tryd.func41, Tryd.ntmps41
    go_wp2
    go_ret
    exact ⟨tells_no (fun h => HM.out h.1), 0, rfl⟩
end Go.Proofs.YtjfjjhjajgodiaaDoor.Kc
