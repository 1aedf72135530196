/- Lists of one byte, many times, of both. -/
import Derived.Test.YtdahogdfonhnfaaVbd
namespace Go.Proofs.Ytdahogdfonhnfaa.Ou
open Go.ChangeShapes Go.WideShapes Go.ChangeAt Go.RowKit
open Go.Proofs.Ytdahogdfonhnfaa.By
open Go.Proofs.Ytdahogdfonhnfaa.Tb (Blk Blk.newAt put_all Kp.setCells)
/-- May a list have so many bytes? -/
def mb (n : Int) : Bool := decide (0 ≤ n ∧ n ≤ 16777215)
set_option maxRecDepth 8000 in
set_option maxHeartbeats 400000 in
theorem maybe_ok (n : Int) (w : World) : Calls Try.prog 38 #[.int .i64 n] w fun e w' => e = .returned (.bool (mb n)) ∧ w' = w := by
  by_cases h : n < 0
  · have E : Hid (mb n = false) := decide_eq_false (by omega)
    have g1 : ¬ 0 ≤ n := by omega
    go_enter Try.func38, Try.ntmps38
    go_wp2
    go_ret
    exact ⟨by rw [E.out]; rfl, rfl⟩
  · by_cases h2 : n ≤ 16777215
    · have E : Hid (mb n = true) := decide_eq_true (by omega)
      have g1 : 0 ≤ n := by omega
      clear h
      go_enter Try.func38, Try.ntmps38
      go_wp2
      go_ret
      exact ⟨by rw [E.out]; rfl, rfl⟩
    · have E : Hid (mb n = false) := decide_eq_false (by omega)
      have g1 : 0 ≤ n := by omega
      clear h
      go_enter Try.func38, Try.ntmps38
      go_wp2
      go_ret
      exact ⟨by rw [E.out]; rfl, rfl⟩
theorem cst_b {b : Int} (hb : 0 ≤ b ∧ b < 256) (i : Nat) : 0 ≤ (fun _ : Nat => b) i ∧ (fun _ : Nat => b) i < 256 := hb
set_option maxRecDepth 8000 in
set_option maxHeartbeats 400000 in
theorem filled_ok (n : Nat) (b : Int) (w : World) (hb : 0 ≤ b ∧ b < 256) (hn : n ≤ 140737488355328) : Calls Try.prog 39 #[.int .i64 n, .int .u8 b] w fun e w' => ∃ v, e = .returned v ∧ By.Own w' w.heap.size v n (fun _ => b) ∧ Below w.heap.size w w' := by
  have HB := hid hb
  clear hb
  by_cases h0 : n = 0
  · subst h0
    go_enter Try.func39, Try.ntmps39
    go_wp2
    go_ret
    exact ⟨_, rfl, own_nil _ _ _ (cst_b HB.out), Below.refl _ _⟩
  · have h3 : ((n : Int) == 0) = false := by simp; omega
    have mk := make_lc n n (Nat.le_refl _) hn w
    have NB := Blk.new w (bl n (fun _ => 0)) 5
    obtain ⟨W, hW⟩ : ∃ W, w.alloc (.cells (bl n (fun _ => 0)).toArray 5) = W := ⟨_, rfl⟩
    have hbl : Below w.heap.size w W := by rw [← hW]; exact below_alloc w _
    rw [hW] at mk NB
    have HO : Hid (By.Own W w.heap.size (.slice (some ⟨w.heap.size, 0, none⟩) n n) n (fun i => if i < 0 then b else 0)) := own_blk _ NB (Nat.le_refl _) (fun i => by simp) (by simp [maxLen]; omega)
    have HL := hid hbl
    clear NB hW hbl h0
    go_enter Try.func39, Try.ntmps39
    go_wp2
    go_loopw [13] (fun i wr => ∃ k : Nat, k ≤ n ∧ i = .int .i64 k ∧ By.Own wr w.heap.size (.slice (some ⟨w.heap.size, 0, none⟩) n n) n (fun i => if i < k then b else 0) ∧ Below w.heap.size w wr) (fun i _ => n - (intOf i).toNat)
    case atStart => exact ⟨0, Nat.zero_le _, rfl, HO.out, HL.out⟩
    case round =>
      obtain ⟨k, hk, rfl, hown, hbel⟩ := hrel
      have HW := hid hown
      have HG := hid hbel
      by_cases hlt : k < n
      · have hcell := (hown.2.cellAt k (by omega)).trans (bl_get _ _ _ hlt)
        have hfz := hown.2.frozenAt k
        clear hown hbel
        have S := own_store HW.out k b HB.out
        have S1 := hid (own_congr S.1 (g := fun i => if i < k + 1 then b else 0) (fun i => by
          show 0 ≤ (if i < k + 1 then b else 0) ∧ (if i < k + 1 then b else 0) < 256
          split
          · exact HB.out
          · omega) (fun i hi => by
          show (if i = k then b else if i < k then b else 0) = if i < k + 1 then b else 0
          by_cases h : i = k
          · rw [if_pos h, if_pos (by omega)]
          · rw [if_neg h]; by_cases h2 : i < k
            · rw [if_pos h2, if_pos (by omega)]
            · rw [if_neg h2, if_neg (by omega)]))
        have S2 := hid (HG.out.grown S.2 HG.out.size (fun q hq => by cases hq; exact Nat.le_refl _))
        clear S
        go_wp2
        go_roundw
        case rel => exact ⟨k + 1, by omega, by go_num, S1.out, S2.out⟩
        case measure => simp [intOf]; omega
      · have e : k = n := by omega
        subst e
        clear hown hbel
        have F := hid (own_congr HW.out (g := fun _ => b) (cst_b HB.out) (fun i hi => if_pos hi))
        go_wp2
        go_ret
        exact ⟨_, rfl, F.out, HG.out⟩
set_option maxRecDepth 8000 in
set_option maxHeartbeats 400000 in
theorem many_ok (n : Nat) (b : Int) (w : World) (hb : 0 ≤ b ∧ b < 256) (hn : n ≤ 140737488355328) : Calls Try.prog 40 #[.int .i64 n, .int .u8 b] w fun e w' => ∃ v, e = .returned v ∧ By.Own w' w.heap.size v n (fun _ => b) ∧ Below w.heap.size w w' := by
  obtain ⟨i0, hi, hz0, hz1, hz2⟩ := info_parts info5
  have HB := hid hb
  clear hb
  have S : Hid (By.Own w w.heap.size (.slice none 0 0) 0 (fun _ => b)) := own_nil _ _ _ (cst_b HB.out)
  go_enter Try.func40, Try.ntmps40
  go_wp2
  go_loopw [5, 6] (fun v i wr => ∃ k : Nat, k ≤ n ∧ i = .int .i64 k ∧ By.Own wr w.heap.size v k (fun _ => b) ∧ Below w.heap.size w wr) (fun _ i _ => n - (intOf i).toNat)
  case atStart => exact ⟨0, Nat.zero_le _, rfl, S.out, Below.refl _ _⟩
  case round =>
    obtain ⟨k, hk, rfl, hown, hbel⟩ := hrel
    clear S
    have HO := hid hown
    have HL := hid hbel
    clear hown hbel
    by_cases hlt : k < n
    · go_wp2_with (at_builtin; go_must (refine wpList_append_own _ rfl _ _ 26 rfl w.heap.size 5 i0 (.int .u8 0) 1 1 Try.underlying26 hi hz0 hz1 hz2 rfl (by decide) _ _ _ rfl (HO.out.2.alloc _) ⟨_, 0, none⟩ 1 1 [.int .u8 b] rfl rfl (cell_one_new _ _ _) ?c2 ?c3 ?c4 ?c5 ?_))
      case c2 => intro u hu; simp at hu; subst hu; rfl
      case c3 => simp [maxLen]; omega
      case c4 => omega
      case c5 => have h9 := HL.out.size; simp; omega
      intro v' w1 hown hgrow _
      have R : Hid (By.Own w1 w.heap.size v' (k + 1) (fun _ => b) ∧ Below w.heap.size w w1) := by
        refine ⟨⟨HO.out.1, ?_⟩, below_push HL.out HL.out.size HO.out hgrow⟩
        have e := bl_append k 1 (fun _ => b) (fun _ => b)
        rw [← bl_singleton] at e
        rw [bl_congr (k + 1) (fun _ => b) (fun i => if i < k then b else b) (fun i _ => by split <;> rfl), ← e]
        exact hown
      clear hown hgrow HO HL
      go_wp2
      go_roundw
      case rel => exact ⟨k + 1, by omega, by go_num, R.out⟩
      case measure => simp [intOf]; omega
    · have e : k = n := by omega
      subst e
      go_wp2
      go_ret
      exact ⟨_, rfl, HO.out, HL.out⟩
end Go.Proofs.Ytdahogdfonhnfaa.Ou
