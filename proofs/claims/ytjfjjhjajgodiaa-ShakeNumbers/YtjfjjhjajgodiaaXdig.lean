/- The bytes of a number: what digits (the program) and number (the document) answer. -/
import Derived.Test.YtjfjjhjajgodiaaXnum
import Derived.Deep.DeepCutAuto
namespace Go.Proofs.Ytjfjjhjajgodiaa.Kc
open Go.ChangeShapes Go.WideShapes Go.ChangeAt Go.RowKit
open Go.Proofs.Ytjfjjhjajgodiaa.By
theorem own_one (w : World) (x : Int) (hx : 0 ≤ x ∧ x < 256) : By.Own (w.alloc (.cells #[.int .u8 x] 5)) w.heap.size (.slice (some ⟨w.heap.size, 0, none⟩) 1 1) 1 (fun _ => x) :=
  own_lit w _ 1 _ (one_b hx) (by decide) rfl (bl_singleton x)
theorem own_slice {w : World} {base n : Nat} {v : Value} {f : Nat → Int} (h : By.Own w base v n f) : ∃ a c, v = .slice a n c := by
  rcases h.shape with ⟨rfl, rfl⟩ | ⟨g, cap, rfl, _⟩
  · exact ⟨_, _, rfl⟩
  · exact ⟨_, _, rfl⟩
theorem few (n k : Nat) (hn : n < 9223372036854775808) (h : ¬ n / 256 ^ k = 0) : k ≤ 7 := by
  apply Classical.byContradiction
  intro hk
  refine h (Nat.div_eq_of_lt (Nat.lt_of_lt_of_le hn ?_))
  exact Nat.le_trans (by decide : 9223372036854775808 ≤ 256 ^ 8) (Nat.pow_le_pow_right (by decide) (by omega))
set_option maxHeartbeats 1000000 in
theorem digits1 (n : Nat) (w : World) (hn : n < 9223372036854775808) :
    Calls Try.prog 20 #[.int .i64 n] w fun e w' => ∃ v, e = .returned v ∧ By.Own w' w.heap.size v (nb n) (dnn n) ∧ Below w.heap.size w w' := by
  have HN := hid hn
  clear hn
  go_enter Try.func20, Try.ntmps20
  go_wp2
  go_loopw [0, 3] (fun x v wr => ∃ j q : Nat, j ≤ 7 ∧ n / 256 ^ j = q ∧ x = .int .i64 q ∧ (j = 0 ∨ ¬ q = 0) ∧ By.Own wr w.heap.size v j (dg n j) ∧ Below w.heap.size w wr) (fun x _ _ => (intOf x).toNat)
  case atStart => exact ⟨0, n, by omega, by simp, rfl, .inl rfl, own_nil _ _ _ (dg_b n 0), Below.refl _ _⟩
  case round =>
    obtain ⟨j, q, hj, hq, rfl, h0, hown, hbel⟩ := hrel
    have hq2 : q < 9223372036854775808 := by rw [← hq]; exact Nat.lt_of_le_of_lt (Nat.div_le_self _ _) HN.out
    have HQ := hid hq
    have HO := hid hown
    have HB := hid hbel
    have H0 := hid h0
    clear hq hown hbel h0
    have HX : Hid (0 ≤ (q : Int) % 256 ∧ (q : Int) % 256 < 256) := by show 0 ≤ (q : Int) % 256 ∧ (q : Int) % 256 < 256; omega
    have OV := hid (own_below HO.out (below_alloc wr (.cells #[.int .u8 ((q : Int) % 256)] 5)))
    go_wp2_with (at_builtin; go_must (refine wpList_cat rfl _ _ rfl wr.heap.size 1 j _ _ (fun _ => (q : Int) % 256) (dg n j) rfl (own_one wr _ HX.out) rfl OV.out.reads (by omega) (by simp) ?_))
    intro v' w1 hown hgrow
    have HS : Hid (w.heap.size ≤ wr.heap.size) := HB.out.size
    have R1 : Hid (By.Own w1 w.heap.size v' (j + 1) (dg n (j + 1))) := by
      have h1 := own_mono hown HS.out
      rw [dg_next n j _ (by rw [HQ.out]; omega), Nat.add_comm] at h1
      exact h1
    have R2 : Hid (Below w.heap.size w w1) := (HB.out.alloc HS.out _).grown hgrow (by simp; have := HS.out; omega) (by intro k hk; simp [Value.ownBlock] at hk; have := HS.out; omega)
    clear hown hgrow HO HB OV HX HS
    by_cases hz : q / 256 = 0
    · go_wp2
      go_ret
      have e1 : n / 256 ^ (j + 1) = 0 := by rw [Nat.pow_succ, ← Nat.div_div_eq_div_mul, HQ.out]; exact hz
      have e2 : nb n = j + 1 := nb_eq n j (by omega) (by rw [HQ.out]; exact H0.out) e1
      refine ⟨_, rfl, ?_, R2.out⟩
      unfold dnn
      rw [e2]; exact R1.out
    · have e1 : n / 256 ^ (j + 1) = q / 256 := by rw [Nat.pow_succ, ← Nat.div_div_eq_div_mul, HQ.out]
      have e7 : Hid (j + 1 ≤ 7) := few n (j + 1) HN.out (by rw [e1]; exact hz)
      have E1 := hid e1
      clear e1
      go_wp2
      exact ⟨⟨j + 1, q / 256, e7.out, E1.out, rfl, .inr hz, R1.out, R2.out⟩, by simp [intOf]; omega⟩
set_option maxHeartbeats 1000000 in
theorem number1 (n : Nat) (w : World) (hn : n < 9223372036854775808) :
    Calls Try.prog 22 #[.int .i64 n] w fun e w' => ∃ v, e = .returned v ∧ By.Own w' w.heap.size v (nb n) (dnn n) ∧ Below w.heap.size w w' := by
  have HN := hid hn
  have HX : Hid (0 ≤ (n : Int) % 256 ∧ (n : Int) % 256 < 256) := by show 0 ≤ (n : Int) % 256 ∧ (n : Int) % 256 < 256; omega
  have O1 : Hid (By.Own (w.alloc (.cells #[.int .u8 ((n : Int) % 256)] 5)) w.heap.size (.slice (some ⟨w.heap.size, 0, none⟩) 1 1) 1 (dg n 1)) := by
    have h := own_one w _ HX.out
    exact own_congr h (dg_b n 1) (fun i hi => by
      obtain rfl : i = 0 := by omega
      show (n : Int) % 256 = ((n / 256 ^ 0 % 256 : Nat) : Int)
      rw [Nat.pow_zero, Nat.div_one]; omega)
  have B1 : Hid (Below w.heap.size w (w.alloc (.cells #[.int .u8 ((n : Int) % 256)] 5))) := below_alloc w _
  have t1 : ((n : Int)).tmod 256 = (n : Int) % 256 := Int.tmod_eq_emod_of_nonneg (by omega)
  have t2 : ((n : Int)).tdiv 256 = (n : Int) / 256 := Int.tdiv_eq_ediv_of_nonneg (by omega)
  go_enter Try.func22, Try.ntmps22
  go_wp2
  go_loopw [0, 3] (fun x v wr => ∃ j q : Nat, j ≤ 7 ∧ n / 256 ^ (j + 1) = q ∧ x = .int .i64 q ∧ (j = 0 ∨ ¬ n / 256 ^ j = 0) ∧ By.Own wr w.heap.size v (j + 1) (dg n (j + 1)) ∧ Below w.heap.size w wr) (fun x _ _ => (intOf x).toNat)
  case atStart => exact ⟨0, n / 256, by omega, by simp, rfl, .inl rfl, O1.out, B1.out⟩
  case round =>
    clear O1 B1 HX t1 t2
    obtain ⟨j, q, hj, hq, rfl, h0, hown, hbel⟩ := hrel
    have hq2 : q < 9223372036854775808 := by rw [← hq]; exact Nat.lt_of_le_of_lt (Nat.div_le_self _ _) HN.out
    have HQ := hid hq
    have HO := hid hown
    have HB := hid hbel
    have H0 := hid h0
    clear hq hown hbel h0
    by_cases hz : q = 0
    · subst hz
      have H1 : Hid (By.Own wr w.heap.size u3 (nb n) (dnn n)) := by
        have e2 : nb n = j + 1 := nb_eq n j (by omega) H0.out HQ.out
        show By.Own wr w.heap.size u3 (nb n) (dnn n)
        unfold dnn
        rw [e2]; exact HO.out
      clear HO
      go_wp2
      go_ret
      exact ⟨_, rfl, H1.out, HB.out⟩
    · have hz2 : (0 : Int) < q := by omega
      have t1 : ((q : Int)).tmod 256 = (q : Int) % 256 := Int.tmod_eq_emod_of_nonneg (by omega)
      have t2 : ((q : Int)).tdiv 256 = (q : Int) / 256 := Int.tdiv_eq_ediv_of_nonneg (by omega)
      have HX : Hid (0 ≤ (q : Int) % 256 ∧ (q : Int) % 256 < 256) := by show 0 ≤ (q : Int) % 256 ∧ (q : Int) % 256 < 256; omega
      have OV := hid (own_below HO.out (below_alloc wr (.cells #[.int .u8 ((q : Int) % 256)] 5)))
      go_wp2_with (at_builtin; go_must (refine wpList_cat rfl _ _ rfl wr.heap.size 1 (j + 1) _ _ (fun _ => (q : Int) % 256) (dg n (j + 1)) rfl (own_one wr _ HX.out) rfl OV.out.reads (by omega) (by simp) ?_))
      intro v' w1 hown hgrow
      have HS : Hid (w.heap.size ≤ wr.heap.size) := HB.out.size
      have R1 : Hid (By.Own w1 w.heap.size v' (j + 1 + 1) (dg n (j + 1 + 1))) := by
        have h1 := own_mono hown HS.out
        rw [dg_next n (j + 1) _ (by rw [HQ.out]; omega), Nat.add_comm] at h1
        exact h1
      have R2 : Hid (Below w.heap.size w w1) := (HB.out.alloc HS.out _).grown hgrow (by simp; have := HS.out; omega) (by intro k hk; simp [Value.ownBlock] at hk; have := HS.out; omega)
      clear hown hgrow HO HB OV HX HS
      have E1 : Hid (n / 256 ^ (j + 1 + 1) = q / 256) := by show n / 256 ^ (j + 1 + 1) = q / 256; rw [Nat.pow_succ 256 (j + 1), ← Nat.div_div_eq_div_mul, HQ.out]
      have e7 : Hid (j + 1 ≤ 7) := few n (j + 1) HN.out (by rw [HQ.out]; exact hz)
      go_wp2
      exact ⟨⟨j + 1, q / 256, e7.out, E1.out, rfl, .inr (by rw [HQ.out]; exact hz), R1.out, R2.out⟩, by simp [intOf]; omega⟩
end Go.Proofs.Ytjfjjhjajgodiaa.Kc
