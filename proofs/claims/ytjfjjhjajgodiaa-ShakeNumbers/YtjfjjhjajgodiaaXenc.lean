/- What Left, Right, String and Pad answer, of the program and of the document. -/
import Derived.Test.YtjfjjhjajgodiaaXdig
import Derived.Test.YtjfjjhjajgodiaaXzero
namespace Go.Proofs.Ytjfjjhjajgodiaa.Kc
open Go.ChangeShapes Go.WideShapes Go.ChangeAt Go.RowKit
open Go.Proofs.Ytjfjjhjajgodiaa.By
set_option maxHeartbeats 1000000 in
theorem counted1 (n : Nat) (w : World) (hn : n < 9223372036854775808) :
    Calls Try.prog 19 #[.int .i64 n] w fun e w' => ∃ v, e = .returned v ∧ By.Own w' w.heap.size v (nb n + 1) (lf n) ∧ Below w.heap.size w w' := by
  have HN := hid hn
  clear hn
  go_enter Try.func19, Try.ntmps19
  go_wp2_with fail
  refine (digits1 n w HN.out).mono ?_
  rintro e w1 ⟨v, rfl, hown, hbel⟩
  obtain ⟨k, hk⟩ : ∃ k, nb n = k := ⟨_, rfl⟩
  have hk9 : k ≤ 9 := by rw [← hk]; exact (nb_pos n).2
  have LF : Hid (cat 1 (fun _ => (k : Int)) (dnn n) = lf n) := by show cat 1 (fun _ => (k : Int)) (dnn n) = lf n; rw [← hk]; rfl
  rw [hk] at hown
  have HK := hid hk
  obtain ⟨a, c, rfl⟩ := own_slice hown
  have HO := hid hown
  have HB := hid hbel
  clear hown hbel hk
  have kw : (k : Int) % 256 = (k : Int) := by omega
  have OV := hid (own_below HO.out (below_alloc w1 (.cells #[.int .u8 (k : Int)] 5)))
  go_wp2_with (at_builtin; go_must (refine wpList_cat rfl _ _ rfl w1.heap.size 1 k _ _ (fun _ => (k : Int)) (dnn n) rfl (own_one w1 _ (by omega)) rfl OV.out.reads (by omega) (by simp) ?_))
  intro v' w2 hown hgrow
  have HS : Hid (w.heap.size ≤ w1.heap.size) := HB.out.size
  have R1 : Hid (By.Own w2 w.heap.size v' (k + 1) (lf n)) := by
    have h1 := own_mono hown HS.out
    rw [LF.out, Nat.add_comm] at h1
    exact h1
  have R2 : Hid (Below w.heap.size w w2) := (HB.out.alloc HS.out _).grown hgrow (by simp; have := HS.out; omega) (by intro k hk; simp [Value.ownBlock] at hk; have := HS.out; omega)
  clear hown hgrow HO HB OV HS LF
  go_wp2
  go_ret
  rw [HK.out]
  exact ⟨_, rfl, R1.out, R2.out⟩
theorem leftBad (n : Int) (w : World) (hn : n < 0) :
    Calls Try.prog 5 #[.int .i64 n] w fun e w' => e = .returned (.tuple #[.slice none 0 0, .int .i64 2]) ∧ w' = w := by
  go_enter Try.func5, Try.ntmps5
  go_wp2
  go_ret2
  exact ⟨rfl, rfl⟩
theorem leftOk (n : Nat) (w : World) (hn : n < 9223372036854775808) :
    Calls Try.prog 5 #[.int .i64 n] w fun e w' => ∃ v, e = .returned (.tuple #[v, .int .i64 0]) ∧ By.Own w' w.heap.size v (nb n + 1) (lf n) ∧ Below w.heap.size w w' := by
  have HN := hid hn
  clear hn
  go_enter Try.func5, Try.ntmps5
  go_wp2_with fail
  refine (counted1 n w HN.out).mono ?_
  rintro e w1 ⟨v, rfl, hown, hbel⟩
  have HO := hid hown
  have HB := hid hbel
  clear hown hbel
  go_wp2
  go_ret2
  exact ⟨_, rfl, HO.out, HB.out⟩
theorem rightBad (n : Int) (w : World) (hn : n < 0) :
    Calls Try.prog 6 #[.int .i64 n] w fun e w' => e = .returned (.tuple #[.slice none 0 0, .int .i64 2]) ∧ w' = w := by
  go_enter Try.func6, Try.ntmps6
  go_wp2
  go_ret2
  exact ⟨rfl, rfl⟩
set_option maxHeartbeats 1000000 in
theorem rightOk (n : Nat) (w : World) (hn : n < 9223372036854775808) :
    Calls Try.prog 6 #[.int .i64 n] w fun e w' => ∃ v, e = .returned (.tuple #[v, .int .i64 0]) ∧ By.Own w' w.heap.size v (nb n + 1) (rt n) ∧ Below w.heap.size w w' := by
  have HN := hid hn
  clear hn
  go_enter Try.func6, Try.ntmps6
  go_wp2_with fail
  refine (digits1 n w HN.out).mono ?_
  rintro e w1 ⟨v, rfl, hown, hbel⟩
  obtain ⟨k, hk⟩ : ∃ k, nb n = k := ⟨_, rfl⟩
  have hk9 : k ≤ 9 := by rw [← hk]; exact (nb_pos n).2
  have LF : Hid (cat k (dnn n) (fun _ => (k : Int)) = rt n) := by show cat k (dnn n) (fun _ => (k : Int)) = rt n; rw [← hk]; rfl
  rw [hk] at hown
  have HK := hid hk
  obtain ⟨a, c, rfl⟩ := own_slice hown
  have HO := hid hown
  have HB := hid hbel
  clear hown hbel hk
  have kw : (k : Int) % 256 = (k : Int) := by omega
  have OV := hid (own_below HO.out (below_alloc w1 (.cells #[.int .u8 (k : Int)] 5)))
  have HS : Hid (w.heap.size ≤ w1.heap.size) := HB.out.size
  have OL := hid (own_one w1 (k : Int) (by omega))
  go_wp2_with (at_builtin; go_must (refine wpList_cat rfl _ _ rfl w.heap.size k 1 _ _ (dnn n) (fun _ => (k : Int)) rfl OV.out rfl OL.out.reads (by omega) (by simp; have := HS.out; omega) ?_))
  intro v' w2 hown hgrow
  have R1 : Hid (By.Own w2 w.heap.size v' (k + 1) (rt n)) := by
    rw [LF.out] at hown
    exact hown
  have R2 : Hid (Below w.heap.size w w2) := (HB.out.alloc HS.out _).grown hgrow (by simp; have := HS.out; omega) (own_row OV.out)
  clear hown hgrow HO HB OV HS LF OL
  go_wp2
  go_ret2
  rw [HK.out]
  exact ⟨_, rfl, R1.out, R2.out⟩
/-- String: of a list that reads as m bytes f. -/
theorem string1 (m : Nat) (f : Nat → Int) (p : Value) (w : World) (hr : By.RB w p m f) (hm : m ≤ 140737488355000) :
    Calls Try.prog 7 #[p] w fun e w' => ∃ v, e = .returned v ∧ By.Own w' w.heap.size v (sn m) (sg m f) ∧ Below w.heap.size w w' := by
  have HR := hid hr
  obtain ⟨_, a, cap, rfl, -, -, -⟩ := hr
  go_enter Try.func7, Try.ntmps7
  go_wp2_with fail
  refine (counted1 (8 * m) w (by omega)).mono ?_
  rintro e w1 ⟨v, rfl, hown, hbel⟩
  obtain ⟨k, hk⟩ : ∃ k, nb (8 * m) = k := ⟨_, rfl⟩
  have hk9 : k ≤ 9 := by rw [← hk]; exact (nb_pos _).2
  have LF : Hid (cat (k + 1) (lf (8 * m)) f = sg m f) := by show cat (k + 1) (lf (8 * m)) f = sg m f; rw [← hk]; rfl
  have HK : Hid (k + 1 + m = sn m) := by show k + 1 + m = sn m; rw [← hk]; rfl
  rw [hk] at hown
  have HO := hid hown
  have HB := hid hbel
  have RP := hid (HR.out.below hbel)
  clear hown hbel hk
  go_wp2_with (at_builtin; go_must (refine wpList_cat rfl _ _ rfl w.heap.size (k + 1) m _ _ _ f rfl HO.out rfl RP.out (by omega) HB.out.size ?_))
  intro v' w2 hown hgrow
  have R1 : Hid (By.Own w2 w.heap.size v' (sn m) (sg m f)) := by
    rw [LF.out, HK.out] at hown
    exact hown
  have R2 : Hid (Below w.heap.size w w2) := below_grow HB.out HB.out.size HO.out hgrow
  clear hown hgrow HO HB RP LF
  go_wp2
  go_ret
  exact ⟨_, rfl, R1.out, R2.out⟩
/-- padded: of a width that may be. -/
theorem padded1 (m W : Nat) (f : Nat → Int) (p : Value) (w : World) (hr : By.RB w p m f) (hm : m ≤ 140737488355000) (h1 : 1 ≤ W) (h2 : W ≤ 256) :
    Calls Try.prog 21 #[p, .int .i64 W] w fun e w' => ∃ v, e = .returned v ∧ By.Own w' w.heap.size v (pN m W) (pg m f W) ∧ Below w.heap.size w w' := by
  have HR := hid hr
  obtain ⟨_, a, cap, rfl, -, -, -⟩ := hr
  go_enter Try.func21, Try.ntmps21
  go_wp2_with fail
  refine (counted1 W w (by omega)).mono ?_
  rintro e w1 ⟨v, rfl, hown, hbel⟩
  obtain ⟨k, hk⟩ : ∃ k, nb W = k := ⟨_, rfl⟩
  have hk9 : k ≤ 9 := by rw [← hk]; exact (nb_pos _).2
  have HK : Hid (k + 1 + m = pn m W) := by show k + 1 + m = pn m W; rw [← hk]; rfl
  have HKK := hid hk
  rw [hk] at hown
  have HO := hid hown
  have HB := hid hbel
  have RP := hid (HR.out.below hbel)
  clear hown hbel hk
  go_wp2_with (at_builtin; go_must (refine wpList_cat rfl _ _ rfl w.heap.size (k + 1) m _ _ _ f rfl HO.out rfl RP.out (by omega) HB.out.size ?_))
  intro v' w2 hown hgrow
  rw [HK.out] at hown
  obtain ⟨N, hN⟩ : ∃ N, pn m W = N := ⟨_, rfl⟩
  have hN2 : N ≤ 140737488355010 := by rw [← hN, ← HK.out]; omega
  have hN3 : 1 ≤ N := by rw [← hN, ← HK.out]; omega
  rw [hN] at hown
  have HNN := hid hN
  have O2 := hid hown
  have B2 := hid (below_grow HB.out HB.out.size HO.out hgrow)
  obtain ⟨a2, c2, rfl⟩ := own_slice hown
  clear hown hgrow HO HB RP hN
  have tm : ((N : Int)).tmod (W : Int) = ((N % W : Nat) : Int) := by rw [Int.tmod_eq_emod_of_nonneg (by omega)]; rfl
  have tm2 : ((N : Int)) % (W : Int) = ((N % W : Nat) : Int) := rfl
  have nW : ¬ (W : Int) = 0 := by omega
  have nW' : ¬ W = 0 := by omega
  obtain ⟨M, hM⟩ : ∃ M, N % W = M := ⟨_, rfl⟩
  have hMW : M < W := by rw [← hM]; exact Nat.mod_lt _ (by omega)
  rw [hM] at tm tm2
  have HM := hid hM
  clear hM
  by_cases hz : M = 0
  · subst hz
    have R1 : Hid (By.Own w2 w.heap.size (.slice a2 N c2) (pN m W) (pg m f W)) := by
      have e0 : pz m W = 0 := pz_zero m W (by rw [HNN.out]; exact HM.out)
      have e1 : pN m W = N := by unfold pN; rw [e0, HNN.out]; rfl
      rw [e1]
      refine own_congr O2.out (pg_b HR.out.1) (fun i hi => ?_)
      unfold pg
      rw [HNN.out, HKK.out]
      show _ = cat N _ _ i
      unfold cat
      rw [if_pos hi]
    clear O2 HM
    go_wp2
    go_ret
    exact ⟨_, rfl, R1.out, B2.out⟩
  · have e0 : Hid (pz m W = W - M) := by
      have := pz_some m W (by omega) (by rw [HNN.out, HM.out]; exact hz)
      rw [HNN.out, HM.out] at this
      exact this
    have hz2 : ¬ (M : Int) = 0 := by omega
    have eW : ((W : Int) - (M : Int)) = ((W - M : Nat) : Int) := by omega
    go_wp2_with (at_builtin; go_must (refine wpList_zeros rfl _ _ rfl w.heap.size N (W - M) _ _ rfl O2.out rfl (by omega) (by omega) B2.out.size ?_))
    intro v3 w3 hown3 hgrow3
    have R1 : Hid (By.Own w3 w.heap.size v3 (pN m W) (pg m f W)) := by
      have e1 : pN m W = N + (W - M) := by unfold pN; rw [e0.out, HNN.out]
      have e2 : pg m f W = cat N (cat (k + 1) (lf W) f) (fun _ => 0) := by unfold pg; rw [HNN.out, HKK.out]
      rw [e1, e2]
      exact hown3
    have R2 : Hid (Below w.heap.size w w3) := below_grow B2.out B2.out.size O2.out hgrow3
    clear hown3 hgrow3 O2 B2
    go_wp2
    go_ret
    exact ⟨_, rfl, R1.out, R2.out⟩
theorem padBad (W : Int) (p : Value) (w : World) (h : W < 1 ∨ 256 < W) :
    Calls Try.prog 8 #[p, .int .i64 W] w fun e w' => e = .returned (.tuple #[.slice none 0 0, .int .i64 2]) ∧ w' = w := by
  by_cases h1 : W < 1
  · go_enter Try.func8, Try.ntmps8
    go_wp2
    go_ret2
    exact ⟨rfl, rfl⟩
  · have h2 : 256 < W := by omega
    go_enter Try.func8, Try.ntmps8
    go_wp2
    go_ret2
    exact ⟨rfl, rfl⟩
theorem padOk (m W : Nat) (f : Nat → Int) (p : Value) (w : World) (hr : By.RB w p m f) (hm : m ≤ 140737488355000) (h1 : 1 ≤ W) (h2 : W ≤ 256) :
    Calls Try.prog 8 #[p, .int .i64 W] w fun e w' => ∃ v, e = .returned (.tuple #[v, .int .i64 0]) ∧ By.Own w' w.heap.size v (pN m W) (pg m f W) ∧ Below w.heap.size w w' := by
  have HR := hid hr
  clear hr
  have n1 : ¬ (W : Int) < 1 := by omega
  have n2 : ¬ (256 : Int) < W := by omega
  go_enter Try.func8, Try.ntmps8
  go_wp2_with fail
  refine (padded1 m W f p w HR.out hm h1 h2).mono ?_
  rintro e w1 ⟨v, rfl, hown, hbel⟩
  have HO := hid hown
  have HB := hid hbel
  clear hown hbel
  go_wp2
  go_ret2
  exact ⟨_, rfl, HO.out, HB.out⟩
/- The document's. -/
theorem rleftBad (n : Int) (w : World) (hn : n < 0) :
    Calls Try.prog 9 #[.int .i64 n] w fun e w' => e = .returned (.tuple #[.slice none 0 0, .int .i64 2]) ∧ w' = w := by
  go_enter Try.func9, Try.ntmps9
  go_wp2
  go_ret2
  exact ⟨rfl, rfl⟩
set_option maxHeartbeats 1000000 in
theorem rleftOk (n : Nat) (w : World) (hn : n < 9223372036854775808) :
    Calls Try.prog 9 #[.int .i64 n] w fun e w' => ∃ v, e = .returned (.tuple #[v, .int .i64 0]) ∧ By.Own w' w.heap.size v (nb n + 1) (lf n) ∧ Below w.heap.size w w' := by
  have HN := hid hn
  clear hn
  go_enter Try.func9, Try.ntmps9
  go_wp2_with fail
  refine (number1 n w HN.out).mono ?_
  rintro e w1 ⟨v, rfl, hown, hbel⟩
  obtain ⟨k, hk⟩ : ∃ k, nb n = k := ⟨_, rfl⟩
  have hk9 : k ≤ 9 := by rw [← hk]; exact (nb_pos n).2
  have LF : Hid (cat 1 (fun _ => (k : Int)) (dnn n) = lf n) := by show cat 1 (fun _ => (k : Int)) (dnn n) = lf n; rw [← hk]; rfl
  rw [hk] at hown
  have HK := hid hk
  obtain ⟨a, c, rfl⟩ := own_slice hown
  have HO := hid hown
  have HB := hid hbel
  clear hown hbel hk
  have kw : (k : Int) % 256 = (k : Int) := by omega
  have OV := hid (own_below HO.out (below_alloc w1 (.cells #[.int .u8 (k : Int)] 5)))
  go_wp2_with (at_builtin; go_must (refine wpList_cat rfl _ _ rfl w1.heap.size 1 k _ _ (fun _ => (k : Int)) (dnn n) rfl (own_one w1 _ (by omega)) rfl OV.out.reads (by omega) (by simp) ?_))
  intro v' w2 hown hgrow
  have HS : Hid (w.heap.size ≤ w1.heap.size) := HB.out.size
  have R1 : Hid (By.Own w2 w.heap.size v' (k + 1) (lf n)) := by
    have h1 := own_mono hown HS.out
    rw [LF.out, Nat.add_comm] at h1
    exact h1
  have R2 : Hid (Below w.heap.size w w2) := (HB.out.alloc HS.out _).grown hgrow (by simp; have := HS.out; omega) (by intro k hk; simp [Value.ownBlock] at hk; have := HS.out; omega)
  clear hown hgrow HO HB OV HS LF
  go_wp2
  go_ret2
  rw [HK.out]
  exact ⟨_, rfl, R1.out, R2.out⟩
theorem rstring1 (m : Nat) (f : Nat → Int) (p : Value) (w : World) (hr : By.RB w p m f) (hm : m ≤ 140737488355000) :
    Calls Try.prog 15 #[p] w fun e w' => ∃ v, e = .returned v ∧ By.Own w' w.heap.size v (sn m) (sg m f) ∧ Below w.heap.size w w' := by
  have HR := hid hr
  obtain ⟨_, a, cap, rfl, -, -, -⟩ := hr
  go_enter Try.func15, Try.ntmps15
  go_wp2_with fail
  refine (rleftOk (8 * m) w (by omega)).mono ?_
  rintro e w1 ⟨v, rfl, hown, hbel⟩
  obtain ⟨k, hk⟩ : ∃ k, nb (8 * m) = k := ⟨_, rfl⟩
  have hk9 : k ≤ 9 := by rw [← hk]; exact (nb_pos _).2
  have LF : Hid (cat (k + 1) (lf (8 * m)) f = sg m f) := by show cat (k + 1) (lf (8 * m)) f = sg m f; rw [← hk]; rfl
  have HK : Hid (k + 1 + m = sn m) := by show k + 1 + m = sn m; rw [← hk]; rfl
  rw [hk] at hown
  have HO := hid hown
  have HB := hid hbel
  have RP := hid (HR.out.below hbel)
  clear hown hbel hk
  go_wp2_with (at_builtin; go_must (refine wpList_cat rfl _ _ rfl w.heap.size (k + 1) m _ _ _ f rfl HO.out rfl RP.out (by omega) HB.out.size ?_))
  intro v' w2 hown hgrow
  have R1 : Hid (By.Own w2 w.heap.size v' (sn m) (sg m f)) := by
    rw [LF.out, HK.out] at hown
    exact hown
  have R2 : Hid (Below w.heap.size w w2) := below_grow HB.out HB.out.size HO.out hgrow
  clear hown hgrow HO HB RP LF
  go_wp2
  go_ret
  exact ⟨_, rfl, R1.out, R2.out⟩
theorem rpadBad (W : Int) (p : Value) (w : World) (h : W < 1 ∨ 256 < W) :
    Calls Try.prog 11 #[p, .int .i64 W] w fun e w' => e = .returned (.tuple #[.slice none 0 0, .int .i64 2]) ∧ w' = w := by
  by_cases h1 : W < 1
  · go_enter Try.func11, Try.ntmps11
    go_wp2
    go_ret2
    exact ⟨rfl, rfl⟩
  · have h2 : 256 < W := by omega
    go_enter Try.func11, Try.ntmps11
    go_wp2
    go_ret2
    exact ⟨rfl, rfl⟩
theorem pz_first (m w i : Nat) (hw : 0 < w) (h : i < pz m w) : ¬ (pn m w + i) % w = 0 := by
  by_cases h0 : pn m w % w = 0
  · rw [pz_zero m w h0] at h; omega
  · rw [pz_some m w hw h0] at h
    have e := Nat.div_add_mod (pn m w) w
    rw [show pn m w + i = pn m w % w + i + w * (pn m w / w) from by omega, Nat.add_mul_mod_self_left, Nat.mod_eq_of_lt (by omega)]
    omega
set_option maxHeartbeats 1000000 in
theorem rpadOk (m W : Nat) (f : Nat → Int) (p : Value) (w : World) (hr : By.RB w p m f) (hm : m ≤ 140737488355000) (h1 : 1 ≤ W) (h2 : W ≤ 256) :
    Calls Try.prog 11 #[p, .int .i64 W] w fun e w' => ∃ v, e = .returned (.tuple #[v, .int .i64 0]) ∧ By.Own w' w.heap.size v (pN m W) (pg m f W) ∧ Below w.heap.size w w' := by
  have HR := hid hr
  obtain ⟨_, a, cap, rfl, -, -, -⟩ := hr
  have n1 : ¬ (W : Int) < 1 := by omega
  have n2 : ¬ (256 : Int) < W := by omega
  go_enter Try.func11, Try.ntmps11
  go_wp2_with fail
  refine (rleftOk W w (by omega)).mono ?_
  rintro e w1 ⟨v, rfl, hown, hbel⟩
  obtain ⟨k, hk⟩ : ∃ k, nb W = k := ⟨_, rfl⟩
  have hk9 : k ≤ 9 := by rw [← hk]; exact (nb_pos _).2
  have HK : Hid (k + 1 + m = pn m W) := by show k + 1 + m = pn m W; rw [← hk]; rfl
  have HKK := hid hk
  rw [hk] at hown
  have HO := hid hown
  have HB := hid hbel
  have RP := hid (HR.out.below hbel)
  clear hown hbel hk
  go_wp2_with (at_builtin; go_must (refine wpList_cat rfl _ _ rfl w.heap.size (k + 1) m _ _ _ f rfl HO.out rfl RP.out (by omega) HB.out.size ?_))
  intro v' w2 hown hgrow
  rw [HK.out] at hown
  obtain ⟨N, hN⟩ : ∃ N, pn m W = N := ⟨_, rfl⟩
  have hN2 : N ≤ 140737488355010 := by rw [← hN, ← HK.out]; omega
  have hN3 : 1 ≤ N := by rw [← hN, ← HK.out]; omega
  rw [hN] at hown
  have HNN := hid hN
  have O2 := hid hown
  have B2 := hid (below_grow HB.out HB.out.size HO.out hgrow)
  obtain ⟨a2, c2, rfl⟩ := own_slice hown
  have F2 := hid hown.1
  clear hown hgrow HO HB RP hN
  obtain ⟨F, hF⟩ : ∃ F, cat (k + 1) (lf W) f = F := ⟨_, rfl⟩
  have HF := hid hF
  rw [hF] at O2 F2
  clear hF
  obtain ⟨Z, hZ⟩ : ∃ Z, pz m W = Z := ⟨_, rfl⟩
  have hZ2 : Z < W := by rw [← hZ]; exact pz_lt m W (by omega)
  have HZ := hid hZ
  clear hZ
  go_wp2
  go_loopw [6] (fun v wr => ∃ (i : Nat) (A : Option Addr) (c : Nat), i ≤ Z ∧ v = .slice A (N + i) c ∧ By.Own wr w.heap.size v (N + i) (cat N F (fun _ => 0)) ∧ Below w.heap.size w wr) (fun v _ => N + Z - (match v with | .slice _ l _ => l | _ => 0))
  case atStart => exact ⟨0, a2, c2, by omega, rfl, own_congr O2.out (cat_bound F2.out (fun _ => by decide)) (fun i hi => by unfold cat; rw [if_pos (by omega)]), B2.out⟩
  case round =>
    clear O2 B2
    obtain ⟨i, A, c, hi, rfl, hown, hbel⟩ := hrel
    have HO := hid hown
    have HB := hid hbel
    clear hown hbel
    obtain ⟨K, hK⟩ : ∃ K, N + i = K := ⟨_, rfl⟩
    have hK2 : K ≤ 140737488355300 := by omega
    rw [hK] at HO
    rw [hK]
    have tm : ((K : Int)).tmod (W : Int) = ((K % W : Nat) : Int) := by rw [Int.tmod_eq_emod_of_nonneg (by omega)]; rfl
    have tm2 : ((K : Int)) % (W : Int) = ((K % W : Nat) : Int) := rfl
    have nW : ¬ (W : Int) = 0 := by omega
    have nW' : ¬ W = 0 := by omega
    obtain ⟨M, hM⟩ : ∃ M, K % W = M := ⟨_, rfl⟩
    rw [hM] at tm tm2
    have HM := hid hM
    have HKi := hid hK
    clear hM hK
    by_cases hz : i = Z
    · have hM0 : M = 0 := by
        rw [← HM.out, ← HKi.out, hz, ← HNN.out, ← HZ.out]
        exact pN_mod m W (by omega)
      subst hM0
      have R1 : Hid (By.Own wr w.heap.size (.slice A K c) (pN m W) (pg m f W)) := by
        have e1 : pN m W = K := by unfold pN; rw [HZ.out, HNN.out, ← HKi.out, hz]
        have e2 : pg m f W = cat N F (fun _ => 0) := by unfold pg; rw [HNN.out, HKK.out, HF.out]
        rw [e1, e2]
        exact HO.out
      clear HO HM
      go_wp2
      go_ret2
      exact ⟨_, rfl, R1.out, HB.out⟩
    · have hM0 : ¬ M = 0 := by
        rw [← HM.out, ← HKi.out, ← HNN.out]
        exact pz_first m W i (by omega) (by rw [HZ.out]; omega)
      have hM1 : ¬ (M : Int) = 0 := by omega
      have HS : Hid (w.heap.size ≤ wr.heap.size) := HB.out.size
      have OV := hid (own_below HO.out (below_alloc wr (.cells #[.int .u8 0] 5)))
      have OL := hid (own_one wr 0 (by decide))
      go_wp2_with (at_builtin; go_must (refine wpList_cat rfl _ _ rfl w.heap.size K 1 _ _ (cat N F (fun _ => 0)) (fun _ => 0) rfl OV.out rfl OL.out.reads (by omega) (by simp; have := HS.out; omega) ?_))
      intro v3 w3 hown3 hgrow3
      obtain ⟨A3, c3, rfl⟩ := own_slice hown3
      have R1 : Hid (By.Own w3 w.heap.size (.slice A3 (K + 1) c3) (K + 1) (cat N F (fun _ => 0))) := by
        refine own_congr hown3 (cat_bound F2.out (fun _ => by decide)) (fun j hj => ?_)
        have hNK : N ≤ K := by rw [← HKi.out]; omega
        unfold cat
        by_cases h1 : j < K
        · rw [if_pos h1]
        · rw [if_neg h1, if_neg (by omega)]
      have R2 : Hid (Below w.heap.size w w3) := (HB.out.alloc HS.out _).grown hgrow3 (by simp; have := HS.out; omega) (own_row OV.out)
      clear hown3 hgrow3 HO HB OV OL HS
      go_wp2
      have hKi := HKi.out
      refine ⟨⟨i + 1, A3, c3, by omega, by rw [← hKi]; rfl, by rw [← Nat.add_assoc, hKi]; exact R1.out, R2.out⟩, by simp; omega⟩
end Go.Proofs.Ytjfjjhjajgodiaa.Kc
