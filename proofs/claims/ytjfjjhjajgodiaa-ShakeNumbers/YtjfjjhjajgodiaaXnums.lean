/- The statement ShakeNumbers, walked. -/
import Derived.Test.YtjfjjhjajgodiaaXany
import Derived.Test.YtjfjjhjajgodiaaXls
namespace Go.Proofs.Ytjfjjhjajgodiaa.Kc
open Go.ChangeShapes Go.WideShapes Go.ChangeAt Go.RowKit
open Go.Proofs.Ytjfjjhjajgodiaa.By
theorem rrightBad (n : Int) (w : World) (hn : n < 0) :
    Calls Try.prog 10 #[.int .i64 n] w fun e w' => e = .returned (.tuple #[.slice none 0 0, .int .i64 2]) ∧ w' = w := by
  go_enter Try.func10, Try.ntmps10
  go_wp2
  go_ret2
  exact ⟨rfl, rfl⟩
set_option maxHeartbeats 1000000 in
theorem rrightOk (n : Nat) (w : World) (hn : n < 9223372036854775808) :
    Calls Try.prog 10 #[.int .i64 n] w fun e w' => ∃ v, e = .returned (.tuple #[v, .int .i64 0]) ∧ By.Own w' w.heap.size v (nb n + 1) (rt n) ∧ Below w.heap.size w w' := by
  have HN := hid hn
  clear hn
  go_enter Try.func10, Try.ntmps10
  go_wp2_with fail
  refine (number1 n w HN.out).mono ?_
  rintro e w1 ⟨v, rfl, hown, hbel⟩
  obtain ⟨k, hk⟩ : ∃ k, nb n = k := ⟨_, rfl⟩
  have hk9 : k ≤ 9 := by rw [← hk]; exact (nb_pos n).2
  have LF : Hid (cat k (dnn n) (fun _ => (k : Int)) = rt n) := by show cat k (dnn n) (fun _ => (k : Int)) = rt n; rw [← hk]; rfl
  rw [hk] at hown
  have HK := hid hk
  obtain ⟨a, c, rfl⟩ := own_slice hown
  have HO := hid hown
  have HB := hid hbel
  clear hown hbel hk
  have kw : (k : Int) % 256 = (k : Int) := by omega
  have OV := hid (own_below HO.out (below_alloc w1 (.cells #[.int .u8 (k : Int)] 5)))
  have HS : Hid (w.heap.size ≤ w1.heap.size) := HB.out.size
  have OL := hid (own_one w1 (k : Int) (by omega))
  go_wp2_with (at_builtin; go_must (refine wpList_cat rfl _ _ rfl w.heap.size k 1 _ _ (dnn n) (fun _ => (k : Int)) rfl OV.out rfl OL.out.reads (by omega) (by simp; have := HS.out; omega) ?_))
  intro v' w2 hown hgrow
  have R1 : Hid (By.Own w2 w.heap.size v' (k + 1) (rt n)) := by
    rw [LF.out] at hown
    exact hown
  have R2 : Hid (Below w.heap.size w w2) := (HB.out.alloc HS.out _).grown hgrow (by simp; have := HS.out; omega) (own_row OV.out)
  clear hown hgrow HO HB OV HS LF OL
  go_wp2
  go_ret2
  rw [HK.out]
  exact ⟨_, rfl, R1.out, R2.out⟩
theorem rrightAny (n : Int) (w : World) (h1 : n ≤ 9223372036854775807) : Calls Try.prog 10 #[.int .i64 n] w fun e w' => ∃ v, e = .returned (.tuple #[v, .int .i64 (lc n)]) ∧ By.Own w' w.heap.size v (lk n) (rF n) ∧ Below w.heap.size w w' := by
  by_cases h : n < 0
  · refine (rrightBad n w h).mono ?_
    rintro e w' ⟨rfl, rfl⟩
    unfold lc lk
    rw [if_pos h, if_pos h]
    exact ⟨_, rfl, own_nil _ _ _ (rF_b n), Below.refl _ _⟩
  · obtain ⟨k, rfl⟩ : ∃ k : Nat, n = k := ⟨n.toNat, by omega⟩
    refine (rrightOk k w (by omega)).mono ?_
    rintro e w' ⟨v, rfl, ho, hb⟩
    unfold lc lk
    rw [if_neg h, if_neg h]
    exact ⟨_, rfl, own_congr ho (rF_b _) (fun i _ => by unfold rF; rw [if_neg h]; rfl), hb⟩
theorem sn_le' (m : Nat) : sn m ≤ m + 10 := by have := (nb_pos (8 * m)).2; unfold sn; omega
theorem sn_le (m : Nat) (h : m ≤ 140737488351232) : sn m ≤ 140737488355999 := by have := sn_le' m; omega
set_option maxHeartbeats 2000000 in
theorem numbers_walk (n W : Int) (a : Option Addr) (m cap : Nat) (f : Nat → Int) (w : World) (hr : By.RB w (.slice a m cap) m f) (hm : m ≤ 140737488351232) (h1 : n ≤ 9223372036854775807) :
    Calls Try.prog 3 #[.int .i64 n, .slice a m cap, .int .i64 W] w fun e w' => e = .returned (.bool true) ∧ Below w.heap.size w w' := by
  have HR := hid hr
  have H1 := hid h1
  clear hr h1
  go_enter Try.func3, Try.ntmps3
  go_wp2_with fail
  refine (lent14 _ m f w HR.out (by omega)).mono ?_
  rintro e w1 ⟨v1, rfl, ho, hb⟩
  obtain ⟨g, c1, rfl, -⟩ := own_cells ho (by omega)
  have hc1 := rb_cap ho.reads
  have L1 := hid ((LS.nil (Nat.le_refl w.heap.size)).snoc hb ho)
  have b1 := hid hb
  have P1 := hid (rb_lent ho HR.out.1)
  clear ho hb
  go_wp2_with fail
  refine (leftAny n _ H1.out).mono ?_
  rintro e w2 ⟨v2, rfl, ho, hb⟩
  obtain ⟨a2, c2, rfl⟩ := own_slice ho
  have L2 := hid (L1.out.snoc hb ho)
  have b2 := hid (below_next b1.out hb)
  have P2 := hid (P1.out.below hb)
  clear ho hb L1 b1 P1
  go_wp2_with fail
  refine (rightAny n _ H1.out).mono ?_
  rintro e w3 ⟨v3, rfl, ho, hb⟩
  obtain ⟨a3, c3, rfl⟩ := own_slice ho
  have L3 := hid (L2.out.snoc hb ho)
  have b3 := hid (below_next b2.out hb)
  have P3 := hid (P2.out.below hb)
  clear ho hb L2 b2 P2
  go_wp2_with fail
  refine (string1 m f _ _ P3.out (by omega)).mono ?_
  rintro e w4 ⟨v4, rfl, ho, hb⟩
  obtain ⟨a4, c4, rfl⟩ := own_slice ho
  have L4 := hid (L3.out.snoc hb ho)
  have b4 := hid (below_next b3.out hb)
  have P4 := hid (P3.out.below hb)
  clear ho hb L3 b3 P3
  go_wp2_with fail
  refine (padAny W m f _ _ P4.out (by omega)).mono ?_
  rintro e w5 ⟨v5, rfl, ho, hb⟩
  obtain ⟨a5, c5, rfl⟩ := own_slice ho
  have L5 := hid (L4.out.snoc hb ho)
  have b5 := hid (below_next b4.out hb)
  have P5 := hid (P4.out.below hb)
  clear ho hb L4 b4 P4
  go_wp2_with fail
  refine (string1 m f _ _ P5.out (by omega)).mono ?_
  rintro e w6 ⟨v6, rfl, ho, hb⟩
  obtain ⟨a6, c6, rfl⟩ := own_slice ho
  have L6 := hid (L5.out.snoc hb ho)
  have b6 := hid (below_next b5.out hb)
  have P6 := hid (P5.out.below hb)
  clear ho hb L5 b5 P5
  go_wp2_with fail
  refine (rleftAny n _ H1.out).mono ?_
  rintro e w7 ⟨v7, rfl, ho, hb⟩
  obtain ⟨a7, c7, rfl⟩ := own_slice ho
  have L7 := hid (L6.out.snoc hb ho)
  have b7 := hid (below_next b6.out hb)
  have P7 := hid (P6.out.below hb)
  clear ho hb L6 b6 P6
  go_wp2_with fail
  refine (rrightAny n _ H1.out).mono ?_
  rintro e w8 ⟨v8, rfl, ho, hb⟩
  obtain ⟨a8, c8, rfl⟩ := own_slice ho
  have L8 := hid (L7.out.snoc hb ho)
  have b8 := hid (below_next b7.out hb)
  have P8 := hid (P7.out.below hb)
  clear ho hb L7 b7 P7
  go_wp2_with fail
  refine (rpadAny W m f _ _ (HR.out.below b8.out) (by omega)).mono ?_
  rintro e w9 ⟨v9, rfl, ho, hb⟩
  obtain ⟨a9, c9, rfl⟩ := own_slice ho
  have L9 := hid (L8.out.snoc hb ho)
  have b9 := hid (below_next b8.out hb)
  have P9 := hid (P8.out.below hb)
  clear ho hb L8 b8 P8
  go_wp2_with fail
  refine (kept17 _ _ m f _ (L9.out.at (i := 0) rfl).reads (HR.out.below b9.out) (by omega)).mono ?_
  rintro e w10 ⟨rfl, hb⟩
  have L10 := hid (L9.out.below hb)
  have b10 := hid (below_next b9.out hb)
  clear hb L9 b9 P9
  go_wp2_with fail
  refine (over18 g c1 (m + 6) w.heap.size _ _ (L10.out.at (i := 0) rfl) (by omega)).mono ?_
  rintro e w11 ⟨rfl, ho, hg⟩
  have L11 := hid (LS.over (l1 := []) L10.out hg ho)
  have b11 := hid (b10.out.grown hg b10.out.size (fun q hq => own_row (L10.out.at (i := 0) rfl) q hq))
  clear ho hg L10 b10
  go_wp2_with fail
  refine (same_true _ _ (lk n) _ _ _ (L11.out.at (i := 1) rfl).reads (L11.out.at (i := 6) rfl).reads (Nat.le_trans (lk_le n) (by omega)) (fun _ _ => rfl)).mono ?_
  rintro e w12 ⟨rfl, d12, hw12⟩
  have hb : Below w11.heap.size w11 w12 := by rw [hw12]; exact below_drewN _ _
  have L12 := hid (L11.out.below hb)
  have b12 := hid (below_next b11.out hb)
  clear hw12 hb L11 b11
  go_wp2_with fail
  refine (same_true _ _ (lk n) _ _ _ (L12.out.at (i := 2) rfl).reads (L12.out.at (i := 7) rfl).reads (Nat.le_trans (lk_le n) (by omega)) (fun _ _ => rfl)).mono ?_
  rintro e w13 ⟨rfl, d13, hw13⟩
  have hb : Below w12.heap.size w12 w13 := by rw [hw13]; exact below_drewN _ _
  have L13 := hid (L12.out.below hb)
  have b13 := hid (below_next b12.out hb)
  clear hw13 hb L12 b12
  go_wp2_with fail
  refine (rstring1 m f _ _ (HR.out.below b13.out) (by omega)).mono ?_
  rintro e w14 ⟨v14, rfl, ho, hb⟩
  obtain ⟨a14, c14, rfl⟩ := own_slice ho
  have L14 := hid (L13.out.snoc hb ho)
  have b14 := hid (below_next b13.out hb)
  clear ho hb L13 b13
  go_wp2_with fail
  refine (same_true _ _ (sn m) _ _ _ (L14.out.at (i := 3) rfl).reads (L14.out.at (i := 9) rfl).reads (sn_le m (by omega)) (fun _ _ => rfl)).mono ?_
  rintro e w15 ⟨rfl, d15, hw15⟩
  have hb : Below w14.heap.size w14 w15 := by rw [hw15]; exact below_drewN _ _
  have L15 := hid (L14.out.below hb)
  have b15 := hid (below_next b14.out hb)
  clear hw15 hb L14 b14
  go_wp2_with fail
  refine (same_true _ _ (pk m W) _ _ _ (L15.out.at (i := 4) rfl).reads (L15.out.at (i := 8) rfl).reads (Nat.le_trans (pk_le m W) (by omega)) (fun _ _ => rfl)).mono ?_
  rintro e w16 ⟨rfl, d16, hw16⟩
  have hb : Below w15.heap.size w15 w16 := by rw [hw16]; exact below_drewN _ _
  have L16 := hid (L15.out.below hb)
  have b16 := hid (below_next b15.out hb)
  clear hw16 hb L15 b15
  go_wp2_with fail
  refine (same_true _ _ (sn m) _ _ _ (L16.out.at (i := 5) rfl).reads (L16.out.at (i := 3) rfl).reads (sn_le m (by omega)) (fun _ _ => rfl)).mono ?_
  rintro e w17 ⟨rfl, d17, hw17⟩
  have hb : Below w16.heap.size w16 w17 := by rw [hw17]; exact below_drewN _ _
  have L17 := hid (L16.out.below hb)
  have b17 := hid (below_next b16.out hb)
  clear hw17 hb L16 b16
  have L18 := hid (show LS w17 w.heap.size [⟨.slice (some ⟨g, 0, none⟩) (m + 6) c1, m + 6, over⟩, ⟨.slice a2 (lk n) c2, lk n, lF n⟩, ⟨.slice a3 (lk n) c3, lk n, rF n⟩, ⟨.slice a4 (sn m) c4, sn m, sg m f⟩, ⟨.slice a5 (pk m W) c5, pk m W, pF m f W⟩, ⟨.slice a6 (sn m) c6, sn m, sg m f⟩] from L17.out.take 6)
  have hsn := hid (sn_le' m)
  have hpk := hid (pk_le m W)
  have hlk := hid (lk_le n)
  clear L17
  go_wp2_with fail
  refine (L18.out.apart _ rfl 6 rfl (by omega) (by omega) ?_).mono ?_
  · intro x hx
    have h1 := hsn.out
    have h2 := hpk.out
    have h3 := hlk.out
    simp only [List.mem_cons, List.not_mem_nil, or_false] at hx
    rcases hx with rfl | rfl | rfl | rfl | rfl | rfl
    · show m + 6 ≤ _; omega
    · show lk n ≤ _; omega
    · show lk n ≤ _; omega
    · show sn m ≤ _; omega
    · show pk m W ≤ _; omega
    · show sn m ≤ _; omega
  rintro e w19 ⟨rfl, hb⟩
  have b19 := hid ((b17.out.trans ((below_alloc w17 _).mono b17.out.size)).trans hb)
  clear hb
  go_wp2
  go_ret
  exact ⟨rfl, b19.out⟩
end Go.Proofs.Ytjfjjhjajgodiaa.Kc
