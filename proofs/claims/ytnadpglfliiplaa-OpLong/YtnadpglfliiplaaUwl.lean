/- OpLong. -/
import Derived.Test.YtnadpglfliiplaaUls
import Derived.Test.YtnadpglfliiplaaUbk
namespace Go.Proofs.Ytnadpglfliiplaa.Ou
open Go.ChangeShapes Go.WideShapes Go.ChangeAt Go.RowKit
open Go.Proofs.Ytnadpglfliiplaa.By
open Go.Proofs.Ytnadpglfliiplaa.Tb (Blk Blk.newAt)
def Z5 : Nu := ⟨0, 0, 0, 0, 0⟩
def H7 : Nu := ⟨7, 0, 0, 0, 0⟩
theorem Z5_ok : Z5.Ok := ⟨by decide, by decide, by decide, by decide, by decide, by decide, by decide, by decide, by decide, by decide⟩
theorem H7_ok : H7.Ok := ⟨by decide, by decide, by decide, by decide, by decide, by decide, by decide, by decide, by decide, by decide⟩
def s7 (_ : Nat) : Int := 7
theorem s7_bound (i : Nat) : 0 ≤ s7 i ∧ s7 i < 256 := by unfold s7; decide
def o0 (_ : Nat) : Int := 0
theorem o0_bound (i : Nat) : 0 ≤ o0 i ∧ o0 i < 256 := by unfold o0; decide
theorem nil0 (w : World) : By.RB w (.slice none 0 0) 0 o0 := (own_nil w 0 o0 o0_bound).reads
theorem seven (w : World) : By.RB (w.alloc (.cells #[Value.int .u8 7] 5)) (.slice (some ⟨w.heap.size, 0, none⟩) 1 1) 1 s7 := rb_lit w _ 1 s7 s7_bound (by decide) rfl rfl
theorem el_no (n m : Nat) (h : big n m) : el n m = 0 ∧ ec n m = 9 := ⟨if_pos h, if_pos h⟩
theorem el_yes (n m : Nat) (h : ¬ big n m) : el n m = 32 + n + m ∧ ec n m = 0 := ⟨if_neg h, if_neg h⟩
theorem make_big (w : World) : ∃ W, (Instr.makeSlice 24 (.int .i64 16777216) (.int .i64 16777216)).run Try.prog w = .ok (.slice (some ⟨w.heap.size, 0, none⟩) 16777216 16777216) W ∧ By.RB W (.slice (some ⟨w.heap.size, 0, none⟩) 16777216 16777216) 16777216 o0 ∧ Below w.heap.size w W :=
  ⟨_, make_lc 16777216 16777216 (Nat.le_refl _) (by omega) w, (own_made w 16777216 16777216 w.heap.size o0 o0_bound (Nat.le_refl _) (by simp [maxLen]) (Nat.le_refl _)).reads, below_alloc w _⟩
set_option maxRecDepth 8000 in
set_option maxHeartbeats 2000000 in
theorem long_w (w : World) : Calls Try.prog 8 #[] w fun e w' => e = .returned (.bool true) ∧ Below w.heap.size w w' := by
  obtain ⟨W0, mk, r0, b0⟩ := make_big w
  obtain ⟨b, hb0⟩ : ∃ b, w.heap.size = b := ⟨_, rfl⟩
  have BW := hid b0
  have R0 := hid r0
  have R1 := hid (r0.first 16777215 (by omega))
  have R2 : Hid (By.RB W0 (.slice (some ⟨w.heap.size, 1, none⟩) 16777215 16777215) 16777215 o0) := by have := rb_part r0 1 16777215 16777215 (by omega) (by omega) (by simp [maxLen]); rw [Nat.zero_add] at this; exact this
  have RN : Hid (∀ W, By.RB W (.slice none 0 0) 0 o0) := nil0
  have E1 := hid (el_no 16777216 0 (by unfold big; omega))
  have E2 := hid (el_no 0 16777216 (by unfold big; omega))
  have E3 := hid (el_yes 16777215 1 (by unfold big; omega))
  have E4 := hid (el_yes 1 16777215 (by unfold big; omega))
  rw [hb0] at mk R0 R1 R2
  clear r0 b0
  have u1 : (16777215 : Int) ≤ 16777216 := by decide
  go_enter Try.func8, Try.ntmps8
  go_wp2_with fail
  clear mk hb0
  refine (encode_ok Z5 _ _ 16777216 0 o0 o0 W0 Z5_ok R0.out (RN.out _)).mono ?_
  rintro e W1 ⟨v1, rfl, ho, hb⟩
  rw [E1.out.2]
  replace BW := hid (below_next BW.out hb)
  replace R0 := hid (R0.out.below hb)
  replace R1 := hid (R1.out.below hb)
  replace R2 := hid (R2.out.below hb)
  clear hb ho
  go_wp2_with fail
  refine (encode_ok Z5 _ _ 0 16777216 o0 o0 W1 Z5_ok (RN.out _) R0.out).mono ?_
  rintro e W2 ⟨v2, rfl, ho, hb⟩
  rw [E2.out.2]
  replace BW := hid (below_next BW.out hb)
  replace R0 := hid (R0.out.below hb)
  replace R1 := hid (R1.out.below hb)
  replace R2 := hid (R2.out.below hb)
  clear hb ho
  have S2 := hid (seven W2)
  obtain ⟨W3, hW3⟩ : ∃ W, W2.alloc (.cells #[Value.int .u8 7] 5) = W := ⟨_, rfl⟩
  have hb : Below W2.heap.size W2 W3 := by rw [← hW3]; exact below_alloc _ _
  rw [hW3] at S2
  replace BW := hid (below_next BW.out hb)
  replace R0 := hid (R0.out.below hb)
  replace R1 := hid (R1.out.below hb)
  replace R2 := hid (R2.out.below hb)
  clear hb
  go_wp2_with fail
  clear hW3
  refine (encode_ok H7 _ _ 16777215 1 o0 s7 W3 H7_ok R1.out S2.out).mono ?_
  rintro e W4 ⟨v3, rfl, ho, hb⟩
  rw [E3.out.2]
  rw [E3.out.1] at ho
  obtain ⟨g1, k1, rfl, _⟩ := own_cells ho (by omega)
  have L1 := hid ho.reads
  replace BW := hid (below_next BW.out hb)
  replace R0 := hid (R0.out.below hb)
  replace R1 := hid (R1.out.below hb)
  replace R2 := hid (R2.out.below hb)
  clear hb ho S2
  have S4 := hid (seven W4)
  obtain ⟨W5, hW5⟩ : ∃ W, W4.alloc (.cells #[Value.int .u8 7] 5) = W := ⟨_, rfl⟩
  have hb : Below W4.heap.size W4 W5 := by rw [← hW5]; exact below_alloc _ _
  rw [hW5] at S4
  replace BW := hid (below_next BW.out hb)
  replace R0 := hid (R0.out.below hb)
  replace R1 := hid (R1.out.below hb)
  replace R2 := hid (R2.out.below hb)
  replace L1 := hid (L1.out.below hb)
  clear hb
  go_wp2_with fail
  clear hW5
  refine (encode_ok H7 _ _ 1 16777215 s7 o0 W5 H7_ok S4.out R2.out).mono ?_
  rintro e W6 ⟨v4, rfl, ho, hb⟩
  rw [E4.out.2]
  rw [E4.out.1] at ho
  obtain ⟨g2, k2, rfl, _⟩ := own_cells ho (by omega)
  have L2 := hid ho.reads
  replace BW := hid (below_next BW.out hb)
  replace R0 := hid (R0.out.below hb)
  replace R1 := hid (R1.out.below hb)
  replace R2 := hid (R2.out.below hb)
  replace L1 := hid (L1.out.below hb)
  clear hb ho S4 R0 R1 R2 RN E1 E2 E3 E4 u1
  have M1 : Hid (By.RB W6 (.slice (some ⟨g1, 0, none⟩) 16777248 k1) 16777248 (en H7 16777215 o0 1 s7)) := L1.out
  have M2 : Hid (By.RB W6 (.slice (some ⟨g2, 0, none⟩) 16777248 k2) 16777248 (en H7 1 s7 16777215 o0)) := L2.out
  obtain ⟨F1, hF1⟩ : ∃ F, en H7 16777215 o0 1 s7 = F := ⟨_, rfl⟩
  obtain ⟨F2, hF2⟩ : ∃ F, en H7 1 s7 16777215 o0 = F := ⟨_, rfl⟩
  have BG1 := begins_en H7 16777215 o0 1 s7
  have BG2 := begins_en H7 1 s7 16777215 o0
  rw [hF1] at M1 BG1
  rw [hF2] at M2 BG2
  have T1 : Hid (decide (16777248 = zl F1) = true) := by show decide (16777248 = zl F1) = true; rw [BG1.zl (by omega) (by omega)]; exact decide_eq_true rfl
  have T2 : Hid (decide (16777248 = zl F2) = true) := by show decide (16777248 = zl F2) = true; rw [BG2.zl (by omega) (by omega)]; exact decide_eq_true rfl
  have D1 := hid (BG1.dl (by omega))
  have D2 := hid (BG2.ml (by omega))
  have D3 := hid (BG1.ml (by omega))
  have D4 := hid (BG2.dl (by omega))
  have G1 := hid (fun i (hi : i < 1) => BG1.more i hi)
  have G2 := hid (fun i (hi : i < 1) => BG2.data i hi)
  have Q1 := hid (BG1.nu H7_ok)
  have Q2 := hid (BG2.nu H7_ok)
  clear L1 L2 BG1 BG2 hF1 hF2
  go_wp2_with fail
  refine (lives_ok W6).mono ?_
  rintro e W7 ⟨rfl, hb⟩
  replace BW := hid (below_next BW.out hb)
  replace M1 := hid (M1.out.below hb)
  replace M2 := hid (M2.out.below hb)
  clear hb
  go_wp2_with fail
  refine (decode_ok _ 16777248 F1 W7 M1.out (by omega)).mono ?_
  rintro e W8 ⟨d, m, rfl, ht⟩
  rw [T1.out] at ht ⊢
  have hb := ht.2.2.2
  obtain ⟨a1, c1, rfl⟩ := own_lit_slice ht.1
  obtain ⟨a2, c2, rfl⟩ := own_lit_slice ht.2.1
  have P2 := hid ht.2.1.reads
  replace BW := hid (below_next BW.out hb)
  replace M1 := hid (M1.out.below hb)
  replace M2 := hid (M2.out.below hb)
  clear hb ht
  obtain ⟨W9, s1, kk, hb, _⟩ := var_op W8 (dq true F1) (d := .slice a1 (dN true F1) c1) (m := .slice a2 (dM true F1) c2) rfl rfl
  have KO := hid kk
  replace BW := hid (below_next BW.out hb)
  replace M1 := hid (M1.out.below hb)
  replace M2 := hid (M2.out.below hb)
  replace P2 := hid (P2.out.below hb)
  clear hb kk
  rw [show dE true = 0 from rfl]
  go_wp2_with fail
  clear s1
  refine (decode_ok _ 16777248 F2 W9 M2.out (by omega)).mono ?_
  rintro e W10 ⟨d, m, rfl, ht⟩
  rw [T2.out] at ht ⊢
  have hb := ht.2.2.2
  obtain ⟨a3, c3, rfl⟩ := own_lit_slice ht.1
  obtain ⟨a4, c4, rfl⟩ := own_lit_slice ht.2.1
  have P3 := hid ht.1.reads
  replace BW := hid (below_next BW.out hb)
  replace M1 := hid (M1.out.below hb)
  replace M2 := hid (M2.out.below hb)
  replace P2 := hid (P2.out.below hb)
  replace KO := hid (KO.out.below hb)
  clear hb ht
  obtain ⟨W11, s1, kk, hb, _⟩ := var_op W10 (dq true F2) (d := .slice a3 (dN true F2) c3) (m := .slice a4 (dM true F2) c4) rfl rfl
  have KP := hid kk
  replace BW := hid (below_next BW.out hb)
  replace M1 := hid (M1.out.below hb)
  replace M2 := hid (M2.out.below hb)
  replace P2 := hid (P2.out.below hb)
  replace KO := hid (KO.out.below hb)
  replace P3 := hid (P3.out.below hb)
  clear hb kk
  rw [show dE true = 0 from rfl]
  have x1 := KO.out.cell 5 _ rfl
  have x2 := KO.out.cell 6 _ rfl
  have e1 : dN true F1 = 16777215 := D1.out
  have e2 : dM true F2 = 16777215 := D2.out
  have e3 : dM true F1 = 1 := D3.out
  have e4 : dN true F2 = 1 := D4.out
  rw [e1] at x1
  rw [e3] at x2 P2
  rw [e4] at P3
  rw [e2, e4] at s1
  have GG : Hid (∀ i, i < 1 → sh (32 + dl F1) F1 i = s7 i) := by rw [show dl F1 = 16777215 from D1.out]; exact G1.out
  have S7 := hid (seven W11)
  obtain ⟨W12, hW12⟩ : ∃ W, W11.alloc (.cells #[Value.int .u8 7] 5) = W := ⟨_, rfl⟩
  have hb : Below W11.heap.size W11 W12 := by rw [← hW12]; exact below_alloc _ _
  rw [hW12] at S7
  replace BW := hid (below_next BW.out hb)
  replace P2 := hid (P2.out.below hb)
  replace P3 := hid (P3.out.below hb)
  replace KP := hid (KP.out.below hb)
  clear hb
  go_wp2_with fail
  clear hW12 s1 x1 x2
  refine (same_true _ _ 1 _ _ W12 P2.out S7.out (by omega) GG.out).mono ?_
  rintro e V ⟨rfl, dn, hv⟩
  obtain ⟨W13, hW13⟩ : ∃ W, W12.drewN dn = W := ⟨_, rfl⟩
  rw [hv, hW13]
  have hb : Below W12.heap.size W12 W13 := by rw [← hW13]; exact below_drewN _ _
  replace BW := hid (below_next BW.out hb)
  replace P2 := hid (P2.out.below hb)
  replace P3 := hid (P3.out.below hb)
  replace KP := hid (KP.out.below hb)
  clear hb hv hW13 S7
  have x3 := KP.out.cell 5 _ rfl
  have x4 := KP.out.cell 6 _ rfl
  rw [e4] at x3
  rw [e2] at x4
  have S8 := hid (seven W13)
  obtain ⟨W14, hW14⟩ : ∃ W, W13.alloc (.cells #[Value.int .u8 7] 5) = W := ⟨_, rfl⟩
  have hb : Below W13.heap.size W13 W14 := by rw [← hW14]; exact below_alloc _ _
  rw [hW14] at S8
  replace BW := hid (below_next BW.out hb)
  replace P2 := hid (P2.out.below hb)
  replace P3 := hid (P3.out.below hb)
  replace KP := hid (KP.out.below hb)
  clear hb
  go_wp2_with fail
  clear hW14 x3 x4
  refine (same_true _ _ 1 _ _ W14 P3.out S8.out (by omega) G2.out).mono ?_
  rintro e V' ⟨rfl, dn', hv⟩
  have hb : Below W14.heap.size W14 V' := by rw [hv]; exact below_drewN _ _
  replace BW := hid (below_next BW.out hb)
  clear hb hv
  go_wp2
  go_ret
  exact ⟨rfl, BW.out⟩
end Go.Proofs.Ytnadpglfliiplaa.Ou
