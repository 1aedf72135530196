/- OpNames. -/
import Derived.Test.YtnadpglfliiplaaUzr
import Derived.Test.YtnadpglfliiplaaUls
namespace Go.Proofs.Ytnadpglfliiplaa.Ou
open Go.ChangeShapes Go.WideShapes Go.ChangeAt Go.RowKit
open Go.Proofs.Ytnadpglfliiplaa.By
open Go.Proofs.Ytnadpglfliiplaa.Tb (Blk Blk.newAt)
def qP : Nu := ⟨1, -1, 0, 0, 0⟩
def qD : Nu := ⟨1, 0, 0, 0, 0⟩
def q0 : Nu := ⟨0, 0, 0, 0, 0⟩
theorem qP_ok : qP.Ok := ⟨by decide, by decide, by decide, by decide, by decide, by decide, by decide, by decide, by decide, by decide⟩
def f78 (i : Nat) : Int := if i = 0 then 7 else 8
theorem f78_bound (i : Nat) : 0 ≤ f78 i ∧ f78 i < 256 := by unfold f78; split <;> decide
def o0 (_ : Nat) : Int := 0
theorem o0_bound (i : Nat) : 0 ≤ o0 i ∧ o0 i < 256 := by unfold o0; decide
theorem nil0 (w : World) : By.RB w (.slice none 0 0) 0 o0 := (own_nil w 0 o0 o0_bound).reads
def n9 (_ : Nat) : Int := 9
theorem n9_bound (i : Nat) : 0 ≤ n9 i ∧ n9 i < 256 := by unfold n9; decide
def w10 (i : Nat) : Int := if i = 0 then 1 else if i = 1 then 0 else 255
theorem w10_bound (i : Nat) : 0 ≤ w10 i ∧ w10 i < 256 := by
  unfold w10
  repeat' split
  all_goals decide
def w8 (i : Nat) : Int := if i = 2 then 2 else if i = 6 then 7 else if i = 7 then 8 else 0
theorem w8_bound (i : Nat) : 0 ≤ w8 i ∧ w8 i < 256 := by
  unfold w8
  repeat' split
  all_goals decide
theorem same34 : ∀ i, i < 34 → en qP 2 f78 0 o0 i = cat 26 (cat 10 w10 (fun _ => 0)) w8 i := by decide +kernel
theorem zl_o0 : zl o0 = 32 := by decide
theorem nu_o0 : nu o0 = q0 := rfl
theorem make_n (n : Nat) (hn : n ≤ 100) (w : World) : ∃ W, (Instr.makeSlice 24 (.int .i64 (n : Int)) (.int .i64 (n : Int))).run Try.prog w = .ok (.slice (some ⟨w.heap.size, 0, none⟩) n n) W ∧ By.RB W (.slice (some ⟨w.heap.size, 0, none⟩) n n) n o0 ∧ Below w.heap.size w W :=
  ⟨_, make_lc n n (Nat.le_refl _) (by omega) w, (own_made w n n w.heap.size o0 o0_bound (Nat.le_refl _) (by simp [maxLen]; omega) (Nat.le_refl _)).reads, below_alloc w _⟩
theorem fl_len (k : Int) : (FL k).length ≤ 10 := by
  rcases us_cases k with h | h | h | h | h | h | h <;> (rw [h.2]; decide)
/-- Two lists of names that Uses told lie apart. -/
theorem apart2 {V3 V4 V5 : World} {v1 v2 : Value} {l : List Nat} (n1 : Below V3.heap.size V3 V4) (n2 : Below V4.heap.size V4 V5) (o1 : OL V4 V3.heap.size v1 l) (o2 : OL V5 V4.heap.size v2 l) (hl : l.length ≤ 10 := by decide) :
    Calls Try.prog 34 #[.slice (some ⟨V5.heap.size, 0, none⟩) 2 2] (V5.alloc (.cells #[v1, v2] 54)) fun e w' => e = .returned (.bool true) ∧ Below V3.heap.size V3 w' := by
  have p1 : Tx.Own V5 V3.heap.size v1 l.length (nf l) := Tx.own_below o1 n2
  have p2 : Tx.Own V5 V3.heap.size v2 l.length (nf l) := Tx.own_base o2 n1.size
  have n5 : Below V3.heap.size V3 (V5.alloc (.cells #[v1, v2] 54)) := below_next (below_next n1 n2) (below_alloc _ _)
  have hA : Tx.AP 2 V5.heap.size (lv [v1, v2]) := by
    refine Tx.ap_of [v1, v2] V5.heap.size (fun i j hi hj => ?_) (fun j hj q hq => ?_)
    · have hj' : j < 2 := hj
      obtain ⟨rfl, rfl⟩ : i = 0 ∧ j = 1 := by omega
      exact Tx.own_apart o1 (Nat.le_refl _) o2
    · have hj' : j < 2 := hj
      have : j = 0 ∨ j = 1 := by omega
      rcases this with rfl | rfl
      · exact Tx.own_lt p1 q hq
      · exact Tx.own_lt p2 q hq
  have hI := Tx.inv1_lit V5 V3.heap.size [v1, v2] #[v1, v2] rfl (fun _ => l.length) (fun _ => nf l) (fun j hj => by
    have hj' : j < 2 := hj
    have : j = 0 ∨ j = 1 := by omega
    rcases this with rfl | rfl
    · exact p1
    · exact p2)
  refine (Tx.apartT V3.heap.size 2 V5.heap.size 2 (lv [v1, v2]) (fun _ => l.length) (fun _ => nf l) _ hA hI (fun _ _ => trivial) (by decide) (by decide) (fun _ _ => by omega) n5.size).mono ?_
  rintro e w' ⟨rfl, hb⟩
  exact ⟨rfl, n5.trans hb⟩
set_option maxRecDepth 8000 in
set_option maxHeartbeats 4000000 in
theorem names_w (w : World) : Calls Try.prog 7 #[] w fun e w' => e = .returned (.bool true) ∧ Below w.heap.size w w' := by
  have BW : Hid (Below w.heap.size w w) := hid (Below.refl _ _)
  have RN : Hid (∀ W, By.RB W (.slice none 0 0) 0 o0) := hid nil0
  obtain ⟨b0, hb0⟩ : ∃ b, w.heap.size = b := ⟨_, rfl⟩
  obtain ⟨W0, hW0⟩ : ∃ X, w.alloc (.cells #[Value.int .u8 7, Value.int .u8 8] 5) = X := ⟨_, rfl⟩
  have R0 : Hid (By.RB W0 (.slice (some ⟨w.heap.size, 0, none⟩) 2 2) 2 f78) := by rw [← hW0]; exact hid (rb_lit w _ 2 f78 f78_bound (by decide) rfl rfl)
  have hb : Below w.heap.size w W0 := by rw [← hW0]; exact below_alloc _ _
  replace BW := hid (below_next BW.out hb)
  clear hb
  rw [hb0] at R0
  obtain ⟨W1, s1, kk, hb, _⟩ := var_op W0 qP (d := .slice (some ⟨b0, 0, none⟩) 2 2) (m := .slice none 0 0) rfl rfl
  have K1 := hid kk
  clear kk
  replace BW := hid (below_next BW.out hb)
  replace R0 := hid (R0.out.below hb)
  clear hb
  have s2 : (SVo ⟨W0.heap.size, 0, none⟩ (.agg #[Value.int .u8 1, Value.int .i64 (-1), Value.int .u8 0, Value.int .i64 0, Value.int .i64 0, .slice (some ⟨b0, 0, none⟩) 2 2, .slice none 0 0])).run Try.prog (W0.alloc (.cells zA 26)) = .ok () W1 := s1
  have ld := LDo_run K1.out
  clear s1
  go_enter Try.func7, Try.ntmps7
  go_wp2_with fail
  clear s2 ld hW0
  refine (encode_ok qP _ _ 2 0 f78 o0 W1 qP_ok R0.out (RN.out _)).mono ?_
  rintro e W2 ⟨v, rfl, ho, hb⟩
  rw [show ec 2 0 = 0 from rfl]
  have ho' : By.Own W2 W1.heap.size v 34 (en qP 2 f78 0 o0) := ho
  obtain ⟨gb, kb, rfl, _⟩ := own_cells ho' (by omega)
  have R1 := hid ho'.reads
  clear ho ho'
  replace BW := hid (below_next BW.out hb)
  replace R0 := hid (R0.out.below hb)
  replace K1 := hid (K1.out.below hb)
  clear hb
  obtain ⟨FP, hFP⟩ : ∃ F, en qP 2 f78 0 o0 = F := ⟨_, rfl⟩
  have BG := begins_en qP 2 f78 0 o0
  rw [hFP] at R1 BG
  have S34 : Hid (∀ i, i < 34 → FP i = cat 26 (cat 10 w10 (fun _ => 0)) w8 i) := by rw [← hFP]; exact hid same34
  have BGh := hid BG
  have KB : Hid (34 ≤ kb) := hid (rb_cap R1.out)
  clear BG hFP
  have OW := hid (own_lit W2 #[Value.int .u8 1, Value.int .u8 0, Value.int .u8 255, Value.int .u8 255, Value.int .u8 255, Value.int .u8 255, Value.int .u8 255, Value.int .u8 255, Value.int .u8 255, Value.int .u8 255] 10 w10 w10_bound (by decide) rfl rfl)
  go_wp2_with (at_builtin; go_must (refine wpList_zeros rfl _ _ rfl W2.heap.size W2.heap.size 10 10 16 w10 rfl OW.out rfl (by decide) (by decide) (by decide) (by simp) ?_))
  intro v' W3 ho hg
  have OZ := hid ho
  have hb : Below W2.heap.size W2 W3 := (below_alloc W2 _).grown hg (by simp) (fun k e => by cases e; exact Nat.le_refl _)
  have H3 := hid hb
  have Z3 := hid hb.size
  clear ho hg OW hb
  obtain ⟨va, ca, rfl⟩ := own_lit_slice OZ.out
  have RL := hid (rb_lit W3 #[Value.int .u8 0, Value.int .u8 0, Value.int .u8 2, Value.int .u8 0, Value.int .u8 0, Value.int .u8 0, Value.int .u8 7, Value.int .u8 8] 8 w8 w8_bound (by decide) rfl rfl)
  go_wp2_with (at_builtin; go_must (refine wpList_cat rfl _ _ rfl W2.heap.size 26 8 _ _ (cat 10 w10 (fun _ => 0)) w8 rfl (own_alloc OZ.out _) rfl RL.out (by decide) (by have := Z3.out; simp; omega) ?_))
  intro v' W4 ho hg
  obtain ⟨vw, cw, rfl⟩ := own_lit_slice ho
  have WR : Hid (By.RB W4 (.slice vw 34 cw) 34 (cat 26 (cat 10 w10 (fun _ => 0)) w8)) := hid ho.reads
  have hb : Below W2.heap.size W2 W4 := (H3.out.alloc Z3.out _).grown hg (by have := Z3.out; simp; omega) (own_row OZ.out)
  clear ho hg RL OZ H3 Z3
  replace BW := hid (below_next BW.out hb)
  replace R0 := hid (R0.out.below hb)
  replace K1 := hid (K1.out.below hb)
  replace R1 := hid (R1.out.below hb)
  clear hb
  go_wp2_with fail
  refine (same_true _ _ 34 FP _ W4 R1.out WR.out (by decide) S34.out).mono ?_
  rintro e W5 ⟨rfl, k5, hw5⟩
  have hb : Below W4.heap.size W4 W5 := by rw [hw5]; exact below_drewN W4 k5
  clear hw5 WR S34
  replace BW := hid (below_next BW.out hb)
  replace R0 := hid (R0.out.below hb)
  replace K1 := hid (K1.out.below hb)
  replace R1 := hid (R1.out.below hb)
  clear hb
  have T34 : Hid (decide (34 = zl FP) = true) := by rw [show zl FP = 34 from BGh.out.zl (by decide) (by decide)]; exact hid rfl
  have T33 : Hid (decide (33 = zl FP) = false) := by rw [show zl FP = 34 from BGh.out.zl (by decide) (by decide)]; exact hid rfl
  have Q34 : Hid (dq true FP = qP) := hid (BGh.out.nu qP_ok)
  have N34 : Hid (dN true FP = 2) := hid (BGh.out.dl (by decide))
  have X34 : Hid (dM true FP = 0) := hid (BGh.out.ml (by decide))
  have E34 : Hid (∀ i, i < 2 → sh 32 FP i = f78 i) := hid BGh.out.data
  go_wp2_with fail
  refine (decode_ok _ 34 FP W5 R1.out (by decide)).mono ?_
  rintro e W6 ⟨d, m, rfl, ht⟩
  rw [T34.out] at ht ⊢
  rw [Q34.out, show dE true = 0 from rfl]
  obtain ⟨t1, t2, t3, hb⟩ := ht
  rw [N34.out] at t1
  rw [X34.out] at t2
  obtain ⟨ao, co, rfl⟩ := own_lit_slice t1
  obtain ⟨xo, yo, rfl⟩ := own_lit_slice t2
  have Do := hid t1.reads
  have Mo := hid t2.reads
  clear t1 t2 t3
  replace BW := hid (below_next BW.out hb)
  replace R0 := hid (R0.out.below hb)
  replace K1 := hid (K1.out.below hb)
  replace R1 := hid (R1.out.below hb)
  clear hb
  obtain ⟨W7, s1, kk, hb, _⟩ := var_op W6 qP (d := .slice ao 2 co) (m := .slice xo 0 yo) rfl rfl
  have Ko := hid kk
  clear kk
  replace BW := hid (below_next BW.out hb)
  replace R0 := hid (R0.out.below hb)
  replace K1 := hid (K1.out.below hb)
  replace R1 := hid (R1.out.below hb)
  replace Do := hid (Do.out.below hb)
  replace Mo := hid (Mo.out.below hb)
  clear hb
  have k33 : (33 : Int) ≤ kb := by have := KB.out; omega
  have k33' : 33 ≤ kb := by have := KB.out; omega
  have R33 := hid (R1.out.first 33 (by decide))
  go_wp2_with fail
  clear s1 k33 k33'
  refine (decode_ok _ 33 FP W7 R33.out (by decide)).mono ?_
  rintro e W8 ⟨d, m, rfl, ht⟩
  rw [T33.out] at ht ⊢
  rw [show dE false = 300 from rfl]
  obtain ⟨t1, t2, t3, hb⟩ := ht
  obtain ⟨af, cf, rfl⟩ := own_lit_slice t1
  obtain ⟨xf, yf, rfl⟩ := own_lit_slice t2
  clear t1 t2 t3
  replace BW := hid (below_next BW.out hb)
  replace R0 := hid (R0.out.below hb)
  replace K1 := hid (K1.out.below hb)
  replace R1 := hid (R1.out.below hb)
  replace Do := hid (Do.out.below hb)
  replace Mo := hid (Mo.out.below hb)
  replace Ko := hid (Ko.out.below hb)
  clear hb
  clear R33
  obtain ⟨W9, s1, kk, hb, _⟩ := var_op W8 (dq false FP) (d := .slice af (dN false FP) cf) (m := .slice xf (dM false FP) yf) rfl rfl
  have Kf := hid kk
  clear kk
  replace BW := hid (below_next BW.out hb)
  replace R0 := hid (R0.out.below hb)
  replace K1 := hid (K1.out.below hb)
  replace R1 := hid (R1.out.below hb)
  replace Do := hid (Do.out.below hb)
  replace Mo := hid (Mo.out.below hb)
  replace Ko := hid (Ko.out.below hb)
  clear hb Kf
  go_wp2_with fail
  clear s1
  refine (copy16 _ 34 FP W9 R1.out (by decide)).mono ?_
  rintro e W10 ⟨v, rfl, ho, hb⟩
  obtain ⟨vc, cc, rfl⟩ := own_lit_slice ho
  have OC := hid ho
  have H10 := hid hb
  have Z10 := hid hb.size
  clear ho hb
  have R9 := hid (rb_lit W10 #[Value.int .u8 9] 1 n9 n9_bound (by decide) rfl rfl)
  go_wp2_with (at_builtin; go_must (refine wpList_cat rfl _ _ rfl W9.heap.size 34 1 _ _ FP n9 rfl (own_alloc OC.out _) rfl R9.out (by decide) (by have := Z10.out; simp; omega) ?_))
  intro v' W11 ho hg
  obtain ⟨vm, cm, rfl⟩ := own_lit_slice ho
  have hb : Below W9.heap.size W9 W11 := (H10.out.alloc Z10.out _).grown hg (by have := Z10.out; simp; omega) (own_row OC.out)
  obtain ⟨G, hG⟩ : ∃ G, cat 34 FP n9 = G := ⟨_, rfl⟩
  have BG2 : Begins G qP 2 f78 0 o0 := fun i hi => by rw [← hG, cat_lt (by omega)]; exact BGh.out i hi
  have RM : Hid (By.RB W11 (.slice vm 35 cm) 35 G) := by rw [← hG]; exact hid ho.reads
  clear ho hg R9 OC H10 Z10 hG
  replace BW := hid (below_next BW.out hb)
  replace R0 := hid (R0.out.below hb)
  replace K1 := hid (K1.out.below hb)
  replace R1 := hid (R1.out.below hb)
  replace Do := hid (Do.out.below hb)
  replace Mo := hid (Mo.out.below hb)
  replace Ko := hid (Ko.out.below hb)
  clear hb
  have T35 : Hid (decide (35 = zl G) = false) := by rw [show zl G = 34 from BG2.zl (by decide) (by decide)]; exact hid rfl
  have T36 : Hid (decide (zl G ≤ 35) = true) := by rw [show zl G = 34 from BG2.zl (by decide) (by decide)]; exact hid rfl
  have Q35 : Hid (dq true G = qP ∧ dK true G = 34) := hid ⟨BG2.nu qP_ok, BG2.zl (by decide) (by decide)⟩
  have N35 : Hid (dN true G = 2) := hid (BG2.dl (by decide))
  have X35 : Hid (dM true G = 0) := hid (BG2.ml (by decide))
  have E35 : Hid (∀ i, i < 2 → sh 32 G i = f78 i) := hid BG2.data
  clear BG2
  go_wp2_with fail
  refine (decode_ok _ 35 G W11 RM.out (by decide)).mono ?_
  rintro e W12 ⟨d, m, rfl, ht⟩
  rw [T35.out] at ht ⊢
  rw [show dE false = 300 from rfl]
  obtain ⟨t1, t2, t3, hb⟩ := ht
  obtain ⟨ag, cg, rfl⟩ := own_lit_slice t1
  obtain ⟨xg, yg, rfl⟩ := own_lit_slice t2
  clear t1 t2 t3
  replace BW := hid (below_next BW.out hb)
  replace R0 := hid (R0.out.below hb)
  replace K1 := hid (K1.out.below hb)
  replace R1 := hid (R1.out.below hb)
  replace Do := hid (Do.out.below hb)
  replace Mo := hid (Mo.out.below hb)
  replace Ko := hid (Ko.out.below hb)
  replace RM := hid (RM.out.below hb)
  clear hb
  obtain ⟨W13, s1, kk, hb, _⟩ := var_op W12 (dq false G) (d := .slice ag (dN false G) cg) (m := .slice xg (dM false G) yg) rfl rfl
  have Kg := hid kk
  clear kk
  replace BW := hid (below_next BW.out hb)
  replace R0 := hid (R0.out.below hb)
  replace K1 := hid (K1.out.below hb)
  replace R1 := hid (R1.out.below hb)
  replace Do := hid (Do.out.below hb)
  replace Mo := hid (Mo.out.below hb)
  replace Ko := hid (Ko.out.below hb)
  replace RM := hid (RM.out.below hb)
  clear hb Kg
  go_wp2_with fail
  clear s1
  refine (next_ok _ 35 G W13 RM.out (by decide)).mono ?_
  rintro e W14 ⟨d, m, rfl, ht⟩
  rw [T36.out] at ht ⊢
  rw [Q35.out.1, Q35.out.2, show dE true = 0 from rfl]
  obtain ⟨t1, t2, t3, hb⟩ := ht
  rw [N35.out] at t1
  rw [X35.out] at t2
  obtain ⟨ap, cp, rfl⟩ := own_lit_slice t1
  obtain ⟨xp, yp, rfl⟩ := own_lit_slice t2
  have Dp := hid t1.reads
  have Mp := hid t2.reads
  clear t1 t2 t3
  replace BW := hid (below_next BW.out hb)
  replace R0 := hid (R0.out.below hb)
  replace K1 := hid (K1.out.below hb)
  replace R1 := hid (R1.out.below hb)
  replace Do := hid (Do.out.below hb)
  replace Mo := hid (Mo.out.below hb)
  replace Ko := hid (Ko.out.below hb)
  replace RM := hid (RM.out.below hb)
  clear hb
  obtain ⟨W15, s1, kk, hb, _⟩ := var_op W14 qP (d := .slice ap 2 cp) (m := .slice xp 0 yp) rfl rfl
  have Kp := hid kk
  clear kk
  replace BW := hid (below_next BW.out hb)
  replace R0 := hid (R0.out.below hb)
  replace K1 := hid (K1.out.below hb)
  replace R1 := hid (R1.out.below hb)
  replace Do := hid (Do.out.below hb)
  replace Mo := hid (Mo.out.below hb)
  replace Ko := hid (Ko.out.below hb)
  replace RM := hid (RM.out.below hb)
  replace Dp := hid (Dp.out.below hb)
  replace Mp := hid (Mp.out.below hb)
  clear hb
  obtain ⟨W16, mk, r, hb⟩ := make_n 31 (by decide) W15
  have mk' : (Instr.makeSlice 24 (.int .i64 31) (.int .i64 31)).run Try.prog W15 = .ok (.slice (some ⟨W15.heap.size, 0, none⟩) 31 31) W16 := mk
  have R31 := hid r
  clear mk r
  replace BW := hid (below_next BW.out hb)
  replace R0 := hid (R0.out.below hb)
  replace K1 := hid (K1.out.below hb)
  replace R1 := hid (R1.out.below hb)
  replace Do := hid (Do.out.below hb)
  replace Mo := hid (Mo.out.below hb)
  replace Ko := hid (Ko.out.below hb)
  replace RM := hid (RM.out.below hb)
  replace Dp := hid (Dp.out.below hb)
  replace Mp := hid (Mp.out.below hb)
  replace Kp := hid (Kp.out.below hb)
  clear hb
  have T31 : Hid (decide (31 = zl o0) = false) := by rw [zl_o0]; exact hid rfl
  have T32 : Hid (decide (32 = zl o0) = true) := by rw [zl_o0]; exact hid rfl
  go_wp2_with fail
  clear s1 mk'
  refine (decode_ok _ 31 o0 W16 R31.out (by decide)).mono ?_
  rintro e W17 ⟨d, m, rfl, ht⟩
  rw [T31.out] at ht ⊢
  rw [show dE false = 300 from rfl]
  obtain ⟨t1, t2, t3, hb⟩ := ht
  obtain ⟨ah, ch, rfl⟩ := own_lit_slice t1
  obtain ⟨xh, yh, rfl⟩ := own_lit_slice t2
  clear t1 t2 t3
  replace BW := hid (below_next BW.out hb)
  replace R0 := hid (R0.out.below hb)
  replace K1 := hid (K1.out.below hb)
  replace R1 := hid (R1.out.below hb)
  replace Do := hid (Do.out.below hb)
  replace Mo := hid (Mo.out.below hb)
  replace Ko := hid (Ko.out.below hb)
  replace RM := hid (RM.out.below hb)
  replace Dp := hid (Dp.out.below hb)
  replace Mp := hid (Mp.out.below hb)
  replace Kp := hid (Kp.out.below hb)
  clear hb
  clear R31
  obtain ⟨W18, s1, kk, hb, _⟩ := var_op W17 (dq false o0) (d := .slice ah (dN false o0) ch) (m := .slice xh (dM false o0) yh) rfl rfl
  have Kh := hid kk
  clear kk
  replace BW := hid (below_next BW.out hb)
  replace R0 := hid (R0.out.below hb)
  replace K1 := hid (K1.out.below hb)
  replace R1 := hid (R1.out.below hb)
  replace Do := hid (Do.out.below hb)
  replace Mo := hid (Mo.out.below hb)
  replace Ko := hid (Ko.out.below hb)
  replace RM := hid (RM.out.below hb)
  replace Dp := hid (Dp.out.below hb)
  replace Mp := hid (Mp.out.below hb)
  replace Kp := hid (Kp.out.below hb)
  clear hb Kh
  obtain ⟨W19, mk, r, hb⟩ := make_n 32 (by decide) W18
  have mk' : (Instr.makeSlice 24 (.int .i64 32) (.int .i64 32)).run Try.prog W18 = .ok (.slice (some ⟨W18.heap.size, 0, none⟩) 32 32) W19 := mk
  have R32 := hid r
  clear mk r
  replace BW := hid (below_next BW.out hb)
  replace R0 := hid (R0.out.below hb)
  replace K1 := hid (K1.out.below hb)
  replace R1 := hid (R1.out.below hb)
  replace Do := hid (Do.out.below hb)
  replace Mo := hid (Mo.out.below hb)
  replace Ko := hid (Ko.out.below hb)
  replace RM := hid (RM.out.below hb)
  replace Dp := hid (Dp.out.below hb)
  replace Mp := hid (Mp.out.below hb)
  replace Kp := hid (Kp.out.below hb)
  clear hb
  go_wp2_with fail
  clear s1 mk'
  refine (decode_ok _ 32 o0 W19 R32.out (by decide)).mono ?_
  rintro e W20 ⟨d, m, rfl, ht⟩
  rw [T32.out] at ht ⊢
  rw [show dq true o0 = q0 from nu_o0, show dE true = 0 from rfl]
  obtain ⟨t1, t2, t3, hb⟩ := ht
  rw [show dN true o0 = 0 by decide] at t1
  rw [show dM true o0 = 0 by decide] at t2
  obtain ⟨az, cz, rfl⟩ := own_lit_slice t1
  obtain ⟨xz, yz, rfl⟩ := own_lit_slice t2
  have Dz := hid t1.reads
  have Mz := hid t2.reads
  clear t1 t2 t3
  replace BW := hid (below_next BW.out hb)
  replace R0 := hid (R0.out.below hb)
  replace K1 := hid (K1.out.below hb)
  replace R1 := hid (R1.out.below hb)
  replace Do := hid (Do.out.below hb)
  replace Mo := hid (Mo.out.below hb)
  replace Ko := hid (Ko.out.below hb)
  replace RM := hid (RM.out.below hb)
  replace Dp := hid (Dp.out.below hb)
  replace Mp := hid (Mp.out.below hb)
  replace Kp := hid (Kp.out.below hb)
  clear hb
  clear R32
  obtain ⟨W21, s1, kk, hb, _⟩ := var_op W20 q0 (d := .slice az 0 cz) (m := .slice xz 0 yz) rfl rfl
  have Kz := hid kk
  clear kk
  replace BW := hid (below_next BW.out hb)
  replace R0 := hid (R0.out.below hb)
  replace K1 := hid (K1.out.below hb)
  replace R1 := hid (R1.out.below hb)
  replace Do := hid (Do.out.below hb)
  replace Mo := hid (Mo.out.below hb)
  replace Ko := hid (Ko.out.below hb)
  replace RM := hid (RM.out.below hb)
  replace Dp := hid (Dp.out.below hb)
  replace Mp := hid (Mp.out.below hb)
  replace Kp := hid (Kp.out.below hb)
  replace Dz := hid (Dz.out.below hb)
  replace Mz := hid (Mz.out.below hb)
  clear hb
  have l1 := LDo_run K1.out
  have l2 := LDo_run Ko.out
  go_wp2_with fail
  clear s1 l1 l2
  refine (sameop_ok qP _ _ _ _ 2 0 (sh 32 FP) f78 (sh (32 + dl FP) FP) o0 W21 Do.out R0.out Mo.out (RN.out _) (by decide) (by decide) E34.out (fun i hi => absurd hi (by omega))).mono ?_
  rintro e W22 ⟨rfl, hb⟩
  clear Do Mo Ko R1 RM E34 N34 X34 Q34 T33 T34 T35 T36 N35 X35 Q35 T31 T32 BGh KB
  replace BW := hid (below_next BW.out hb)
  replace R0 := hid (R0.out.below hb)
  replace K1 := hid (K1.out.below hb)
  replace Dp := hid (Dp.out.below hb)
  replace Mp := hid (Mp.out.below hb)
  replace Kp := hid (Kp.out.below hb)
  replace Dz := hid (Dz.out.below hb)
  replace Mz := hid (Mz.out.below hb)
  replace Kz := hid (Kz.out.below hb)
  clear hb
  have l1 := LDo_run K1.out
  have l2 := LDo_run Kp.out
  go_wp2_with fail
  clear l1 l2
  refine (sameop_ok qP _ _ _ _ 2 0 (sh 32 G) f78 (sh (32 + dl G) G) o0 W22 Dp.out R0.out Mp.out (RN.out _) (by decide) (by decide) E35.out (fun i hi => absurd hi (by omega))).mono ?_
  rintro e W23 ⟨rfl, hb⟩
  clear Dp Mp Kp E35
  replace BW := hid (below_next BW.out hb)
  replace R0 := hid (R0.out.below hb)
  replace K1 := hid (K1.out.below hb)
  replace Dz := hid (Dz.out.below hb)
  replace Mz := hid (Mz.out.below hb)
  replace Kz := hid (Kz.out.below hb)
  clear hb
  have l2 := LDo_run Kz.out
  go_wp2_with fail
  clear l2
  refine (sameop_ok q0 _ _ _ _ 0 0 (sh 32 o0) o0 (sh (32 + dl o0) o0) o0 W23 Dz.out (RN.out _) Mz.out (RN.out _) (by decide) (by decide) (fun i hi => absurd hi (by omega)) (fun i hi => absurd hi (by omega))).mono ?_
  rintro e W24 ⟨rfl, hb⟩
  clear Dz Mz Kz
  replace BW := hid (below_next BW.out hb)
  replace R0 := hid (R0.out.below hb)
  replace K1 := hid (K1.out.below hb)
  clear hb
  go_wp2
  go_loopw [19] (fun i wr => ∃ k : Nat, k ≤ 256 ∧ i = .int .i64 k ∧ Below W24.heap.size W24 wr) (fun i _ => 256 - (intOf i).toNat)
  case atStart => exact ⟨0, by omega, rfl, Below.refl _ _⟩
  case round =>
    obtain ⟨k, hk, rfl, hb⟩ := hrel
    have B1 := hid hb
    clear hb
    by_cases hlt : k < 256
    · have l1 : (k : Int) < 256 := by omega
      have wk : IntKind.u8.wrap (k : Int) = k := by simp [IntKind.wrap, IntKind.bits, IntKind.signed]; omega
      go_wp2_with fail
      refine (uses_ok (k : Int) wr).mono ?_
      rintro e U1 ⟨v1, rfl, h1, hb1⟩
      obtain ⟨a1, c1, rfl, _⟩ := ol_nb h1
      have O1 := hid (ol_nb h1)
      replace B1 := hid (below_next B1.out hb1)
      clear h1 hb1
      go_wp2_with fail
      refine (ruses_ok (k : Int) U1).mono ?_
      rintro e U2 ⟨v2, rfl, h2, hb2⟩
      obtain ⟨a2, c2, rfl, _⟩ := id h2
      have O2 := hid h2
      replace O1 := hid (O1.out.below hb2)
      replace B1 := hid (below_next B1.out hb2)
      clear h2 hb2
      go_wp2_with fail
      refine (sametexts_ok (FL k) _ _ _ _ U2 O1.out O2.out (fl_len k)).mono ?_
      rintro e U3 ⟨rfl, hb3⟩
      replace B1 := hid (below_next B1.out hb3)
      clear hb3 O1 O2
      go_wp2
      go_roundw
      case rel => exact ⟨k + 1, by omega, by go_num, B1.out⟩
      case measure => simp [intOf]; omega
    · have l1 : ¬ (k : Int) < 256 := by omega
      obtain rfl : k = 256 := by omega
      replace BW := hid (below_next BW.out B1.out)
      replace R0 := hid (R0.out.below B1.out)
      replace K1 := hid (K1.out.below B1.out)
      clear B1
      have l2 := LDo_run K1.out
      go_wp2_with fail
      clear l2
      refine (plain_ok qP _ _ 2 0 f78 o0 wr R0.out (RN.out _) (by decide) (by decide)).mono ?_
      rintro e V1 ⟨d, m, rfl, ht⟩
      rw [show pq qP = qD from rfl]
      obtain ⟨t1, t2, t3, hb⟩ := ht
      rw [show pN qP 2 = 2 from rfl] at t1
      rw [show pM qP 0 = 0 from rfl] at t2
      obtain ⟨ad, cd, rfl⟩ := own_lit_slice t1
      obtain ⟨am, cm', rfl⟩ := own_lit_slice t2
      have Dd := hid t1.reads
      have Dm := hid t2.reads
      replace BW := hid (below_next BW.out hb)
      clear t1 t2 t3 hb K1 R0
      obtain ⟨V2, hV2⟩ : ∃ X, V1.alloc (.cells #[Value.int .u8 7, Value.int .u8 8] 5) = X := ⟨_, rfl⟩
      have R2 : Hid (By.RB V2 (.slice (some ⟨V1.heap.size, 0, none⟩) 2 2) 2 f78) := by rw [← hV2]; exact hid (rb_lit V1 _ 2 f78 f78_bound (by decide) rfl rfl)
      have hb : Below V1.heap.size V1 V2 := by rw [← hV2]; exact below_alloc _ _
      replace BW := hid (below_next BW.out hb)
      replace Dd := hid (Dd.out.below hb)
      replace Dm := hid (Dm.out.below hb)
      clear hb
      go_wp2_with fail
      clear hV2
      refine (sameop_ok qD _ _ _ _ 2 0 f78 f78 o0 o0 V2 Dd.out R2.out Dm.out (RN.out _) (by decide) (by decide) (fun _ _ => rfl) (fun _ _ => rfl)).mono ?_
      rintro e V3 ⟨rfl, hb⟩
      replace BW := hid (below_next BW.out hb)
      clear hb Dd Dm R2
      go_wp2_with fail
      refine (uses_ok 7 V3).mono ?_
      rintro e V4 ⟨v1, rfl, h1, hb1⟩
      rw [show FL 7 = [1, 2, 4, 5, 6] by decide] at h1
      obtain ⟨a1, c1, rfl, _⟩ := ol_nb h1
      have O1 := hid h1
      have N1 := hid hb1
      clear h1 hb1
      go_wp2_with fail
      refine (uses_ok 7 V4).mono ?_
      rintro e V5 ⟨v2, rfl, h2, hb2⟩
      rw [show FL 7 = [1, 2, 4, 5, 6] by decide] at h2
      obtain ⟨a2, c2, rfl, _⟩ := ol_nb h2
      have O2 := hid h2
      have N2 := hid hb2
      clear h2 hb2
      have AA : Hid (Calls Try.prog 34 #[.slice (some ⟨V5.heap.size, 0, none⟩) 2 2] (V5.alloc (.cells #[.slice a1 [1, 2, 4, 5, 6].length c1, .slice a2 [1, 2, 4, 5, 6].length c2] 54)) fun e w' => e = .returned (.bool true) ∧ Below V3.heap.size V3 w') := hid (apart2 N1.out N2.out O1.out O2.out)
      go_wp2_with fail
      refine AA.out.mono ?_
      rintro e V6 ⟨rfl, hb⟩
      replace BW := hid (below_next BW.out hb)
      clear hb AA O1 O2 N1 N2
      go_wp2_with fail
      refine (uses_ok 7 V6).mono ?_
      rintro e V7 ⟨v3, rfl, h3, hb3⟩
      rw [show FL 7 = [1, 2, 4, 5, 6] by decide] at h3
      obtain ⟨a3, c3, rfl, _⟩ := ol_nb h3
      replace BW := hid (below_next BW.out hb3)
      clear h3 hb3
      go_wp2_with fail
      refine (lives_ok V7).mono ?_
      rintro e V8 ⟨rfl, hb⟩
      replace BW := hid (below_next BW.out hb)
      clear hb
      go_wp2
      go_ret
      exact ⟨rfl, BW.out⟩
end Go.Proofs.Ytnadpglfliiplaa.Ou
