/- NaiveCalls, walked. -/
import Derived.Test.YtpcnkiapbkmjbaaNwd
import Derived.Test.YtpcnkiapbkmjbaaNja
namespace Go.Proofs.Ytpcnkiapbkmjbaa.Nv
open Go.ChangeShapes Go.WideShapes Go.ChangeAt Go.RowKit
open Go.Proofs.Ytpcnkiapbkmjbaa Go.Proofs.Ytpcnkiapbkmjbaa.Tb Go.Proofs.Ytpcnkiapbkmjbaa.Xr
theorem getD_rep (n c : Nat) : (Array.replicate n false).getD c false = false := by
  by_cases h : c < n <;> simp [h]
theorem q4_start {J : Bool → Bool → Bool → Bool → World → Prop} {n c1 c2 c3 c4 : Nat} {V : World} (h : J false false false false V) : Q4 J (Array.replicate n false) c1 c2 c3 c4 V := by
  unfold Q4
  rw [getD_rep, getD_rep, getD_rep, getD_rep]
  exact h
/-- The records behind each of the five calls. -/
structure Ch (f g : Nat → Int) (an bn x e m : Nat) (La Lb Lc Ld Le Lf : List Rn) : Prop where
  eA : nts [] (eqL f g an bn) = La
  eB : nts La (eqL f f an an) = Lb
  eC : putL Lb (ix x) = Lc
  eD : nts Lc (pwL e m) = Ld
  eE : nts Ld (fiL f x an) = Le
  eF : nts Le (srt g bn).2 = Lf
  tA : tot La ≤ 900000
  tB : tot Lb ≤ 900000
  tC : tot Lc ≤ 900000
  tD : tot Ld ≤ 900000
  tE : tot Le ≤ 900000
  lF : Lf.length ≤ 1000000
theorem eqL_len (f g : Nat → Int) (n m : Nat) : (eqL f g n m).length ≤ n := by
  unfold eqL
  split
  · rw [upTo_len]; omega
  · simp
theorem ch_ok (f g : Nat → Int) (an bn x e m : Nat) (ha : an ≤ 200) (hb : bn ≤ 200) : ∃ La Lb Lc Ld Le Lf, Ch f g an bn x e m La Lb Lc Ld Le Lf := by
  have p0 : Pos ([] : List Rn) := fun _ h => absurd h List.not_mem_nil
  have l1 := eqL_len f g an bn
  have l2 := eqL_len f f an an
  have l3 : (pwL e m).length ≤ 64 := by unfold pwL; split <;> simp [pbits_len]
  have l4 : (fiL f x an).length ≤ 200 := by unfold fiL; rw [upTo_len]; omega
  have l5 : (srt g bn).2.length ≤ 40000 := Nat.le_trans (srt_len g bn) (Nat.mul_le_mul hb hb)
  have pA := nts_pos p0 (eqL f g an bn)
  have tA := nts_tot p0 (eqL f g an bn) (by simp [tot]; omega)
  have nA := nts_len [] (eqL f g an bn)
  rw [show tot ([] : List Rn) = 0 from rfl] at tA
  rw [List.length_nil] at nA
  generalize h1 : nts [] (eqL f g an bn) = La at *
  have pB := nts_pos pA (eqL f f an an)
  have tB := nts_tot pA (eqL f f an an) (by omega)
  have nB := nts_len La (eqL f f an an)
  generalize h2 : nts La (eqL f f an an) = Lb at *
  have pC : Pos (putL Lb (ix x)) := putL_pos pB
  have tC := tot_put pB (r := ix x) (show (1 : Int) ≤ 1 from Int.le_refl _) (by show tot Lb + (1 : Int) ≤ _; omega)
  have nC := (putL_len (L := Lb) (r := ix x)).1
  rw [show ((ix x).c : Int) = 1 from rfl] at tC
  generalize h3 : putL Lb (ix x) = Lc at *
  have pD := nts_pos pC (pwL e m)
  have tD := nts_tot pC (pwL e m) (by omega)
  have nD := nts_len Lc (pwL e m)
  generalize h4 : nts Lc (pwL e m) = Ld at *
  have pE := nts_pos pD (fiL f x an)
  have tE := nts_tot pD (fiL f x an) (by omega)
  have nE := nts_len Ld (fiL f x an)
  generalize h5 : nts Ld (fiL f x an) = Le at *
  have nF := nts_len Le (srt g bn).2
  exact ⟨La, Lb, Lc, Ld, Le, _, h1, h2, h3, h4, h5, rfl, by omega, by omega, by omega, by omega, by omega, by omega⟩
theorem apart4 {w0 W : World} {B : Nat} {t : Nat → Th} (hG : GX w0 B t W) {v0 v1 v2 v3 : Value} {n0 n1 n2 n3 : Nat} {f0 f1 f2 f3 : Nat → Int} (h0 : t 4 = tB v0 n0 f0) (h1 : t 6 = tB v1 n1 f1) (h2 : t 2 = tB v2 n2 f2) (h3 : t 3 = tB v3 n3 f3) (hn : n0 ≤ 1000 ∧ n1 ≤ 1000 ∧ n2 ≤ 1000 ∧ n3 ≤ 1000) :
    Calls Try.prog 28 #[.slice (some ⟨W.heap.size, 0, none⟩) 4 4] (W.alloc (.cells #[v0, v1, v2, v3] 22)) fun e w' => e = .returned (.bool true) ∧ Below B (W.alloc (.cells #[v0, v1, v2, v3] 22)) w' := by
  have o0 := own_lo hG h0
  have o1 := own_lo hG h1
  have o2 := own_lo hG h2
  have o3 := own_lo hG h3
  have hO : ∀ j, j < 4 → By.Own W B (By.lv [v0, v1, v2, v3] j) (if j = 0 then n0 else if j = 1 then n1 else if j = 2 then n2 else n3) (if j = 0 then f0 else if j = 1 then f1 else if j = 2 then f2 else f3) := by
    intro j hj
    rcases (show j = 0 ∨ j = 1 ∨ j = 2 ∨ j = 3 by omega) with rfl | rfl | rfl | rfl
    · exact o0
    · exact o1
    · exact o2
    · exact o3
  have hAP : By.AP 4 W.heap.size (By.lv [v0, v1, v2, v3]) := by
    refine By.ap_of [v0, v1, v2, v3] _ (fun i j hij hj => ?_) (fun j hj q hq => By.own_lt (hO j hj) q hq)
    rcases (show (i = 0 ∧ j = 1) ∨ (i = 0 ∧ j = 2) ∨ (i = 0 ∧ j = 3) ∨ (i = 1 ∧ j = 2) ∨ (i = 1 ∧ j = 3) ∨ (i = 2 ∧ j = 3) by simp at hj; omega) with ⟨rfl, rfl⟩ | ⟨rfl, rfl⟩ | ⟨rfl, rfl⟩ | ⟨rfl, rfl⟩ | ⟨rfl, rfl⟩ | ⟨rfl, rfl⟩
    · exact own_ap hG h0 h1 (by decide)
    · exact own_ap hG h0 h2 (by decide)
    · exact own_ap hG h0 h3 (by decide)
    · exact own_ap hG h1 h2 (by decide)
    · exact own_ap hG h1 h3 (by decide)
    · exact own_ap hG h2 h3 (by decide)
  have hF : ∀ j i : Nat, 0 ≤ (if j = 0 then f0 else if j = 1 then f1 else if j = 2 then f2 else f3) i ∧ (if j = 0 then f0 else if j = 1 then f1 else if j = 2 then f2 else f3) i < 256 := by
    intro j i
    split
    · exact o0.1 i
    · split
      · exact o1.1 i
      · split
        · exact o2.1 i
        · exact o3.1 i
  have hI := By.inv1_lit W B [v0, v1, v2, v3] _ rfl (fun j => if j = 0 then n0 else if j = 1 then n1 else if j = 2 then n2 else n3) (fun j => if j = 0 then f0 else if j = 1 then f1 else if j = 2 then f2 else f3) hO
  exact By.apart30 B 4 W.heap.size 4 _ (fun j => if j = 0 then n0 else if j = 1 then n1 else if j = 2 then n2 else n3) _ _ hAP hI hF (by omega) (by omega) (fun j _ => by show (if j = 0 then n0 else if j = 1 then n1 else if j = 2 then n2 else n3) ≤ _; split <;> (try split) <;> (try split) <;> omega) (by have := hG.hB; simp; omega)
def cv1 (aa ba : Option Addr) (xb an ac bn bc lb rb ga ca gb cb : Nat) (s1 s2 : Bool) : Nat → Value
  | 0 => lpv (some lb)
  | 1 => .slice (some ⟨ga, 0, none⟩) an ca
  | 2 => .slice (some ⟨gb, 0, none⟩) bn cb
  | 3 => .bool s1
  | 4 => lpv (some rb)
  | 5 => .pointer (some ⟨xb, 0, none⟩)
  | 6 => .slice aa an ac
  | 7 => .pointer (some ⟨xb, 1, none⟩)
  | 8 => .slice ba bn bc
  | 9 => .bool s1
  | 10 => .bool true
  | 11 => .bool true
  | 12 => lpv (some lb)
  | 13 => .slice (some ⟨ga, 0, none⟩) an ca
  | 14 => .slice (some ⟨ga, 0, none⟩) an ca
  | 15 => .bool s2
  | 16 => lpv (some rb)
  | 17 => .pointer (some ⟨xb, 0, none⟩)
  | 18 => .slice aa an ac
  | 19 => .pointer (some ⟨xb, 0, none⟩)
  | 20 => .slice aa an ac
  | 21 => .bool s2
  | 22 => .bool true
  | 23 => .bool true
  | 24 => .bool true
  | _ => undef
def cv2 (xb x y lb rb : Nat) : Nat → Value
  | 0 => lpv (some lb)
  | 1 => .pointer (some ⟨xb, 2, none⟩)
  | 2 => .int .u8 (x : Int)
  | 3 => .int .u8 (y : Int)
  | 4 => lpv (some rb)
  | 5 => .pointer (some ⟨xb, 2, none⟩)
  | 6 => .int .u8 (x : Int)
  | 7 => .int .u8 (y : Int)
  | 8 => .bool true
  | 9 => .bool true
  | _ => undef
def cv3 (aa : Option Addr) (xb an ac ga ca x lb rb : Nat) (z : Int) : Nat → Value
  | 0 => lpv (some lb)
  | 1 => .slice (some ⟨ga, 0, none⟩) an ca
  | 2 => .pointer (some ⟨xb, 2, none⟩)
  | 3 => .int .u8 (x : Int)
  | 4 => .int .i64 z
  | 5 => lpv (some rb)
  | 6 => .pointer (some ⟨xb, 0, none⟩)
  | 7 => .slice aa an ac
  | 8 => .pointer (some ⟨xb, 2, none⟩)
  | 9 => .int .u8 (x : Int)
  | 10 => .int .i64 z
  | 11 => .bool true
  | 12 => .bool true
  | _ => undef
def cv4 (aa ba : Option Addr) (xb an ac bn bc ga ca gb cb x y : Nat) (s1 : Bool) (z : Int) : Nat → Value
  | 0 => .slice (some ⟨ga, 0, none⟩) an ca
  | 1 => .slice (some ⟨gb, 0, none⟩) bn cb
  | 2 => .bool s1
  | 3 => .pointer (some ⟨xb, 0, none⟩)
  | 4 => .slice aa an ac
  | 5 => .pointer (some ⟨xb, 1, none⟩)
  | 6 => .slice ba bn bc
  | 7 => .bool s1
  | 8 => .bool true
  | 9 => .bool true
  | 10 => .pointer (some ⟨xb, 2, none⟩)
  | 11 => .int .u8 (x : Int)
  | 12 => .int .u8 (y : Int)
  | 13 => .pointer (some ⟨xb, 2, none⟩)
  | 14 => .int .u8 (x : Int)
  | 15 => .int .u8 (y : Int)
  | 16 => .bool true
  | 17 => .bool true
  | 18 => .bool true
  | 19 => .slice (some ⟨ga, 0, none⟩) an ca
  | 20 => .pointer (some ⟨xb, 2, none⟩)
  | 21 => .int .u8 (x : Int)
  | 22 => .int .i64 z
  | 23 => .pointer (some ⟨xb, 0, none⟩)
  | 24 => .slice aa an ac
  | 25 => .pointer (some ⟨xb, 2, none⟩)
  | 26 => .int .u8 (x : Int)
  | 27 => .int .i64 z
  | 28 => .bool true
  | 29 => .bool true
  | 30 => .bool true
  | _ => undef
set_option maxRecDepth 100000 in
set_option maxHeartbeats 2000000 in
theorem calls_walk (aa ba : Option Addr) (an ac bn bc x b e m : Nat) (f g : Nat → Int) (w : World) (ra : By.RB w (.slice aa an ac) an f) (rb : By.RB w (.slice ba bn bc) bn g) (hx : x < 256) (hb : b < 18446744073709551616) (he : e < 18446744073709551616) (hm : m < 18446744073709551616) :
    Calls Try.prog 3 #[.agg #[.slice aa an ac, .slice ba bn bc, .int .u8 (x : Int), .int .u64 (b : Int), .int .u64 (e : Int), .int .u64 (m : Int)]] w fun r w' => r = .returned (.bool true) ∧ Below w.heap.size w w' := by
  have RA := hidw ra
  have RB := hidw rb
  have HX := hidw hx
  have HB := hidw hb
  have HE := hidw he
  have HM := hidw hm
  clear ra rb hx hb he hm
  obtain ⟨t1, hG1, hC1, -⟩ := gx_alloc (GX.start w) 5 (askL aa ba an ac bn bc x b e m) 25
  have G1 := hidw hG1
  have C1 := hidw hC1
  clear hG1 hC1
  go_enter Try.func3, Try.ntmps3
  go_wp2_with fail
  refine (lives_walk _).mono ?_
  rintro r W2 ⟨rfl, h2⟩
  have G2 := hidw (G1.out.below h2)
  clear h2 G1
  have X2 := hidw (G2.out.blk C1.out)
  have c0 := X2.out.cell 0 _ rfl
  have c1 := X2.out.cell 1 _ rfl
  have c2 := X2.out.cell 2 _ rfl
  have c3 := X2.out.cell 3 _ rfl
  have c4 := X2.out.cell 4 _ rfl
  have c5 := X2.out.cell 5 _ rfl
  go_wp2_with fail
  refine (large_walk aa ba an ac bn bc x b e m _).mono ?_
  rintro r W3 ⟨rfl, h3⟩
  have G3 := hidw (G2.out.below h3)
  clear h3 G2 X2 c0 c1 c2 c3 c4 c5
  by_cases hbig : 200 < an ∨ 200 < bn
  · rw [decide_eq_true hbig]
    go_wp2_with fail
    go_ret
    exact ⟨rfl, G3.out.bel⟩
  rw [decide_eq_false hbig]
  have ha200 : an ≤ 200 := by omega
  have hb200 : bn ≤ 200 := by omega
  clear hbig
  obtain ⟨La, Lb, Lc, Ld, Le, Lf, hch⟩ := ch_ok f g an bn x e m ha200 hb200
  have CH := hidw hch
  clear hch
  have X3 := hidw (G3.out.blk C1.out)
  have c0 := X3.out.cell 0 _ rfl
  go_wp2_with fail
  refine (By.lent14 _ an f _ (RA.out.below G3.out.bel) (by omega)).mono ?_
  rintro r W4 ⟨v1, rfl, ho, hb4⟩
  obtain ⟨ga, ca, hva, hca⟩ : ∃ g cap, v1 = .slice (some ⟨g, 0, none⟩) (an + 6) cap ∧ an + 6 ≤ cap := by
    rcases ho.shape with ⟨_, h⟩ | ⟨g, cap, h, h1, h2, h3, _⟩
    · omega
    · exact ⟨g, cap, h, h3⟩
  subst hva
  obtain ⟨t4, hG4, hT2, hB4⟩ := gx_own G3.out hb4 ho 2
  have G4 := hidw hG4
  have T2 := hidw hT2
  have C4 := hidw ((hB4 5 (by decide)).trans C1.out)
  have i1 : (an : Int) ≤ ca := by omega
  clear hG4 hT2 hB4 ho hb4 G3 C1 X3 c0 hca
  have X4 := hidw (G4.out.blk C4.out)
  have c1 := X4.out.cell 1 _ rfl
  go_wp2_with fail
  refine (By.lent14 _ bn g _ (RB.out.below G4.out.bel) (by omega)).mono ?_
  rintro r W5 ⟨v2, rfl, ho, hb5⟩
  obtain ⟨gb, cb, hvb, hcb⟩ : ∃ g cap, v2 = .slice (some ⟨g, 0, none⟩) (bn + 6) cap ∧ bn + 6 ≤ cap := by
    rcases ho.shape with ⟨_, h⟩ | ⟨g, cap, h, h1, h2, h3, _⟩
    · omega
    · exact ⟨g, cap, h, h3⟩
  subst hvb
  obtain ⟨t5, hG5, hT3, hB5⟩ := gx_own G4.out hb5 ho 3
  have G5 := hidw hG5
  have T3 := hidw hT3
  replace T2 := hidw ((hB5 2 (by decide)).trans T2.out)
  have C5 := hidw ((hB5 5 (by decide)).trans C4.out)
  have i2 : (bn : Int) ≤ cb := by omega
  clear hG5 hT3 hB5 ho hb5 G4 C4 X4 c1 hcb
  have X5 := hidw (G5.out.blk C5.out)
  have c0 := X5.out.cell 0 _ rfl
  have c1 := X5.out.cell 1 _ rfl
  go_wp2_with fail
  refine (gx_new G5.out 0).mono ?_
  rintro r W6 ⟨rfl, t6, hG6, hK6, hB6⟩
  have G6 := hidw hG6
  have K6 := hidw hK6
  replace T2 := hidw ((hB6 2 (by decide)).trans T2.out)
  replace T3 := hidw ((hB6 3 (by decide)).trans T3.out)
  have C6 := hidw ((hB6 5 (by decide)).trans C5.out)
  clear hG6 hK6 hB6 G5 C5 X5 c0 c1 i1 i2
  generalize W5.heap.size = lb at *
  go_wp2_with fail
  refine (gx_rnew G6.out 1).mono ?_
  rintro r W7 ⟨rfl, t7, hG7, hR7, hB7⟩
  have G7 := hidw hG7
  have R7 := hidw hR7
  have K7 := hidw (K6.out.keep (hB7 0 (by decide)))
  replace T2 := hidw ((hB7 2 (by decide)).trans T2.out)
  replace T3 := hidw ((hB7 3 (by decide)).trans T3.out)
  have C7 := hidw ((hB7 5 (by decide)).trans C6.out)
  clear hG7 hR7 hB7 G6 C6 K6
  generalize W6.heap.size = rb at *
  have es1 : (eqA f g an bn == eqA f g an bn) = true := beq_self_eq_true _
  have es2 : (eqA f f an an == eqA f f an an) = true := beq_self_eq_true _
  obtain ⟨J, hJ⟩ : ∃ J, J = JJ w w.heap.size t7 lb rb [] (nts [] (eqL f g an bn)) (nts (nts [] (eqL f g an bn)) (eqL f f an an)) [] (nts [] (eqL f g an bn)) (nts (nts [] (eqL f g an bn)) (eqL f f an an)) := ⟨_, rfl⟩
  have HJQ := hidw hJ
  clear hJ
  have CFJ : Hid (∀ (b1 b2 b3 b4 : Bool) (V : World), J b1 b2 b3 b4 V → V.cell? ⟨w.heap.size, 0, none⟩ = some (.slice aa an ac) ∧ V.cell? ⟨w.heap.size, 1, none⟩ = some (.slice ba bn bc)) := hidw (fun b1 b2 b3 b4 V h => by
    rw [HJQ.out] at h
    obtain ⟨t, q1, q2⟩ := h.gx
    have X := q1.blk ((q2 5 (by decide)).trans C7.out)
    exact ⟨X.cell 0 _ rfl, X.cell 1 _ rfl⟩)
  have TA : Hid (tot (nts [] (eqL f g an bn)) ≤ 900000) := hidw (by rw [CH.out.eA]; exact CH.out.tA)
  have JI := hidw (show J false false false false (W7.drewN 1) from by rw [HJQ.out]; exact ⟨t7, G7.out.drewN 1, K7.out, R7.out, fun _ _ => rfl⟩)
  go_upto_region 11 with fail
  refine region_okJ (vals := cv1 aa ba w.heap.size an ac bn bc lb rb ga ca gb cb (eqA f g an bn) (eqA f f an an)) (Inv := fun l V => Q4 J l 3 9 15 21 V) (by kernel_rfl) (by kernel_rfl) (q4_start JI.out) ?_ ?_
  · intro i o ho listed a w3 hj hnl dep K hK
    have h := hj.ri
    have k7 : a.tmps[7]? = some (lpv (some lb)) := (h.keep 7 (no_dst (by kernel_rfl))).trans rfl
    have k8 : a.tmps[8]? = some (lpv (some rb)) := (h.keep 8 (no_dst (by kernel_rfl))).trans rfl
    have k5 : a.tmps[5]? = some (.slice (some ⟨ga, 0, none⟩) an ca) := (h.keep 5 (no_dst (by kernel_rfl))).trans rfl
    have k6 : a.tmps[6]? = some (.slice (some ⟨gb, 0, none⟩) bn cb) := (h.keep 6 (no_dst (by kernel_rfl))).trans rfl
    have k1 : a.tmps[1]? = some (.pointer (some ⟨w.heap.size, 0, none⟩)) := (h.keep 1 (no_dst (by kernel_rfl))).trans rfl
    match i, ho with
    | 0, ho =>
      cases ho
      refine by_w rfl ?_
      exact st_mv 7 _ rfl k7 (hK _ w3 (q_keep hj.inv (q := 0) (by decide)) (fun _ _ => rfl))
    | 1, ho =>
      cases ho
      refine by_w rfl ?_
      exact st_mv 5 _ rfl k5 (hK _ w3 (q_keep hj.inv (q := 1) (by decide)) (fun _ _ => rfl))
    | 2, ho =>
      cases ho
      refine by_w rfl ?_
      exact st_mv 6 _ rfl k6 (hK _ w3 (q_keep hj.inv (q := 2) (by decide)) (fun _ _ => rfl))
    | 3, ho =>
      cases ho
      refine by_w rfl ?_
      have f15 : listed.getD 15 false = false := by
        cases z0 : listed.getD 15 false with
        | false => rfl
        | true =>
          have z1 := hj.cl 15 _ rfl z0 ⟨11, .guard⟩ (by simp) rfl
          have z2 := hj.cl 11 _ rfl z1 ⟨10, .data⟩ (by simp) rfl
          have z3 := hj.cl 10 _ rfl z2 ⟨3, .data⟩ (by simp) rfl
          exact Bool.noConfusion (z3.symm.trans hnl)
      have gi : J (listed.getD 3 false) (listed.getD 9 false) (listed.getD 15 false) (listed.getD 21 false) w3 := hj.inv
      rw [hnl, f15, HJQ.out] at gi
      refine st_callJ 13 _ _ (en_ttt 13 45 46 47 _ _ _ _ rfl (enters_of Try.func13 (by kernel_rfl) rfl) (show a.tmps[45]? = some (lpv (some lb)) from (h.val (dep ⟨0, .data⟩ (by simp) rfl) rfl)) (show a.tmps[46]? = some (.slice (some ⟨ga, 0, none⟩) an ca) from (h.val (dep ⟨1, .data⟩ (by simp) rfl) rfl)) (show a.tmps[47]? = some (.slice (some ⟨gb, 0, none⟩) bn cb) from (h.val (dep ⟨2, .data⟩ (by simp) rfl) rfl))) (jj_p1 gi (fun tt hG hk hs => gx_eq hG hk tot0 (rd_lent hG ((hs 2 (by decide)).trans T2.out) RA.out.1 (by decide)) (rd_lent hG ((hs 3 (by decide)).trans T3.out) RB.out.1 (by decide)) ha200 hb200)) (fun w4 hi => hK _ w4 (q_set1 (by rw [hj.llen]; exact of_decide_eq_true (by kernel_rfl)) (by decide) (by rw [f15, HJQ.out]; exact hi)) (fun _ _ => rfl))
    | 4, ho =>
      cases ho
      refine by_w rfl ?_
      exact st_mv 8 _ rfl k8 (hK _ w3 (q_keep hj.inv (q := 4) (by decide)) (fun _ _ => rfl))
    | 5, ho =>
      cases ho
      refine by_w rfl ?_
      exact st_fld _ _ _ _ _ rfl (tmpE k1) (fld0 _ _) (hK _ w3 (q_keep hj.inv (q := 5) (by decide)) (fun _ _ => rfl))
    | 6, ho =>
      cases ho
      refine by_w rfl ?_
      have sw := CFJ.out _ _ _ _ _ hj.inv
      exact st_load _ _ _ _ _ rfl (tmpE (show a.tmps[50]? = some (.pointer (some ⟨w.heap.size, 0, none⟩)) from (h.val (dep ⟨5, .data⟩ (by simp) rfl) rfl))) (ld_s sw.1) (hK _ w3 (q_keep hj.inv (q := 6) (by decide)) (fun _ _ => rfl))
    | 7, ho =>
      cases ho
      refine by_w rfl ?_
      exact st_fld _ _ _ _ _ rfl (tmpE k1) (fld1 _ _) (hK _ w3 (q_keep hj.inv (q := 7) (by decide)) (fun _ _ => rfl))
    | 8, ho =>
      cases ho
      refine by_w rfl ?_
      have sw := CFJ.out _ _ _ _ _ hj.inv
      exact st_load _ _ _ _ _ rfl (tmpE (show a.tmps[52]? = some (.pointer (some ⟨w.heap.size, 1, none⟩)) from (h.val (dep ⟨7, .data⟩ (by simp) rfl) rfl))) (ld_s sw.2) (hK _ w3 (q_keep hj.inv (q := 8) (by decide)) (fun _ _ => rfl))
    | 9, ho =>
      cases ho
      refine by_w rfl ?_
      have f21 : listed.getD 21 false = false := by
        cases z0 : listed.getD 21 false with
        | false => rfl
        | true =>
          have z1 := hj.cl 21 _ rfl z0 ⟨11, .guard⟩ (by simp) rfl
          have z2 := hj.cl 11 _ rfl z1 ⟨10, .data⟩ (by simp) rfl
          have z3 := hj.cl 10 _ rfl z2 ⟨9, .data⟩ (by simp) rfl
          exact Bool.noConfusion (z3.symm.trans hnl)
      have gi : J (listed.getD 3 false) (listed.getD 9 false) (listed.getD 15 false) (listed.getD 21 false) w3 := hj.inv
      rw [hnl, f21, HJQ.out] at gi
      refine st_callJ 14 _ _ (en_ttt 14 49 51 53 _ _ _ _ rfl (enters_of Try.func14 (by kernel_rfl) rfl) (show a.tmps[49]? = some (lpv (some rb)) from (h.val (dep ⟨4, .data⟩ (by simp) rfl) rfl)) (show a.tmps[51]? = some (.slice aa an ac) from (h.val (dep ⟨6, .data⟩ (by simp) rfl) rfl)) (show a.tmps[53]? = some (.slice ba bn bc) from (h.val (dep ⟨8, .data⟩ (by simp) rfl) rfl))) (jj_m1 gi (fun tt hG hk hs => gx_req hG hk tot0 (rd_arg hG rfl RA.out 1) (rd_arg hG rfl RB.out 1) ha200 hb200)) (fun w4 hi => hK _ w4 (q_set2 (by rw [hj.llen]; exact of_decide_eq_true (by kernel_rfl)) (by decide) (by rw [f21, HJQ.out]; exact hi)) (fun _ _ => rfl))
    | 10, ho =>
      cases ho
      refine by_w rfl ?_
      exact st_bin _ _ _ _ _ _ _ _ rfl (tmpE (show a.tmps[48]? = some (.bool (eqA f g an bn)) from (h.val (dep ⟨3, .data⟩ (by simp) rfl) rfl))) (tmpE (show a.tmps[54]? = some (.bool (eqA f g an bn)) from (h.val (dep ⟨9, .data⟩ (by simp) rfl) rfl))) (gd_bool _ _ _ _ _ _ _) ((bin_eqb _ _ _).trans (by rw [es1]; rfl)) (hK _ w3 (q_keep hj.inv (q := 10) (by decide)) (fun _ _ => rfl))
    | 11, ho =>
      cases ho
      refine by_w rfl ?_
      exact st_mv 55 _ rfl (show a.tmps[55]? = some (.bool true) from (h.val (dep ⟨10, .data⟩ (by simp) rfl) rfl)) (hK _ w3 (q_keep hj.inv (q := 11) (by decide)) (fun _ _ => rfl))
    | 12, ho =>
      cases ho
      refine by_w (Eq.trans (wanted_at (b := true) (c := true) rfl rfl (h.val (dep ⟨11, .guard⟩ (by simp) rfl) rfl)) rfl) ?_
      exact st_mv 7 _ rfl k7 (hK _ w3 (q_keep hj.inv (q := 12) (by decide)) (fun _ _ => rfl))
    | 13, ho =>
      cases ho
      refine by_w (Eq.trans (wanted_at (b := true) (c := true) rfl rfl (h.val (dep ⟨11, .guard⟩ (by simp) rfl) rfl)) rfl) ?_
      exact st_mv 5 _ rfl k5 (hK _ w3 (q_keep hj.inv (q := 13) (by decide)) (fun _ _ => rfl))
    | 14, ho =>
      cases ho
      refine by_w (Eq.trans (wanted_at (b := true) (c := true) rfl rfl (h.val (dep ⟨11, .guard⟩ (by simp) rfl) rfl)) rfl) ?_
      exact st_mv 5 _ rfl k5 (hK _ w3 (q_keep hj.inv (q := 14) (by decide)) (fun _ _ => rfl))
    | 15, ho =>
      cases ho
      refine by_w (Eq.trans (wanted_at (b := true) (c := true) rfl rfl (h.val (dep ⟨11, .guard⟩ (by simp) rfl) rfl)) rfl) ?_
      have y0 := dep ⟨11, .guard⟩ (by simp) rfl
      have y1 := hj.cl 11 _ rfl y0 ⟨10, .data⟩ (by simp) rfl
      have y2 := hj.cl 10 _ rfl y1 ⟨3, .data⟩ (by simp) rfl
      have f3 : listed.getD 3 false = true := y2
      have gi : J (listed.getD 3 false) (listed.getD 9 false) (listed.getD 15 false) (listed.getD 21 false) w3 := hj.inv
      rw [hnl, f3, HJQ.out] at gi
      refine st_callJ 13 _ _ (en_ttt 13 57 58 59 _ _ _ _ rfl (enters_of Try.func13 (by kernel_rfl) rfl) (show a.tmps[57]? = some (lpv (some lb)) from (h.val (dep ⟨12, .data⟩ (by simp) rfl) rfl)) (show a.tmps[58]? = some (.slice (some ⟨ga, 0, none⟩) an ca) from (h.val (dep ⟨13, .data⟩ (by simp) rfl) rfl)) (show a.tmps[59]? = some (.slice (some ⟨ga, 0, none⟩) an ca) from (h.val (dep ⟨14, .data⟩ (by simp) rfl) rfl))) (jj_p2 gi (fun tt hG hk hs => gx_eq hG hk TA.out (rd_lent hG ((hs 2 (by decide)).trans T2.out) RA.out.1 (by decide)) (rd_lent hG ((hs 2 (by decide)).trans T2.out) RA.out.1 (by decide)) ha200 ha200)) (fun w4 hi => hK _ w4 (q_set3 (by rw [hj.llen]; exact of_decide_eq_true (by kernel_rfl)) (by decide) (by rw [f3, HJQ.out]; exact hi)) (fun _ _ => rfl))
    | 16, ho =>
      cases ho
      refine by_w (Eq.trans (wanted_at (b := true) (c := true) rfl rfl (h.val (dep ⟨11, .guard⟩ (by simp) rfl) rfl)) rfl) ?_
      exact st_mv 8 _ rfl k8 (hK _ w3 (q_keep hj.inv (q := 16) (by decide)) (fun _ _ => rfl))
    | 17, ho =>
      cases ho
      refine by_w (Eq.trans (wanted_at (b := true) (c := true) rfl rfl (h.val (dep ⟨11, .guard⟩ (by simp) rfl) rfl)) rfl) ?_
      exact st_fld _ _ _ _ _ rfl (tmpE k1) (fld0 _ _) (hK _ w3 (q_keep hj.inv (q := 17) (by decide)) (fun _ _ => rfl))
    | 18, ho =>
      cases ho
      refine by_w (Eq.trans (wanted_at (b := true) (c := true) rfl rfl (h.val (dep ⟨11, .guard⟩ (by simp) rfl) rfl)) rfl) ?_
      have sw := CFJ.out _ _ _ _ _ hj.inv
      exact st_load _ _ _ _ _ rfl (tmpE (show a.tmps[62]? = some (.pointer (some ⟨w.heap.size, 0, none⟩)) from (h.val (dep ⟨17, .data⟩ (by simp) rfl) rfl))) (ld_s sw.1) (hK _ w3 (q_keep hj.inv (q := 18) (by decide)) (fun _ _ => rfl))
    | 19, ho =>
      cases ho
      refine by_w (Eq.trans (wanted_at (b := true) (c := true) rfl rfl (h.val (dep ⟨11, .guard⟩ (by simp) rfl) rfl)) rfl) ?_
      exact st_fld _ _ _ _ _ rfl (tmpE k1) (fld0 _ _) (hK _ w3 (q_keep hj.inv (q := 19) (by decide)) (fun _ _ => rfl))
    | 20, ho =>
      cases ho
      refine by_w (Eq.trans (wanted_at (b := true) (c := true) rfl rfl (h.val (dep ⟨11, .guard⟩ (by simp) rfl) rfl)) rfl) ?_
      have sw := CFJ.out _ _ _ _ _ hj.inv
      exact st_load _ _ _ _ _ rfl (tmpE (show a.tmps[64]? = some (.pointer (some ⟨w.heap.size, 0, none⟩)) from (h.val (dep ⟨19, .data⟩ (by simp) rfl) rfl))) (ld_s sw.1) (hK _ w3 (q_keep hj.inv (q := 20) (by decide)) (fun _ _ => rfl))
    | 21, ho =>
      cases ho
      refine by_w (Eq.trans (wanted_at (b := true) (c := true) rfl rfl (h.val (dep ⟨11, .guard⟩ (by simp) rfl) rfl)) rfl) ?_
      have y0 := dep ⟨11, .guard⟩ (by simp) rfl
      have y1 := hj.cl 11 _ rfl y0 ⟨10, .data⟩ (by simp) rfl
      have y2 := hj.cl 10 _ rfl y1 ⟨9, .data⟩ (by simp) rfl
      have f9 : listed.getD 9 false = true := y2
      have gi : J (listed.getD 3 false) (listed.getD 9 false) (listed.getD 15 false) (listed.getD 21 false) w3 := hj.inv
      rw [hnl, f9, HJQ.out] at gi
      refine st_callJ 14 _ _ (en_ttt 14 61 63 65 _ _ _ _ rfl (enters_of Try.func14 (by kernel_rfl) rfl) (show a.tmps[61]? = some (lpv (some rb)) from (h.val (dep ⟨16, .data⟩ (by simp) rfl) rfl)) (show a.tmps[63]? = some (.slice aa an ac) from (h.val (dep ⟨18, .data⟩ (by simp) rfl) rfl)) (show a.tmps[65]? = some (.slice aa an ac) from (h.val (dep ⟨20, .data⟩ (by simp) rfl) rfl))) (jj_m2 gi (fun tt hG hk hs => gx_req hG hk TA.out (rd_arg hG rfl RA.out 1) (rd_arg hG rfl RA.out 1) ha200 ha200)) (fun w4 hi => hK _ w4 (q_set4 (by rw [hj.llen]; exact of_decide_eq_true (by kernel_rfl)) (by decide) (by rw [f9, HJQ.out]; exact hi)) (fun _ _ => rfl))
    | 22, ho =>
      cases ho
      refine by_w (Eq.trans (wanted_at (b := true) (c := true) rfl rfl (h.val (dep ⟨11, .guard⟩ (by simp) rfl) rfl)) rfl) ?_
      exact st_bin _ _ _ _ _ _ _ _ rfl (tmpE (show a.tmps[60]? = some (.bool (eqA f f an an)) from (h.val (dep ⟨15, .data⟩ (by simp) rfl) rfl))) (tmpE (show a.tmps[66]? = some (.bool (eqA f f an an)) from (h.val (dep ⟨21, .data⟩ (by simp) rfl) rfl))) (gd_bool _ _ _ _ _ _ _) ((bin_eqb _ _ _).trans (by rw [es2]; rfl)) (hK _ w3 (q_keep hj.inv (q := 22) (by decide)) (fun _ _ => rfl))
    | 23, ho =>
      cases ho
      refine by_w rfl ?_
      exact st_pick _ _ _ _ _ _ rfl (tmpE (show a.tmps[56]? = some (.bool true) from (h.val (dep ⟨11, .data⟩ (by simp) rfl) rfl))) (tmpE (show a.tmps[67]? = some (.bool true) from (h.val (dep ⟨22, .data⟩ (by simp) rfl) rfl))) rfl (hK _ w3 (q_keep hj.inv (q := 23) (by decide)) (fun _ _ => rfl))
    | 24, ho =>
      cases ho
      refine by_w rfl ?_
      exact st_as 68 _ rfl (show a.tmps[68]? = some (.bool true) from (h.val (dep ⟨23, .data⟩ (by simp) rfl) rfl)) (hK _ w3 (q_keep hj.inv (q := 24) (by decide)) (fun _ _ => rfl))
    | x + 25, ho => simp at ho
  · intro listed a w3 hj all
    have h := hj.ri
    have ea := act2 h all 45 24 9 (by kernel_rfl) (by decide) (by kernel_rfl) (by kernel_rfl) (of_decide_eq_true (by kernel_rfl))
    have HJ0 : J (listed.getD 3 false) (listed.getD 9 false) (listed.getD 15 false) (listed.getD 21 false) w3 := hj.inv
    rw [show listed.getD 3 false = true from all 3 (by decide), show listed.getD 9 false = true from all 9 (by decide), show listed.getD 15 false = true from all 15 (by decide), show listed.getD 21 false = true from all 21 (by decide)] at HJ0
    have HJE := hidw HJ0
    clear HJ0 h hj all
    subst ea
    simp only [List.take_succ_cons, List.take_zero, List.drop_succ_cons, List.drop_zero, List.set_cons_succ, List.set_cons_zero, List.range, List.range.loop, List.map_cons, List.map_nil, List.cons_append, List.nil_append, cv1]
    have hj2 := HJE.out
    rw [HJQ.out] at hj2
    obtain ⟨t8, hG8, hK8, hR8, hB8⟩ := hj2
    unfold pick3 at hK8 hR8
    rw [if_pos rfl, CH.out.eA, CH.out.eB] at hK8 hR8
    have G8 := hidw hG8
    have K8 := hidw hK8
    have R8 := hidw hR8
    replace T2 := hidw ((hB8 2 (by decide)).trans T2.out)
    replace T3 := hidw ((hB8 3 (by decide)).trans T3.out)
    have C8 := hidw ((hB8 5 (by decide)).trans C7.out)
    clear hG8 hK8 hR8 hB8 G7 K7 R7 C7 HJE HJQ CFJ JI TA es1 es2 J
    generalize w3 = W8 at *
    have eb : (((Gf.box x : Nat) : Int) == ((Gf.box x : Nat) : Int)) = true := beq_self_eq_true _
    obtain ⟨J, hJ⟩ : ∃ J, J = JJ w w.heap.size t8 lb rb Lb (putL Lb (ix x)) [] Lb (putL Lb (ix x)) [] := ⟨_, rfl⟩
    have HJQ := hidw hJ
    clear hJ
    have CFJ : Hid (∀ (b1 b2 b3 b4 : Bool) (V : World), J b1 b2 b3 b4 V → V.cell? ⟨w.heap.size, 2, none⟩ = some (.int .u8 (x : Int))) := hidw (fun b1 b2 b3 b4 V h => by
      rw [HJQ.out] at h
      obtain ⟨t, q1, q2⟩ := h.gx
      have X := q1.blk ((q2 5 (by decide)).trans C8.out)
      exact X.cell 2 _ rfl)
    have JI := hidw (show J false false false false (W8.drewN 1) from by rw [HJQ.out]; exact ⟨t8, G8.out.drewN 1, K8.out, R8.out, fun _ _ => rfl⟩)
    go_upto_region 12 with fail
    refine region_okJ (vals := cv2 w.heap.size x (Gf.box x) lb rb) (Inv := fun l V => Q4 J l 3 7 1000 1001 V) (by kernel_rfl) (by kernel_rfl) (q4_start JI.out) ?_ ?_
    · intro i o ho listed a w3 hj hnl dep K hK
      have h := hj.ri
      have k7 : a.tmps[7]? = some (lpv (some lb)) := (h.keep 7 (no_dst (by kernel_rfl))).trans rfl
      have k8 : a.tmps[8]? = some (lpv (some rb)) := (h.keep 8 (no_dst (by kernel_rfl))).trans rfl
      have k1 : a.tmps[1]? = some (.pointer (some ⟨w.heap.size, 0, none⟩)) := (h.keep 1 (no_dst (by kernel_rfl))).trans rfl
      match i, ho with
      | 0, ho =>
        cases ho
        refine by_w rfl ?_
        exact st_mv 7 _ rfl k7 (hK _ w3 (q_keep hj.inv (q := 0) (by decide)) (fun _ _ => rfl))
      | 1, ho =>
        cases ho
        refine by_w rfl ?_
        exact st_fld _ _ _ _ _ rfl (tmpE k1) (fld2 _ _) (hK _ w3 (q_keep hj.inv (q := 1) (by decide)) (fun _ _ => rfl))
      | 2, ho =>
        cases ho
        refine by_w rfl ?_
        have sw := CFJ.out _ _ _ _ _ hj.inv
        exact st_load _ _ _ _ _ rfl (tmpE (show a.tmps[70]? = some (.pointer (some ⟨w.heap.size, 2, none⟩)) from (h.val (dep ⟨1, .data⟩ (by simp) rfl) rfl))) (ld_b sw) (hK _ w3 (q_keep hj.inv (q := 2) (by decide)) (fun _ _ => rfl))
      | 3, ho =>
        cases ho
        refine by_w rfl ?_
        have f1000 : listed.getD 1000 false = false := getD_big (by rw [hj.llen]; exact of_decide_eq_true (by kernel_rfl))
        have gi : J (listed.getD 3 false) (listed.getD 7 false) (listed.getD 1000 false) (listed.getD 1001 false) w3 := hj.inv
        rw [hnl, f1000, HJQ.out] at gi
        refine st_callJ 15 _ _ (en_tt 15 69 71 _ _ _ rfl (enters_of Try.func15 (by kernel_rfl) rfl) (show a.tmps[69]? = some (lpv (some lb)) from (h.val (dep ⟨0, .data⟩ (by simp) rfl) rfl)) (show a.tmps[71]? = some (.int .u8 (x : Int)) from (h.val (dep ⟨2, .data⟩ (by simp) rfl) rfl))) (jj_p1 gi (fun tt hG hk hs => gx_bx hG hk CH.out.tB x HX.out)) (fun w4 hi => hK _ w4 (q_set1 (by rw [hj.llen]; exact of_decide_eq_true (by kernel_rfl)) (by decide) (by rw [f1000, HJQ.out]; exact hi)) (fun _ _ => rfl))
      | 4, ho =>
        cases ho
        refine by_w rfl ?_
        exact st_mv 8 _ rfl k8 (hK _ w3 (q_keep hj.inv (q := 4) (by decide)) (fun _ _ => rfl))
      | 5, ho =>
        cases ho
        refine by_w rfl ?_
        exact st_fld _ _ _ _ _ rfl (tmpE k1) (fld2 _ _) (hK _ w3 (q_keep hj.inv (q := 5) (by decide)) (fun _ _ => rfl))
      | 6, ho =>
        cases ho
        refine by_w rfl ?_
        have sw := CFJ.out _ _ _ _ _ hj.inv
        exact st_load _ _ _ _ _ rfl (tmpE (show a.tmps[74]? = some (.pointer (some ⟨w.heap.size, 2, none⟩)) from (h.val (dep ⟨5, .data⟩ (by simp) rfl) rfl))) (ld_b sw) (hK _ w3 (q_keep hj.inv (q := 6) (by decide)) (fun _ _ => rfl))
      | 7, ho =>
        cases ho
        refine by_w rfl ?_
        have f1001 : listed.getD 1001 false = false := getD_big (by rw [hj.llen]; exact of_decide_eq_true (by kernel_rfl))
        have gi : J (listed.getD 3 false) (listed.getD 7 false) (listed.getD 1000 false) (listed.getD 1001 false) w3 := hj.inv
        rw [hnl, f1001, HJQ.out] at gi
        refine st_callJ 16 _ _ (en_tt 16 73 75 _ _ _ rfl (enters_of Try.func16 (by kernel_rfl) rfl) (show a.tmps[73]? = some (lpv (some rb)) from (h.val (dep ⟨4, .data⟩ (by simp) rfl) rfl)) (show a.tmps[75]? = some (.int .u8 (x : Int)) from (h.val (dep ⟨6, .data⟩ (by simp) rfl) rfl))) (jj_m1 gi (fun tt hG hk hs => gx_rbx hG hk CH.out.tB x HX.out)) (fun w4 hi => hK _ w4 (q_set2 (by rw [hj.llen]; exact of_decide_eq_true (by kernel_rfl)) (by decide) (by rw [f1001, HJQ.out]; exact hi)) (fun _ _ => rfl))
      | 8, ho =>
        cases ho
        refine by_w rfl ?_
        exact st_bin _ _ _ _ _ _ _ _ rfl (tmpE (show a.tmps[72]? = some (.int .u8 ((Gf.box x : Nat) : Int)) from (h.val (dep ⟨3, .data⟩ (by simp) rfl) rfl))) (tmpE (show a.tmps[76]? = some (.int .u8 ((Gf.box x : Nat) : Int)) from (h.val (dep ⟨7, .data⟩ (by simp) rfl) rfl))) (gd_int _ _ _ _ _ _ _ _) ((bin_eq8 _ _ _).trans (by rw [eb]; rfl)) (hK _ w3 (q_keep hj.inv (q := 8) (by decide)) (fun _ _ => rfl))
      | 9, ho =>
        cases ho
        refine by_w rfl ?_
        exact st_as 77 _ rfl (show a.tmps[77]? = some (.bool true) from (h.val (dep ⟨8, .data⟩ (by simp) rfl) rfl)) (hK _ w3 (q_keep hj.inv (q := 9) (by decide)) (fun _ _ => rfl))
      | x + 10, ho => simp at ho
    · intro listed a w3 hj all
      have h := hj.ri
      have ea := act2 h all 69 9 10 (by kernel_rfl) (by decide) (by kernel_rfl) (by kernel_rfl) (of_decide_eq_true (by kernel_rfl))
      have HJ0 : J (listed.getD 3 false) (listed.getD 7 false) (listed.getD 1000 false) (listed.getD 1001 false) w3 := hj.inv
      rw [show listed.getD 3 false = true from all 3 (by decide), show listed.getD 7 false = true from all 7 (by decide), show listed.getD 1000 false = false from getD_big (by rw [hj.llen]; exact of_decide_eq_true (by kernel_rfl)), show listed.getD 1001 false = false from getD_big (by rw [hj.llen]; exact of_decide_eq_true (by kernel_rfl))] at HJ0
      have HJE := hidw HJ0
      clear HJ0 h hj all
      subst ea
      simp only [List.take_succ_cons, List.take_zero, List.drop_succ_cons, List.drop_zero, List.set_cons_succ, List.set_cons_zero, List.range, List.range.loop, List.map_cons, List.map_nil, List.cons_append, List.nil_append, cv2]
      have hj2 := HJE.out
      rw [HJQ.out] at hj2
      obtain ⟨t9, hG9, hK9, hR9, hB9⟩ := hj2
      unfold pick3 at hK9 hR9
      rw [if_neg Bool.false_ne_true, if_pos rfl, CH.out.eC] at hK9 hR9
      have G9 := hidw hG9
      have K9 := hidw hK9
      have R9 := hidw hR9
      replace T2 := hidw ((hB9 2 (by decide)).trans T2.out)
      replace T3 := hidw ((hB9 3 (by decide)).trans T3.out)
      have C9 := hidw ((hB9 5 (by decide)).trans C8.out)
      clear hG9 hK9 hR9 hB9 G8 K8 R8 C8 HJE HJQ CFJ JI eb J
      generalize w3 = W9 at *
      have X9 := hidw (G9.out.blk C9.out)
      have c3 := X9.out.cell 3 _ rfl
      have c4 := X9.out.cell 4 _ rfl
      have c5 := X9.out.cell 5 _ rfl
      go_wp2_with fail
      refine (gx_pow G9.out K9.out CH.out.tC b e m HB.out HE.out HM.out).mono ?_
      rintro r Wa ⟨rfl, ta, hGa, hKa, hBa⟩
      rw [CH.out.eD] at hKa
      have Ga := hidw hGa
      have Ka := hidw hKa
      have Ra := hidw (R9.out.keep (hBa 1 (by decide)))
      replace T2 := hidw ((hBa 2 (by decide)).trans T2.out)
      replace T3 := hidw ((hBa 3 (by decide)).trans T3.out)
      have Ca := hidw ((hBa 5 (by decide)).trans C9.out)
      clear hGa hKa hBa G9 K9 R9 C9 X9 c3 c4 c5
      have Xa := hidw (Ga.out.blk Ca.out)
      have c3 := Xa.out.cell 3 _ rfl
      have c4 := Xa.out.cell 4 _ rfl
      have c5 := Xa.out.cell 5 _ rfl
      go_wp2_with fail
      refine (gx_rpow Ga.out Ra.out CH.out.tC b e m HE.out HM.out).mono ?_
      rintro r Wb ⟨rfl, tb, hGb, hRb, hBb⟩
      rw [CH.out.eD] at hRb
      have Gb := hidw hGb
      have Rb := hidw hRb
      have Kb := hidw (Ka.out.keep (hBb 0 (by decide)))
      replace T2 := hidw ((hBb 2 (by decide)).trans T2.out)
      replace T3 := hidw ((hBb 3 (by decide)).trans T3.out)
      have Cb := hidw ((hBb 5 (by decide)).trans Ca.out)
      clear hGb hRb hBb Ga Ka Ra Ca Xa c3 c4 c5
      have ef : (fiA f (x : Int) an == fiA f (x : Int) an) = true := beq_self_eq_true _
      obtain ⟨J, hJ⟩ : ∃ J, J = JJ w w.heap.size tb lb rb Ld (nts Ld (fiL f x an)) [] Ld (nts Ld (fiL f x an)) [] := ⟨_, rfl⟩
      have HJQ := hidw hJ
      clear hJ
      have CFJ : Hid (∀ (b1 b2 b3 b4 : Bool) (V : World), J b1 b2 b3 b4 V → V.cell? ⟨w.heap.size, 0, none⟩ = some (.slice aa an ac) ∧ V.cell? ⟨w.heap.size, 2, none⟩ = some (.int .u8 (x : Int))) := hidw (fun b1 b2 b3 b4 V h => by
        rw [HJQ.out] at h
        obtain ⟨t, q1, q2⟩ := h.gx
        have X := q1.blk ((q2 5 (by decide)).trans Cb.out)
        exact ⟨X.cell 0 _ rfl, X.cell 2 _ rfl⟩)
      have JI := hidw (show J false false false false (Wb.drewN 1) from by rw [HJQ.out]; exact ⟨tb, Gb.out.drewN 1, Kb.out, Rb.out, fun _ _ => rfl⟩)
      go_upto_region 15 with fail
      refine region_okJ (vals := cv3 aa w.heap.size an ac ga ca x lb rb (fiA f (x : Int) an)) (Inv := fun l V => Q4 J l 4 10 1000 1001 V) (by kernel_rfl) (by kernel_rfl) (q4_start JI.out) ?_ ?_
      · intro i o ho listed a w3 hj hnl dep K hK
        have h := hj.ri
        have k7 : a.tmps[7]? = some (lpv (some lb)) := (h.keep 7 (no_dst (by kernel_rfl))).trans rfl
        have k8 : a.tmps[8]? = some (lpv (some rb)) := (h.keep 8 (no_dst (by kernel_rfl))).trans rfl
        have k5 : a.tmps[5]? = some (.slice (some ⟨ga, 0, none⟩) an ca) := (h.keep 5 (no_dst (by kernel_rfl))).trans rfl
        have k1 : a.tmps[1]? = some (.pointer (some ⟨w.heap.size, 0, none⟩)) := (h.keep 1 (no_dst (by kernel_rfl))).trans rfl
        match i, ho with
        | 0, ho =>
          cases ho
          refine by_w rfl ?_
          exact st_mv 7 _ rfl k7 (hK _ w3 (q_keep hj.inv (q := 0) (by decide)) (fun _ _ => rfl))
        | 1, ho =>
          cases ho
          refine by_w rfl ?_
          exact st_mv 5 _ rfl k5 (hK _ w3 (q_keep hj.inv (q := 1) (by decide)) (fun _ _ => rfl))
        | 2, ho =>
          cases ho
          refine by_w rfl ?_
          exact st_fld _ _ _ _ _ rfl (tmpE k1) (fld2 _ _) (hK _ w3 (q_keep hj.inv (q := 2) (by decide)) (fun _ _ => rfl))
        | 3, ho =>
          cases ho
          refine by_w rfl ?_
          have sw := CFJ.out _ _ _ _ _ hj.inv
          exact st_load _ _ _ _ _ rfl (tmpE (show a.tmps[102]? = some (.pointer (some ⟨w.heap.size, 2, none⟩)) from (h.val (dep ⟨2, .data⟩ (by simp) rfl) rfl))) (ld_b sw.2) (hK _ w3 (q_keep hj.inv (q := 3) (by decide)) (fun _ _ => rfl))
        | 4, ho =>
          cases ho
          refine by_w rfl ?_
          have f1000 : listed.getD 1000 false = false := getD_big (by rw [hj.llen]; exact of_decide_eq_true (by kernel_rfl))
          have gi : J (listed.getD 4 false) (listed.getD 10 false) (listed.getD 1000 false) (listed.getD 1001 false) w3 := hj.inv
          rw [hnl, f1000, HJQ.out] at gi
          refine st_callJ 19 _ _ (en_ttt 19 100 101 103 _ _ _ _ rfl (enters_of Try.func19 (by kernel_rfl) rfl) (show a.tmps[100]? = some (lpv (some lb)) from (h.val (dep ⟨0, .data⟩ (by simp) rfl) rfl)) (show a.tmps[101]? = some (.slice (some ⟨ga, 0, none⟩) an ca) from (h.val (dep ⟨1, .data⟩ (by simp) rfl) rfl)) (show a.tmps[103]? = some (.int .u8 (x : Int)) from (h.val (dep ⟨3, .data⟩ (by simp) rfl) rfl))) (jj_p1 gi (fun tt hG hk hs => gx_fi hG hk CH.out.tD (rd_lent hG ((hs 2 (by decide)).trans T2.out) RA.out.1 (by decide)) (x : Int) ha200)) (fun w4 hi => hK _ w4 (q_set1 (by rw [hj.llen]; exact of_decide_eq_true (by kernel_rfl)) (by decide) (by rw [f1000, HJQ.out]; exact hi)) (fun _ _ => rfl))
        | 5, ho =>
          cases ho
          refine by_w rfl ?_
          exact st_mv 8 _ rfl k8 (hK _ w3 (q_keep hj.inv (q := 5) (by decide)) (fun _ _ => rfl))
        | 6, ho =>
          cases ho
          refine by_w rfl ?_
          exact st_fld _ _ _ _ _ rfl (tmpE k1) (fld0 _ _) (hK _ w3 (q_keep hj.inv (q := 6) (by decide)) (fun _ _ => rfl))
        | 7, ho =>
          cases ho
          refine by_w rfl ?_
          have sw := CFJ.out _ _ _ _ _ hj.inv
          exact st_load _ _ _ _ _ rfl (tmpE (show a.tmps[106]? = some (.pointer (some ⟨w.heap.size, 0, none⟩)) from (h.val (dep ⟨6, .data⟩ (by simp) rfl) rfl))) (ld_s sw.1) (hK _ w3 (q_keep hj.inv (q := 7) (by decide)) (fun _ _ => rfl))
        | 8, ho =>
          cases ho
          refine by_w rfl ?_
          exact st_fld _ _ _ _ _ rfl (tmpE k1) (fld2 _ _) (hK _ w3 (q_keep hj.inv (q := 8) (by decide)) (fun _ _ => rfl))
        | 9, ho =>
          cases ho
          refine by_w rfl ?_
          have sw := CFJ.out _ _ _ _ _ hj.inv
          exact st_load _ _ _ _ _ rfl (tmpE (show a.tmps[108]? = some (.pointer (some ⟨w.heap.size, 2, none⟩)) from (h.val (dep ⟨8, .data⟩ (by simp) rfl) rfl))) (ld_b sw.2) (hK _ w3 (q_keep hj.inv (q := 9) (by decide)) (fun _ _ => rfl))
        | 10, ho =>
          cases ho
          refine by_w rfl ?_
          have f1001 : listed.getD 1001 false = false := getD_big (by rw [hj.llen]; exact of_decide_eq_true (by kernel_rfl))
          have gi : J (listed.getD 4 false) (listed.getD 10 false) (listed.getD 1000 false) (listed.getD 1001 false) w3 := hj.inv
          rw [hnl, f1001, HJQ.out] at gi
          refine st_callJ 20 _ _ (en_ttt 20 105 107 109 _ _ _ _ rfl (enters_of Try.func20 (by kernel_rfl) rfl) (show a.tmps[105]? = some (lpv (some rb)) from (h.val (dep ⟨5, .data⟩ (by simp) rfl) rfl)) (show a.tmps[107]? = some (.slice aa an ac) from (h.val (dep ⟨7, .data⟩ (by simp) rfl) rfl)) (show a.tmps[109]? = some (.int .u8 (x : Int)) from (h.val (dep ⟨9, .data⟩ (by simp) rfl) rfl))) (jj_m1 gi (fun tt hG hk hs => gx_rfi hG hk CH.out.tD (rd_arg hG rfl RA.out 1) (x : Int) ha200)) (fun w4 hi => hK _ w4 (q_set2 (by rw [hj.llen]; exact of_decide_eq_true (by kernel_rfl)) (by decide) (by rw [f1001, HJQ.out]; exact hi)) (fun _ _ => rfl))
        | 11, ho =>
          cases ho
          refine by_w rfl ?_
          exact st_bin _ _ _ _ _ _ _ _ rfl (tmpE (show a.tmps[104]? = some (.int .i64 (fiA f (x : Int) an)) from (h.val (dep ⟨4, .data⟩ (by simp) rfl) rfl))) (tmpE (show a.tmps[110]? = some (.int .i64 (fiA f (x : Int) an)) from (h.val (dep ⟨10, .data⟩ (by simp) rfl) rfl))) (gd_int _ _ _ _ _ _ _ _) ((bin_eq _ _ _).trans (by rw [ef]; rfl)) (hK _ w3 (q_keep hj.inv (q := 11) (by decide)) (fun _ _ => rfl))
        | 12, ho =>
          cases ho
          refine by_w rfl ?_
          exact st_as 111 _ rfl (show a.tmps[111]? = some (.bool true) from (h.val (dep ⟨11, .data⟩ (by simp) rfl) rfl)) (hK _ w3 (q_keep hj.inv (q := 12) (by decide)) (fun _ _ => rfl))
        | x + 13, ho => simp at ho
      · intro listed a w3 hj all
        have h := hj.ri
        have ea := act2 h all 100 12 15 (by kernel_rfl) (by decide) (by kernel_rfl) (by kernel_rfl) (of_decide_eq_true (by kernel_rfl))
        have HJ0 : J (listed.getD 4 false) (listed.getD 10 false) (listed.getD 1000 false) (listed.getD 1001 false) w3 := hj.inv
        rw [show listed.getD 4 false = true from all 4 (by decide), show listed.getD 10 false = true from all 10 (by decide), show listed.getD 1000 false = false from getD_big (by rw [hj.llen]; exact of_decide_eq_true (by kernel_rfl)), show listed.getD 1001 false = false from getD_big (by rw [hj.llen]; exact of_decide_eq_true (by kernel_rfl))] at HJ0
        have HJE := hidw HJ0
        clear HJ0 h hj all
        subst ea
        simp only [List.take_succ_cons, List.take_zero, List.drop_succ_cons, List.drop_zero, List.set_cons_succ, List.set_cons_zero, List.range, List.range.loop, List.map_cons, List.map_nil, List.cons_append, List.nil_append, cv3]
        have hj2 := HJE.out
        rw [HJQ.out] at hj2
        obtain ⟨tc, hGc, hKc, hRc, hBc⟩ := hj2
        unfold pick3 at hKc hRc
        rw [if_neg Bool.false_ne_true, if_pos rfl, CH.out.eE] at hKc hRc
        have Gc := hidw hGc
        have Kc := hidw hKc
        have Rc := hidw hRc
        replace T2 := hidw ((hBc 2 (by decide)).trans T2.out)
        replace T3 := hidw ((hBc 3 (by decide)).trans T3.out)
        have Cc := hidw ((hBc 5 (by decide)).trans Cb.out)
        clear hGc hKc hRc hBc Gb Kb Rb Cb HJE HJQ CFJ JI ef J
        generalize w3 = Wc at *
        go_wp2_with fail
        refine (gx_so Gc.out Kc.out CH.out.tE (rd_lent Gc.out T3.out RB.out.1 (by decide)) hb200 4 (by decide)).mono ?_
        rintro r Wd ⟨us, rfl, td, hGd, hKd, hSd, hBd⟩
        rw [CH.out.eF] at hKd
        have Gd := hidw hGd
        have Kd := hidw hKd
        have Rd' := hidw (Rc.out.keep (hBd 1 (by decide) (by decide)))
        have T4 := hidw hSd
        replace T2 := hidw ((hBd 2 (by decide) (by decide)).trans T2.out)
        replace T3 := hidw ((hBd 3 (by decide) (by decide)).trans T3.out)
        have Cd := hidw ((hBd 5 (by decide) (by decide)).trans Cc.out)
        clear hGd hKd hSd hBd Gc Kc Rc Cc
        have Xd := hidw (Gd.out.blk Cd.out)
        have c1 := Xd.out.cell 1 _ rfl
        go_wp2_with fail
        refine (gx_rso Gd.out Rd'.out CH.out.tE (rd_arg Gd.out rfl RB.out 1) hb200 7 (by decide)).mono ?_
        rintro r We ⟨ut, rfl, te, hGe, hRe, hSe, hBe⟩
        rw [CH.out.eF] at hRe
        have Ge := hidw hGe
        have Re := hidw hRe
        have Ke := hidw (Kd.out.keep (hBe 0 (by decide) (by decide)))
        have T7 := hidw hSe
        replace T2 := hidw ((hBe 2 (by decide) (by decide)).trans T2.out)
        replace T3 := hidw ((hBe 3 (by decide) (by decide)).trans T3.out)
        replace T4 := hidw ((hBe 4 (by decide) (by decide)).trans T4.out)
        have Ce := hidw ((hBe 5 (by decide) (by decide)).trans Cd.out)
        clear hGe hRe hSe hBe Gd Kd Rd' Cd Xd c1
        go_wp2_with fail
        refine (so_nil (rd_lent (k := 0) Ge.out T3.out RB.out.1 (by decide)).1 hb200).mono ?_
        rintro r Wf ⟨uu, rfl, ho, hb⟩
        obtain ⟨tf, hGf, hSf, hBf⟩ := gx_own Ge.out hb ho 6
        have Gf' := hidw hGf
        have T6 := hidw hSf
        have Kf := hidw (Ke.out.keep (hBf 0 (by decide)))
        have Rf := hidw (Re.out.keep (hBf 1 (by decide)))
        replace T2 := hidw ((hBf 2 (by decide)).trans T2.out)
        replace T3 := hidw ((hBf 3 (by decide)).trans T3.out)
        replace T4 := hidw ((hBf 4 (by decide)).trans T4.out)
        replace T7 := hidw ((hBf 7 (by decide)).trans T7.out)
        have Cf := hidw ((hBf 5 (by decide)).trans Ce.out)
        clear hGf hSf hBf ho hb Ge Ke Re Ce
        have Xf := hidw (Gf'.out.blk Cf.out)
        have c3 := Xf.out.cell 3 _ rfl
        have c4 := Xf.out.cell 4 _ rfl
        have c5 := Xf.out.cell 5 _ rfl
        go_wp2_with fail
        refine (pow_nilA b e m HB.out HE.out HM.out).mono ?_
        rintro r Wg ⟨rfl, hb⟩
        have Gg := hidw (Gf'.out.below hb)
        clear hb Gf' Xf c3 c4 c5
        have ep : (((pwA b e m : Nat) : Int) == ((pwA b e m : Nat) : Int)) = true := beq_self_eq_true _
        have eq : (pwE m == pwE m) = true := beq_self_eq_true _
        have S4 := hidw (rd_own (k := 0) Gg.out T4.out (by decide)).1
        have S6 := hidw (rd_own (k := 0) Gg.out T6.out (by decide)).1
        have S7 := hidw (rd_own (k := 0) Gg.out T7.out (by decide)).1
        go_wp2_with fail
        refine (By.same_true us ut bn _ _ _ S4.out S7.out (by omega) (fun _ _ => rfl)).mono ?_
        rintro r Wh ⟨rfl, d1, rfl⟩
        go_wp2_with fail
        refine (By.same_true uu ut bn _ _ _ (By.RB.drewN S6.out _) (By.RB.drewN S7.out _) (by omega) (fun _ _ => rfl)).mono ?_
        rintro r Wi ⟨rfl, d2, rfl⟩
        have Gh := hidw ((Gg.out.drewN d1).drewN d2)
        clear S4 S6 S7 Gg ep eq
        generalize (Wg.drewN d1).drewN d2 = Wh at *
        have Xh := hidw (Gh.out.blk Cf.out)
        have CF := hidw (fun V (hb : Below Wh.heap.size Wh V) => show V.cell? ⟨w.heap.size, 0, none⟩ = some (.slice aa an ac) ∧ V.cell? ⟨w.heap.size, 1, none⟩ = some (.slice ba bn bc) ∧ V.cell? ⟨w.heap.size, 2, none⟩ = some (.int .u8 (x : Int)) from ⟨(Xh.out.below hb).cell 0 _ rfl, (Xh.out.below hb).cell 1 _ rfl, (Xh.out.below hb).cell 2 _ rfl⟩)
        have CE := hidw (fun V (hb : Below Wh.heap.size Wh V) => eq_nil (rd_lent (k := 0) (Gh.out.below hb) T2.out RA.out.1 (by decide)).1 (rd_lent (k := 0) (Gh.out.below hb) T3.out RB.out.1 (by decide)).1 ha200 hb200)
        have CRE := hidw (fun V (hb : Below Wh.heap.size Wh V) => req_nil (RA.out.below (Gh.out.below hb).bel) (RB.out.below (Gh.out.below hb).bel) ha200 hb200)
        have CB := hidw (fun V (_ : Below Wh.heap.size Wh V) => bx_nil (w := V) x HX.out)
        have CRB := hidw (fun V (_ : Below Wh.heap.size Wh V) => rbx_nil (w := V) x HX.out)
        have CFI := hidw (fun V (hb : Below Wh.heap.size Wh V) => fi_nil2 (x : Int) (rd_lent (k := 0) (Gh.out.below hb) T2.out RA.out.1 (by decide)).1 ha200)
        have CRF := hidw (fun V (hb : Below Wh.heap.size Wh V) => rfi_nil (x : Int) (RA.out.below (Gh.out.below hb).bel) ha200)
        have es1 : (eqA f g an bn == eqA f g an bn) = true := beq_self_eq_true _
        have eb : (((Gf.box x : Nat) : Int) == ((Gf.box x : Nat) : Int)) = true := beq_self_eq_true _
        have ef : (fiA f (x : Int) an == fiA f (x : Int) an) = true := beq_self_eq_true _
        go_upto_region 21 with fail
        refine region_okG (R := fun i v _ => v = cv4 aa ba w.heap.size an ac bn bc ga ca gb cb x (Gf.box x) (eqA f g an bn) (fiA f (x : Int) an) i) (by kernel_rfl) (by kernel_rfl) (fun _ _ _ _ h _ => h) ?_ ?_
        · intro i o ho listed a w3 h dep K hK
          have k5 : a.tmps[5]? = some (.slice (some ⟨ga, 0, none⟩) an ca) := (h.keep 5 (no_dst (by kernel_rfl))).trans rfl
          have k6 : a.tmps[6]? = some (.slice (some ⟨gb, 0, none⟩) bn cb) := (h.keep 6 (no_dst (by kernel_rfl))).trans rfl
          have k1 : a.tmps[1]? = some (.pointer (some ⟨w.heap.size, 0, none⟩)) := (h.keep 1 (no_dst (by kernel_rfl))).trans rfl
          match i, ho with
          | 0, ho =>
            cases ho
            refine by_w rfl ?_
            exact st_mv 5 _ rfl k5 (hK _ w3 (Below.refl _ _) (fun _ _ => rfl))
          | 1, ho =>
            cases ho
            refine by_w rfl ?_
            exact st_mv 6 _ rfl k6 (hK _ w3 (Below.refl _ _) (fun _ _ => rfl))
          | 2, ho =>
            cases ho
            refine by_w rfl ?_
            exact st_callJ (I := Below w3.heap.size w3) 13 _ _ (en_ctt 13 _ 159 160 _ _ _ rfl (enters_of Try.func13 (by kernel_rfl) rfl) (show a.tmps[159]? = some (.slice (some ⟨ga, 0, none⟩) an ca) from (h.val (dep ⟨0, .data⟩ (by simp) rfl) rfl)) (show a.tmps[160]? = some (.slice (some ⟨gb, 0, none⟩) bn cb) from (h.val (dep ⟨1, .data⟩ (by simp) rfl) rfl))) (CE.out w3 h.bel) (fun w4 hb => hK _ w4 hb (fun _ _ => rfl))
          | 3, ho =>
            cases ho
            refine by_w rfl ?_
            exact st_fld _ _ _ _ _ rfl (tmpE k1) (fld0 _ _) (hK _ w3 (Below.refl _ _) (fun _ _ => rfl))
          | 4, ho =>
            cases ho
            refine by_w rfl ?_
            have sw := CF.out w3 h.bel
            exact st_load _ _ _ _ _ rfl (tmpE (show a.tmps[162]? = some (.pointer (some ⟨w.heap.size, 0, none⟩)) from (h.val (dep ⟨3, .data⟩ (by simp) rfl) rfl))) (ld_s sw.1) (hK _ w3 (Below.refl _ _) (fun _ _ => rfl))
          | 5, ho =>
            cases ho
            refine by_w rfl ?_
            exact st_fld _ _ _ _ _ rfl (tmpE k1) (fld1 _ _) (hK _ w3 (Below.refl _ _) (fun _ _ => rfl))
          | 6, ho =>
            cases ho
            refine by_w rfl ?_
            have sw := CF.out w3 h.bel
            exact st_load _ _ _ _ _ rfl (tmpE (show a.tmps[164]? = some (.pointer (some ⟨w.heap.size, 1, none⟩)) from (h.val (dep ⟨5, .data⟩ (by simp) rfl) rfl))) (ld_s sw.2.1) (hK _ w3 (Below.refl _ _) (fun _ _ => rfl))
          | 7, ho =>
            cases ho
            refine by_w rfl ?_
            exact st_callJ (I := Below w3.heap.size w3) 14 _ _ (en_ctt 14 _ 163 165 _ _ _ rfl (enters_of Try.func14 (by kernel_rfl) rfl) (show a.tmps[163]? = some (.slice aa an ac) from (h.val (dep ⟨4, .data⟩ (by simp) rfl) rfl)) (show a.tmps[165]? = some (.slice ba bn bc) from (h.val (dep ⟨6, .data⟩ (by simp) rfl) rfl))) (CRE.out w3 h.bel) (fun w4 hb => hK _ w4 hb (fun _ _ => rfl))
          | 8, ho =>
            cases ho
            refine by_w rfl ?_
            exact st_bin _ _ _ _ _ _ _ _ rfl (tmpE (show a.tmps[161]? = some (.bool (eqA f g an bn)) from (h.val (dep ⟨2, .data⟩ (by simp) rfl) rfl))) (tmpE (show a.tmps[166]? = some (.bool (eqA f g an bn)) from (h.val (dep ⟨7, .data⟩ (by simp) rfl) rfl))) (gd_bool _ _ _ _ _ _ _) ((bin_eqb _ _ _).trans (by rw [es1]; rfl)) (hK _ w3 (Below.refl _ _) (fun _ _ => rfl))
          | 9, ho =>
            cases ho
            refine by_w rfl ?_
            exact st_mv 167 _ rfl (show a.tmps[167]? = some (.bool true) from (h.val (dep ⟨8, .data⟩ (by simp) rfl) rfl)) (hK _ w3 (Below.refl _ _) (fun _ _ => rfl))
          | 10, ho =>
            cases ho
            refine by_w (Eq.trans (wanted_at (b := true) (c := true) rfl rfl (h.val (dep ⟨9, .guard⟩ (by simp) rfl) rfl)) rfl) ?_
            exact st_fld _ _ _ _ _ rfl (tmpE k1) (fld2 _ _) (hK _ w3 (Below.refl _ _) (fun _ _ => rfl))
          | 11, ho =>
            cases ho
            refine by_w (Eq.trans (wanted_at (b := true) (c := true) rfl rfl (h.val (dep ⟨9, .guard⟩ (by simp) rfl) rfl)) rfl) ?_
            have sw := CF.out w3 h.bel
            exact st_load _ _ _ _ _ rfl (tmpE (show a.tmps[169]? = some (.pointer (some ⟨w.heap.size, 2, none⟩)) from (h.val (dep ⟨10, .data⟩ (by simp) rfl) rfl))) (ld_b sw.2.2) (hK _ w3 (Below.refl _ _) (fun _ _ => rfl))
          | 12, ho =>
            cases ho
            refine by_w (Eq.trans (wanted_at (b := true) (c := true) rfl rfl (h.val (dep ⟨9, .guard⟩ (by simp) rfl) rfl)) rfl) ?_
            exact st_callJ (I := Below w3.heap.size w3) 15 _ _ (en_ct 15 _ 170 _ _ rfl (enters_of Try.func15 (by kernel_rfl) rfl) (show a.tmps[170]? = some (.int .u8 (x : Int)) from (h.val (dep ⟨11, .data⟩ (by simp) rfl) rfl))) (CB.out w3 h.bel) (fun w4 hb => hK _ w4 hb (fun _ _ => rfl))
          | 13, ho =>
            cases ho
            refine by_w (Eq.trans (wanted_at (b := true) (c := true) rfl rfl (h.val (dep ⟨9, .guard⟩ (by simp) rfl) rfl)) rfl) ?_
            exact st_fld _ _ _ _ _ rfl (tmpE k1) (fld2 _ _) (hK _ w3 (Below.refl _ _) (fun _ _ => rfl))
          | 14, ho =>
            cases ho
            refine by_w (Eq.trans (wanted_at (b := true) (c := true) rfl rfl (h.val (dep ⟨9, .guard⟩ (by simp) rfl) rfl)) rfl) ?_
            have sw := CF.out w3 h.bel
            exact st_load _ _ _ _ _ rfl (tmpE (show a.tmps[172]? = some (.pointer (some ⟨w.heap.size, 2, none⟩)) from (h.val (dep ⟨13, .data⟩ (by simp) rfl) rfl))) (ld_b sw.2.2) (hK _ w3 (Below.refl _ _) (fun _ _ => rfl))
          | 15, ho =>
            cases ho
            refine by_w (Eq.trans (wanted_at (b := true) (c := true) rfl rfl (h.val (dep ⟨9, .guard⟩ (by simp) rfl) rfl)) rfl) ?_
            exact st_callJ (I := Below w3.heap.size w3) 16 _ _ (en_ct 16 _ 173 _ _ rfl (enters_of Try.func16 (by kernel_rfl) rfl) (show a.tmps[173]? = some (.int .u8 (x : Int)) from (h.val (dep ⟨14, .data⟩ (by simp) rfl) rfl))) (CRB.out w3 h.bel) (fun w4 hb => hK _ w4 hb (fun _ _ => rfl))
          | 16, ho =>
            cases ho
            refine by_w (Eq.trans (wanted_at (b := true) (c := true) rfl rfl (h.val (dep ⟨9, .guard⟩ (by simp) rfl) rfl)) rfl) ?_
            exact st_bin _ _ _ _ _ _ _ _ rfl (tmpE (show a.tmps[171]? = some (.int .u8 ((Gf.box x : Nat) : Int)) from (h.val (dep ⟨12, .data⟩ (by simp) rfl) rfl))) (tmpE (show a.tmps[174]? = some (.int .u8 ((Gf.box x : Nat) : Int)) from (h.val (dep ⟨15, .data⟩ (by simp) rfl) rfl))) (gd_int _ _ _ _ _ _ _ _) ((bin_eq8 _ _ _).trans (by rw [eb]; rfl)) (hK _ w3 (Below.refl _ _) (fun _ _ => rfl))
          | 17, ho =>
            cases ho
            refine by_w rfl ?_
            exact st_pick _ _ _ _ _ _ rfl (tmpE (show a.tmps[168]? = some (.bool true) from (h.val (dep ⟨9, .data⟩ (by simp) rfl) rfl))) (tmpE (show a.tmps[175]? = some (.bool true) from (h.val (dep ⟨16, .data⟩ (by simp) rfl) rfl))) rfl (hK _ w3 (Below.refl _ _) (fun _ _ => rfl))
          | 18, ho =>
            cases ho
            refine by_w rfl ?_
            exact st_mv 176 _ rfl (show a.tmps[176]? = some (.bool true) from (h.val (dep ⟨17, .data⟩ (by simp) rfl) rfl)) (hK _ w3 (Below.refl _ _) (fun _ _ => rfl))
          | 19, ho =>
            cases ho
            refine by_w (Eq.trans (wanted_at (b := true) (c := true) rfl rfl (h.val (dep ⟨18, .guard⟩ (by simp) rfl) rfl)) rfl) ?_
            exact st_mv 5 _ rfl k5 (hK _ w3 (Below.refl _ _) (fun _ _ => rfl))
          | 20, ho =>
            cases ho
            refine by_w (Eq.trans (wanted_at (b := true) (c := true) rfl rfl (h.val (dep ⟨18, .guard⟩ (by simp) rfl) rfl)) rfl) ?_
            exact st_fld _ _ _ _ _ rfl (tmpE k1) (fld2 _ _) (hK _ w3 (Below.refl _ _) (fun _ _ => rfl))
          | 21, ho =>
            cases ho
            refine by_w (Eq.trans (wanted_at (b := true) (c := true) rfl rfl (h.val (dep ⟨18, .guard⟩ (by simp) rfl) rfl)) rfl) ?_
            have sw := CF.out w3 h.bel
            exact st_load _ _ _ _ _ rfl (tmpE (show a.tmps[179]? = some (.pointer (some ⟨w.heap.size, 2, none⟩)) from (h.val (dep ⟨20, .data⟩ (by simp) rfl) rfl))) (ld_b sw.2.2) (hK _ w3 (Below.refl _ _) (fun _ _ => rfl))
          | 22, ho =>
            cases ho
            refine by_w (Eq.trans (wanted_at (b := true) (c := true) rfl rfl (h.val (dep ⟨18, .guard⟩ (by simp) rfl) rfl)) rfl) ?_
            exact st_callJ (I := Below w3.heap.size w3) 19 _ _ (en_ctt 19 _ 178 180 _ _ _ rfl (enters_of Try.func19 (by kernel_rfl) rfl) (show a.tmps[178]? = some (.slice (some ⟨ga, 0, none⟩) an ca) from (h.val (dep ⟨19, .data⟩ (by simp) rfl) rfl)) (show a.tmps[180]? = some (.int .u8 (x : Int)) from (h.val (dep ⟨21, .data⟩ (by simp) rfl) rfl))) (CFI.out w3 h.bel) (fun w4 hb => hK _ w4 hb (fun _ _ => rfl))
          | 23, ho =>
            cases ho
            refine by_w (Eq.trans (wanted_at (b := true) (c := true) rfl rfl (h.val (dep ⟨18, .guard⟩ (by simp) rfl) rfl)) rfl) ?_
            exact st_fld _ _ _ _ _ rfl (tmpE k1) (fld0 _ _) (hK _ w3 (Below.refl _ _) (fun _ _ => rfl))
          | 24, ho =>
            cases ho
            refine by_w (Eq.trans (wanted_at (b := true) (c := true) rfl rfl (h.val (dep ⟨18, .guard⟩ (by simp) rfl) rfl)) rfl) ?_
            have sw := CF.out w3 h.bel
            exact st_load _ _ _ _ _ rfl (tmpE (show a.tmps[182]? = some (.pointer (some ⟨w.heap.size, 0, none⟩)) from (h.val (dep ⟨23, .data⟩ (by simp) rfl) rfl))) (ld_s sw.1) (hK _ w3 (Below.refl _ _) (fun _ _ => rfl))
          | 25, ho =>
            cases ho
            refine by_w (Eq.trans (wanted_at (b := true) (c := true) rfl rfl (h.val (dep ⟨18, .guard⟩ (by simp) rfl) rfl)) rfl) ?_
            exact st_fld _ _ _ _ _ rfl (tmpE k1) (fld2 _ _) (hK _ w3 (Below.refl _ _) (fun _ _ => rfl))
          | 26, ho =>
            cases ho
            refine by_w (Eq.trans (wanted_at (b := true) (c := true) rfl rfl (h.val (dep ⟨18, .guard⟩ (by simp) rfl) rfl)) rfl) ?_
            have sw := CF.out w3 h.bel
            exact st_load _ _ _ _ _ rfl (tmpE (show a.tmps[184]? = some (.pointer (some ⟨w.heap.size, 2, none⟩)) from (h.val (dep ⟨25, .data⟩ (by simp) rfl) rfl))) (ld_b sw.2.2) (hK _ w3 (Below.refl _ _) (fun _ _ => rfl))
          | 27, ho =>
            cases ho
            refine by_w (Eq.trans (wanted_at (b := true) (c := true) rfl rfl (h.val (dep ⟨18, .guard⟩ (by simp) rfl) rfl)) rfl) ?_
            exact st_callJ (I := Below w3.heap.size w3) 20 _ _ (en_ctt 20 _ 183 185 _ _ _ rfl (enters_of Try.func20 (by kernel_rfl) rfl) (show a.tmps[183]? = some (.slice aa an ac) from (h.val (dep ⟨24, .data⟩ (by simp) rfl) rfl)) (show a.tmps[185]? = some (.int .u8 (x : Int)) from (h.val (dep ⟨26, .data⟩ (by simp) rfl) rfl))) (CRF.out w3 h.bel) (fun w4 hb => hK _ w4 hb (fun _ _ => rfl))
          | 28, ho =>
            cases ho
            refine by_w (Eq.trans (wanted_at (b := true) (c := true) rfl rfl (h.val (dep ⟨18, .guard⟩ (by simp) rfl) rfl)) rfl) ?_
            exact st_bin _ _ _ _ _ _ _ _ rfl (tmpE (show a.tmps[181]? = some (.int .i64 (fiA f (x : Int) an)) from (h.val (dep ⟨22, .data⟩ (by simp) rfl) rfl))) (tmpE (show a.tmps[186]? = some (.int .i64 (fiA f (x : Int) an)) from (h.val (dep ⟨27, .data⟩ (by simp) rfl) rfl))) (gd_int _ _ _ _ _ _ _ _) ((bin_eq _ _ _).trans (by rw [ef]; rfl)) (hK _ w3 (Below.refl _ _) (fun _ _ => rfl))
          | 29, ho =>
            cases ho
            refine by_w rfl ?_
            exact st_pick _ _ _ _ _ _ rfl (tmpE (show a.tmps[177]? = some (.bool true) from (h.val (dep ⟨18, .data⟩ (by simp) rfl) rfl))) (tmpE (show a.tmps[187]? = some (.bool true) from (h.val (dep ⟨28, .data⟩ (by simp) rfl) rfl))) rfl (hK _ w3 (Below.refl _ _) (fun _ _ => rfl))
          | 30, ho =>
            cases ho
            refine by_w rfl ?_
            exact st_as 188 _ rfl (show a.tmps[188]? = some (.bool true) from (h.val (dep ⟨29, .data⟩ (by simp) rfl) rfl)) (hK _ w3 (Below.refl _ _) (fun _ _ => rfl))
          | x + 31, ho => simp at ho
        · intro listed a w3 h all
          have ea := act2 h all 159 30 22 (by kernel_rfl) (by decide) (by kernel_rfl) (by kernel_rfl) (of_decide_eq_true (by kernel_rfl))
          have BL := hidw h.bel
          clear h all
          subst ea
          simp only [List.take_succ_cons, List.take_zero, List.drop_succ_cons, List.drop_zero, List.set_cons_succ, List.set_cons_zero, List.range, List.range.loop, List.map_cons, List.map_nil, List.cons_append, List.nil_append, cv4]
          have Gi := hidw (Gh.out.below BL.out)
          clear BL Gh CF CE CRE CB CRB CFI CRF es1 eb ef Xh
          generalize w3 = Wi at *
          go_wp2_with fail
          refine (gx_runs Gi.out Kf.out CH.out.lF).mono ?_
          rintro r Wj ⟨v1, rfl, hr, hb⟩
          have R1 := hidw hr
          have Gj := hidw (Gi.out.below hb)
          clear hr hb Gi
          go_wp2_with fail
          refine (gx_rruns Gj.out Rf.out CH.out.lF).mono ?_
          rintro r Wk ⟨v2, rfl, hr, hb⟩
          have R2 := hidw hr
          have Gk := hidw (Gj.out.below hb)
          replace R1 := hidw (R1.out.below hb)
          clear hr hb Gj
          go_wp2_with fail
          refine (same14 v1 v2 Lf Lf _ R1.out R2.out (by have := CH.out.lF; omega) (by have := CH.out.lF; omega)).mono ?_
          rintro r Wl ⟨rfl, d, rfl⟩
          rw [decide_eq_true rfl]
          have Gl := hidw (Gk.out.drewN d)
          clear R1 R2 Gk
          generalize Wk.drewN d = Wl at *
          have Xl := hidw (Gl.out.blk Cf.out)
          have c0 := Xl.out.cell 0 _ rfl
          go_wp2_with fail
          refine (By.kept17 _ _ an f _ (rd_own (k := 0) Gl.out T2.out (by decide)).1 (RA.out.below Gl.out.bel) (by omega)).mono ?_
          rintro r Wm ⟨rfl, hb⟩
          have Gm := hidw (Gl.out.below hb)
          clear hb Gl Xl c0
          have Xm := hidw (Gm.out.blk Cf.out)
          have c1 := Xm.out.cell 1 _ rfl
          go_wp2_with fail
          refine (By.kept17 _ _ bn g _ (rd_own (k := 0) Gm.out T3.out (by decide)).1 (RB.out.below Gm.out.bel) (by omega)).mono ?_
          rintro r Wn ⟨rfl, hb⟩
          have Gn := hidw (Gm.out.below hb)
          clear hb Gm Xm c1
          obtain ⟨sa, sc, hsv⟩ := By.own_lit_slice (own_lo Gn.out T4.out)
          obtain ⟨ua, uc, huv⟩ := By.own_lit_slice (own_lo Gn.out T6.out)
          subst hsv huv
          go_wp2_with fail
          refine (apart4 Gn.out T4.out T6.out T2.out T3.out (by omega)).mono ?_
          rintro r Wo ⟨rfl, hb⟩
          have FIN := hidw ((Gn.out.below (below_alloc _ _)).bel.trans hb)
          clear hb Gn
          go_wp2_with fail
          go_ret
          exact ⟨rfl, FIN.out⟩
theorem calls_law (q : Ask) (w : World) (h : q.Ok w) : Calls Try.prog 3 #[.agg #[.slice q.aa q.an q.ac, .slice q.ba q.bn q.bc, .int .u8 (q.x : Int), .int .u64 (q.b : Int), .int .u64 (q.e : Int), .int .u64 (q.m : Int)]] w fun r w' => r = .returned (.bool true) ∧ Below w.heap.size w w' :=
  calls_walk q.aa q.ba q.an q.ac q.bn q.bc q.x q.b q.e q.m q.f q.g w h.ra h.rb h.x h.b h.e h.m
end Go.Proofs.Ytpcnkiapbkmjbaa.Nv
