/- NaiveCounts, walked. -/
import Derived.Test.YtpcnkiapbkmjbaaNwc0
import Derived.Test.YtpcnkiapbkmjbaaNst
namespace Go.Proofs.Ytpcnkiapbkmjbaa.Nv
open Go.ChangeShapes Go.WideShapes Go.ChangeAt Go.RowKit
open Go.Proofs.Ytpcnkiapbkmjbaa Go.Proofs.Ytpcnkiapbkmjbaa.Tb Go.Proofs.Ytpcnkiapbkmjbaa.Xr
/-- What is asked, as cells. -/
def askL (aa ba : Option Addr) (an ac bn bc x b e m : Nat) : List Value := [.slice aa an ac, .slice ba bn bc, .int .u8 (x : Int), .int .u64 (b : Int), .int .u64 (e : Int), .int .u64 (m : Int)]
/-- How far two lists agree, however it was found. -/
structure Com (f g : Nat → Int) (n m c : Nat) : Prop where
  le : c ≤ n
  le' : c ≤ m
  all : ∀ j, j < c → f j = g j
  stop : c = n ∨ c = m ∨ ¬ f c = g c
theorem Com.far {f g : Nat → Int} {n c : Nat} (h : Com f g n n c) : far (eqp f g) n = c := by
  rcases h.stop with e | e | e
  · subst e; exact far_all fun j hj => decide_eq_true (h.all j hj)
  · subst e; exact far_all fun j hj => decide_eq_true (h.all j hj)
  · by_cases hc : c = n
    · subst hc; exact far_all fun j hj => decide_eq_true (h.all j hj)
    · exact far_at (by have := h.le; omega) (fun j hj => decide_eq_true (h.all j hj)) (decide_eq_false e)
def bv1 (aa : Option Addr) (xb an ac lb : Nat) : Nat → Value
  | 0 => .int .i64 (-1)
  | 1 => .pointer (some ⟨xb, 0, none⟩)
  | 2 => .slice aa an ac
  | 3 => .int .i64 (an : Int)
  | 4 => .bool false
  | 5 => .bool false
  | 6 => .int .i64 (-1)
  | 7 => .bool false
  | 8 => .bool false
  | 9 => .bool false
  | 10 => .int .i64 (-1)
  | 11 => .bool false
  | 12 => .bool false
  | 13 => undef
  | 14 => undef
  | 15 => undef
  | 16 => undef
  | 17 => undef
  | 18 => undef
  | 19 => undef
  | 20 => undef
  | 21 => undef
  | 22 => undef
  | 23 => undef
  | 24 => undef
  | 25 => undef
  | 26 => undef
  | 27 => undef
  | 28 => .bool false
  | 29 => .bool false
  | 30 => .bool false
  | 31 => .int .i64 (-1)
  | 32 => .bool true
  | 33 => .bool true
  | 34 => lpv (some lb)
  | 35 => .int .i64 (an : Int)
  | 36 => .pointer (some ⟨xb, 0, none⟩)
  | 37 => .slice aa an ac
  | 38 => .int .i64 (an : Int)
  | 39 => .bool false
  | 40 => .bool false
  | 41 => .bool false
  | _ => undef
def bv2 (xb an ac lb b1 o1 p x : Nat) : Nat → Value
  | 0 => .int .i64 (p : Int)
  | 1 => .pointer (some ⟨xb, 0, none⟩)
  | 2 => .slice (some ⟨b1, o1, none⟩) an ac
  | 3 => .int .i64 (an : Int)
  | 4 => .bool false
  | 5 => .bool false
  | 6 => .int .i64 (p : Int)
  | 7 => .bool false
  | 8 => .bool false
  | 9 => .bool false
  | 10 => .int .i64 (p : Int)
  | 11 => .bool true
  | 12 => .bool true
  | 13 => .pointer (some ⟨xb, 0, none⟩)
  | 14 => .slice (some ⟨b1, o1, none⟩) an ac
  | 15 => .int .i64 (p : Int)
  | 16 => .pointer (some ⟨b1, o1 + p, none⟩)
  | 17 => .int .u8 (x : Int)
  | 18 => .pointer (some ⟨xb, 2, none⟩)
  | 19 => .int .u8 (x : Int)
  | 20 => .bool false
  | 21 => .bool false
  | 22 => lpv (some lb)
  | 23 => .int .i64 ((p : Int) + 1)
  | 24 => .int .i64 (p : Int)
  | 25 => .int .i64 ((p : Int) + 1)
  | 26 => .bool false
  | 27 => .bool false
  | 28 => .bool false
  | 29 => .bool false
  | 30 => .bool false
  | 31 => .int .i64 (p : Int)
  | 32 => .bool false
  | 33 => .bool false
  | 34 => undef
  | 35 => undef
  | 36 => undef
  | 37 => undef
  | 38 => undef
  | 39 => undef
  | 40 => .bool false
  | 41 => .bool false
  | _ => undef
def bv3 (u : Value) (ba : Option Addr) (xb bn bc lb iv : Nat) : Nat → Value
  | 0 => u
  | 1 => .pointer (some ⟨xb, 1, none⟩)
  | 2 => .slice ba bn bc
  | 3 => .bool true
  | 4 => .bool true
  | 5 => lpv (some lb)
  | 6 => .int .i64 (iv : Int)
  | 7 => .pointer (some ⟨xb, 1, none⟩)
  | 8 => .slice ba bn bc
  | 9 => .int .i64 (iv : Int)
  | 10 => .bool true
  | 11 => .bool true
  | 12 => .bool true
  | _ => undef
set_option maxRecDepth 100000 in
set_option maxHeartbeats 1000000 in
theorem counts_walk (aa ba : Option Addr) (an ac bn bc x b e m : Nat) (f g : Nat → Int) (w : World) (ra : By.RB w (.slice aa an ac) an f) (rb : By.RB w (.slice ba bn bc) bn g) (hb : b < 18446744073709551616) (he : e < 18446744073709551616) (hm : m < 18446744073709551616) :
    Calls Try.prog 4 #[.agg #[.slice aa an ac, .slice ba bn bc, .int .u8 (x : Int), .int .u64 (b : Int), .int .u64 (e : Int), .int .u64 (m : Int)]] w fun r w' => r = .returned (.bool true) ∧ Below w.heap.size w w' := by
  have RA := hidw ra
  have RB := hidw rb
  have HB := hidw hb
  have HE := hidw he
  have HM := hidw hm
  clear ra rb hb he hm
  obtain ⟨t1, hG1, hC1, -⟩ := gx_alloc (GX.start w) 5 (askL aa ba an ac bn bc x b e m) 25
  have G1 := hidw hG1
  have C1 := hidw hC1
  clear hG1 hC1
  go_enter Try.func4, Try.ntmps4
  go_wp2_with fail
  refine (lives_walk _).mono ?_
  rintro r W2 ⟨rfl, h2⟩
  have G2 := hidw (G1.out.below h2)
  clear h2 G1
  have X2 := hidw (G2.out.blk C1.out)
  have c0 := X2.out.cell 0 _ rfl
  have c1 := X2.out.cell 1 _ rfl
  have c2 := X2.out.cell 2 _ rfl
  have c3 := X2.out.cell 3 _ rfl
  have c4 := X2.out.cell 4 _ rfl
  have c5 := X2.out.cell 5 _ rfl
  go_wp2_with fail
  refine (large_walk aa ba an ac bn bc x b e m _).mono ?_
  rintro r W3 ⟨rfl, h3⟩
  have G3 := hidw (G2.out.below h3)
  clear h3 G2 X2 c0 c1 c2 c3 c4 c5
  by_cases hbig : 200 < an ∨ 200 < bn
  · rw [decide_eq_true hbig]
    go_wp2_with fail
    go_ret
    exact ⟨rfl, G3.out.bel⟩
  rw [decide_eq_false hbig]
  have ha200 : an ≤ 200 := by omega
  have hb200 : bn ≤ 200 := by omega
  clear hbig
  go_wp2_with fail
  refine (gx_new G3.out 0).mono ?_
  rintro r W4 ⟨rfl, t4, hG4, hK4, b4⟩
  have G4 := hidw hG4
  have K4 := hidw hK4
  have C4 := hidw ((b4 5 (by decide)).trans C1.out)
  clear hG4 hK4 b4 G3 C1
  generalize W3.heap.size = lb at *
  have X4 := hidw (G4.out.blk C4.out)
  have c0 := X4.out.cell 0 _ rfl
  have c1 := X4.out.cell 1 _ rfl
  go_wp2_with fail
  refine (gx_eq G4.out K4.out tot0 (rd_arg G4.out rfl RA.out 0) (rd_arg G4.out rfl RB.out 0) ha200 hb200).mono ?_
  rintro r W5 ⟨rfl, t5, hG5, hK5, b5⟩
  have G5 := hidw hG5
  have K5 := hidw hK5
  have C5 := hidw ((b5 5 (by decide)).trans C4.out)
  clear hG5 hK5 b5 G4 C4 K4 X4 c0 c1
  have X5 := hidw (G5.out.blk C5.out)
  have c0 := X5.out.cell 0 _ rfl
  have c1 := X5.out.cell 1 _ rfl
  have c2 := X5.out.cell 2 _ rfl
  have c3 := X5.out.cell 3 _ rfl
  have c4 := X5.out.cell 4 _ rfl
  have c5 := X5.out.cell 5 _ rfl
  have RA5 := hidw (RA.out.below G5.out.bel)
  have RB5 := hidw (RB.out.below G5.out.bel)
  go_upto_block 0 with fail
  go_cut [5] from 24 to 50 (fun c W => ∃ C : Nat, c = .int .i64 (C : Int) ∧ Com f g an bn C ∧ ∃ d, W = W5.drewN d)
  case first =>
    go_wp2_with fail
    go_loopw [5] (fun c wr => ∃ C : Nat, c = .int .i64 (C : Int) ∧ C ≤ an ∧ C ≤ bn ∧ (∀ j, j < C → f j = g j) ∧ ∃ d, wr = W5.drewN d) (fun c _ => an - (intOf c).toNat)
    case atStart => exact ⟨0, rfl, by omega, by omega, fun j hj => absurd hj (Nat.not_lt_zero _), 0, rfl⟩
    case round =>
      obtain ⟨C, rfl, q1, q2, hall, d, rfl⟩ := hrel
      have HALL := hidw hall
      clear hall
      by_cases l1 : C < an
      · have e1 : decide (C < an) = true := decide_eq_true l1
        by_cases l2 : C < bn
        · have e2 : decide (C < bn) = true := decide_eq_true l2
          obtain ⟨p1, o1, k1, q1e, z1⟩ := rb_byte RA5.out l1
          obtain ⟨p2, o2, k2, q2e, z2⟩ := rb_byte RB5.out l2
          simp only [Value.slice.injEq] at q1e q2e
          obtain ⟨rfl, -, rfl⟩ := q1e
          obtain ⟨rfl, -, rfl⟩ := q2e
          by_cases hc : f C = g C
          · rw [← hc] at z2
            have HC := hidw hc
            clear hc
            go_wp2_with fail
            go_quiet (fail)
            go_wp2_with fail
            exact ⟨⟨C + 1, rfl, by omega, by omega, fun j hj => by by_cases e : j = C; (subst e; exact HC.out); exact HALL.out j (by omega), _, rfl⟩, by simp [intOf]; omega⟩
          · have hc1 : (f C == g C) = false := by simpa using hc
            have CM := hidw (Com.mk q1 q2 HALL.out (.inr (.inr hc)))
            go_wp2_with fail
            go_quiet (fail)
            go_wp2_with fail
            go_meet
            case rel => exact ⟨C, rfl, CM.out, _, drewN_two _ _ _⟩
        · have e2 : decide (C < bn) = false := decide_eq_false l2
          have CM := hidw (Com.mk q1 q2 HALL.out (.inr (.inl (by omega))))
          go_wp2_with fail
          go_quiet (fail)
          go_wp2_with fail
          go_meet
          case rel => exact ⟨C, rfl, CM.out, _, drewN_two _ _ _⟩
      · have e1 : decide (C < an) = false := decide_eq_false l1
        have CM := hidw (Com.mk q1 q2 HALL.out (.inl (by omega)))
        go_wp2_with fail
        go_quiet (fail)
        go_wp2_with fail
        go_meet
        case rel => exact ⟨C, rfl, CM.out, _, drewN_two _ _ _⟩
  case rest =>
    obtain ⟨C, rfl, hcm, d5, hW⟩ := hcut
    have G6 := hidw (show GX w w.heap.size t5 wc from by rw [hW]; exact G5.out.drewN d5)
    have CM := hidw hcm
    clear hcm hW G5 X5 c0 c1 c2 c3 c4 c5 RA5 RB5
    have X6 := hidw (G6.out.blk C5.out)
    have c0 := X6.out.cell 0 _ rfl
    have c1 := X6.out.cell 1 _ rfl
    have hCn := CM.out.le
    obtain ⟨wt, hwt⟩ : ∃ wt : Nat, wt = if an = bn then min (C + 1) an else 0 := ⟨_, rfl⟩
    have WT := hidw hwt
    clear hwt
    go_upto_if 57 with fail
    go_cut [6] from 58 to 63 (fun v W => v = .int .i64 (wt : Int) ∧ W = wc)
    case first =>
      by_cases hnm : an = bn
      · have e1 : (an : Int) = (bn : Int) := by omega
        have e2 : min ((C : Int) + 1) (an : Int) = (wt : Int) := by rw [WT.out, if_pos hnm]; omega
        go_wp2_with fail
        go_meet
        case rel => exact ⟨by rw [← e2, e1], rfl⟩
      · have e1 : ¬ (an : Int) = (bn : Int) := by omega
        have e2 : Hid (wt = 0) := hidw (by rw [WT.out, if_neg hnm])
        go_wp2_with fail
        go_meet
        case rel => exact ⟨by rw [e2.out]; rfl, rfl⟩
    case rest =>
      obtain ⟨rfl, rfl⟩ := hcut
      have LT : tot (nts [] (eqL f g an bn)) = (wt : Int) := by
        have hl : (eqL f g an bn).length = wt := by
          rw [WT.out]
          unfold eqL
          by_cases hnm : an = bn
          · rw [if_pos hnm, if_pos hnm, upTo_len]
            subst hnm
            rw [CM.out.far]
          · rw [if_neg hnm, if_neg hnm]; rfl
        rw [tot_nil _ (by rw [hl, WT.out]; split <;> omega), hl]
      have LN := hidw (gx_len G6.out K5.out)
      rw [LT] at LN
      have SB : eqA f g an bn = decide (an = bn ∧ C = an) := by
        unfold eqA
        by_cases hnm : an = bn
        · subst hnm; rw [CM.out.far]
        · rw [decide_eq_false (fun h => hnm h.1), decide_eq_false (fun h => hnm h.1)]
      rw [SB]
      clear SB LT
      go_upto_region 13 with fail
      go_cut [4, 23, 57, 85] from 64 to 84 (fun _ _ _ v W => v = .bool false ∧ W = wc)
      case first =>
        by_cases hnm : an = bn
        · have e1 : ((an : Int) == (bn : Int)) = true := by simp; omega
          by_cases hC : C = an
          · have e2 : ((C : Int) == (an : Int)) = true := by simp; omega
            rw [decide_eq_true (show an = bn ∧ C = an from ⟨hnm, hC⟩)]
            clear hnm hC
            go_wp2_with (go_at_call 29; refine LN.out.mono ?_; rintro r w' ⟨rfl, rfl⟩)
            go_meet
            case rel => exact ⟨rfl, rfl⟩
          · have e2 : ((C : Int) == (an : Int)) = false := by simp; omega
            rw [decide_eq_false (show ¬ (an = bn ∧ C = an) from fun h => hC h.2)]
            clear hnm hC
            go_wp2_with (go_at_call 29; refine LN.out.mono ?_; rintro r w' ⟨rfl, rfl⟩)
            go_meet
            case rel => exact ⟨rfl, rfl⟩
        · have e1 : ((an : Int) == (bn : Int)) = false := by simp; omega
          rw [decide_eq_false (show ¬ (an = bn ∧ C = an) from fun h => hnm h.1)]
          clear hnm
          go_wp2_with (go_at_call 29; refine LN.out.mono ?_; rintro r w' ⟨rfl, rfl⟩)
          go_meet
          case rel => exact ⟨rfl, rfl⟩
      case rest =>
        obtain ⟨rfl, rfl⟩ := hcut
        clear WT LN CM hCn
        go_wp2_with fail
        refine (gx_reset G6.out K5.out).mono ?_
        rintro r W7 ⟨rfl, t7, hG7, hK7, b7⟩
        have G7 := hidw hG7
        have K7 := hidw hK7
        have C7 := hidw ((b7 5 (by decide)).trans C5.out)
        clear hG7 hK7 b7 G6 C5 K5 X6 c0 c1
        have X7 := hidw (G7.out.blk C7.out)
        have c0 := X7.out.cell 0 _ rfl
        have c2 := X7.out.cell 2 _ rfl
        go_wp2_with fail
        refine (gx_fi G7.out K7.out tot0 (rd_arg G7.out rfl RA.out 0) (x : Int) ha200).mono ?_
        rintro r W8 ⟨rfl, t8, hG8, hK8, b8⟩
        have G8 := hidw hG8
        have K8 := hidw hK8
        have C8 := hidw ((b8 5 (by decide)).trans C7.out)
        clear hG8 hK8 b8 G7 C7 K7 X7 c0 c2
        have X8 := hidw (G8.out.blk C8.out)
        have c0 := X8.out.cell 0 _ rfl
        have c2 := X8.out.cell 2 _ rfl
        have RA8 := hidw (RA.out.below G8.out.bel)
        have LF : tot (nts [] (fiL f x an)) = (min (far (nep f x) an + 1) an : Nat) := by
          have hl : (fiL f x an).length = min (far (nep f x) an + 1) an := upTo_len _ _ _
          rw [tot_nil _ (by rw [hl]; omega), hl]
        have FA := hidw (show fiA f x an = if far (nep f x) an = an then (-1 : Int) else ((far (nep f x) an : Nat) : Int) from rfl)
        have FL := hidw (far_le (nep f x) an)
        have FS := hidw (fun h => far_stop (p := nep f x) (n := an) h)
        generalize far (nep f x) an = p at *
        rw [FA.out]
        have CF := hidw (fun V (hb : Below W8.heap.size W8 V) => show V.cell? ⟨w.heap.size, 0, none⟩ = some (.slice aa an ac) ∧ V.cell? ⟨w.heap.size, 2, none⟩ = some (.int .u8 (x : Int)) from ⟨(X8.out.below hb).cell 0 _ rfl, (X8.out.below hb).cell 2 _ rfl⟩)
        have LNC := hidw (fun V (hb : Below W8.heap.size W8 V) => gx_len (G8.out.below hb) K8.out)
        rw [LF] at LNC
        go_upto_region 17 with fail
        go_cut [7, 93, 135] from 94 to 134 (fun _ _ v W => v = .bool false ∧ Below W8.heap.size W8 W)
        case first =>
          by_cases hp : p = an
          · rw [if_pos hp]
            have LN3 : Hid (∀ V, Below W8.heap.size W8 V → Calls Try.prog 29 #[lpv (some lb)] V fun r w' => r = .returned (.int .i64 (an : Int)) ∧ Below V.heap.size V w') := hidw (fun V hb => by
              have h := LNC.out V hb
              rw [show min (p + 1) an = an by omega] at h
              exact h.mono (fun r w' ⟨h1, h2⟩ => ⟨h1, by rw [h2]; exact Below.refl _ _⟩))
            have e0 : decide ((an : Int) ≤ -1) = false := decide_eq_false (by omega)
            have e1 : ((an : Int) != (an : Int)) = false := by simp
            clear LNC FA FL FS
            refine region_okG (R := fun i v _ => v = bv1 aa w.heap.size an ac lb i) (by kernel_rfl) (by kernel_rfl) (fun _ _ _ _ h _ => h) ?_ ?_
            · intro i o ho listed a w3 h dep K hK
              have k1 : a.tmps[1]? = some (.pointer (some ⟨w.heap.size, 0, none⟩)) := (h.keep 1 (no_dst (by kernel_rfl))).trans rfl
              have k3 : a.tmps[3]? = some (lpv (some lb)) := (h.keep 3 (no_dst (by kernel_rfl))).trans rfl
              have k7 : a.tmps[7]? = some (.int .i64 (-1)) := (h.keep 7 (no_dst (by kernel_rfl))).trans rfl
              match i, ho with
              | 0, ho =>
                cases ho
                refine by_w rfl ?_
                exact st_mv 7 _ rfl k7 (hK _ w3 (Below.refl _ _) (fun _ _ => rfl))
              | 1, ho =>
                cases ho
                refine by_w rfl ?_
                exact st_fld _ _ _ _ _ rfl (tmpE k1) (fld0 _ _) (hK _ w3 (Below.refl _ _) (fun _ _ => rfl))
              | 2, ho =>
                cases ho
                refine by_w rfl ?_
                have sw := CF.out w3 h.bel
                exact st_load _ _ _ _ _ rfl (tmpE (show a.tmps[95]? = some (.pointer (some ⟨w.heap.size, 0, none⟩)) from (h.val (dep ⟨1, .data⟩ (by simp) rfl) rfl))) (ld_s sw.1) (hK _ w3 (Below.refl _ _) (fun _ _ => rfl))
              | 3, ho =>
                cases ho
                refine by_w rfl ?_
                exact st_len 96 _ _ _ rfl (show a.tmps[96]? = some (.slice aa an ac) from (h.val (dep ⟨2, .data⟩ (by simp) rfl) rfl)) (hK _ w3 (Below.refl _ _) (fun _ _ => rfl))
              | 4, ho =>
                cases ho
                refine by_w rfl ?_
                exact st_bin _ _ _ _ _ _ _ _ rfl (tmpE (show a.tmps[94]? = some (.int .i64 (-1)) from (h.val (dep ⟨0, .data⟩ (by simp) rfl) rfl))) (tmpE (show a.tmps[97]? = some (.int .i64 (an : Int)) from (h.val (dep ⟨3, .data⟩ (by simp) rfl) rfl))) (gd_int _ _ _ _ _ _ _ _) ((bin_ge _ _ _).trans (by rw [e0]; rfl)) (hK _ w3 (Below.refl _ _) (fun _ _ => rfl))
              | 5, ho =>
                cases ho
                refine by_w rfl ?_
                exact st_mv 98 _ rfl (show a.tmps[98]? = some (.bool false) from (h.val (dep ⟨4, .data⟩ (by simp) rfl) rfl)) (hK _ w3 (Below.refl _ _) (fun _ _ => rfl))
              | 6, ho =>
                cases ho
                refine by_w (Eq.trans (wanted_at (b := false) (c := false) rfl rfl (h.val (dep ⟨5, .guard⟩ (by simp) rfl) rfl)) rfl) ?_
                exact st_mv 7 _ rfl k7 (hK _ w3 (Below.refl _ _) (fun _ _ => rfl))
              | 7, ho =>
                cases ho
                refine by_w (Eq.trans (wanted_at (b := false) (c := false) rfl rfl (h.val (dep ⟨5, .guard⟩ (by simp) rfl) rfl)) rfl) ?_
                exact st_bin _ _ _ _ _ _ _ _ rfl (tmpE (show a.tmps[100]? = some (.int .i64 (-1)) from (h.val (dep ⟨6, .data⟩ (by simp) rfl) rfl))) rfl (gd_int _ _ _ _ _ _ _ _) ((bin_lt _ _ _).trans rfl) (hK _ w3 (Below.refl _ _) (fun _ _ => rfl))
              | 8, ho =>
                cases ho
                refine by_w rfl ?_
                exact st_pick _ _ _ _ _ _ rfl (tmpE (show a.tmps[99]? = some (.bool false) from (h.val (dep ⟨5, .data⟩ (by simp) rfl) rfl))) rfl (tmpE (show a.tmps[101]? = some (.bool false) from (h.val (dep ⟨7, .data⟩ (by simp) rfl) rfl))) (hK _ w3 (Below.refl _ _) (fun _ _ => rfl))
              | 9, ho =>
                cases ho
                refine by_w rfl ?_
                exact st_mv 102 _ rfl (show a.tmps[102]? = some (.bool false) from (h.val (dep ⟨8, .data⟩ (by simp) rfl) rfl)) (hK _ w3 (Below.refl _ _) (fun _ _ => rfl))
              | 10, ho =>
                cases ho
                refine by_w (Eq.trans (wanted_at (b := false) (c := false) rfl rfl (h.val (dep ⟨9, .guard⟩ (by simp) rfl) rfl)) rfl) ?_
                exact st_mv 7 _ rfl k7 (hK _ w3 (Below.refl _ _) (fun _ _ => rfl))
              | 11, ho =>
                cases ho
                refine by_w (Eq.trans (wanted_at (b := false) (c := false) rfl rfl (h.val (dep ⟨9, .guard⟩ (by simp) rfl) rfl)) rfl) ?_
                exact st_bin _ _ _ _ _ _ _ _ rfl (tmpE (show a.tmps[104]? = some (.int .i64 (-1)) from (h.val (dep ⟨10, .data⟩ (by simp) rfl) rfl))) rfl (gd_int _ _ _ _ _ _ _ _) ((bin_ge _ _ _).trans rfl) (hK _ w3 (Below.refl _ _) (fun _ _ => rfl))
              | 12, ho =>
                cases ho
                refine by_w (Eq.trans (wanted_at (b := false) (c := false) rfl rfl (h.val (dep ⟨9, .guard⟩ (by simp) rfl) rfl)) rfl) ?_
                exact st_mv 105 _ rfl (show a.tmps[105]? = some (.bool false) from (h.val (dep ⟨11, .data⟩ (by simp) rfl) rfl)) (hK _ w3 (Below.refl _ _) (fun _ _ => rfl))
              | 13, ho =>
                cases ho
                refine by_g (Eq.trans (wanted_at (b := false) (c := true) rfl rfl (h.val (dep ⟨12, .guard⟩ (by simp) rfl) rfl)) rfl) ?_
                exact hK _ w3 (Below.refl _ _) (fun _ _ => rfl)
              | 14, ho =>
                cases ho
                refine by_g (Eq.trans (wanted_at (b := false) (c := true) rfl rfl (h.val (dep ⟨12, .guard⟩ (by simp) rfl) rfl)) rfl) ?_
                exact hK _ w3 (Below.refl _ _) (fun _ _ => rfl)
              | 15, ho =>
                cases ho
                refine by_g (Eq.trans (wanted_at (b := false) (c := true) rfl rfl (h.val (dep ⟨12, .guard⟩ (by simp) rfl) rfl)) rfl) ?_
                exact hK _ w3 (Below.refl _ _) (fun _ _ => rfl)
              | 16, ho =>
                cases ho
                refine by_g (Eq.trans (wanted_at (b := false) (c := true) rfl rfl (h.val (dep ⟨12, .guard⟩ (by simp) rfl) rfl)) rfl) ?_
                exact hK _ w3 (Below.refl _ _) (fun _ _ => rfl)
              | 17, ho =>
                cases ho
                refine by_g (Eq.trans (wanted_at (b := false) (c := true) rfl rfl (h.val (dep ⟨12, .guard⟩ (by simp) rfl) rfl)) rfl) ?_
                exact hK _ w3 (Below.refl _ _) (fun _ _ => rfl)
              | 18, ho =>
                cases ho
                refine by_g (Eq.trans (wanted_at (b := false) (c := true) rfl rfl (h.val (dep ⟨12, .guard⟩ (by simp) rfl) rfl)) rfl) ?_
                exact hK _ w3 (Below.refl _ _) (fun _ _ => rfl)
              | 19, ho =>
                cases ho
                refine by_g (Eq.trans (wanted_at (b := false) (c := true) rfl rfl (h.val (dep ⟨12, .guard⟩ (by simp) rfl) rfl)) rfl) ?_
                exact hK _ w3 (Below.refl _ _) (fun _ _ => rfl)
              | 20, ho =>
                cases ho
                refine by_g (Eq.trans (wanted_at (b := false) (c := true) rfl rfl (h.val (dep ⟨12, .guard⟩ (by simp) rfl) rfl)) rfl) ?_
                exact hK _ w3 (Below.refl _ _) (fun _ _ => rfl)
              | 21, ho =>
                cases ho
                refine by_g (Eq.trans (wanted_at (b := false) (c := true) rfl rfl (h.val (dep ⟨12, .guard⟩ (by simp) rfl) rfl)) rfl) ?_
                exact hK _ w3 (Below.refl _ _) (fun _ _ => rfl)
              | 22, ho =>
                cases ho
                refine by_g (wanted_und (c := false) rfl rfl (h.val (dep ⟨21, .guard⟩ (by simp) rfl) rfl)) ?_
                exact hK _ w3 (Below.refl _ _) (fun _ _ => rfl)
              | 23, ho =>
                cases ho
                refine by_g (wanted_und (c := false) rfl rfl (h.val (dep ⟨21, .guard⟩ (by simp) rfl) rfl)) ?_
                exact hK _ w3 (Below.refl _ _) (fun _ _ => rfl)
              | 24, ho =>
                cases ho
                refine by_g (wanted_und (c := false) rfl rfl (h.val (dep ⟨21, .guard⟩ (by simp) rfl) rfl)) ?_
                exact hK _ w3 (Below.refl _ _) (fun _ _ => rfl)
              | 25, ho =>
                cases ho
                refine by_g (wanted_und (c := false) rfl rfl (h.val (dep ⟨21, .guard⟩ (by simp) rfl) rfl)) ?_
                exact hK _ w3 (Below.refl _ _) (fun _ _ => rfl)
              | 26, ho =>
                cases ho
                refine by_g (wanted_und (c := false) rfl rfl (h.val (dep ⟨21, .guard⟩ (by simp) rfl) rfl)) ?_
                exact hK _ w3 (Below.refl _ _) (fun _ _ => rfl)
              | 27, ho =>
                cases ho
                refine by_g (Eq.trans (wanted_at (b := false) (c := true) rfl rfl (h.val (dep ⟨12, .guard⟩ (by simp) rfl) rfl)) rfl) ?_
                exact hK _ w3 (Below.refl _ _) (fun _ _ => rfl)
              | 28, ho =>
                cases ho
                refine by_w (Eq.trans (wanted_at (b := false) (c := false) rfl rfl (h.val (dep ⟨9, .guard⟩ (by simp) rfl) rfl)) rfl) ?_
                exact st_pick _ _ _ _ _ _ rfl (tmpE (show a.tmps[106]? = some (.bool false) from (h.val (dep ⟨12, .data⟩ (by simp) rfl) rfl))) (tmpE (show a.tmps[121]? = some (undef) from (h.val (dep ⟨27, .data⟩ (by simp) rfl) rfl))) rfl (hK _ w3 (Below.refl _ _) (fun _ _ => rfl))
              | 29, ho =>
                cases ho
                refine by_w rfl ?_
                exact st_pick _ _ _ _ _ _ rfl (tmpE (show a.tmps[103]? = some (.bool false) from (h.val (dep ⟨9, .data⟩ (by simp) rfl) rfl))) rfl (tmpE (show a.tmps[122]? = some (.bool false) from (h.val (dep ⟨28, .data⟩ (by simp) rfl) rfl))) (hK _ w3 (Below.refl _ _) (fun _ _ => rfl))
              | 30, ho =>
                cases ho
                refine by_w rfl ?_
                exact st_mv 123 _ rfl (show a.tmps[123]? = some (.bool false) from (h.val (dep ⟨29, .data⟩ (by simp) rfl) rfl)) (hK _ w3 (Below.refl _ _) (fun _ _ => rfl))
              | 31, ho =>
                cases ho
                refine by_w (Eq.trans (wanted_at (b := false) (c := false) rfl rfl (h.val (dep ⟨30, .guard⟩ (by simp) rfl) rfl)) rfl) ?_
                exact st_mv 7 _ rfl k7 (hK _ w3 (Below.refl _ _) (fun _ _ => rfl))
              | 32, ho =>
                cases ho
                refine by_w (Eq.trans (wanted_at (b := false) (c := false) rfl rfl (h.val (dep ⟨30, .guard⟩ (by simp) rfl) rfl)) rfl) ?_
                exact st_bin _ _ _ _ _ _ _ _ rfl (tmpE (show a.tmps[125]? = some (.int .i64 (-1)) from (h.val (dep ⟨31, .data⟩ (by simp) rfl) rfl))) rfl (gd_int _ _ _ _ _ _ _ _) ((bin_lt _ _ _).trans rfl) (hK _ w3 (Below.refl _ _) (fun _ _ => rfl))
              | 33, ho =>
                cases ho
                refine by_w (Eq.trans (wanted_at (b := false) (c := false) rfl rfl (h.val (dep ⟨30, .guard⟩ (by simp) rfl) rfl)) rfl) ?_
                exact st_mv 126 _ rfl (show a.tmps[126]? = some (.bool true) from (h.val (dep ⟨32, .data⟩ (by simp) rfl) rfl)) (hK _ w3 (Below.refl _ _) (fun _ _ => rfl))
              | 34, ho =>
                cases ho
                refine by_w (Eq.trans (wanted_at (b := true) (c := true) rfl rfl (h.val (dep ⟨33, .guard⟩ (by simp) rfl) rfl)) rfl) ?_
                exact st_mv 3 _ rfl k3 (hK _ w3 (Below.refl _ _) (fun _ _ => rfl))
              | 35, ho =>
                cases ho
                refine by_w (Eq.trans (wanted_at (b := true) (c := true) rfl rfl (h.val (dep ⟨33, .guard⟩ (by simp) rfl) rfl)) rfl) ?_
                exact st_call 29 128 _ _ _ rfl (enters_of Try.func29 (by kernel_rfl) rfl) (show a.tmps[128]? = some (lpv (some lb)) from (h.val (dep ⟨34, .data⟩ (by simp) rfl) rfl)) (LN3.out w3 h.bel) (fun w4 hb => hK _ w4 hb (fun _ _ => rfl))
              | 36, ho =>
                cases ho
                refine by_w (Eq.trans (wanted_at (b := true) (c := true) rfl rfl (h.val (dep ⟨33, .guard⟩ (by simp) rfl) rfl)) rfl) ?_
                exact st_fld _ _ _ _ _ rfl (tmpE k1) (fld0 _ _) (hK _ w3 (Below.refl _ _) (fun _ _ => rfl))
              | 37, ho =>
                cases ho
                refine by_w (Eq.trans (wanted_at (b := true) (c := true) rfl rfl (h.val (dep ⟨33, .guard⟩ (by simp) rfl) rfl)) rfl) ?_
                have sw := CF.out w3 h.bel
                exact st_load _ _ _ _ _ rfl (tmpE (show a.tmps[130]? = some (.pointer (some ⟨w.heap.size, 0, none⟩)) from (h.val (dep ⟨36, .data⟩ (by simp) rfl) rfl))) (ld_s sw.1) (hK _ w3 (Below.refl _ _) (fun _ _ => rfl))
              | 38, ho =>
                cases ho
                refine by_w (Eq.trans (wanted_at (b := true) (c := true) rfl rfl (h.val (dep ⟨33, .guard⟩ (by simp) rfl) rfl)) rfl) ?_
                exact st_len 131 _ _ _ rfl (show a.tmps[131]? = some (.slice aa an ac) from (h.val (dep ⟨37, .data⟩ (by simp) rfl) rfl)) (hK _ w3 (Below.refl _ _) (fun _ _ => rfl))
              | 39, ho =>
                cases ho
                refine by_w (Eq.trans (wanted_at (b := true) (c := true) rfl rfl (h.val (dep ⟨33, .guard⟩ (by simp) rfl) rfl)) rfl) ?_
                exact st_bin _ _ _ _ _ _ _ _ rfl (tmpE (show a.tmps[129]? = some (.int .i64 (an : Int)) from (h.val (dep ⟨35, .data⟩ (by simp) rfl) rfl))) (tmpE (show a.tmps[132]? = some (.int .i64 (an : Int)) from (h.val (dep ⟨38, .data⟩ (by simp) rfl) rfl))) (gd_int _ _ _ _ _ _ _ _) ((bin_ne _ _ _).trans (by rw [e1]; rfl)) (hK _ w3 (Below.refl _ _) (fun _ _ => rfl))
              | 40, ho =>
                cases ho
                refine by_w (Eq.trans (wanted_at (b := false) (c := false) rfl rfl (h.val (dep ⟨30, .guard⟩ (by simp) rfl) rfl)) rfl) ?_
                exact st_pick _ _ _ _ _ _ rfl (tmpE (show a.tmps[127]? = some (.bool true) from (h.val (dep ⟨33, .data⟩ (by simp) rfl) rfl))) (tmpE (show a.tmps[133]? = some (.bool false) from (h.val (dep ⟨39, .data⟩ (by simp) rfl) rfl))) rfl (hK _ w3 (Below.refl _ _) (fun _ _ => rfl))
              | 41, ho =>
                cases ho
                refine by_w rfl ?_
                exact st_pick _ _ _ _ _ _ rfl (tmpE (show a.tmps[124]? = some (.bool false) from (h.val (dep ⟨30, .data⟩ (by simp) rfl) rfl))) rfl (tmpE (show a.tmps[134]? = some (.bool false) from (h.val (dep ⟨40, .data⟩ (by simp) rfl) rfl))) (hK _ w3 (Below.refl _ _) (fun _ _ => rfl))
              | x + 42, ho => simp at ho
            · intro listed a w3 h all
              have ea := h.act all 94 42 (by kernel_rfl) (by kernel_rfl) (of_decide_eq_true (by kernel_rfl))
              have BL := hidw h.bel
              clear h all
              subst ea
              simp only [List.take_succ_cons, List.take_zero, List.drop_succ_cons, List.drop_zero, List.range, List.range.loop, List.map_cons, List.map_nil, List.cons_append, List.nil_append, bv1]
              go_wp2_with fail
              go_meet
              case rel => exact ⟨rfl, BL.out⟩
          · rw [if_neg hp]
            have hpa : p < an := by have := FL.out; omega
            obtain ⟨b1, o1, k1, q1, z1⟩ := rb_byte RA8.out hpa
            simp only [Value.slice.injEq] at q1
            obtain ⟨rfl, -, rfl⟩ := q1
            have hfx : f p = (x : Int) := by
              have h := FS.out hpa
              exact Decidable.byContradiction (fun e => by rw [show nep f x p = true from decide_eq_true e] at h; cases h)
            have CF2 := hidw (fun V (hb : Below W8.heap.size W8 V) => show V.cell? ⟨b1, o1 + p, none⟩ = some (.int .u8 (x : Int)) from by
              obtain ⟨b', o', c', e', x'⟩ := rb_byte (RA8.out.below hb) hpa
              simp only [Value.slice.injEq, Option.some.injEq, Addr.mk.injEq] at e'
              obtain ⟨⟨rfl, rfl, -⟩, -, -⟩ := e'
              rw [hfx] at x'
              exact x')
            have LN3 : Hid (∀ V, Below W8.heap.size W8 V → Calls Try.prog 29 #[lpv (some lb)] V fun r w' => r = .returned (.int .i64 ((p : Int) + 1)) ∧ Below V.heap.size V w') := hidw (fun V hb => by
              have h := LNC.out V hb
              rw [show min (p + 1) an = p + 1 by omega] at h
              exact h.mono (fun r w' ⟨h1, h2⟩ => ⟨h1, by rw [h2]; exact Below.refl _ _⟩))
            have e0 : decide ((an : Int) ≤ (p : Int)) = false := decide_eq_false (by omega)
            have e1 : decide ((p : Int) < -1) = false := decide_eq_false (by omega)
            have e2 : decide ((0 : Int) ≤ (p : Int)) = true := decide_eq_true (by omega)
            have e3 : decide ((p : Int) < 0) = false := decide_eq_false (by omega)
            have e4 : ((x : Int) != (x : Int)) = false := by simp
            have e5 : ((p : Int) + 1 != (p : Int) + 1) = false := by simp
            have e6 : IntKind.i64.wrap ((p : Int) + 1) = (p : Int) + 1 := by rw [IntKind.wrap_i64]; omega
            clear LNC FA FL FS
            refine region_okG (R := fun i v _ => v = bv2 w.heap.size an ac lb b1 o1 p x i) (by kernel_rfl) (by kernel_rfl) (fun _ _ _ _ h _ => h) ?_ ?_
            · intro i o ho listed a w3 h dep K hK
              have k1 : a.tmps[1]? = some (.pointer (some ⟨w.heap.size, 0, none⟩)) := (h.keep 1 (no_dst (by kernel_rfl))).trans rfl
              have k3 : a.tmps[3]? = some (lpv (some lb)) := (h.keep 3 (no_dst (by kernel_rfl))).trans rfl
              have k7 : a.tmps[7]? = some (.int .i64 (p : Int)) := (h.keep 7 (no_dst (by kernel_rfl))).trans rfl
              match i, ho with
              | 0, ho =>
                cases ho
                refine by_w rfl ?_
                exact st_mv 7 _ rfl k7 (hK _ w3 (Below.refl _ _) (fun _ _ => rfl))
              | 1, ho =>
                cases ho
                refine by_w rfl ?_
                exact st_fld _ _ _ _ _ rfl (tmpE k1) (fld0 _ _) (hK _ w3 (Below.refl _ _) (fun _ _ => rfl))
              | 2, ho =>
                cases ho
                refine by_w rfl ?_
                have sw := CF.out w3 h.bel
                exact st_load _ _ _ _ _ rfl (tmpE (show a.tmps[95]? = some (.pointer (some ⟨w.heap.size, 0, none⟩)) from (h.val (dep ⟨1, .data⟩ (by simp) rfl) rfl))) (ld_s sw.1) (hK _ w3 (Below.refl _ _) (fun _ _ => rfl))
              | 3, ho =>
                cases ho
                refine by_w rfl ?_
                exact st_len 96 _ _ _ rfl (show a.tmps[96]? = some (.slice (some ⟨b1, o1, none⟩) an ac) from (h.val (dep ⟨2, .data⟩ (by simp) rfl) rfl)) (hK _ w3 (Below.refl _ _) (fun _ _ => rfl))
              | 4, ho =>
                cases ho
                refine by_w rfl ?_
                exact st_bin _ _ _ _ _ _ _ _ rfl (tmpE (show a.tmps[94]? = some (.int .i64 (p : Int)) from (h.val (dep ⟨0, .data⟩ (by simp) rfl) rfl))) (tmpE (show a.tmps[97]? = some (.int .i64 (an : Int)) from (h.val (dep ⟨3, .data⟩ (by simp) rfl) rfl))) (gd_int _ _ _ _ _ _ _ _) ((bin_ge _ _ _).trans (by rw [e0]; rfl)) (hK _ w3 (Below.refl _ _) (fun _ _ => rfl))
              | 5, ho =>
                cases ho
                refine by_w rfl ?_
                exact st_mv 98 _ rfl (show a.tmps[98]? = some (.bool false) from (h.val (dep ⟨4, .data⟩ (by simp) rfl) rfl)) (hK _ w3 (Below.refl _ _) (fun _ _ => rfl))
              | 6, ho =>
                cases ho
                refine by_w (Eq.trans (wanted_at (b := false) (c := false) rfl rfl (h.val (dep ⟨5, .guard⟩ (by simp) rfl) rfl)) rfl) ?_
                exact st_mv 7 _ rfl k7 (hK _ w3 (Below.refl _ _) (fun _ _ => rfl))
              | 7, ho =>
                cases ho
                refine by_w (Eq.trans (wanted_at (b := false) (c := false) rfl rfl (h.val (dep ⟨5, .guard⟩ (by simp) rfl) rfl)) rfl) ?_
                exact st_bin _ _ _ _ _ _ _ _ rfl (tmpE (show a.tmps[100]? = some (.int .i64 (p : Int)) from (h.val (dep ⟨6, .data⟩ (by simp) rfl) rfl))) rfl (gd_int _ _ _ _ _ _ _ _) ((bin_lt _ _ _).trans (by rw [e1]; rfl)) (hK _ w3 (Below.refl _ _) (fun _ _ => rfl))
              | 8, ho =>
                cases ho
                refine by_w rfl ?_
                exact st_pick _ _ _ _ _ _ rfl (tmpE (show a.tmps[99]? = some (.bool false) from (h.val (dep ⟨5, .data⟩ (by simp) rfl) rfl))) rfl (tmpE (show a.tmps[101]? = some (.bool false) from (h.val (dep ⟨7, .data⟩ (by simp) rfl) rfl))) (hK _ w3 (Below.refl _ _) (fun _ _ => rfl))
              | 9, ho =>
                cases ho
                refine by_w rfl ?_
                exact st_mv 102 _ rfl (show a.tmps[102]? = some (.bool false) from (h.val (dep ⟨8, .data⟩ (by simp) rfl) rfl)) (hK _ w3 (Below.refl _ _) (fun _ _ => rfl))
              | 10, ho =>
                cases ho
                refine by_w (Eq.trans (wanted_at (b := false) (c := false) rfl rfl (h.val (dep ⟨9, .guard⟩ (by simp) rfl) rfl)) rfl) ?_
                exact st_mv 7 _ rfl k7 (hK _ w3 (Below.refl _ _) (fun _ _ => rfl))
              | 11, ho =>
                cases ho
                refine by_w (Eq.trans (wanted_at (b := false) (c := false) rfl rfl (h.val (dep ⟨9, .guard⟩ (by simp) rfl) rfl)) rfl) ?_
                exact st_bin _ _ _ _ _ _ _ _ rfl (tmpE (show a.tmps[104]? = some (.int .i64 (p : Int)) from (h.val (dep ⟨10, .data⟩ (by simp) rfl) rfl))) rfl (gd_int _ _ _ _ _ _ _ _) ((bin_ge _ _ _).trans (by rw [e2]; rfl)) (hK _ w3 (Below.refl _ _) (fun _ _ => rfl))
              | 12, ho =>
                cases ho
                refine by_w (Eq.trans (wanted_at (b := false) (c := false) rfl rfl (h.val (dep ⟨9, .guard⟩ (by simp) rfl) rfl)) rfl) ?_
                exact st_mv 105 _ rfl (show a.tmps[105]? = some (.bool true) from (h.val (dep ⟨11, .data⟩ (by simp) rfl) rfl)) (hK _ w3 (Below.refl _ _) (fun _ _ => rfl))
              | 13, ho =>
                cases ho
                refine by_w (Eq.trans (wanted_at (b := true) (c := true) rfl rfl (h.val (dep ⟨12, .guard⟩ (by simp) rfl) rfl)) rfl) ?_
                exact st_fld _ _ _ _ _ rfl (tmpE k1) (fld0 _ _) (hK _ w3 (Below.refl _ _) (fun _ _ => rfl))
              | 14, ho =>
                cases ho
                refine by_w (Eq.trans (wanted_at (b := true) (c := true) rfl rfl (h.val (dep ⟨12, .guard⟩ (by simp) rfl) rfl)) rfl) ?_
                have sw := CF.out w3 h.bel
                exact st_load _ _ _ _ _ rfl (tmpE (show a.tmps[107]? = some (.pointer (some ⟨w.heap.size, 0, none⟩)) from (h.val (dep ⟨13, .data⟩ (by simp) rfl) rfl))) (ld_s sw.1) (hK _ w3 (Below.refl _ _) (fun _ _ => rfl))
              | 15, ho =>
                cases ho
                refine by_w (Eq.trans (wanted_at (b := true) (c := true) rfl rfl (h.val (dep ⟨12, .guard⟩ (by simp) rfl) rfl)) rfl) ?_
                exact st_mv 7 _ rfl k7 (hK _ w3 (Below.refl _ _) (fun _ _ => rfl))
              | 16, ho =>
                cases ho
                refine by_w (Eq.trans (wanted_at (b := true) (c := true) rfl rfl (h.val (dep ⟨12, .guard⟩ (by simp) rfl) rfl)) rfl) ?_
                exact st_idx _ _ _ _ _ _ rfl (tmpE (show a.tmps[108]? = some (.slice (some ⟨b1, o1, none⟩) an ac) from (h.val (dep ⟨14, .data⟩ (by simp) rfl) rfl))) (tmpE (show a.tmps[109]? = some (.int .i64 (p : Int)) from (h.val (dep ⟨15, .data⟩ (by simp) rfl) rfl))) (idx_b _ _ _ _ p _ (by omega)) (hK _ w3 (Below.refl _ _) (fun _ _ => rfl))
              | 17, ho =>
                cases ho
                refine by_w (Eq.trans (wanted_at (b := true) (c := true) rfl rfl (h.val (dep ⟨12, .guard⟩ (by simp) rfl) rfl)) rfl) ?_
                have sw := CF.out w3 h.bel
                exact st_load _ _ _ _ _ rfl (tmpE (show a.tmps[110]? = some (.pointer (some ⟨b1, o1 + p, none⟩)) from (h.val (dep ⟨16, .data⟩ (by simp) rfl) rfl))) (ld_b (CF2.out w3 h.bel)) (hK _ w3 (Below.refl _ _) (fun _ _ => rfl))
              | 18, ho =>
                cases ho
                refine by_w (Eq.trans (wanted_at (b := true) (c := true) rfl rfl (h.val (dep ⟨12, .guard⟩ (by simp) rfl) rfl)) rfl) ?_
                exact st_fld _ _ _ _ _ rfl (tmpE k1) (fld2 _ _) (hK _ w3 (Below.refl _ _) (fun _ _ => rfl))
              | 19, ho =>
                cases ho
                refine by_w (Eq.trans (wanted_at (b := true) (c := true) rfl rfl (h.val (dep ⟨12, .guard⟩ (by simp) rfl) rfl)) rfl) ?_
                have sw := CF.out w3 h.bel
                exact st_load _ _ _ _ _ rfl (tmpE (show a.tmps[112]? = some (.pointer (some ⟨w.heap.size, 2, none⟩)) from (h.val (dep ⟨18, .data⟩ (by simp) rfl) rfl))) (ld_b sw.2) (hK _ w3 (Below.refl _ _) (fun _ _ => rfl))
              | 20, ho =>
                cases ho
                refine by_w (Eq.trans (wanted_at (b := true) (c := true) rfl rfl (h.val (dep ⟨12, .guard⟩ (by simp) rfl) rfl)) rfl) ?_
                exact st_bin _ _ _ _ _ _ _ _ rfl (tmpE (show a.tmps[111]? = some (.int .u8 (x : Int)) from (h.val (dep ⟨17, .data⟩ (by simp) rfl) rfl))) (tmpE (show a.tmps[113]? = some (.int .u8 (x : Int)) from (h.val (dep ⟨19, .data⟩ (by simp) rfl) rfl))) (gd_int _ _ _ _ _ _ _ _) ((bin_ne8 _ _ _).trans (by rw [e4]; rfl)) (hK _ w3 (Below.refl _ _) (fun _ _ => rfl))
              | 21, ho =>
                cases ho
                refine by_w (Eq.trans (wanted_at (b := true) (c := true) rfl rfl (h.val (dep ⟨12, .guard⟩ (by simp) rfl) rfl)) rfl) ?_
                exact st_mv 114 _ rfl (show a.tmps[114]? = some (.bool false) from (h.val (dep ⟨20, .data⟩ (by simp) rfl) rfl)) (hK _ w3 (Below.refl _ _) (fun _ _ => rfl))
              | 22, ho =>
                cases ho
                refine by_w (Eq.trans (wanted_at (b := false) (c := false) rfl rfl (h.val (dep ⟨21, .guard⟩ (by simp) rfl) rfl)) rfl) ?_
                exact st_mv 3 _ rfl k3 (hK _ w3 (Below.refl _ _) (fun _ _ => rfl))
              | 23, ho =>
                cases ho
                refine by_w (Eq.trans (wanted_at (b := false) (c := false) rfl rfl (h.val (dep ⟨21, .guard⟩ (by simp) rfl) rfl)) rfl) ?_
                exact st_call 29 116 _ _ _ rfl (enters_of Try.func29 (by kernel_rfl) rfl) (show a.tmps[116]? = some (lpv (some lb)) from (h.val (dep ⟨22, .data⟩ (by simp) rfl) rfl)) (LN3.out w3 h.bel) (fun w4 hb => hK _ w4 hb (fun _ _ => rfl))
              | 24, ho =>
                cases ho
                refine by_w (Eq.trans (wanted_at (b := false) (c := false) rfl rfl (h.val (dep ⟨21, .guard⟩ (by simp) rfl) rfl)) rfl) ?_
                exact st_mv 7 _ rfl k7 (hK _ w3 (Below.refl _ _) (fun _ _ => rfl))
              | 25, ho =>
                cases ho
                refine by_w (Eq.trans (wanted_at (b := false) (c := false) rfl rfl (h.val (dep ⟨21, .guard⟩ (by simp) rfl) rfl)) rfl) ?_
                exact st_bin _ _ _ _ _ _ _ _ rfl (tmpE (show a.tmps[118]? = some (.int .i64 (p : Int)) from (h.val (dep ⟨24, .data⟩ (by simp) rfl) rfl))) rfl (gd_int _ _ _ _ _ _ _ _) ((bin_add _ _ _).trans (by rw [e6]; rfl)) (hK _ w3 (Below.refl _ _) (fun _ _ => rfl))
              | 26, ho =>
                cases ho
                refine by_w (Eq.trans (wanted_at (b := false) (c := false) rfl rfl (h.val (dep ⟨21, .guard⟩ (by simp) rfl) rfl)) rfl) ?_
                exact st_bin _ _ _ _ _ _ _ _ rfl (tmpE (show a.tmps[117]? = some (.int .i64 ((p : Int) + 1)) from (h.val (dep ⟨23, .data⟩ (by simp) rfl) rfl))) (tmpE (show a.tmps[119]? = some (.int .i64 ((p : Int) + 1)) from (h.val (dep ⟨25, .data⟩ (by simp) rfl) rfl))) (gd_int _ _ _ _ _ _ _ _) ((bin_ne _ _ _).trans (by rw [e5]; rfl)) (hK _ w3 (Below.refl _ _) (fun _ _ => rfl))
              | 27, ho =>
                cases ho
                refine by_w (Eq.trans (wanted_at (b := true) (c := true) rfl rfl (h.val (dep ⟨12, .guard⟩ (by simp) rfl) rfl)) rfl) ?_
                exact st_pick _ _ _ _ _ _ rfl (tmpE (show a.tmps[115]? = some (.bool false) from (h.val (dep ⟨21, .data⟩ (by simp) rfl) rfl))) rfl (tmpE (show a.tmps[120]? = some (.bool false) from (h.val (dep ⟨26, .data⟩ (by simp) rfl) rfl))) (hK _ w3 (Below.refl _ _) (fun _ _ => rfl))
              | 28, ho =>
                cases ho
                refine by_w (Eq.trans (wanted_at (b := false) (c := false) rfl rfl (h.val (dep ⟨9, .guard⟩ (by simp) rfl) rfl)) rfl) ?_
                exact st_pick _ _ _ _ _ _ rfl (tmpE (show a.tmps[106]? = some (.bool true) from (h.val (dep ⟨12, .data⟩ (by simp) rfl) rfl))) (tmpE (show a.tmps[121]? = some (.bool false) from (h.val (dep ⟨27, .data⟩ (by simp) rfl) rfl))) rfl (hK _ w3 (Below.refl _ _) (fun _ _ => rfl))
              | 29, ho =>
                cases ho
                refine by_w rfl ?_
                exact st_pick _ _ _ _ _ _ rfl (tmpE (show a.tmps[103]? = some (.bool false) from (h.val (dep ⟨9, .data⟩ (by simp) rfl) rfl))) rfl (tmpE (show a.tmps[122]? = some (.bool false) from (h.val (dep ⟨28, .data⟩ (by simp) rfl) rfl))) (hK _ w3 (Below.refl _ _) (fun _ _ => rfl))
              | 30, ho =>
                cases ho
                refine by_w rfl ?_
                exact st_mv 123 _ rfl (show a.tmps[123]? = some (.bool false) from (h.val (dep ⟨29, .data⟩ (by simp) rfl) rfl)) (hK _ w3 (Below.refl _ _) (fun _ _ => rfl))
              | 31, ho =>
                cases ho
                refine by_w (Eq.trans (wanted_at (b := false) (c := false) rfl rfl (h.val (dep ⟨30, .guard⟩ (by simp) rfl) rfl)) rfl) ?_
                exact st_mv 7 _ rfl k7 (hK _ w3 (Below.refl _ _) (fun _ _ => rfl))
              | 32, ho =>
                cases ho
                refine by_w (Eq.trans (wanted_at (b := false) (c := false) rfl rfl (h.val (dep ⟨30, .guard⟩ (by simp) rfl) rfl)) rfl) ?_
                exact st_bin _ _ _ _ _ _ _ _ rfl (tmpE (show a.tmps[125]? = some (.int .i64 (p : Int)) from (h.val (dep ⟨31, .data⟩ (by simp) rfl) rfl))) rfl (gd_int _ _ _ _ _ _ _ _) ((bin_lt _ _ _).trans (by rw [e3]; rfl)) (hK _ w3 (Below.refl _ _) (fun _ _ => rfl))
              | 33, ho =>
                cases ho
                refine by_w (Eq.trans (wanted_at (b := false) (c := false) rfl rfl (h.val (dep ⟨30, .guard⟩ (by simp) rfl) rfl)) rfl) ?_
                exact st_mv 126 _ rfl (show a.tmps[126]? = some (.bool false) from (h.val (dep ⟨32, .data⟩ (by simp) rfl) rfl)) (hK _ w3 (Below.refl _ _) (fun _ _ => rfl))
              | 34, ho =>
                cases ho
                refine by_g (Eq.trans (wanted_at (b := false) (c := true) rfl rfl (h.val (dep ⟨33, .guard⟩ (by simp) rfl) rfl)) rfl) ?_
                exact hK _ w3 (Below.refl _ _) (fun _ _ => rfl)
              | 35, ho =>
                cases ho
                refine by_g (Eq.trans (wanted_at (b := false) (c := true) rfl rfl (h.val (dep ⟨33, .guard⟩ (by simp) rfl) rfl)) rfl) ?_
                exact hK _ w3 (Below.refl _ _) (fun _ _ => rfl)
              | 36, ho =>
                cases ho
                refine by_g (Eq.trans (wanted_at (b := false) (c := true) rfl rfl (h.val (dep ⟨33, .guard⟩ (by simp) rfl) rfl)) rfl) ?_
                exact hK _ w3 (Below.refl _ _) (fun _ _ => rfl)
              | 37, ho =>
                cases ho
                refine by_g (Eq.trans (wanted_at (b := false) (c := true) rfl rfl (h.val (dep ⟨33, .guard⟩ (by simp) rfl) rfl)) rfl) ?_
                exact hK _ w3 (Below.refl _ _) (fun _ _ => rfl)
              | 38, ho =>
                cases ho
                refine by_g (Eq.trans (wanted_at (b := false) (c := true) rfl rfl (h.val (dep ⟨33, .guard⟩ (by simp) rfl) rfl)) rfl) ?_
                exact hK _ w3 (Below.refl _ _) (fun _ _ => rfl)
              | 39, ho =>
                cases ho
                refine by_g (Eq.trans (wanted_at (b := false) (c := true) rfl rfl (h.val (dep ⟨33, .guard⟩ (by simp) rfl) rfl)) rfl) ?_
                exact hK _ w3 (Below.refl _ _) (fun _ _ => rfl)
              | 40, ho =>
                cases ho
                refine by_w (Eq.trans (wanted_at (b := false) (c := false) rfl rfl (h.val (dep ⟨30, .guard⟩ (by simp) rfl) rfl)) rfl) ?_
                exact st_pick _ _ _ _ _ _ rfl (tmpE (show a.tmps[127]? = some (.bool false) from (h.val (dep ⟨33, .data⟩ (by simp) rfl) rfl))) (tmpE (show a.tmps[133]? = some (undef) from (h.val (dep ⟨39, .data⟩ (by simp) rfl) rfl))) rfl (hK _ w3 (Below.refl _ _) (fun _ _ => rfl))
              | 41, ho =>
                cases ho
                refine by_w rfl ?_
                exact st_pick _ _ _ _ _ _ rfl (tmpE (show a.tmps[124]? = some (.bool false) from (h.val (dep ⟨30, .data⟩ (by simp) rfl) rfl))) rfl (tmpE (show a.tmps[134]? = some (.bool false) from (h.val (dep ⟨40, .data⟩ (by simp) rfl) rfl))) (hK _ w3 (Below.refl _ _) (fun _ _ => rfl))
              | x + 42, ho => simp at ho
            · intro listed a w3 h all
              have ea := h.act all 94 42 (by kernel_rfl) (by kernel_rfl) (of_decide_eq_true (by kernel_rfl))
              have BL := hidw h.bel
              clear h all
              subst ea
              simp only [List.take_succ_cons, List.take_zero, List.drop_succ_cons, List.drop_zero, List.range, List.range.loop, List.map_cons, List.map_nil, List.cons_append, List.nil_append, bv2]
              go_wp2_with fail
              go_meet
              case rel => exact ⟨rfl, BL.out⟩
        case rest =>
          obtain ⟨rfl, hW⟩ := hcut
          have G9 := hidw (G8.out.below hW)
          clear hW G8 X8 c0 c2 RA8 FA FL FS CF LNC
          go_wp2_with fail
          refine (gx_reset G9.out K8.out).mono ?_
          rintro r Wa ⟨rfl, ta, hGa, hKa, ba'⟩
          have Ga := hidw hGa
          have Ka := hidw hKa
          have Ca := hidw ((ba' 5 (by decide)).trans C8.out)
          clear hGa hKa ba' G9 C8 K8
          have Xa := hidw (Ga.out.blk Ca.out)
          have c3 := Xa.out.cell 3 _ rfl
          have c4 := Xa.out.cell 4 _ rfl
          have c5 := Xa.out.cell 5 _ rfl
          go_wp2_with fail
          refine (gx_pow Ga.out Ka.out tot0 b e m HB.out HE.out HM.out).mono ?_
          rintro r Wb ⟨rfl, tb, hGb, hKb, bb'⟩
          have Gb := hidw hGb
          have Kb := hidw hKb
          have Cb := hidw ((bb' 5 (by decide)).trans Ca.out)
          clear hGb hKb bb' Ga Ca Ka Xa c3 c4 c5
          have Xb := hidw (Gb.out.blk Cb.out)
          have c1 := Xb.out.cell 1 _ rfl
          have c4 := Xb.out.cell 4 _ rfl
          have c5 := Xb.out.cell 5 _ rfl
          generalize pwA b e m = pa at *
          go_wp2_with fail
          go_loopw [10, 11] (fun s i wr => ∃ j : Nat, j ≤ 64 ∧ s = .int .i64 ((lo1 e j : Nat) : Int) ∧ i = .int .i64 (j : Int) ∧ wr = Wb) (fun _ i _ => 64 - (intOf i).toNat)
          case atStart => exact ⟨0, by omega, rfl, rfl, rfl⟩
          case round =>
            obtain ⟨j, hj, rfl, rfl, rfl⟩ := hrel
            have LJ := lo1_le e j
            by_cases hlt : j < 64
            · have S := hidw (show lo1 e (j + 1) = lo1 e j + e / 2 ^ j % 2 from rfl)
              have BI := and_bit e j HE.out
              obtain ⟨v, hv⟩ : ∃ v, e / 2 ^ j % 2 = v := ⟨_, rfl⟩
              rw [hv] at S BI
              have v2 : v < 2 := by omega
              clear hv
              generalize lo1 e j = s at *
              go_wp2_with fail
              exact ⟨⟨j + 1, by omega, by rw [S.out]; rfl, by go_num, trivial⟩, by simp [intOf]; omega⟩
            · obtain rfl : j = 64 := by omega
              have PE := hidw (show pwE m = if m = 0 then 2 else 0 from rfl)
              have PL := hidw (show pwL e m = if m = 0 then [] else pbits e 64 from rfl)
              have L1 := hidw (lo1_pb e)
              have LN := hidw (gx_len Gb.out Kb.out)
              have LZ := hidw (fun h => sized_walk Gb.out Kb.out h)
              have lo64 : lo1 e 64 ≤ 64 := lo1_le e 64
              generalize pwE m = pe at *
              generalize lo1 e 64 = lo at *
              go_upto_region 26 with fail
              go_cut [11, 149, 181] from 161 to 180 (fun _ _ v W => v = .bool false ∧ Below wr.heap.size wr W)
              case first =>
                by_cases hm0 : m = 0
                · have p1 : (pe == 0) = false := by rw [PE.out, if_pos hm0]; rfl
                  have p2 : ((m : Int) != 0) = false := by rw [hm0]; rfl
                  have p3 : ((m : Int) == 0) = true := by rw [hm0]; rfl
                  clear hm0
                  go_wp2_with fail
                  go_meet
                  case rel => exact ⟨rfl, Below.refl _ _⟩
                · have p1 : (pe == 0) = true := by rw [PE.out, if_neg hm0]; rfl
                  have p2 : ((m : Int) != 0) = true := by simp; omega
                  have p3 : ((m : Int) == 0) = false := by simp; omega
                  have pl : pwL e m = pbits e 64 := by rw [PL.out, if_neg hm0]
                  have t64 : tot (nts [] (pbits e 64)) = 64 := by rw [tot_nil _ (by rw [pbits_len]; omega), pbits_len]; rfl
                  have o64 : ones (nts [] (pbits e 64)) = (lo : Int) := by rw [ones_nil _ (by rw [pbits_len]; omega), L1.out]
                  rw [pl, t64] at LN
                  rw [pl, o64] at LZ
                  have LZ2 := hidw (LZ.out (by rw [t64]; omega))
                  clear hm0 LZ t64 o64 pl
                  go_wp2_with (first | (go_at_call 29; refine LN.out.mono ?_; rintro r w' ⟨rfl, rfl⟩) | (go_at_call 31; refine LZ2.out.mono ?_; rintro r w' ⟨rfl, hz⟩; have HZ := hidw hz; clear hz))
                  go_meet
                  case rel => exact ⟨rfl, HZ.out⟩
              case rest =>
                obtain ⟨rfl, hW⟩ := hcut
                have Gc := hidw (Gb.out.below hW)
                clear hW Gb Xb c1 c4 c5 PE PL L1 LN LZ lo64
                go_wp2_with fail
                refine (gx_reset Gc.out Kb.out).mono ?_
                rintro r Wd ⟨rfl, td, hGd, hKd, bd'⟩
                have Gd := hidw hGd
                have Kd := hidw hKd
                have Cd := hidw ((bd' 5 (by decide)).trans Cb.out)
                clear hGd hKd bd' Gc Cb Kb
                have Xd := hidw (Gd.out.blk Cd.out)
                have c1 := Xd.out.cell 1 _ rfl
                go_wp2_with fail
                refine (gx_so Gd.out Kd.out tot0 (rd_arg Gd.out rfl RB.out 0) hb200 1 (by decide)).mono ?_
                rintro r We ⟨u, rfl, te, hGe, hKe, hUe, be'⟩
                have Ge := hidw hGe
                have Ke := hidw hKe
                have Ce := hidw ((be' 5 (by decide) (by decide)).trans Cd.out)
                have Ue := hidw (show By.Own We 0 u bn (srt g bn).1 from by have := hGe.all 1; rw [hUe] at this; exact this)
                clear hGe hKe hUe be' Gd Cd Kd Xd c1
                have Xe := hidw (Ge.out.blk Ce.out)
                have RBe := hidw (RB.out.below Ge.out.bel)
                have LS : (srt g bn).2.length ≤ 40000 := Nat.le_trans (srt_len g bn) (Nat.mul_le_mul hb200 hb200)
                have TT : tot (nts [] (srt g bn).2) = ((srt g bn).2.length : Int) := tot_nil _ (by omega)
                have OO : ones (nts [] (srt g bn).2) = (invs g bn : Int) := by rw [ones_nil _ (by omega), srt_nt]
                have SC := hidw (fun V (hb : Below We.heap.size We V) => sorted_walk u (.slice ba bn bc) bn (srt g bn).1 g V (Ue.out.reads.below hb) (RBe.out.below hb) hb200 (srt_rise g bn) (fun p => srt_cn p g bn))
                have ZC := hidw (fun V (hb : Below We.heap.size We V) => sized_walk (Ge.out.below hb) Ke.out (by rw [TT]; omega))
                have PC := hidw (fun V (hb : Below We.heap.size We V) => (pairs_walk (.slice ba bn bc) bn g V (RBe.out.below hb) hb200).mono (fun r w' h => show r = .returned (.int .i64 (invs g bn)) ∧ Below V.heap.size V w' from ⟨h.1, by obtain ⟨d, hd⟩ := h.2; rw [hd]; exact below_drewN _ _⟩))
                rw [OO] at ZC
                have CF := hidw (fun V (hb : Below We.heap.size We V) => show V.cell? ⟨w.heap.size, 1, none⟩ = some (.slice ba bn bc) from (Xe.out.below hb).cell 1 _ rfl)
                have e1 : ((invs g bn : Int) == (invs g bn : Int)) = true := by simp
                clear TT OO LS Xe
                generalize invs g bn = iv at *
                go_upto_region 30 with fail
                refine region_okG (R := fun i v _ => v = bv3 u ba w.heap.size bn bc lb iv i) (by kernel_rfl) (by kernel_rfl) (fun _ _ _ _ h _ => h) ?_ ?_
                · intro i o ho listed a w3 h dep K hK
                  have k1 : a.tmps[1]? = some (.pointer (some ⟨w.heap.size, 0, none⟩)) := (h.keep 1 (no_dst (by kernel_rfl))).trans rfl
                  have k3 : a.tmps[3]? = some (lpv (some lb)) := (h.keep 3 (no_dst (by kernel_rfl))).trans rfl
                  have k12 : a.tmps[12]? = some (u) := (h.keep 12 (no_dst (by kernel_rfl))).trans rfl
                  match i, ho with
                  | 0, ho =>
                    cases ho
                    refine by_w rfl ?_
                    exact st_mv 12 _ rfl k12 (hK _ w3 (Below.refl _ _) (fun _ _ => rfl))
                  | 1, ho =>
                    cases ho
                    refine by_w rfl ?_
                    exact st_fld _ _ _ _ _ rfl (tmpE k1) (fld1 _ _) (hK _ w3 (Below.refl _ _) (fun _ _ => rfl))
                  | 2, ho =>
                    cases ho
                    refine by_w rfl ?_
                    have sw := CF.out w3 h.bel
                    exact st_load _ _ _ _ _ rfl (tmpE (show a.tmps[189]? = some (.pointer (some ⟨w.heap.size, 1, none⟩)) from (h.val (dep ⟨1, .data⟩ (by simp) rfl) rfl))) (ld_s sw) (hK _ w3 (Below.refl _ _) (fun _ _ => rfl))
                  | 3, ho =>
                    cases ho
                    refine by_w rfl ?_
                    exact st_call2 32 188 190 _ _ _ _ rfl (enters_of Try.func32 (by kernel_rfl) rfl) (show a.tmps[188]? = some (u) from (h.val (dep ⟨0, .data⟩ (by simp) rfl) rfl)) (show a.tmps[190]? = some (.slice ba bn bc) from (h.val (dep ⟨2, .data⟩ (by simp) rfl) rfl)) (SC.out w3 h.bel) (fun w4 hb => hK _ w4 hb (fun _ _ => rfl))
                  | 4, ho =>
                    cases ho
                    refine by_w rfl ?_
                    exact st_mv 191 _ rfl (show a.tmps[191]? = some (.bool true) from (h.val (dep ⟨3, .data⟩ (by simp) rfl) rfl)) (hK _ w3 (Below.refl _ _) (fun _ _ => rfl))
                  | 5, ho =>
                    cases ho
                    refine by_w (Eq.trans (wanted_at (b := true) (c := true) rfl rfl (h.val (dep ⟨4, .guard⟩ (by simp) rfl) rfl)) rfl) ?_
                    exact st_mv 3 _ rfl k3 (hK _ w3 (Below.refl _ _) (fun _ _ => rfl))
                  | 6, ho =>
                    cases ho
                    refine by_w (Eq.trans (wanted_at (b := true) (c := true) rfl rfl (h.val (dep ⟨4, .guard⟩ (by simp) rfl) rfl)) rfl) ?_
                    exact st_call 31 193 _ _ _ rfl (enters_of Try.func31 (by kernel_rfl) rfl) (show a.tmps[193]? = some (lpv (some lb)) from (h.val (dep ⟨5, .data⟩ (by simp) rfl) rfl)) (ZC.out w3 h.bel) (fun w4 hb => hK _ w4 hb (fun _ _ => rfl))
                  | 7, ho =>
                    cases ho
                    refine by_w (Eq.trans (wanted_at (b := true) (c := true) rfl rfl (h.val (dep ⟨4, .guard⟩ (by simp) rfl) rfl)) rfl) ?_
                    exact st_fld _ _ _ _ _ rfl (tmpE k1) (fld1 _ _) (hK _ w3 (Below.refl _ _) (fun _ _ => rfl))
                  | 8, ho =>
                    cases ho
                    refine by_w (Eq.trans (wanted_at (b := true) (c := true) rfl rfl (h.val (dep ⟨4, .guard⟩ (by simp) rfl) rfl)) rfl) ?_
                    have sw := CF.out w3 h.bel
                    exact st_load _ _ _ _ _ rfl (tmpE (show a.tmps[195]? = some (.pointer (some ⟨w.heap.size, 1, none⟩)) from (h.val (dep ⟨7, .data⟩ (by simp) rfl) rfl))) (ld_s sw) (hK _ w3 (Below.refl _ _) (fun _ _ => rfl))
                  | 9, ho =>
                    cases ho
                    refine by_w (Eq.trans (wanted_at (b := true) (c := true) rfl rfl (h.val (dep ⟨4, .guard⟩ (by simp) rfl) rfl)) rfl) ?_
                    exact st_call 33 196 _ _ _ rfl (enters_of Try.func33 (by kernel_rfl) rfl) (show a.tmps[196]? = some (.slice ba bn bc) from (h.val (dep ⟨8, .data⟩ (by simp) rfl) rfl)) (PC.out w3 h.bel) (fun w4 hb => hK _ w4 hb (fun _ _ => rfl))
                  | 10, ho =>
                    cases ho
                    refine by_w (Eq.trans (wanted_at (b := true) (c := true) rfl rfl (h.val (dep ⟨4, .guard⟩ (by simp) rfl) rfl)) rfl) ?_
                    exact st_bin _ _ _ _ _ _ _ _ rfl (tmpE (show a.tmps[194]? = some (.int .i64 (iv : Int)) from (h.val (dep ⟨6, .data⟩ (by simp) rfl) rfl))) (tmpE (show a.tmps[197]? = some (.int .i64 (iv : Int)) from (h.val (dep ⟨9, .data⟩ (by simp) rfl) rfl))) (gd_int _ _ _ _ _ _ _ _) ((bin_eq _ _ _).trans (by rw [e1]; rfl)) (hK _ w3 (Below.refl _ _) (fun _ _ => rfl))
                  | 11, ho =>
                    cases ho
                    refine by_w rfl ?_
                    exact st_pick _ _ _ _ _ _ rfl (tmpE (show a.tmps[192]? = some (.bool true) from (h.val (dep ⟨4, .data⟩ (by simp) rfl) rfl))) (tmpE (show a.tmps[198]? = some (.bool true) from (h.val (dep ⟨10, .data⟩ (by simp) rfl) rfl))) rfl (hK _ w3 (Below.refl _ _) (fun _ _ => rfl))
                  | 12, ho =>
                    cases ho
                    refine by_w rfl ?_
                    exact st_as 199 _ rfl (show a.tmps[199]? = some (.bool true) from (h.val (dep ⟨11, .data⟩ (by simp) rfl) rfl)) (hK _ w3 (Below.refl _ _) (fun _ _ => rfl))
                  | x + 13, ho => simp at ho
                · intro listed a w3 h all
                  have ea := act2 h all 188 12 2 (by kernel_rfl) (by decide) (by kernel_rfl) (by kernel_rfl) (of_decide_eq_true (by kernel_rfl))
                  have BL := hidw h.bel
                  clear h all
                  subst ea
                  simp only [List.take_succ_cons, List.take_zero, List.drop_succ_cons, List.drop_zero, List.set_cons_succ, List.set_cons_zero, List.range, List.range.loop, List.map_cons, List.map_nil, List.cons_append, List.nil_append, bv3]
                  go_wp2_with fail
                  go_ret
                  exact ⟨rfl, Ge.out.bel.trans (BL.out.mono Ge.out.hB)⟩
end Go.Proofs.Ytpcnkiapbkmjbaa.Nv
