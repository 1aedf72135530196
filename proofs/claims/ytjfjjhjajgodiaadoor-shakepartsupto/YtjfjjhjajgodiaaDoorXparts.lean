/- probe -/
import Derived.Test.YtjfjjhjajgodiaaDoorXawake
import Derived.Test.YtjfjjhjajgodiaaDoorXcnt
import Derived.Test.YtjfjjhjajgodiaaDoorXany
import Derived.Test.YtjfjjhjajgodiaaDoorScut
import Derived.Deep.DeepCutAuto
namespace Go.Proofs.YtjfjjhjajgodiaaDoor.Kc
open Go.ChangeShapes Go.WideShapes Go.ChangeAt Go.RowKit
open Go.Proofs.YtjfjjhjajgodiaaDoor.By Go.Proofs.YtjfjjhjajgodiaaDoor.Wd
theorem lF_inj {n m : Int} (hn : 0 ≤ n) (hm : 0 ≤ m) (h1 : n ≤ 9223372036854775807) (h2 : m ≤ 9223372036854775807) (h : ∀ i, i < lk n → i < lk m → lF n i = lF m i) : n = m := by
  have e : n.toNat = m.toNat := lf_inj _ _ (by omega) (by omega) (fun i h3 h4 => by
    have := h i (by unfold lk; rw [if_neg (by omega)]; exact h3) (by unfold lk; rw [if_neg (by omega)]; exact h4)
    unfold lF at this
    rwa [if_neg (by omega), if_neg (by omega)] at this)
  omega
theorem rF_inj {n m : Int} (hn : 0 ≤ n) (hm : 0 ≤ m) (h1 : n ≤ 9223372036854775807) (h2 : m ≤ 9223372036854775807) (D : Nat) (hD : lk n = lk m + D) (h : ∀ i, i < lk m → rF n (D + i) = rF m i) : n = m := by
  unfold lk at hD
  rw [if_neg (by omega), if_neg (by omega)] at hD
  have e : n.toNat = m.toNat := rt_inj _ _ (by omega) (by omega) (by omega) (fun i h3 => by
    have := h i (by unfold lk; rw [if_neg (by omega)]; exact h3)
    unfold rF at this
    rw [if_neg (by omega), if_neg (by omega)] at this
    rw [show nb n.toNat - nb m.toNat = D from by omega]
    exact this)
  omega
theorem rb_sub {w : World} {a : Option Addr} {n cap D : Nat} {f : Nat → Int} (h : By.RB w (.slice a n cap) n f) (hD : D ≤ n) : By.RB w (sub a cap D n) (n - D) (fun i => f (D + i)) := by
  have h2 := sub_left a a n cap 0 D (Left.start a n cap w f h) (rb_cap h)
  have h3 := h2.reads h (by omega)
  rw [Nat.zero_add] at h3
  exact h3
theorem alk_symm (a b : Nat) (f g : Nat → Int) : Alk a b f g ↔ Alk b a g f := ⟨fun h => ⟨h.1.symm, fun i hi => (h.2 i (by rw [h.1]; exact hi)).symm⟩, fun h => ⟨h.1.symm, fun i hi => (h.2 i (by rw [h.1]; exact hi)).symm⟩⟩
theorem sg_alk (a b : Nat) (f g : Nat → Int) (ha : a < 2 ^ 60) (hb : b < 2 ^ 60) : (sn b ≤ sn a ∧ ∀ i, i < sn b → sg a f i = sg b g i) ↔ Alk a b f g := by
  refine ⟨fun h => sg_inj a b f g ha hb (fun i _ h2 => h.2 i h2), fun h => ?_⟩
  obtain ⟨rfl, h⟩ := h
  exact ⟨Nat.le_refl _, fun i hi => sg_congr a f g h i hi⟩
theorem pad_alk (a b c d W : Nat) (f g h k : Nat → Int) (ha : a < 2 ^ 60) (hb : b < 2 ^ 60) (hc : c < 2 ^ 60) (hd : d < 2 ^ 60) : Alk (pN (tn a c) W) (pN (tn b d) W) (pg (tn a c) (tg a f c h) W) (pg (tn b d) (tg b g d k) W) ↔ Alk a b f g ∧ Alk c d h k := by
  refine ⟨fun e => pad_inj a b c d W f g h k ha hb hc hd e.1 e.2, fun e => ?_⟩
  obtain ⟨⟨rfl, h1⟩, ⟨rfl, h2⟩⟩ := e
  exact ⟨rfl, fun i _ => pg_congr _ W _ _ (fun i hi => tg_congr a c f g h k h1 h2 i hi) i⟩
theorem lc_ok (n : Int) : (lc n == 0) = decide (0 ≤ n) := by
  unfold lc
  by_cases h : n < 0
  · rw [if_pos h, decide_eq_false (by omega)]; rfl
  · rw [if_neg h, decide_eq_true (by omega)]; rfl
set_option maxRecDepth 4000 in
set_option maxHeartbeats 4000000 in
theorem parts1 (n m : Int) (aa ba ca da : Option Addr) (a ac b bc c cc d dc : Nat) (f g h k : Nat → Int) (w0 : Int) (w : World) (ha : By.RB w (.slice aa a ac) a f) (hb : By.RB w (.slice ba b bc) b g) (hc : By.RB w (.slice ca c cc) c h) (hd : By.RB w (.slice da d dc) d k) (hk : KT w) (hs : a + b + c + d ≤ 1048576) (hn : n ≤ 9223372036854775807) (hm : m ≤ 9223372036854775807) :
    Calls Tryd.prog 6 #[.int .i64 n, .int .i64 m, .slice aa a ac, .slice ba b bc, .slice ca c cc, .slice da d dc, .int .i64 w0] w fun e w' => e = .returned (.bool true) ∧ Below w.heap.size w w' := by
  have HA := hid ha
  have HB := hid hb
  have HC := hid hc
  have HD := hid hd
  have HK := hid hk
  have HN := hid hn
  have HM := hid hm
  clear ha hb hc hd hk hn hm
  go_enter Tryd.func6, Tryd.ntmps6
  go_wp2_with fail
  refine (awake1 w HK.out).mono ?_
  rintro e w1 ⟨rfl, hb⟩
  have B1 := hid hb
  have L1 := hid (LS.nil (w := w1) (B := w.heap.size) hb.size)
  clear hb
  go_wp2_with fail
  refine (leftAny n w1 HN.out).mono ?_
  rintro e w2 ⟨v2, rfl, ho, hb⟩
  obtain ⟨a2, c2, rfl⟩ := own_slice ho
  have L2 := hid (L1.out.snoc hb ho)
  have B2 := hid (below_next B1.out hb)
  clear ho hb L1 B1
  go_wp2_with fail
  refine (leftAny m w2 HM.out).mono ?_
  rintro e w3 ⟨v3, rfl, ho, hb⟩
  obtain ⟨a3, c3, rfl⟩ := own_slice ho
  have L3 := hid (L2.out.snoc hb ho)
  have B3 := hid (below_next B2.out hb)
  clear ho hb L2 B2
  go_wp2_with fail
  refine (rightAny n w3 HN.out).mono ?_
  rintro e w4 ⟨v4, rfl, ho, hb⟩
  obtain ⟨a4, c4, rfl⟩ := own_slice ho
  have hc4 : lk n ≤ c4 := rb_cap ho.reads
  have L4 := hid (L3.out.snoc hb ho)
  have B4 := hid (below_next B3.out hb)
  clear ho hb L3 B3
  go_wp2_with fail
  refine (rightAny m w4 HM.out).mono ?_
  rintro e w5 ⟨v5, rfl, ho, hb⟩
  obtain ⟨a5, c5, rfl⟩ := own_slice ho
  have hc5 : lk m ≤ c5 := rb_cap ho.reads
  have L5 := hid (L4.out.snoc hb ho)
  have B5 := hid (below_next B4.out hb)
  clear ho hb L4 B4
  obtain ⟨cn, ecn⟩ : ∃ x, lc n = x := ⟨_, rfl⟩
  obtain ⟨cm, ecm⟩ : ∃ x, lc m = x := ⟨_, rfl⟩
  have q1 : (cn == 0) = decide (0 ≤ n) := by rw [← ecn]; exact lc_ok n
  have q2 : (cm == 0) = decide (0 ≤ m) := by rw [← ecm]; exact lc_ok m
  rw [ecn, ecm]
  obtain ⟨P, hP⟩ : ∃ x, lk n = x := ⟨_, rfl⟩
  obtain ⟨Q, hQ⟩ : ∃ x, lk m = x := ⟨_, rfl⟩
  have hP10 : P ≤ 10 := by rw [← hP]; exact lk_le n
  have hQ10 : Q ≤ 10 := by rw [← hQ]; exact lk_le m
  have L5 := hid (show LS w5 w.heap.size [⟨.slice a2 P c2, P, lF n⟩, ⟨.slice a3 Q c3, Q, lF m⟩, ⟨.slice a4 P c4, P, rF n⟩, ⟨.slice a5 Q c5, Q, rF m⟩] from by have h := L5.out; rw [hP, hQ] at h; exact h)
  rw [hP] at hc4
  rw [hQ] at hc5
  rw [hP, hQ]
  have HPP := hid hP
  have HQQ := hid hQ
  clear ecn ecm hP hQ
  obtain ⟨T, hT⟩ : ∃ t : Bool, (decide (0 ≤ n) && decide (0 ≤ m) && (n != m)) = t := ⟨_, rfl⟩
  have HT := hid hT
  clear hT
  go_upto_region 9 with fail
  go_cut [83] (fun t W => t = .bool T ∧ W = w5)
  case first =>
    by_cases hn0 : 0 ≤ n
    · by_cases hm0 : 0 ≤ m
      · have e : (n != m) = T := by rw [← HT.out, decide_eq_true hn0, decide_eq_true hm0]; rfl
        go_wp2_with fail
        go_meet
        case rel => exact ⟨rfl, rfl⟩
      · have e : T = false := by rw [← HT.out, decide_eq_false hm0, Bool.and_false]; rfl
        subst e
        go_wp2_with fail
        go_meet
        case rel => exact ⟨rfl, rfl⟩
    · have e : T = false := by rw [← HT.out, decide_eq_false hn0]; rfl
      subst e
      go_wp2_with fail
      go_meet
      case rel => exact ⟨rfl, rfl⟩
  case rest =>
  obtain ⟨rfl, rfl⟩ := hcut
  go_upto_if 83 with fail
  go_cut [] (fun W => Below w.heap.size w W)
  case first =>
    by_cases hn0 : 0 ≤ n
    · by_cases hm0 : 0 ≤ m
      · by_cases hnm : n = m
        · have e : T = false := by rw [← HT.out, show (n != m) = false from by rw [bne_eq_false_iff_eq]; exact hnm, Bool.and_false]
          subst e
          go_wp2_with fail
          go_meet
          case rel => exact B5.out
        · have e : T = true := by rw [← HT.out, show (n != m) = true from by rw [bne_iff_ne]; exact hnm, decide_eq_true hn0, decide_eq_true hm0]; rfl
          subst e
          have HNM := hid hnm
          clear hnm
          have X1 : Hid (¬ (Q ≤ P ∧ ∀ i, i < Q → lF n i = lF m i)) := fun e => HNM.out (lF_inj hn0 hm0 HN.out HM.out (fun i h1 h2 => by rw [HQQ.out] at h2; exact e.2 i h2))
          have X2 : Hid (¬ (P ≤ Q ∧ ∀ i, i < P → lF m i = lF n i)) := fun e => HNM.out (lF_inj hn0 hm0 HN.out HM.out (fun i h1 h2 => by rw [HPP.out] at h1; exact (e.2 i h1).symm))
          have Y1 : Hid (∀ D, P = Q + D → ¬ Alk Q Q (fun i => rF n (D + i)) (rF m)) := fun D hD e => HNM.out (rF_inj hn0 hm0 HN.out HM.out D (by rw [HPP.out, HQQ.out]; exact hD) (fun i hi => by rw [HQQ.out] at hi; exact e.2 i hi))
          have Y2 : Hid (∀ D, Q = P + D → ¬ Alk P P (fun i => rF m (D + i)) (rF n)) := fun D hD e => HNM.out (rF_inj hm0 hn0 HM.out HN.out D (by rw [HPP.out, HQQ.out]; exact hD) (fun i hi => by rw [HPP.out] at hi; exact e.2 i hi)).symm
          rcases Nat.lt_trichotomy Q P with hqp | hqp | hqp
          · obtain ⟨D, hD⟩ : ∃ D, P = Q + D := ⟨P - Q, by omega⟩
            have d0 : (Q : Int) ≤ (P : Int) := by omega
            have d1 : ¬ (P : Int) ≤ (Q : Int) := by omega
            have d2 : (P : Int) - (Q : Int) = (D : Int) := by omega
            have d3 : (D : Int) ≤ (P : Int) := by omega
            have HDD := hid hD
            clear hD hqp
            go_wp2_with fail
            refine (same_any _ _ Q Q _ _ _ (by have h := rb_sub (D := D) (L5.out.at (i := 2) rfl).reads (by have := HDD.out; show D ≤ P; omega); rw [show P - D = Q from by have := HDD.out; omega] at h; exact h) (L5.out.at (i := 3) rfl).reads (by omega)).mono ?_
            rintro e x6 ⟨⟨t, rfl, ht⟩, d, hw⟩
            obtain rfl : t = false := by cases t with | false => rfl | true => exact absurd (ht.1 rfl) (Y1.out D HDD.out)
            have hb : Below wc.heap.size wc x6 := by rw [hw]; exact below_drewN _ _
            have L6 := hid (L5.out.below hb)
            have B6 := hid (below_next B5.out hb)
            clear hw hb ht
            go_wp2_with fail
            refine (begins1 _ _ P Q _ _ _ (L6.out.at (i := 0) rfl).reads (L6.out.at (i := 1) rfl).reads (by omega)).mono ?_
            rintro e x7 ⟨⟨t, rfl, ht⟩, d, hw⟩
            obtain rfl : t = false := by cases t with | false => rfl | true => exact absurd (ht.1 rfl) X1.out
            have hb : Below x6.heap.size x6 x7 := by rw [hw]; exact below_drewN _ _
            have L7 := hid (L6.out.below hb)
            have B7 := hid (below_next B6.out hb)
            clear hw hb ht
            go_wp2_with fail
            refine (begins1 _ _ Q P _ _ _ (L7.out.at (i := 1) rfl).reads (L7.out.at (i := 0) rfl).reads (by omega)).mono ?_
            rintro e x8 ⟨⟨t, rfl, ht⟩, d, hw⟩
            obtain rfl : t = false := by cases t with | false => rfl | true => exact absurd (ht.1 rfl) X2.out
            have hb : Below x7.heap.size x7 x8 := by rw [hw]; exact below_drewN _ _
            have L8 := hid (L7.out.below hb)
            have B8 := hid (below_next B7.out hb)
            clear hw hb ht
            go_wp2_with fail
            go_meet
            case rel => exact B8.out
          · obtain ⟨D, hD⟩ : ∃ D, P = Q + D := ⟨0, by omega⟩
            obtain ⟨E, hE⟩ : ∃ E, Q = P + E := ⟨0, by omega⟩
            have d0 : (Q : Int) ≤ (P : Int) := by omega
            have d1 : (P : Int) ≤ (Q : Int) := by omega
            have d2 : (P : Int) - (Q : Int) = (D : Int) := by omega
            have d3 : (D : Int) ≤ (P : Int) := by omega
            have e2 : (Q : Int) - (P : Int) = (E : Int) := by omega
            have e3 : (E : Int) ≤ (Q : Int) := by omega
            have HDD := hid hD
            have HEE := hid hE
            clear hD hE hqp
            go_wp2_with fail
            refine (same_any _ _ Q Q _ _ _ (by have h := rb_sub (D := D) (L5.out.at (i := 2) rfl).reads (by have := HDD.out; show D ≤ P; omega); rw [show P - D = Q from by have := HDD.out; omega] at h; exact h) (L5.out.at (i := 3) rfl).reads (by omega)).mono ?_
            rintro e x6 ⟨⟨t, rfl, ht⟩, d, hw⟩
            obtain rfl : t = false := by cases t with | false => rfl | true => exact absurd (ht.1 rfl) (Y1.out D HDD.out)
            have hb : Below wc.heap.size wc x6 := by rw [hw]; exact below_drewN _ _
            have L6 := hid (L5.out.below hb)
            have B6 := hid (below_next B5.out hb)
            clear hw hb ht
            go_wp2_with fail
            refine (same_any _ _ P P _ _ _ (by have h := rb_sub (D := E) (L6.out.at (i := 3) rfl).reads (by have := HEE.out; show E ≤ Q; omega); rw [show Q - E = P from by have := HEE.out; omega] at h; exact h) (L6.out.at (i := 2) rfl).reads (by omega)).mono ?_
            rintro e x7 ⟨⟨t, rfl, ht⟩, d, hw⟩
            obtain rfl : t = false := by cases t with | false => rfl | true => exact absurd (ht.1 rfl) (Y2.out E HEE.out)
            have hb : Below x6.heap.size x6 x7 := by rw [hw]; exact below_drewN _ _
            have L7 := hid (L6.out.below hb)
            have B7 := hid (below_next B6.out hb)
            clear hw hb ht
            go_wp2_with fail
            refine (begins1 _ _ P Q _ _ _ (L7.out.at (i := 0) rfl).reads (L7.out.at (i := 1) rfl).reads (by omega)).mono ?_
            rintro e x8 ⟨⟨t, rfl, ht⟩, d, hw⟩
            obtain rfl : t = false := by cases t with | false => rfl | true => exact absurd (ht.1 rfl) X1.out
            have hb : Below x7.heap.size x7 x8 := by rw [hw]; exact below_drewN _ _
            have L8 := hid (L7.out.below hb)
            have B8 := hid (below_next B7.out hb)
            clear hw hb ht
            go_wp2_with fail
            refine (begins1 _ _ Q P _ _ _ (L8.out.at (i := 1) rfl).reads (L8.out.at (i := 0) rfl).reads (by omega)).mono ?_
            rintro e x9 ⟨⟨t, rfl, ht⟩, d, hw⟩
            obtain rfl : t = false := by cases t with | false => rfl | true => exact absurd (ht.1 rfl) X2.out
            have hb : Below x8.heap.size x8 x9 := by rw [hw]; exact below_drewN _ _
            have L9 := hid (L8.out.below hb)
            have B9 := hid (below_next B8.out hb)
            clear hw hb ht
            go_wp2_with fail
            go_meet
            case rel => exact B9.out
          · obtain ⟨E, hE⟩ : ∃ E, Q = P + E := ⟨Q - P, by omega⟩
            have d0 : ¬ (Q : Int) ≤ (P : Int) := by omega
            have d1 : (P : Int) ≤ (Q : Int) := by omega
            have e2 : (Q : Int) - (P : Int) = (E : Int) := by omega
            have e3 : (E : Int) ≤ (Q : Int) := by omega
            have HEE := hid hE
            clear hE hqp
            go_wp2_with fail
            refine (same_any _ _ P P _ _ _ (by have h := rb_sub (D := E) (L5.out.at (i := 3) rfl).reads (by have := HEE.out; show E ≤ Q; omega); rw [show Q - E = P from by have := HEE.out; omega] at h; exact h) (L5.out.at (i := 2) rfl).reads (by omega)).mono ?_
            rintro e x6 ⟨⟨t, rfl, ht⟩, d, hw⟩
            obtain rfl : t = false := by cases t with | false => rfl | true => exact absurd (ht.1 rfl) (Y2.out E HEE.out)
            have hb : Below wc.heap.size wc x6 := by rw [hw]; exact below_drewN _ _
            have L6 := hid (L5.out.below hb)
            have B6 := hid (below_next B5.out hb)
            clear hw hb ht
            go_wp2_with fail
            refine (begins1 _ _ P Q _ _ _ (L6.out.at (i := 0) rfl).reads (L6.out.at (i := 1) rfl).reads (by omega)).mono ?_
            rintro e x7 ⟨⟨t, rfl, ht⟩, d, hw⟩
            obtain rfl : t = false := by cases t with | false => rfl | true => exact absurd (ht.1 rfl) X1.out
            have hb : Below x6.heap.size x6 x7 := by rw [hw]; exact below_drewN _ _
            have L7 := hid (L6.out.below hb)
            have B7 := hid (below_next B6.out hb)
            clear hw hb ht
            go_wp2_with fail
            refine (begins1 _ _ Q P _ _ _ (L7.out.at (i := 1) rfl).reads (L7.out.at (i := 0) rfl).reads (by omega)).mono ?_
            rintro e x8 ⟨⟨t, rfl, ht⟩, d, hw⟩
            obtain rfl : t = false := by cases t with | false => rfl | true => exact absurd (ht.1 rfl) X2.out
            have hb : Below x7.heap.size x7 x8 := by rw [hw]; exact below_drewN _ _
            have L8 := hid (L7.out.below hb)
            have B8 := hid (below_next B7.out hb)
            clear hw hb ht
            go_wp2_with fail
            go_meet
            case rel => exact B8.out
      · have e : T = false := by rw [← HT.out, decide_eq_false hm0, Bool.and_false]; rfl
        subst e
        go_wp2_with fail
        go_meet
        case rel => exact B5.out
    · have e : T = false := by rw [← HT.out, decide_eq_false hn0]; rfl
      subst e
      go_wp2_with fail
      go_meet
      case rel => exact B5.out
  case rest =>
    clear L5 B5 HT q1 q2 hP10 hQ10 hc4 hc5 HPP HQQ
    have B6 := hid hcut
    clear hcut
    have L6 := hid (LS.nil (w := wc) (B := w.heap.size) B6.out.size)
    go_wp2_with fail
    refine (string1 a f _ wc (HA.out.below B6.out) (by omega)).mono ?_
    rintro e y1 ⟨v1, rfl, ho, hb⟩
    obtain ⟨az, cz, rfl⟩ := own_slice ho
    have L7 := hid (L6.out.snoc hb ho)
    have B7 := hid (below_next B6.out hb)
    clear ho hb L6 B6
    go_wp2_with fail
    refine (string1 b g _ y1 (HB.out.below B7.out) (by omega)).mono ?_
    rintro e y2 ⟨v2, rfl, ho, hb⟩
    obtain ⟨ay, cy, rfl⟩ := own_slice ho
    have L8 := hid (L7.out.snoc hb ho)
    have B8 := hid (below_next B7.out hb)
    clear ho hb L7 B7
    go_wp2_with fail
    refine (same_any _ _ a b f g y2 (HA.out.below B8.out) (HB.out.below B8.out) (by omega)).mono ?_
    rintro e y3 ⟨⟨ts, rfl, hts⟩, d0, hw⟩
    have hb : Below y2.heap.size y2 y3 := by rw [hw]; exact below_drewN _ _
    have L9 := hid (L8.out.below hb)
    have B9 := hid (below_next B8.out hb)
    have TS := hid hts
    clear hw hb hts L8 B8
    have hsa := hid (sn_le' a)
    have hsb := hid (sn_le' b)
    have hsc := hid (sn_le' c)
    have hsd := hid (sn_le' d)
    go_wp2_with fail
    refine (begins1 _ _ (sn a) (sn b) _ _ _ (L9.out.at (i := 0) rfl).reads (L9.out.at (i := 1) rfl).reads (by have := hsa.out; omega)).mono ?_
    rintro e y4 ⟨⟨t1, rfl, ht⟩, d1, hw⟩
    obtain rfl : t1 = ts := Bool.eq_iff_iff.2 (ht.trans ((sg_alk a b f g (by omega) (by omega)).trans TS.out.symm))
    have hb : Below y3.heap.size y3 y4 := by rw [hw]; exact below_drewN _ _
    have L10 := hid (L9.out.below hb)
    have B10 := hid (below_next B9.out hb)
    clear hw hb ht L9 B9
    go_wp2_with fail
    refine (begins1 _ _ (sn b) (sn a) _ _ _ (L10.out.at (i := 1) rfl).reads (L10.out.at (i := 0) rfl).reads (by have := hsb.out; omega)).mono ?_
    rintro e y5 ⟨⟨t2, rfl, ht⟩, d2, hw⟩
    obtain rfl : t2 = t1 := Bool.eq_iff_iff.2 (ht.trans ((sg_alk b a g f (by omega) (by omega)).trans ((alk_symm b a g f).trans TS.out.symm)))
    have hb : Below y4.heap.size y4 y5 := by rw [hw]; exact below_drewN _ _
    have L11 := hid (L10.out.below hb)
    have B11 := hid (below_next B10.out hb)
    clear hw hb ht L10 B10
    go_wp2_with fail
    refine (pickN w0 256 (by omega) (by omega) y5).mono ?_
    rintro e y5 ⟨⟨p, hp, rfl⟩, rfl⟩
    obtain ⟨W, hW⟩ : ∃ W : Nat, 1 + (p : Int) = (W : Int) := ⟨p + 1, by omega⟩
    have hW1 : 1 ≤ W := by omega
    have hW2 : W ≤ 256 := by omega
    obtain ⟨N1, hN1⟩ : ∃ x, pN (tn a c) W = x := ⟨_, rfl⟩
    obtain ⟨N2, hN2⟩ : ∃ x, pN (tn b d) W = x := ⟨_, rfl⟩
    have HPA : Hid (Alk N1 N2 (pg (tn a c) (tg a f c h) W) (pg (tn b d) (tg b g d k) W) ↔ Alk a b f g ∧ Alk c d h k) := by rw [← hN1, ← hN2]; exact pad_alk a b c d W f g h k (by omega) (by omega) (by omega) (by omega)
    have hN1b : N1 ≤ 2000000 := by rw [← hN1]; have := pN_le a c W hW1 hW2; omega
    have tmm : N1 % W = 0 := by rw [← hN1]; exact pN_mod _ W (by omega)
    have tm1 : ((N1 : Int)).tmod (W : Int) = 0 := by rw [Int.tmod_eq_emod_of_nonneg (by omega)]; omega
    have tm2 : (N1 : Int) % (W : Int) = 0 := by omega
    have nW : ¬ (W : Int) = 0 := by omega
    have nW' : ¬ W = 0 := by omega
    have HN1 := hid hN1
    have HN2 := hid hN2
    clear hN1 hN2
    go_wp2_with fail
    refine (copy16 _ (sn a) _ y5 (L11.out.at (i := 0) rfl).reads (by have := hsa.out; omega)).mono ?_
    rintro e p1 ⟨pv1, rfl, ho, hb⟩
    have O1 := hid ho
    have Y1 := hid hb
    clear ho hb
    go_wp2_with fail
    refine (string1 c h _ p1 (HC.out.below (below_next B11.out Y1.out)) (by omega)).mono ?_
    rintro e p2 ⟨pv2, rfl, ho, hb⟩
    have O2 := hid ho
    have O1' := hid (own_below O1.out hb)
    have Y2 := hid (below_next Y1.out hb)
    clear ho hb O1 Y1
    go_wp2_with (at_builtin; go_must (refine wpList_cat rfl _ _ rfl y5.heap.size (sn a) (sn c) _ _ (sg a f) (sg c h) rfl O1'.out rfl O2.out.reads (by have := hsa.out; have := hsc.out; omega) Y2.out.size ?_))
    intro pv3 p3 ho hg
    have O3 := hid (show By.Own p3 y5.heap.size pv3 (tn a c) (tg a f c h) from ho)
    have Y3 := hid (below_grow Y2.out Y2.out.size O1'.out hg)
    have L12 := hid (L11.out.below Y3.out)
    have B12 := hid (below_next B11.out Y3.out)
    clear ho hg O1' O2 Y2 Y3 L11 B11
    go_wp2_with fail
    refine (padOk (tn a c) W (tg a f c h) pv3 p3 O3.out.reads (by have := hsa.out; have := hsc.out; unfold tn; omega) hW1 hW2).mono ?_
    rintro e p4 ⟨pv4, rfl, ho, hb⟩
    rw [HN1.out] at ho
    obtain ⟨pa, pc, rfl⟩ := own_slice ho
    have L13 := hid (L12.out.snoc hb ho)
    have B13 := hid (below_next B12.out hb)
    clear ho hb O3 L12 B12
    go_wp2_with fail
    refine (copy16 _ (sn b) _ p4 (L13.out.at (i := 1) rfl).reads (by have := hsb.out; omega)).mono ?_
    rintro e q1 ⟨qv1, rfl, ho, hb⟩
    have O1 := hid ho
    have Y1 := hid hb
    clear ho hb
    go_wp2_with fail
    refine (string1 d k _ q1 (HD.out.below (below_next B13.out Y1.out)) (by omega)).mono ?_
    rintro e q2 ⟨qv2, rfl, ho, hb⟩
    have O2 := hid ho
    have O1' := hid (own_below O1.out hb)
    have Y2 := hid (below_next Y1.out hb)
    clear ho hb O1 Y1
    go_wp2_with (at_builtin; go_must (refine wpList_cat rfl _ _ rfl p4.heap.size (sn b) (sn d) _ _ (sg b g) (sg d k) rfl O1'.out rfl O2.out.reads (by have := hsb.out; have := hsd.out; omega) Y2.out.size ?_))
    intro qv3 q3 ho hg
    have O3 := hid (show By.Own q3 p4.heap.size qv3 (tn b d) (tg b g d k) from ho)
    have Y3 := hid (below_grow Y2.out Y2.out.size O1'.out hg)
    have L14 := hid (L13.out.below Y3.out)
    have B14 := hid (below_next B13.out Y3.out)
    clear ho hg O1' O2 Y2 Y3 L13 B13
    go_wp2_with fail
    refine (padOk (tn b d) W (tg b g d k) qv3 q3 O3.out.reads (by have := hsb.out; have := hsd.out; unfold tn; omega) hW1 hW2).mono ?_
    rintro e q4 ⟨qv4, rfl, ho, hb⟩
    rw [HN2.out] at ho
    obtain ⟨qa, qc, rfl⟩ := own_slice ho
    have L15 := hid (L14.out.snoc hb ho)
    have B15 := hid (below_next B14.out hb)
    clear ho hb O3 L14 B14
    go_wp2_with fail
    refine (same_any _ _ N1 N2 _ _ _ (L15.out.at (i := 2) rfl).reads (L15.out.at (i := 3) rfl).reads (by omega)).mono ?_
    rintro e z1 ⟨⟨t3, rfl, ht3⟩, d3, hw⟩
    have hb : Below q4.heap.size q4 z1 := by rw [hw]; exact below_drewN _ _
    have B16 := hid (below_next B15.out hb)
    have T3 := hid (ht3.trans HPA.out)
    clear hw hb ht3 L15 B15 HPA
    cases t2 with
    | false =>
      obtain rfl : t3 = false := by cases t3 with | false => rfl | true => exact absurd (TS.out.2 (T3.out.1 rfl).1) (by decide)
      go_wp2
      go_ret
      exact ⟨rfl, B16.out⟩
    | true =>
      go_wp2_with fail
      refine (same_any _ _ c d h k _ (HC.out.below B16.out) (HD.out.below B16.out) (by omega)).mono ?_
      rintro e z2 ⟨⟨t4, rfl, ht4⟩, d4, hw⟩
      obtain rfl : t3 = t4 := Bool.eq_iff_iff.2 (T3.out.trans (⟨fun e => ht4.2 e.2, fun e => ⟨TS.out.1 (by trivial), ht4.1 e⟩⟩))
      have hb : Below z1.heap.size z1 z2 := by rw [hw]; exact below_drewN _ _
      have B17 := hid (below_next B16.out hb)
      clear hw hb ht4 B16
      go_wp2
      go_ret
      exact ⟨by simp, B17.out⟩
end Go.Proofs.YtjfjjhjajgodiaaDoor.Kc
