/- The statement ShakeCounts, walked. -/
import Derived.Test.YtjfjjhjajgodiaaDoorXawake
import Derived.Test.YtjfjjhjajgodiaaDoorXcnt
import Derived.Test.YtjfjjhjajgodiaaDoorRreads
import Derived.Deep.DeepCutAuto
namespace Go.Proofs.YtjfjjhjajgodiaaDoor.Kc
open Go.ChangeShapes Go.WideShapes Go.ChangeAt Go.RowKit
open Go.Proofs.YtjfjjhjajgodiaaDoor.By Go.Proofs.YtjfjjhjajgodiaaDoor.Wd
theorem LS.grew {w w' : World} {B : Nat} {xs : List LI} {x : LI} (h : LS w B (xs ++ [x])) (hg : w.grownBy w' x.v.ownBlock) : LS w' B xs := by
  obtain ⟨p1, _, p3⟩ := List.pairwise_append.1 h.ap
  refine ⟨Nat.le_trans h.hB hg.size, fun y hy => own_kept (h.own y (by simp [hy])) (Kp.of_grown hg) (fun g e e2 => ?_), p1⟩
  rcases p3 y hy x (by simp) with ha | ha
  · rw [ha] at e; cases e
  · exact ha (e.trans e2.symm)
theorem own_run (w : World) (E : Int) (h0 : 0 ≤ E) (h1 : E ≤ 9223372036854775807) : Own (w.alloc (.cells #[.int .u8 3, .int .i64 200, .int .i64 E] 65)) w.heap.size (.slice (some ⟨w.heap.size, 0, none⟩) 1 1) [⟨3, 200, E⟩] :=
  own_lit w [⟨3, 200, E⟩] #[.int .u8 3, .int .i64 200, .int .i64 E] (fun r hr => by
    simp at hr; subst hr
    exact ⟨by show (0 : Int) ≤ 3 ∧ (3 : Int) < 256; decide, by show (-9223372036854775808 : Int) ≤ 200 ∧ (200 : Int) ≤ 9223372036854775807; decide, by show -9223372036854775808 ≤ E ∧ E ≤ 9223372036854775807; omega⟩) rfl (by show 1 ≤ maxLen; decide)
theorem rate1 (b : Bool) (w : World) : Calls Tryd.prog 45 #[.bool b] w fun e w' => e = .returned (.int .i64 (if b = true then 136 else 168)) ∧ w' = w := by
  cases b
  · go_enter Tryd.func45, Tryd.ntmps45
    go_wp2
    go_ret
    exact ⟨rfl, rfl⟩
  · go_enter Tryd.func45, Tryd.ntmps45
    go_wp2
    go_ret
    exact ⟨rfl, rfl⟩
set_option maxRecDepth 4000 in
set_option maxHeartbeats 4000000 in
theorem counts_f (pa qa xa : Option Addr) (a pc c qc m xc : Nat) (f h g : Nat → Int) (o n0 fw0 : Int) (w : World) (hp : By.RB w (.slice pa a pc) a f) (hq : By.RB w (.slice qa c qc) c h) (hx : By.RB w (.slice xa m xc) m g) (ho : 0 ≤ o ∧ o < 256) (hk : KT w) (hac : a + c + m ≤ 1048576) :
    Calls Tryd.prog 7 #[.bool false, .slice pa a pc, .slice qa c qc, .slice xa m xc, .int .u8 o, .int .i64 n0, .int .i64 fw0] w fun e w' => e = .returned (.bool true) ∧ Below w.heap.size w w' := by
  have HP := hid hp
  have HQ := hid hq
  have HX := hid hx
  have HO := hid ho
  have G0 := hid (GS.start w hk)
  clear hp hq hx hk ho
  go_enter Tryd.func7, Tryd.ntmps7
  go_wp2_with fail
  refine (awake1 w G0.out.kt).mono ?_
  rintro e w1 ⟨rfl, hb⟩
  have G1 := hid (G0.out.below hb)
  clear hb G0
  go_wp2_with fail
  refine (pickN n0 65537 (by omega) (by omega) w1).mono ?_
  rintro e w1 ⟨⟨n, hn, rfl⟩, rfl⟩
  go_wp2_with fail
  refine (pickN fw0 (n + 1) (by omega) (by omega) w1).mono ?_
  rintro e w1 ⟨⟨fw, hfw, rfl⟩, rfl⟩
  have hst : Str 128 168 := by unfold Str; decide
  have HT : Hid (∀ (f h g : Nat → Int) (k : Nat), k ≤ 65536 → tC 168 a f c h m g k = cnt 168 a c m k) := fun f h g k hk => tC_eq hst a c m k f h g hk
  obtain ⟨N, hN⟩ : ∃ N, cnt 168 a c m n = N := ⟨_, rfl⟩
  have hN1 : N ≤ 100000 := by rw [← hN, ← HT.out f h g n (by omega)]; exact tC_le hst a c f h m g n (by omega) (by omega)
  have hN0 : 1 ≤ N := by rw [← hN]; exact cnt_pos _ _ _ _ _
  have HN := hid hN
  have TK : Hid (∀ k : Nat, k ≤ 65536 → tk k = k ∧ tc k = 0) := fun k hk => ⟨if_neg (by omega), if_neg (by omega)⟩
  have TF : Hid (∀ k : Nat, k ≤ 65536 → tF 168 a f c h m g k = Z.say 168 (tY 168 a f c h m g)) := fun k hk => by funext i; exact if_neg (by omega)
  clear hst hN
  go_wp2_with fail
  refine (new9 w1).mono ?_
  rintro e w2 ⟨rfl, hl, hb⟩
  have G2 := hid (G1.out.addLed hb (o := true) hl)
  clear hl hb G1
  go_wp2_with fail
  refine (new9 w2).mono ?_
  rintro e w3 ⟨rfl, hl, hb⟩
  have G3 := hid (show GS w w.heap.size [] [⟨true, w1.heap.size, .slice none 0 0, evk [] 0⟩, ⟨true, w2.heap.size, .slice none 0 0, evk [] 0⟩] w3 from G2.out.addLed hb (o := true) hl)
  clear hl hb G2
  obtain ⟨B, hB⟩ : ∃ x, w.heap.size = x := ⟨_, rfl⟩
  obtain ⟨lb, hlb⟩ : ∃ x, w1.heap.size = x := ⟨_, rfl⟩
  obtain ⟨mb, hmb⟩ : ∃ x, w2.heap.size = x := ⟨_, rfl⟩
  have HB := hid hB
  rw [hB, hlb, hmb] at G3
  rw [hlb, hmb]
  clear hB hlb hmb
  have L3 := hid (LS.nil (w := w3) (B := B) G3.out.hB)
  go_wp2_with fail
  refine (c128_any a c m 0 f h g n _ _ _ (some lb) (SE ⟨true, lb, .slice none 0 0, evk [] 0⟩) w3 G3.out.kt (GS.no0 (leds1 := []) G3.out) (GS.no1 (leds1 := []) G3.out) (GS.lgP (leds1 := []) G3.out) (by omega) (fun w' hk' => HP.out.below (by rw [HB.out]; exact (GS.koL (leds1 := []) G3.out hk').2)) (fun w' hk' => HQ.out.below (by rw [HB.out]; exact (GS.koL (leds1 := []) G3.out hk').2)) (fun w' hk' => HX.out.below (by rw [HB.out]; exact (GS.koL (leds1 := []) G3.out hk').2)) (by omega) (by omega)).mono ?_
  rintro e w4 ⟨v4, rfl, ho, hlg, hkp⟩
  rw [(TK.out n (by omega)).2]
  rw [(TK.out n (by omega)).1, TF.out n (by omega)] at ho
  rw [Nat.zero_add, HT.out f h g n (by omega), HN.out] at hlg
  obtain ⟨a4, c4, rfl⟩ := own_slice ho
  have hc4 : n ≤ c4 := rb_cap ho.reads
  obtain ⟨lv4, hG, hko⟩ := GS.turnP (leds1 := []) G3.out hlg hkp
  have L4 := hid (L3.out.snocO hko hkp.size ho)
  have G4 := hid hG
  clear ho hlg hkp hG hko L3 G3
  go_wp2_with fail
  refine (fill1 _ a _ o HO.out w4 (HP.out.below (by rw [HB.out]; exact G4.out.bel)) (by omega)).mono ?_
  rintro e w5 ⟨v5, rfl, ho, hb⟩
  obtain ⟨a5, c5, rfl⟩ := own_slice ho
  have L5 := hid (L4.out.snoc hb ho)
  have G5 := hid (G4.out.below hb)
  clear ho hb L4 G4
  go_wp2_with fail
  refine (fill1 _ c _ o HO.out w5 (HQ.out.below (by rw [HB.out]; exact G5.out.bel)) (by omega)).mono ?_
  rintro e w6 ⟨v6, rfl, ho, hb⟩
  obtain ⟨a6, c6, rfl⟩ := own_slice ho
  have L6 := hid (L5.out.snoc hb ho)
  have G6 := hid (G5.out.below hb)
  clear ho hb L5 G5
  go_wp2_with fail
  refine (fill1 _ m _ o HO.out w6 (HX.out.below (by rw [HB.out]; exact G6.out.bel)) (by omega)).mono ?_
  rintro e w7 ⟨v7, rfl, ho, hb⟩
  obtain ⟨a7, c7, rfl⟩ := own_slice ho
  have L7 := hid (L6.out.snoc hb ho)
  have G7 := hid (G6.out.below hb)
  clear ho hb L6 G6
  go_wp2_with fail
  refine (c128_any a c m 0 (fun _ => o) (fun _ => o) (fun _ => o) n _ _ _ (some mb) (SE ⟨true, mb, .slice none 0 0, evk [] 0⟩) w7 G7.out.kt (GS.no0 (leds1 := [⟨true, lb, lv4, evk [] N⟩]) G7.out) (GS.no1 (leds1 := [⟨true, lb, lv4, evk [] N⟩]) G7.out) (GS.lgP (leds1 := [⟨true, lb, lv4, evk [] N⟩]) G7.out) (by omega) (fun w' hk' => ((GS.koL (leds1 := [⟨true, lb, lv4, evk [] N⟩]) G7.out hk').1.own (L7.out.at (i := 1) rfl)).reads) (fun w' hk' => ((GS.koL (leds1 := [⟨true, lb, lv4, evk [] N⟩]) G7.out hk').1.own (L7.out.at (i := 2) rfl)).reads) (fun w' hk' => ((GS.koL (leds1 := [⟨true, lb, lv4, evk [] N⟩]) G7.out hk').1.own (L7.out.at (i := 3) rfl)).reads) (by omega) (by omega)).mono ?_
  rintro e w8 ⟨v8, rfl, ho, hlg, hkp⟩
  rw [(TK.out n (by omega)).2]
  rw [Nat.zero_add, HT.out _ _ _ n (by omega), HN.out] at hlg
  obtain ⟨a8, c8, rfl⟩ := own_slice ho
  obtain ⟨mv8, hG, hko⟩ := GS.turnP (leds1 := [⟨true, lb, lv4, evk [] N⟩]) G7.out hlg hkp
  have L8 := hid (L7.out.snocO hko hkp.size ho)
  have G8 := hid hG
  clear ho hlg hkp hG hko L7 G7
  go_wp2_with fail
  refine (c128_any a c m 0 f h g fw _ _ _ none (fun _ => False) w8 G8.out.kt (fun e => e) (fun e => e) trivial (by omega) (fun w' hk' => HP.out.below (by rw [HB.out]; exact G8.out.bel.trans ((below_no hk').mono G8.out.hB))) (fun w' hk' => HQ.out.below (by rw [HB.out]; exact G8.out.bel.trans ((below_no hk').mono G8.out.hB))) (fun w' hk' => HX.out.below (by rw [HB.out]; exact G8.out.bel.trans ((below_no hk').mono G8.out.hB))) (by omega) (by omega)).mono ?_
  rintro e w9 ⟨v9, rfl, ho, -, hkp⟩
  rw [(TK.out fw (by omega)).2]
  rw [(TK.out fw (by omega)).1, TF.out fw (by omega)] at ho
  obtain ⟨a9, c9, rfl⟩ := own_slice ho
  have L9 := hid (L8.out.snoc (below_no hkp) ho)
  have G9 := hid (G8.out.below (below_no hkp))
  clear ho hkp L8 G8
  go_wp2_with fail
  refine (rate1 false w9).mono ?_
  rintro e w9 ⟨rfl, rfl⟩
  have Z9 := hid G9.out.hB
  have f4 : fw ≤ c4 := by omega
  have HLn : Hid ((evk [] N).length * 24 ≤ 140737488355328) := by
    have h1 := evk_len [] N
    have h3 : ([] : List Rn).length = 0 := rfl
    show (evk [] N).length * 24 ≤ 140737488355328
    omega
  have EV : Hid (evk [] N = [⟨3, 200, (N : Int)⟩]) := by
    obtain ⟨j, rfl⟩ : ∃ j, N = j + 1 := ⟨N - 1, by omega⟩
    exact evk_one j (by omega)
  by_cases h0 : a = 0 ∧ c = 0
  · have s0 : ¬ (0 : Int) < (a : Int) + (c : Int) := by omega
    have HW : Hid (N = m / 168 + 1 + (if n = 0 then 0 else (n - 1) / 168)) := by rw [← HN.out]; unfold cnt wrt; rw [if_pos h0]; rfl
    clear h0
    by_cases hn0 : n = 0
    · subst hn0
      have HE : Hid ((m : Int) / 168 + 1 = (N : Int)) := by have := HW.out; rw [if_pos rfl] at this; show (m : Int) / 168 + 1 = (N : Int); omega
      go_wp2_with fail
      refine (same_true _ _ fw _ _ _ ((L9.out.at (i := 0) rfl).reads.first fw (by omega)) (L9.out.at (i := 5) rfl).reads (by omega) (fun _ _ => rfl)).mono ?_
      rintro e x1 ⟨rfl, d1, hw⟩
      have hb : Below w9.heap.size w9 x1 := by rw [hw]; exact below_drewN _ _
      have X1 := hid (G9.out.below hb)
      clear hw hb L9 G9
      go_wp2_with fail
      refine (runs22 lb _ _ _ (GS.midL (leds1 := []) X1.out).1 HLn.out).mono ?_
      rintro e x2 ⟨u2, rfl, hu, hb⟩
      rw [EV.out] at hu
      have U2 := hid hu
      have X2 := hid (X1.out.below hb)
      clear hu hb X1
      go_wp2_with fail
      have ol := hid (own_run x2 ((m : Int) / 168 + 1) (by omega) (by omega))
      refine (same14 _ _ [⟨3, 200, (N : Int)⟩] [⟨3, 200, (m : Int) / 168 + 1⟩] _ ((U2.out.alloc _).reads) ol.out.reads (by show 1 < 1000000000000000000; decide) (by show 1 < 1000000000000000000; decide)).mono ?_
      rw [decide_eq_true (by rw [HE.out])]
      rintro e x3 ⟨rfl, d3, hw⟩
      have hb : Below x2.heap.size x2 x3 := by rw [hw]; exact below_drew' (below_alloc x2 _) _
      have X3 := hid (X2.out.below hb)
      clear hw hb X2 ol U2
      go_wp2_with fail
      refine (runs22 lb _ _ _ (GS.midL (leds1 := []) X3.out).1 HLn.out).mono ?_
      rintro e x4 ⟨u4, rfl, hu, hb⟩
      have U4 := hid hu
      have X4 := hid (X3.out.below hb)
      clear hu hb X3
      go_wp2_with fail
      refine (runs22 mb _ _ _ (GS.midL (leds1 := [⟨true, lb, lv4, evk [] N⟩]) X4.out).1 HLn.out).mono ?_
      rintro e x5 ⟨u5, rfl, hu, hb⟩
      have U5 := hid hu
      have U4' := hid (U4.out.below hb)
      have X5 := hid (X4.out.below hb)
      clear hu hb X4 U4
      go_wp2_with fail
      refine (same14 _ _ _ _ _ U4'.out.reads U5.out.reads (by have := HLn.out; omega) (by have := HLn.out; omega)).mono ?_
      rw [decide_eq_true rfl]
      rintro e x6 ⟨rfl, d6, hw⟩
      have hb : Below x5.heap.size x5 x6 := by rw [hw]; exact below_drewN _ _
      have X6 := hid (X5.out.below hb)
      clear hw hb X5 U4' U5
      go_wp2
      go_ret
      refine ⟨rfl, ?_⟩
      rw [HB.out]
      exact X6.out.bel
    · have hn1 : (0 : Int) < n := by omega
      have HE : Hid ((m : Int) / 168 + 1 + ((n : Int) - 1) / 168 = (N : Int)) := by have := HW.out; rw [if_neg hn0] at this; show (m : Int) / 168 + 1 + ((n : Int) - 1) / 168 = (N : Int); omega
      go_wp2_with fail
      refine (same_true _ _ fw _ _ _ ((L9.out.at (i := 0) rfl).reads.first fw (by omega)) (L9.out.at (i := 5) rfl).reads (by omega) (fun _ _ => rfl)).mono ?_
      rintro e x1 ⟨rfl, d1, hw⟩
      have hb : Below w9.heap.size w9 x1 := by rw [hw]; exact below_drewN _ _
      have X1 := hid (G9.out.below hb)
      clear hw hb L9 G9
      go_wp2_with fail
      refine (runs22 lb _ _ _ (GS.midL (leds1 := []) X1.out).1 HLn.out).mono ?_
      rintro e x2 ⟨u2, rfl, hu, hb⟩
      rw [EV.out] at hu
      have U2 := hid hu
      have X2 := hid (X1.out.below hb)
      clear hu hb X1
      go_wp2_with fail
      have ol := hid (own_run x2 ((m : Int) / 168 + 1 + ((n : Int) - 1) / 168) (by omega) (by omega))
      refine (same14 _ _ [⟨3, 200, (N : Int)⟩] [⟨3, 200, (m : Int) / 168 + 1 + ((n : Int) - 1) / 168⟩] _ ((U2.out.alloc _).reads) ol.out.reads (by show 1 < 1000000000000000000; decide) (by show 1 < 1000000000000000000; decide)).mono ?_
      rw [decide_eq_true (by rw [HE.out])]
      rintro e x3 ⟨rfl, d3, hw⟩
      have hb : Below x2.heap.size x2 x3 := by rw [hw]; exact below_drew' (below_alloc x2 _) _
      have X3 := hid (X2.out.below hb)
      clear hw hb X2 ol U2
      go_wp2_with fail
      refine (runs22 lb _ _ _ (GS.midL (leds1 := []) X3.out).1 HLn.out).mono ?_
      rintro e x4 ⟨u4, rfl, hu, hb⟩
      have U4 := hid hu
      have X4 := hid (X3.out.below hb)
      clear hu hb X3
      go_wp2_with fail
      refine (runs22 mb _ _ _ (GS.midL (leds1 := [⟨true, lb, lv4, evk [] N⟩]) X4.out).1 HLn.out).mono ?_
      rintro e x5 ⟨u5, rfl, hu, hb⟩
      have U5 := hid hu
      have U4' := hid (U4.out.below hb)
      have X5 := hid (X4.out.below hb)
      clear hu hb X4 U4
      go_wp2_with fail
      refine (same14 _ _ _ _ _ U4'.out.reads U5.out.reads (by have := HLn.out; omega) (by have := HLn.out; omega)).mono ?_
      rw [decide_eq_true rfl]
      rintro e x6 ⟨rfl, d6, hw⟩
      have hb : Below x5.heap.size x5 x6 := by rw [hw]; exact below_drewN _ _
      have X6 := hid (X5.out.below hb)
      clear hw hb X5 U4' U5
      go_wp2
      go_ret
      refine ⟨rfl, ?_⟩
      rw [HB.out]
      exact X6.out.bel
  · have s0 : (0 : Int) < (a : Int) + (c : Int) := by omega
    obtain ⟨PN, hPN⟩ : ∃ x, pN (tn a c) 168 = x := ⟨_, rfl⟩
    have hPN2 : PN ≤ a + c + 300 := by rw [← hPN]; exact pN_le a c 168 (by omega) (by omega)
    have HW : Hid (N = (m + PN) / 168 + 1 + (if n = 0 then 0 else (n - 1) / 168)) := by rw [← HN.out]; unfold cnt wrt; rw [if_neg h0, hPN]; rfl
    have HPN := hid hPN
    clear h0 hPN
    have hs1 := hid (sn_le' a)
    have hs2 := hid (sn_le' c)
    go_wp2_with fail
    refine (string1 a f _ w9 (HP.out.below (by rw [HB.out]; exact G9.out.bel)) (by omega)).mono ?_
    rintro e w10 ⟨v10, rfl, ho, hb⟩
    have O10 := hid ho
    have L10 := hid (L9.out.snoc hb ho)
    have G10 := hid (G9.out.below hb)
    have Z10 := hid hb.size
    clear ho hb L9 G9
    go_wp2_with fail
    refine (string1 c h _ w10 (HQ.out.below (by rw [HB.out]; exact G10.out.bel)) (by omega)).mono ?_
    rintro e w11 ⟨v11, rfl, ho, hb⟩
    have O11 := hid ho
    have O10' := hid (own_below O10.out hb)
    have L11 := hid (L10.out.below hb)
    have G11 := hid (G10.out.below hb)
    have Z11 := hid (Nat.le_trans Z10.out hb.size)
    clear ho hb L10 G10 O10
    go_wp2_with (at_builtin; go_must (refine wpList_cat rfl _ _ rfl w9.heap.size (sn a) (sn c) _ _ (sg a f) (sg c h) rfl O10'.out rfl O11.out.reads (by have := hs1.out; have := hs2.out; omega) Z11.out ?_))
    intro v12 w12 ho hg
    have O12 := hid (show By.Own w12 w9.heap.size v12 (tn a c) (tg a f c h) from ho)
    have L12 := hid (LS.grew L11.out hg)
    have G12 := hid (GS.over8 G11.out (own_mono O10'.out Z9.out) hg)
    clear ho hg L11 G11 O10' O11
    go_wp2_with fail
    refine (padOk (tn a c) 168 (tg a f c h) v12 w12 O12.out.reads (by have := hs1.out; have := hs2.out; unfold tn; omega) (by omega) (by omega)).mono ?_
    rintro e w13 ⟨v13, rfl, ho, hb⟩
    rw [HPN.out] at ho
    obtain ⟨a13, c13, rfl⟩ := own_slice ho
    have L13 := hid (L12.out.below hb)
    have G13 := hid (G12.out.below hb)
    clear ho hb L12 G12 O12
    by_cases hn0 : n = 0
    · subst hn0
      have HE : Hid (((m : Int) + (PN : Int)) / 168 + 1 = (N : Int)) := by have := HW.out; rw [if_pos rfl] at this; show ((m : Int) + (PN : Int)) / 168 + 1 = (N : Int); omega
      go_wp2_with fail
      refine (same_true _ _ fw _ _ _ ((L13.out.at (i := 0) rfl).reads.first fw (by omega)) (L13.out.at (i := 5) rfl).reads (by omega) (fun _ _ => rfl)).mono ?_
      rintro e x1 ⟨rfl, d1, hw⟩
      have hb : Below w13.heap.size w13 x1 := by rw [hw]; exact below_drewN _ _
      have X1 := hid (G13.out.below hb)
      clear hw hb L13 G13
      go_wp2_with fail
      refine (runs22 lb _ _ _ (GS.midL (leds1 := []) X1.out).1 HLn.out).mono ?_
      rintro e x2 ⟨u2, rfl, hu, hb⟩
      rw [EV.out] at hu
      have U2 := hid hu
      have X2 := hid (X1.out.below hb)
      clear hu hb X1
      go_wp2_with fail
      have ol := hid (own_run x2 (((m : Int) + (PN : Int)) / 168 + 1) (by omega) (by omega))
      refine (same14 _ _ [⟨3, 200, (N : Int)⟩] [⟨3, 200, ((m : Int) + (PN : Int)) / 168 + 1⟩] _ ((U2.out.alloc _).reads) ol.out.reads (by show 1 < 1000000000000000000; decide) (by show 1 < 1000000000000000000; decide)).mono ?_
      rw [decide_eq_true (by rw [HE.out])]
      rintro e x3 ⟨rfl, d3, hw⟩
      have hb : Below x2.heap.size x2 x3 := by rw [hw]; exact below_drew' (below_alloc x2 _) _
      have X3 := hid (X2.out.below hb)
      clear hw hb X2 ol U2
      go_wp2_with fail
      refine (runs22 lb _ _ _ (GS.midL (leds1 := []) X3.out).1 HLn.out).mono ?_
      rintro e x4 ⟨u4, rfl, hu, hb⟩
      have U4 := hid hu
      have X4 := hid (X3.out.below hb)
      clear hu hb X3
      go_wp2_with fail
      refine (runs22 mb _ _ _ (GS.midL (leds1 := [⟨true, lb, lv4, evk [] N⟩]) X4.out).1 HLn.out).mono ?_
      rintro e x5 ⟨u5, rfl, hu, hb⟩
      have U5 := hid hu
      have U4' := hid (U4.out.below hb)
      have X5 := hid (X4.out.below hb)
      clear hu hb X4 U4
      go_wp2_with fail
      refine (same14 _ _ _ _ _ U4'.out.reads U5.out.reads (by have := HLn.out; omega) (by have := HLn.out; omega)).mono ?_
      rw [decide_eq_true rfl]
      rintro e x6 ⟨rfl, d6, hw⟩
      have hb : Below x5.heap.size x5 x6 := by rw [hw]; exact below_drewN _ _
      have X6 := hid (X5.out.below hb)
      clear hw hb X5 U4' U5
      go_wp2
      go_ret
      refine ⟨rfl, ?_⟩
      rw [HB.out]
      exact X6.out.bel
    · have hn1 : (0 : Int) < n := by omega
      have HE : Hid (((m : Int) + (PN : Int)) / 168 + 1 + ((n : Int) - 1) / 168 = (N : Int)) := by have := HW.out; rw [if_neg hn0] at this; show ((m : Int) + (PN : Int)) / 168 + 1 + ((n : Int) - 1) / 168 = (N : Int); omega
      go_wp2_with fail
      refine (same_true _ _ fw _ _ _ ((L13.out.at (i := 0) rfl).reads.first fw (by omega)) (L13.out.at (i := 5) rfl).reads (by omega) (fun _ _ => rfl)).mono ?_
      rintro e x1 ⟨rfl, d1, hw⟩
      have hb : Below w13.heap.size w13 x1 := by rw [hw]; exact below_drewN _ _
      have X1 := hid (G13.out.below hb)
      clear hw hb L13 G13
      go_wp2_with fail
      refine (runs22 lb _ _ _ (GS.midL (leds1 := []) X1.out).1 HLn.out).mono ?_
      rintro e x2 ⟨u2, rfl, hu, hb⟩
      rw [EV.out] at hu
      have U2 := hid hu
      have X2 := hid (X1.out.below hb)
      clear hu hb X1
      go_wp2_with fail
      have ol := hid (own_run x2 (((m : Int) + (PN : Int)) / 168 + 1 + ((n : Int) - 1) / 168) (by omega) (by omega))
      refine (same14 _ _ [⟨3, 200, (N : Int)⟩] [⟨3, 200, ((m : Int) + (PN : Int)) / 168 + 1 + ((n : Int) - 1) / 168⟩] _ ((U2.out.alloc _).reads) ol.out.reads (by show 1 < 1000000000000000000; decide) (by show 1 < 1000000000000000000; decide)).mono ?_
      rw [decide_eq_true (by rw [HE.out])]
      rintro e x3 ⟨rfl, d3, hw⟩
      have hb : Below x2.heap.size x2 x3 := by rw [hw]; exact below_drew' (below_alloc x2 _) _
      have X3 := hid (X2.out.below hb)
      clear hw hb X2 ol U2
      go_wp2_with fail
      refine (runs22 lb _ _ _ (GS.midL (leds1 := []) X3.out).1 HLn.out).mono ?_
      rintro e x4 ⟨u4, rfl, hu, hb⟩
      have U4 := hid hu
      have X4 := hid (X3.out.below hb)
      clear hu hb X3
      go_wp2_with fail
      refine (runs22 mb _ _ _ (GS.midL (leds1 := [⟨true, lb, lv4, evk [] N⟩]) X4.out).1 HLn.out).mono ?_
      rintro e x5 ⟨u5, rfl, hu, hb⟩
      have U5 := hid hu
      have U4' := hid (U4.out.below hb)
      have X5 := hid (X4.out.below hb)
      clear hu hb X4 U4
      go_wp2_with fail
      refine (same14 _ _ _ _ _ U4'.out.reads U5.out.reads (by have := HLn.out; omega) (by have := HLn.out; omega)).mono ?_
      rw [decide_eq_true rfl]
      rintro e x6 ⟨rfl, d6, hw⟩
      have hb : Below x5.heap.size x5 x6 := by rw [hw]; exact below_drewN _ _
      have X6 := hid (X5.out.below hb)
      clear hw hb X5 U4' U5
      go_wp2
      go_ret
      refine ⟨rfl, ?_⟩
      rw [HB.out]
      exact X6.out.bel
set_option maxRecDepth 4000 in
set_option maxHeartbeats 4000000 in
theorem counts_t (pa qa xa : Option Addr) (a pc c qc m xc : Nat) (f h g : Nat → Int) (o n0 fw0 : Int) (w : World) (hp : By.RB w (.slice pa a pc) a f) (hq : By.RB w (.slice qa c qc) c h) (hx : By.RB w (.slice xa m xc) m g) (ho : 0 ≤ o ∧ o < 256) (hk : KT w) (hac : a + c + m ≤ 1048576) :
    Calls Tryd.prog 7 #[.bool true, .slice pa a pc, .slice qa c qc, .slice xa m xc, .int .u8 o, .int .i64 n0, .int .i64 fw0] w fun e w' => e = .returned (.bool true) ∧ Below w.heap.size w w' := by
  have HP := hid hp
  have HQ := hid hq
  have HX := hid hx
  have HO := hid ho
  have G0 := hid (GS.start w hk)
  clear hp hq hx hk ho
  go_enter Tryd.func7, Tryd.ntmps7
  go_wp2_with fail
  refine (awake1 w G0.out.kt).mono ?_
  rintro e w1 ⟨rfl, hb⟩
  have G1 := hid (G0.out.below hb)
  clear hb G0
  go_wp2_with fail
  refine (pickN n0 65537 (by omega) (by omega) w1).mono ?_
  rintro e w1 ⟨⟨n, hn, rfl⟩, rfl⟩
  go_wp2_with fail
  refine (pickN fw0 (n + 1) (by omega) (by omega) w1).mono ?_
  rintro e w1 ⟨⟨fw, hfw, rfl⟩, rfl⟩
  have hst : Str 256 136 := by unfold Str; decide
  have HT : Hid (∀ (f h g : Nat → Int) (k : Nat), k ≤ 65536 → tC 136 a f c h m g k = cnt 136 a c m k) := fun f h g k hk => tC_eq hst a c m k f h g hk
  obtain ⟨N, hN⟩ : ∃ N, cnt 136 a c m n = N := ⟨_, rfl⟩
  have hN1 : N ≤ 100000 := by rw [← hN, ← HT.out f h g n (by omega)]; exact tC_le hst a c f h m g n (by omega) (by omega)
  have hN0 : 1 ≤ N := by rw [← hN]; exact cnt_pos _ _ _ _ _
  have HN := hid hN
  have TK : Hid (∀ k : Nat, k ≤ 65536 → tk k = k ∧ tc k = 0) := fun k hk => ⟨if_neg (by omega), if_neg (by omega)⟩
  have TF : Hid (∀ k : Nat, k ≤ 65536 → tF 136 a f c h m g k = Z.say 136 (tY 136 a f c h m g)) := fun k hk => by funext i; exact if_neg (by omega)
  clear hst hN
  go_wp2_with fail
  refine (new9 w1).mono ?_
  rintro e w2 ⟨rfl, hl, hb⟩
  have G2 := hid (G1.out.addLed hb (o := true) hl)
  clear hl hb G1
  go_wp2_with fail
  refine (new9 w2).mono ?_
  rintro e w3 ⟨rfl, hl, hb⟩
  have G3 := hid (show GS w w.heap.size [] [⟨true, w1.heap.size, .slice none 0 0, evk [] 0⟩, ⟨true, w2.heap.size, .slice none 0 0, evk [] 0⟩] w3 from G2.out.addLed hb (o := true) hl)
  clear hl hb G2
  obtain ⟨B, hB⟩ : ∃ x, w.heap.size = x := ⟨_, rfl⟩
  obtain ⟨lb, hlb⟩ : ∃ x, w1.heap.size = x := ⟨_, rfl⟩
  obtain ⟨mb, hmb⟩ : ∃ x, w2.heap.size = x := ⟨_, rfl⟩
  have HB := hid hB
  rw [hB, hlb, hmb] at G3
  rw [hlb, hmb]
  clear hB hlb hmb
  have L3 := hid (LS.nil (w := w3) (B := B) G3.out.hB)
  go_wp2_with fail
  refine (c256_any a c m 0 f h g n _ _ _ (some lb) (SE ⟨true, lb, .slice none 0 0, evk [] 0⟩) w3 G3.out.kt (GS.no0 (leds1 := []) G3.out) (GS.no1 (leds1 := []) G3.out) (GS.lgP (leds1 := []) G3.out) (by omega) (fun w' hk' => HP.out.below (by rw [HB.out]; exact (GS.koL (leds1 := []) G3.out hk').2)) (fun w' hk' => HQ.out.below (by rw [HB.out]; exact (GS.koL (leds1 := []) G3.out hk').2)) (fun w' hk' => HX.out.below (by rw [HB.out]; exact (GS.koL (leds1 := []) G3.out hk').2)) (by omega) (by omega)).mono ?_
  rintro e w4 ⟨v4, rfl, ho, hlg, hkp⟩
  rw [(TK.out n (by omega)).2]
  rw [(TK.out n (by omega)).1, TF.out n (by omega)] at ho
  rw [Nat.zero_add, HT.out f h g n (by omega), HN.out] at hlg
  obtain ⟨a4, c4, rfl⟩ := own_slice ho
  have hc4 : n ≤ c4 := rb_cap ho.reads
  obtain ⟨lv4, hG, hko⟩ := GS.turnP (leds1 := []) G3.out hlg hkp
  have L4 := hid (L3.out.snocO hko hkp.size ho)
  have G4 := hid hG
  clear ho hlg hkp hG hko L3 G3
  go_wp2_with fail
  refine (fill1 _ a _ o HO.out w4 (HP.out.below (by rw [HB.out]; exact G4.out.bel)) (by omega)).mono ?_
  rintro e w5 ⟨v5, rfl, ho, hb⟩
  obtain ⟨a5, c5, rfl⟩ := own_slice ho
  have L5 := hid (L4.out.snoc hb ho)
  have G5 := hid (G4.out.below hb)
  clear ho hb L4 G4
  go_wp2_with fail
  refine (fill1 _ c _ o HO.out w5 (HQ.out.below (by rw [HB.out]; exact G5.out.bel)) (by omega)).mono ?_
  rintro e w6 ⟨v6, rfl, ho, hb⟩
  obtain ⟨a6, c6, rfl⟩ := own_slice ho
  have L6 := hid (L5.out.snoc hb ho)
  have G6 := hid (G5.out.below hb)
  clear ho hb L5 G5
  go_wp2_with fail
  refine (fill1 _ m _ o HO.out w6 (HX.out.below (by rw [HB.out]; exact G6.out.bel)) (by omega)).mono ?_
  rintro e w7 ⟨v7, rfl, ho, hb⟩
  obtain ⟨a7, c7, rfl⟩ := own_slice ho
  have L7 := hid (L6.out.snoc hb ho)
  have G7 := hid (G6.out.below hb)
  clear ho hb L6 G6
  go_wp2_with fail
  refine (c256_any a c m 0 (fun _ => o) (fun _ => o) (fun _ => o) n _ _ _ (some mb) (SE ⟨true, mb, .slice none 0 0, evk [] 0⟩) w7 G7.out.kt (GS.no0 (leds1 := [⟨true, lb, lv4, evk [] N⟩]) G7.out) (GS.no1 (leds1 := [⟨true, lb, lv4, evk [] N⟩]) G7.out) (GS.lgP (leds1 := [⟨true, lb, lv4, evk [] N⟩]) G7.out) (by omega) (fun w' hk' => ((GS.koL (leds1 := [⟨true, lb, lv4, evk [] N⟩]) G7.out hk').1.own (L7.out.at (i := 1) rfl)).reads) (fun w' hk' => ((GS.koL (leds1 := [⟨true, lb, lv4, evk [] N⟩]) G7.out hk').1.own (L7.out.at (i := 2) rfl)).reads) (fun w' hk' => ((GS.koL (leds1 := [⟨true, lb, lv4, evk [] N⟩]) G7.out hk').1.own (L7.out.at (i := 3) rfl)).reads) (by omega) (by omega)).mono ?_
  rintro e w8 ⟨v8, rfl, ho, hlg, hkp⟩
  rw [(TK.out n (by omega)).2]
  rw [Nat.zero_add, HT.out _ _ _ n (by omega), HN.out] at hlg
  obtain ⟨a8, c8, rfl⟩ := own_slice ho
  obtain ⟨mv8, hG, hko⟩ := GS.turnP (leds1 := [⟨true, lb, lv4, evk [] N⟩]) G7.out hlg hkp
  have L8 := hid (L7.out.snocO hko hkp.size ho)
  have G8 := hid hG
  clear ho hlg hkp hG hko L7 G7
  go_wp2_with fail
  refine (c256_any a c m 0 f h g fw _ _ _ none (fun _ => False) w8 G8.out.kt (fun e => e) (fun e => e) trivial (by omega) (fun w' hk' => HP.out.below (by rw [HB.out]; exact G8.out.bel.trans ((below_no hk').mono G8.out.hB))) (fun w' hk' => HQ.out.below (by rw [HB.out]; exact G8.out.bel.trans ((below_no hk').mono G8.out.hB))) (fun w' hk' => HX.out.below (by rw [HB.out]; exact G8.out.bel.trans ((below_no hk').mono G8.out.hB))) (by omega) (by omega)).mono ?_
  rintro e w9 ⟨v9, rfl, ho, -, hkp⟩
  rw [(TK.out fw (by omega)).2]
  rw [(TK.out fw (by omega)).1, TF.out fw (by omega)] at ho
  obtain ⟨a9, c9, rfl⟩ := own_slice ho
  have L9 := hid (L8.out.snoc (below_no hkp) ho)
  have G9 := hid (G8.out.below (below_no hkp))
  clear ho hkp L8 G8
  go_wp2_with fail
  refine (rate1 true w9).mono ?_
  rintro e w9 ⟨rfl, rfl⟩
  have Z9 := hid G9.out.hB
  have f4 : fw ≤ c4 := by omega
  have HLn : Hid ((evk [] N).length * 24 ≤ 140737488355328) := by
    have h1 := evk_len [] N
    have h3 : ([] : List Rn).length = 0 := rfl
    show (evk [] N).length * 24 ≤ 140737488355328
    omega
  have EV : Hid (evk [] N = [⟨3, 200, (N : Int)⟩]) := by
    obtain ⟨j, rfl⟩ : ∃ j, N = j + 1 := ⟨N - 1, by omega⟩
    exact evk_one j (by omega)
  by_cases h0 : a = 0 ∧ c = 0
  · have s0 : ¬ (0 : Int) < (a : Int) + (c : Int) := by omega
    have HW : Hid (N = m / 136 + 1 + (if n = 0 then 0 else (n - 1) / 136)) := by rw [← HN.out]; unfold cnt wrt; rw [if_pos h0]; rfl
    clear h0
    by_cases hn0 : n = 0
    · subst hn0
      have HE : Hid ((m : Int) / 136 + 1 = (N : Int)) := by have := HW.out; rw [if_pos rfl] at this; show (m : Int) / 136 + 1 = (N : Int); omega
      go_wp2_with fail
      refine (same_true _ _ fw _ _ _ ((L9.out.at (i := 0) rfl).reads.first fw (by omega)) (L9.out.at (i := 5) rfl).reads (by omega) (fun _ _ => rfl)).mono ?_
      rintro e x1 ⟨rfl, d1, hw⟩
      have hb : Below w9.heap.size w9 x1 := by rw [hw]; exact below_drewN _ _
      have X1 := hid (G9.out.below hb)
      clear hw hb L9 G9
      go_wp2_with fail
      refine (runs22 lb _ _ _ (GS.midL (leds1 := []) X1.out).1 HLn.out).mono ?_
      rintro e x2 ⟨u2, rfl, hu, hb⟩
      rw [EV.out] at hu
      have U2 := hid hu
      have X2 := hid (X1.out.below hb)
      clear hu hb X1
      go_wp2_with fail
      have ol := hid (own_run x2 ((m : Int) / 136 + 1) (by omega) (by omega))
      refine (same14 _ _ [⟨3, 200, (N : Int)⟩] [⟨3, 200, (m : Int) / 136 + 1⟩] _ ((U2.out.alloc _).reads) ol.out.reads (by show 1 < 1000000000000000000; decide) (by show 1 < 1000000000000000000; decide)).mono ?_
      rw [decide_eq_true (by rw [HE.out])]
      rintro e x3 ⟨rfl, d3, hw⟩
      have hb : Below x2.heap.size x2 x3 := by rw [hw]; exact below_drew' (below_alloc x2 _) _
      have X3 := hid (X2.out.below hb)
      clear hw hb X2 ol U2
      go_wp2_with fail
      refine (runs22 lb _ _ _ (GS.midL (leds1 := []) X3.out).1 HLn.out).mono ?_
      rintro e x4 ⟨u4, rfl, hu, hb⟩
      have U4 := hid hu
      have X4 := hid (X3.out.below hb)
      clear hu hb X3
      go_wp2_with fail
      refine (runs22 mb _ _ _ (GS.midL (leds1 := [⟨true, lb, lv4, evk [] N⟩]) X4.out).1 HLn.out).mono ?_
      rintro e x5 ⟨u5, rfl, hu, hb⟩
      have U5 := hid hu
      have U4' := hid (U4.out.below hb)
      have X5 := hid (X4.out.below hb)
      clear hu hb X4 U4
      go_wp2_with fail
      refine (same14 _ _ _ _ _ U4'.out.reads U5.out.reads (by have := HLn.out; omega) (by have := HLn.out; omega)).mono ?_
      rw [decide_eq_true rfl]
      rintro e x6 ⟨rfl, d6, hw⟩
      have hb : Below x5.heap.size x5 x6 := by rw [hw]; exact below_drewN _ _
      have X6 := hid (X5.out.below hb)
      clear hw hb X5 U4' U5
      go_wp2
      go_ret
      refine ⟨rfl, ?_⟩
      rw [HB.out]
      exact X6.out.bel
    · have hn1 : (0 : Int) < n := by omega
      have HE : Hid ((m : Int) / 136 + 1 + ((n : Int) - 1) / 136 = (N : Int)) := by have := HW.out; rw [if_neg hn0] at this; show (m : Int) / 136 + 1 + ((n : Int) - 1) / 136 = (N : Int); omega
      go_wp2_with fail
      refine (same_true _ _ fw _ _ _ ((L9.out.at (i := 0) rfl).reads.first fw (by omega)) (L9.out.at (i := 5) rfl).reads (by omega) (fun _ _ => rfl)).mono ?_
      rintro e x1 ⟨rfl, d1, hw⟩
      have hb : Below w9.heap.size w9 x1 := by rw [hw]; exact below_drewN _ _
      have X1 := hid (G9.out.below hb)
      clear hw hb L9 G9
      go_wp2_with fail
      refine (runs22 lb _ _ _ (GS.midL (leds1 := []) X1.out).1 HLn.out).mono ?_
      rintro e x2 ⟨u2, rfl, hu, hb⟩
      rw [EV.out] at hu
      have U2 := hid hu
      have X2 := hid (X1.out.below hb)
      clear hu hb X1
      go_wp2_with fail
      have ol := hid (own_run x2 ((m : Int) / 136 + 1 + ((n : Int) - 1) / 136) (by omega) (by omega))
      refine (same14 _ _ [⟨3, 200, (N : Int)⟩] [⟨3, 200, (m : Int) / 136 + 1 + ((n : Int) - 1) / 136⟩] _ ((U2.out.alloc _).reads) ol.out.reads (by show 1 < 1000000000000000000; decide) (by show 1 < 1000000000000000000; decide)).mono ?_
      rw [decide_eq_true (by rw [HE.out])]
      rintro e x3 ⟨rfl, d3, hw⟩
      have hb : Below x2.heap.size x2 x3 := by rw [hw]; exact below_drew' (below_alloc x2 _) _
      have X3 := hid (X2.out.below hb)
      clear hw hb X2 ol U2
      go_wp2_with fail
      refine (runs22 lb _ _ _ (GS.midL (leds1 := []) X3.out).1 HLn.out).mono ?_
      rintro e x4 ⟨u4, rfl, hu, hb⟩
      have U4 := hid hu
      have X4 := hid (X3.out.below hb)
      clear hu hb X3
      go_wp2_with fail
      refine (runs22 mb _ _ _ (GS.midL (leds1 := [⟨true, lb, lv4, evk [] N⟩]) X4.out).1 HLn.out).mono ?_
      rintro e x5 ⟨u5, rfl, hu, hb⟩
      have U5 := hid hu
      have U4' := hid (U4.out.below hb)
      have X5 := hid (X4.out.below hb)
      clear hu hb X4 U4
      go_wp2_with fail
      refine (same14 _ _ _ _ _ U4'.out.reads U5.out.reads (by have := HLn.out; omega) (by have := HLn.out; omega)).mono ?_
      rw [decide_eq_true rfl]
      rintro e x6 ⟨rfl, d6, hw⟩
      have hb : Below x5.heap.size x5 x6 := by rw [hw]; exact below_drewN _ _
      have X6 := hid (X5.out.below hb)
      clear hw hb X5 U4' U5
      go_wp2
      go_ret
      refine ⟨rfl, ?_⟩
      rw [HB.out]
      exact X6.out.bel
  · have s0 : (0 : Int) < (a : Int) + (c : Int) := by omega
    obtain ⟨PN, hPN⟩ : ∃ x, pN (tn a c) 136 = x := ⟨_, rfl⟩
    have hPN2 : PN ≤ a + c + 300 := by rw [← hPN]; exact pN_le a c 136 (by omega) (by omega)
    have HW : Hid (N = (m + PN) / 136 + 1 + (if n = 0 then 0 else (n - 1) / 136)) := by rw [← HN.out]; unfold cnt wrt; rw [if_neg h0, hPN]; rfl
    have HPN := hid hPN
    clear h0 hPN
    have hs1 := hid (sn_le' a)
    have hs2 := hid (sn_le' c)
    go_wp2_with fail
    refine (string1 a f _ w9 (HP.out.below (by rw [HB.out]; exact G9.out.bel)) (by omega)).mono ?_
    rintro e w10 ⟨v10, rfl, ho, hb⟩
    have O10 := hid ho
    have L10 := hid (L9.out.snoc hb ho)
    have G10 := hid (G9.out.below hb)
    have Z10 := hid hb.size
    clear ho hb L9 G9
    go_wp2_with fail
    refine (string1 c h _ w10 (HQ.out.below (by rw [HB.out]; exact G10.out.bel)) (by omega)).mono ?_
    rintro e w11 ⟨v11, rfl, ho, hb⟩
    have O11 := hid ho
    have O10' := hid (own_below O10.out hb)
    have L11 := hid (L10.out.below hb)
    have G11 := hid (G10.out.below hb)
    have Z11 := hid (Nat.le_trans Z10.out hb.size)
    clear ho hb L10 G10 O10
    go_wp2_with (at_builtin; go_must (refine wpList_cat rfl _ _ rfl w9.heap.size (sn a) (sn c) _ _ (sg a f) (sg c h) rfl O10'.out rfl O11.out.reads (by have := hs1.out; have := hs2.out; omega) Z11.out ?_))
    intro v12 w12 ho hg
    have O12 := hid (show By.Own w12 w9.heap.size v12 (tn a c) (tg a f c h) from ho)
    have L12 := hid (LS.grew L11.out hg)
    have G12 := hid (GS.over8 G11.out (own_mono O10'.out Z9.out) hg)
    clear ho hg L11 G11 O10' O11
    go_wp2_with fail
    refine (padOk (tn a c) 136 (tg a f c h) v12 w12 O12.out.reads (by have := hs1.out; have := hs2.out; unfold tn; omega) (by omega) (by omega)).mono ?_
    rintro e w13 ⟨v13, rfl, ho, hb⟩
    rw [HPN.out] at ho
    obtain ⟨a13, c13, rfl⟩ := own_slice ho
    have L13 := hid (L12.out.below hb)
    have G13 := hid (G12.out.below hb)
    clear ho hb L12 G12 O12
    by_cases hn0 : n = 0
    · subst hn0
      have HE : Hid (((m : Int) + (PN : Int)) / 136 + 1 = (N : Int)) := by have := HW.out; rw [if_pos rfl] at this; show ((m : Int) + (PN : Int)) / 136 + 1 = (N : Int); omega
      go_wp2_with fail
      refine (same_true _ _ fw _ _ _ ((L13.out.at (i := 0) rfl).reads.first fw (by omega)) (L13.out.at (i := 5) rfl).reads (by omega) (fun _ _ => rfl)).mono ?_
      rintro e x1 ⟨rfl, d1, hw⟩
      have hb : Below w13.heap.size w13 x1 := by rw [hw]; exact below_drewN _ _
      have X1 := hid (G13.out.below hb)
      clear hw hb L13 G13
      go_wp2_with fail
      refine (runs22 lb _ _ _ (GS.midL (leds1 := []) X1.out).1 HLn.out).mono ?_
      rintro e x2 ⟨u2, rfl, hu, hb⟩
      rw [EV.out] at hu
      have U2 := hid hu
      have X2 := hid (X1.out.below hb)
      clear hu hb X1
      go_wp2_with fail
      have ol := hid (own_run x2 (((m : Int) + (PN : Int)) / 136 + 1) (by omega) (by omega))
      refine (same14 _ _ [⟨3, 200, (N : Int)⟩] [⟨3, 200, ((m : Int) + (PN : Int)) / 136 + 1⟩] _ ((U2.out.alloc _).reads) ol.out.reads (by show 1 < 1000000000000000000; decide) (by show 1 < 1000000000000000000; decide)).mono ?_
      rw [decide_eq_true (by rw [HE.out])]
      rintro e x3 ⟨rfl, d3, hw⟩
      have hb : Below x2.heap.size x2 x3 := by rw [hw]; exact below_drew' (below_alloc x2 _) _
      have X3 := hid (X2.out.below hb)
      clear hw hb X2 ol U2
      go_wp2_with fail
      refine (runs22 lb _ _ _ (GS.midL (leds1 := []) X3.out).1 HLn.out).mono ?_
      rintro e x4 ⟨u4, rfl, hu, hb⟩
      have U4 := hid hu
      have X4 := hid (X3.out.below hb)
      clear hu hb X3
      go_wp2_with fail
      refine (runs22 mb _ _ _ (GS.midL (leds1 := [⟨true, lb, lv4, evk [] N⟩]) X4.out).1 HLn.out).mono ?_
      rintro e x5 ⟨u5, rfl, hu, hb⟩
      have U5 := hid hu
      have U4' := hid (U4.out.below hb)
      have X5 := hid (X4.out.below hb)
      clear hu hb X4 U4
      go_wp2_with fail
      refine (same14 _ _ _ _ _ U4'.out.reads U5.out.reads (by have := HLn.out; omega) (by have := HLn.out; omega)).mono ?_
      rw [decide_eq_true rfl]
      rintro e x6 ⟨rfl, d6, hw⟩
      have hb : Below x5.heap.size x5 x6 := by rw [hw]; exact below_drewN _ _
      have X6 := hid (X5.out.below hb)
      clear hw hb X5 U4' U5
      go_wp2
      go_ret
      refine ⟨rfl, ?_⟩
      rw [HB.out]
      exact X6.out.bel
    · have hn1 : (0 : Int) < n := by omega
      have HE : Hid (((m : Int) + (PN : Int)) / 136 + 1 + ((n : Int) - 1) / 136 = (N : Int)) := by have := HW.out; rw [if_neg hn0] at this; show ((m : Int) + (PN : Int)) / 136 + 1 + ((n : Int) - 1) / 136 = (N : Int); omega
      go_wp2_with fail
      refine (same_true _ _ fw _ _ _ ((L13.out.at (i := 0) rfl).reads.first fw (by omega)) (L13.out.at (i := 5) rfl).reads (by omega) (fun _ _ => rfl)).mono ?_
      rintro e x1 ⟨rfl, d1, hw⟩
      have hb : Below w13.heap.size w13 x1 := by rw [hw]; exact below_drewN _ _
      have X1 := hid (G13.out.below hb)
      clear hw hb L13 G13
      go_wp2_with fail
      refine (runs22 lb _ _ _ (GS.midL (leds1 := []) X1.out).1 HLn.out).mono ?_
      rintro e x2 ⟨u2, rfl, hu, hb⟩
      rw [EV.out] at hu
      have U2 := hid hu
      have X2 := hid (X1.out.below hb)
      clear hu hb X1
      go_wp2_with fail
      have ol := hid (own_run x2 (((m : Int) + (PN : Int)) / 136 + 1 + ((n : Int) - 1) / 136) (by omega) (by omega))
      refine (same14 _ _ [⟨3, 200, (N : Int)⟩] [⟨3, 200, ((m : Int) + (PN : Int)) / 136 + 1 + ((n : Int) - 1) / 136⟩] _ ((U2.out.alloc _).reads) ol.out.reads (by show 1 < 1000000000000000000; decide) (by show 1 < 1000000000000000000; decide)).mono ?_
      rw [decide_eq_true (by rw [HE.out])]
      rintro e x3 ⟨rfl, d3, hw⟩
      have hb : Below x2.heap.size x2 x3 := by rw [hw]; exact below_drew' (below_alloc x2 _) _
      have X3 := hid (X2.out.below hb)
      clear hw hb X2 ol U2
      go_wp2_with fail
      refine (runs22 lb _ _ _ (GS.midL (leds1 := []) X3.out).1 HLn.out).mono ?_
      rintro e x4 ⟨u4, rfl, hu, hb⟩
      have U4 := hid hu
      have X4 := hid (X3.out.below hb)
      clear hu hb X3
      go_wp2_with fail
      refine (runs22 mb _ _ _ (GS.midL (leds1 := [⟨true, lb, lv4, evk [] N⟩]) X4.out).1 HLn.out).mono ?_
      rintro e x5 ⟨u5, rfl, hu, hb⟩
      have U5 := hid hu
      have U4' := hid (U4.out.below hb)
      have X5 := hid (X4.out.below hb)
      clear hu hb X4 U4
      go_wp2_with fail
      refine (same14 _ _ _ _ _ U4'.out.reads U5.out.reads (by have := HLn.out; omega) (by have := HLn.out; omega)).mono ?_
      rw [decide_eq_true rfl]
      rintro e x6 ⟨rfl, d6, hw⟩
      have hb : Below x5.heap.size x5 x6 := by rw [hw]; exact below_drewN _ _
      have X6 := hid (X5.out.below hb)
      clear hw hb X5 U4' U5
      go_wp2
      go_ret
      refine ⟨rfl, ?_⟩
      rw [HB.out]
      exact X6.out.bel
theorem counts_walk (b : Bool) (pa qa xa : Option Addr) (a pc c qc m xc : Nat) (f h g : Nat → Int) (o n0 fw0 : Int) (w : World) (hp : By.RB w (.slice pa a pc) a f) (hq : By.RB w (.slice qa c qc) c h) (hx : By.RB w (.slice xa m xc) m g) (ho : 0 ≤ o ∧ o < 256) (hk : KT w) (hac : a + c + m ≤ 1048576) :
    Calls Tryd.prog 7 #[.bool b, .slice pa a pc, .slice qa c qc, .slice xa m xc, .int .u8 o, .int .i64 n0, .int .i64 fw0] w fun e w' => e = .returned (.bool true) ∧ Below w.heap.size w w' := by
  cases b
  · exact counts_f pa qa xa a pc c qc m xc f h g o n0 fw0 w hp hq hx ho hk hac
  · exact counts_t pa qa xa a pc c qc m xc f h g o n0 fw0 w hp hq hx ho hk hac
end Go.Proofs.YtjfjjhjajgodiaaDoor.Kc
