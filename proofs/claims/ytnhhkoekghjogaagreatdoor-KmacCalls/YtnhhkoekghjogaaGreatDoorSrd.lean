/- What a sponge of the program answers: Read. -/
import Derived.Test.YtnhhkoekghjogaaGreatDoorSop
namespace Go.Proofs.YtnhhkoekghjogaaGreatDoor.Kc
open Go.ChangeShapes Go.WideShapes Go.ChangeAt Go.RowKit
open Go.Proofs.YtnhhkoekghjogaaGreatDoor.By Go.Proofs.YtnhhkoekghjogaaGreatDoor.Wd
/-- What is told so far, noughts behind it. -/
def sayto (r : Nat) (y : Z) (j : Nat) : Nat → Int := fun i => if i < j then Z.say r y i else 0
theorem sayto_zero (r : Nat) (y : Z) : sayto r y 0 = fun _ => 0 := by funext i; unfold sayto; rw [if_neg (by omega)]
theorem sayto_all (r : Nat) (y : Z) (n : Nat) : bl n (sayto r y n) = bl n (Z.say r y) := bl_congr n _ _ (fun i hi => by unfold sayto; rw [if_pos hi])
theorem sayto_put (r : Nat) (y : Z) (n j k : Nat) (h : Nat → Int) (hk : j + k ≤ n) (he : ∀ i, i < k → Z.say r y (j + i) = h i) : put (bl n (sayto r y j)) j (bl k h) = bl n (sayto r y (j + k)) := by
  apply List.ext_getElem?
  intro i
  rw [put_get _ _ _ _ (by rw [bl_length, bl_length]; omega), bl_length]
  by_cases hi : i < n
  · rw [bl_get _ _ _ hi, bl_get _ _ _ hi]
    by_cases h2 : j ≤ i ∧ i < j + k
    · rw [if_pos h2, bl_get _ _ _ (by omega), ← he (i - j) (by omega)]
      unfold sayto
      rw [if_pos (by omega), show j + (i - j) = i from by omega]
    · rw [if_neg h2]
      unfold sayto
      by_cases h3 : i < j
      · rw [if_pos h3, if_pos (by omega)]
      · rw [if_neg h3, if_neg (by omega)]
  · rw [if_neg (by omega), List.getElem?_eq_none (by rw [bl_length]; omega), List.getElem?_eq_none (by rw [bl_length]; omega)]
theorem out_c_le (r : Nat) (y : Z) (j : Nat) : y.c ≤ (Z.out r y j).c := by
  induction j with
  | zero => exact Nat.le_refl _
  | succ j ih =>
    show y.c ≤ (Z.rdy r (Z.out r y j)).c
    unfold Z.rdy
    split
    · exact Nat.le_succ_of_le ih
    · exact ih
theorem out_c_up (r : Nat) (y : Z) (j : Nat) : (Z.out r y j).c ≤ y.c + j := by
  induction j with
  | zero => exact Nat.le_refl _
  | succ j ih =>
    show (Z.rdy r (Z.out r y j)).c ≤ _
    unfold Z.rdy
    split
    · show (Z.out r y j).c + 1 ≤ _; omega
    · omega
theorem evk_room2 {L : List Rn} (h : Pos L) (h1 : tot L ≤ 2305843009213693953) (h2 : L.length ≤ 10000001) (c : Nat) (hc : c ≤ 10000000) : Room (evk L c) := by
  have h3 := evk_len L c
  refine ⟨?_, by omega⟩
  rw [evk_tot h c (by omega)]; omega
theorem make_n (n : Nat) (h : n ≤ 65536) (w : World) : (Instr.makeSlice 22 (.int .i64 n) (.int .i64 n)).run Tryz.prog w = .ok (.slice (some ⟨w.heap.size, 0, none⟩) n n) (w.alloc (.cells (bl n (fun _ => 0)).toArray 5)) := by
  obtain ⟨i0, hi, hz0, hz1, hz2⟩ := info_parts info5
  have hr := run_make (P := Tryz.prog) w 22 5 i0 (.int .u8 0) Tryz.underlying22 hi hz0 .i64 .i64 n n (by omega) (by omega) (by rw [hz2]; omega) (by omega)
  have e : madeCells #[Value.int .u8 0] n = (bl n (fun _ => 0)).toArray := by rw [← bl_zero]
  simp only [Int.toNat_natCast, hz1, Nat.mul_one, Value.cells, e] at hr
  exact hr
set_option maxRecDepth 4000 in
set_option maxHeartbeats 8000000 in
theorem read_shut (b r n : Nat) (sf : Int) (y : Z) (lo : Option Nat) (L0 : List Rn) (S : Nat → Prop) (w : World) (hst : Sp w b r sf y true) (hk : KT w) (hS0 : ¬ S 0) (hS1 : ¬ S 1) (hSb : S b) (hl : LG S w w lo L0) (hp : Pos L0) (hmn : n ≤ 65536) (hroom : Big L0) :
    Calls Tryz.prog 58 #[.pointer (some ⟨b, 0, none⟩), lpv lo, .int .i64 n] w fun e w' => ∃ g, e = .returned (.tuple #[.slice (some ⟨g, 0, none⟩) n n, .int .i64 0]) ∧ w.heap.size ≤ g ∧ Sp w' b r sf (Z.out r y n) true ∧ Blk w' g (bl n (Z.say r y)) 5 ∧ LG S w w' lo (evk L0 ((Z.out r y n).c - y.c)) ∧ Kp S w w' := by
  have h0 := hst.c0
  have h3 := hst.cs
  have H0 := hid hst
  have HK := hid hk
  have HS : Hid (¬ S 0 ∧ ¬ S 1 ∧ S b) := ⟨hS0, hS1, hSb⟩
  have HL := hid hl
  have hr8 := hst.lo
  have h192 := hst.hi
  have mk := fun w => make_n n hmn w
  have n1 : ¬ (n : Int) < 0 := by omega
  have n2 : ¬ (65536 : Int) < n := by omega
  have HP := hid hp
  have HM : Hid (tot L0 ≤ 2305843009213693953 ∧ L0.length ≤ 10000001) := ⟨by have := hroom.1; omega, by have := hroom.2; omega⟩
  clear hst hk hS0 hS1 hSb hl hp hroom
  go_enter Tryz.func58, Tryz.ntmps58
  go_wp2_with (first | (go_at_call 71; refine (isNone_sp _ _ r h0 hr8).mono ?_; rintro e w ⟨rfl, rfl⟩))
  have SM := hid H0.out
  have LM := hid HL.out
  have PM := hid (Kp.refl S w)
  obtain ⟨g, hg⟩ : ∃ g, w.heap.size = g := ⟨_, rfl⟩
  have hgw : w.heap.size ≤ g := by rw [← hg]; exact PM.out.size
  have HG := hid hgw
  have OM := hid (Blk.new w (bl n (fun _ => 0)) 5)
  have SM1 := hid (SM.out.below (below_alloc w (.cells (bl n (fun _ => 0)).toArray 5)))
  have LM1 := hid (LM.out.below (below_alloc w (.cells (bl n (fun _ => 0)).toArray 5)))
  have PM1 := hid (PM.out.trans (Kp.of_below S (below_alloc w (.cells (bl n (fun _ => 0)).toArray 5))) (fun _ _ e => e))
  rw [hg] at OM
  rw [hg]
  obtain ⟨W1, hW1⟩ : ∃ x, w.alloc (.cells (bl n (fun _ => 0)).toArray 5) = x := ⟨_, rfl⟩
  rw [hW1] at OM SM1 LM1 PM1
  rw [hW1]
  clear hW1 hg hgw SM LM PM mk h0 h3
  have HOK := hid SM1.out.ok
  have HSF := hid SM1.out.sf
  go_loopw [9] (fun p wr => ∃ j A, j ≤ n ∧ p = .slice A (n - j) (n - j) ∧ (j < n → A = some ⟨g, j, none⟩) ∧ Sp wr b r sf (Z.out r y j) true ∧ Blk wr g (bl n (sayto r y j)) 5 ∧ LG S w wr lo (evk L0 ((Z.out r y j).c - y.c)) ∧ Kp S w wr) (fun p _ => slLen p)
  case atStart =>
    refine ⟨0, _, by omega, rfl, fun _ => rfl, SM1.out, ?_, ?_, PM1.out⟩
    · rw [sayto_zero]; exact OM.out
    · rw [show (Z.out r y 0).c - y.c = 0 from Nat.sub_self _]; exact LM1.out
  case round =>
    obtain ⟨j, A, hj, rfl, hA, hst, hob, hlg, hkp⟩ := hrel
    have HS1 := hid hst
    have HO1 := hid hob
    have HLG := hid hlg
    have HKP := hid hkp
    clear hst hob hlg hkp SM1 OM LM1 PM1
    by_cases hlt : j < n
    · obtain rfl := hA hlt
      clear hA
      have hlen : 0 < n - j := by omega
      have c0 := HS1.out.c0
      have cp := HS1.out.cp
      have HYP := hid ((HS1.out.ok.rdy (show 0 < r by omega)).o rfl)
      have HCB := hid (out_c_le r y j)
      have HCU := hid (out_c_up r y j)
      obtain ⟨x, hx⟩ : ∃ x, Z.out r y j = x := ⟨_, rfl⟩
      rw [hx] at HS1 HLG HYP cp HCB HCU
      obtain ⟨Y, hY⟩ : ∃ Y, Z.rdy r x = Y := ⟨_, rfl⟩
      rw [hY] at HYP
      have HY : Hid (Z.rdy r (Z.out r y j) = Y) := by rw [hx]; exact hY
      by_cases hfull : x.p = r
      · have he : (x.p : Int) = (r : Int) := by omega
        have eY : Y = ⟨psp x.f, 0, x.c + 1⟩ := by rw [← hY]; unfold Z.rdy; rw [if_pos hfull]; rfl
        have HEY := hid eY
        clear hx hY eY
        go_wp2_with fail
        go_region
        have B2 := hid (HS1.out.here.drewN 1)
        have L2 := hid (HLG.out.below (below_drewN wr 1))
        have K2 := hid (HKP.out.trans (Kp.of_below S (below_drewN wr 1)) (fun _ _ e => e))
        have O2 := hid (HO1.out.drewN 1)
        clear c0 cp HO1 HLG HKP
        go_wp2_with fail
        refine (permute_sp S w wr.drew lo _ b r sf _ _ true HS1.out.ok.b L2.out K2.out (evk_room2 HP.out HM.out.1 HM.out.2 _ (by have := HCU.out; omega)) HK.out HS.out.1 HS.out.2.1 HS.out.2.2 B2.out).mono ?_
        rintro e WX ⟨rfl, hb3, hl3, hp3, ht3⟩
        have HX : Hid (Blk WX b (spc r sf Y.f Y.p true) 109) := by rw [HEY.out]; exact hb3
        have LX : Hid (LG S w WX lo (evk L0 (Y.c - y.c))) := by
          rw [HEY.out]
          show LG S w WX lo (evk L0 (x.c + 1 - y.c))
          rw [show x.c + 1 - y.c = (x.c - y.c) + 1 from by have := HCB.out; omega]; exact hl3
        have PX := hid hp3
        have OX := hid (ht3 _ _ _ O2.out (by decide) (by decide) (by decide))
        clear hb3 hl3 hp3 ht3 B2 L2 K2 O2
        go_wp2_with fail
        refine (tell1 b r (n - j) g j (n - j) sf Y.f Y.p true _ WX HX.out (Nat.le_of_lt HYP.out) h192 OX.out (by rw [bl_length]; omega)).mono ?_
        rintro e w5 ⟨rfl, hb5, ho5, hk5⟩
        obtain ⟨K, hK⟩ : ∃ K, Nat.min (n - j) (r - Y.p) = K := ⟨_, rfl⟩
        rw [hK] at hb5 ho5
        rw [hK]
        have hyp := HYP.out
        have hK0 : 0 < K := by rw [← hK]; exact Nat.lt_min.2 ⟨by omega, by omega⟩
        have hK1 : K ≤ n - j := by rw [← hK]; exact Nat.min_le_left _ _
        have hK2 : K ≤ r - Y.p := by rw [← hK]; exact Nat.min_le_right _ _
        have B5 := hid hb5
        have O5 := hid ho5
        have P5 := hid (PX.out.trans hk5 (fun k hk e => by rcases e with e | e; rw [e]; exact HS.out.2.2; have := HG.out; omega))
        have L5 := hid (LX.out.kept hk5 (fun k e => by rcases e with e | e; subst e; exact ⟨_, _, HX.out, by decide, by decide⟩; subst e; exact ⟨_, _, OX.out, by decide, by decide⟩))
        clear hb5 ho5 hk5 hK HX OX LX PX
        have hk1' : (K : Int) ≤ ((n - j : Nat) : Int) := by omega
        go_wp2_with fail
        obtain ⟨A, eA, hA⟩ := sub_next g j (n - j) (n - j) K (by omega)
        have e3 : Z.out r y (j + K) = ⟨Y.f, Y.p + K, Y.c⟩ := by rw [out_add, out_rdy r _ K (by omega) hK0, HY.out, out_part r Y K (by omega)]
        refine ⟨⟨j + K, A, by omega, by rw [eA, Nat.sub_sub], fun h => by rw [hA (by omega)], ⟨by rw [e3]; exact B5.out, HOK.out.out (by omega) (j + K), hr8, h192, HSF.out⟩, ?_, ?_, P5.out⟩, by rw [eA]; simp [slLen]; omega⟩
        · rw [sayto_put r y n j K (fun i => Y.f (Y.p + i)) (by omega) (fun i hi => by rw [say_add, say_rdy r _ i (by omega), HY.out, say_part r Y i (by omega)])] at O5
          exact O5.out
        · rw [e3]; exact L5.out
      · have he : ¬ (x.p : Int) = (r : Int) := by omega
        have eY : Y = x := by rw [← hY]; unfold Z.rdy; rw [if_neg hfull]
        have HEY := hid eY
        clear hx hY eY
        go_wp2_with fail
        go_region
        have HX : Hid (Blk wr.drew b (spc r sf Y.f Y.p true) 109) := by rw [HEY.out]; exact HS1.out.here.drewN 1
        have LX : Hid (LG S w wr.drew lo (evk L0 (Y.c - y.c))) := by rw [HEY.out]; exact HLG.out.below (below_drewN wr 1)
        have PX : Hid (Kp S w wr.drew) := HKP.out.trans (Kp.of_below S (below_drewN wr 1)) (fun _ _ e => e)
        have OX : Hid (Blk wr.drew g (bl n (sayto r y j)) 5) := HO1.out.drewN 1
        obtain ⟨WX, hWX⟩ : ∃ x, wr.drew = x := ⟨_, rfl⟩
        rw [hWX] at HX LX PX OX
        rw [hWX]
        clear hWX c0 cp HO1 HLG HKP
        go_wp2_with fail
        refine (tell1 b r (n - j) g j (n - j) sf Y.f Y.p true _ WX HX.out (Nat.le_of_lt HYP.out) h192 OX.out (by rw [bl_length]; omega)).mono ?_
        rintro e w5 ⟨rfl, hb5, ho5, hk5⟩
        obtain ⟨K, hK⟩ : ∃ K, Nat.min (n - j) (r - Y.p) = K := ⟨_, rfl⟩
        rw [hK] at hb5 ho5
        rw [hK]
        have hyp := HYP.out
        have hK0 : 0 < K := by rw [← hK]; exact Nat.lt_min.2 ⟨by omega, by omega⟩
        have hK1 : K ≤ n - j := by rw [← hK]; exact Nat.min_le_left _ _
        have hK2 : K ≤ r - Y.p := by rw [← hK]; exact Nat.min_le_right _ _
        have B5 := hid hb5
        have O5 := hid ho5
        have P5 := hid (PX.out.trans hk5 (fun k hk e => by rcases e with e | e; rw [e]; exact HS.out.2.2; have := HG.out; omega))
        have L5 := hid (LX.out.kept hk5 (fun k e => by rcases e with e | e; subst e; exact ⟨_, _, HX.out, by decide, by decide⟩; subst e; exact ⟨_, _, OX.out, by decide, by decide⟩))
        clear hb5 ho5 hk5 hK HX OX LX PX
        have hk1' : (K : Int) ≤ ((n - j : Nat) : Int) := by omega
        go_wp2_with fail
        obtain ⟨A, eA, hA⟩ := sub_next g j (n - j) (n - j) K (by omega)
        have e3 : Z.out r y (j + K) = ⟨Y.f, Y.p + K, Y.c⟩ := by rw [out_add, out_rdy r _ K (by omega) hK0, HY.out, out_part r Y K (by omega)]
        refine ⟨⟨j + K, A, by omega, by rw [eA, Nat.sub_sub], fun h => by rw [hA (by omega)], ⟨by rw [e3]; exact B5.out, HOK.out.out (by omega) (j + K), hr8, h192, HSF.out⟩, ?_, ?_, P5.out⟩, by rw [eA]; simp [slLen]; omega⟩
        · rw [sayto_put r y n j K (fun i => Y.f (Y.p + i)) (by omega) (fun i hi => by rw [say_add, say_rdy r _ i (by omega), HY.out, say_part r Y i (by omega)])] at O5
          exact O5.out
        · rw [e3]; exact L5.out
    · have ej : j = n := by omega
      subst ej
      go_wp2
      go_ret2
      exact ⟨g, rfl, by have := HG.out; omega, HS1.out, by rw [sayto_all] at HO1; exact HO1.out, HLG.out, HKP.out⟩

set_option maxRecDepth 4000 in
set_option maxHeartbeats 8000000 in
theorem read_open (b r n : Nat) (sf : Int) (z y : Z) (lo : Option Nat) (L : List Rn) (S : Nat → Prop) (w : World) (hst : Sp w b r sf z false) (hk : KT w) (hS0 : ¬ S 0) (hS1 : ¬ S 1) (hSb : S b) (hl : LG S w w lo L) (hp : Pos L) (hmn : n ≤ 65536) (hroom : Big L) (L0 : List Rn) (ey : y = Z.fin r sf z) (eL : L0 = evk L 1) :
    Calls Tryz.prog 58 #[.pointer (some ⟨b, 0, none⟩), lpv lo, .int .i64 n] w fun e w' => ∃ g, e = .returned (.tuple #[.slice (some ⟨g, 0, none⟩) n n, .int .i64 0]) ∧ w.heap.size ≤ g ∧ Sp w' b r sf (Z.out r y n) true ∧ Blk w' g (bl n (Z.say r y)) 5 ∧ LG S w w' lo (evk L0 ((Z.out r y n).c - y.c)) ∧ Kp S w w' := by
  have h0 := hst.c0
  have h3 := hst.cs
  have H0 := hid hst
  have HK := hid hk
  have HS : Hid (¬ S 0 ∧ ¬ S 1 ∧ S b) := ⟨hS0, hS1, hSb⟩
  have HL := hid hl
  have hr8 := hst.lo
  have h192 := hst.hi
  have mk := fun w => make_n n hmn w
  have n1 : ¬ (n : Int) < 0 := by omega
  have n2 : ¬ (65536 : Int) < n := by omega
  have HP := hid (eL ▸ evk_pos hp 1 : Pos L0)
  have HM : Hid (tot L0 ≤ 2305843009213693953 ∧ L0.length ≤ 10000001) := by
    have e1 := evk_tot hp 1 (by have := hroom.1; omega)
    have e2 := evk_len L 1
    have e3 := hroom.1
    have e4 := hroom.2
    rw [eL]
    exact ⟨by omega, by omega⟩
  have HE := hid (end1 S w w lo L b r sf z.f z.p hst.ok.b (hst.ok.o rfl) hst.hi hl (Kp.refl _ _) ⟨by have := hroom.1; omega, by have := hroom.2; omega⟩ hk hS0 hS1 hSb hst.here)
  have EY := hid ey
  have EL := hid eL
  clear ey eL hst hk hS0 hS1 hSb hl hp hroom
  go_enter Tryz.func58, Tryz.ntmps58
  go_wp2_with (first | (go_at_call 71; refine (isNone_sp _ _ r h0 hr8).mono ?_; rintro e w ⟨rfl, rfl⟩))
  refine HE.out.mono ?_
  rintro e w1 ⟨rfl, hb1, hl1, hp1⟩
  have SM : Hid (Sp w1 b r sf y true) := ⟨by rw [EY.out]; exact hb1, by rw [EY.out]; exact Z.Ok.fin z true sf (by omega), H0.out.lo, H0.out.hi, H0.out.sf⟩
  have LM : Hid (LG S w w1 lo L0) := by rw [EL.out]; exact hl1
  have PM := hid hp1
  clear hb1 hl1 hp1 HE
  go_wp2_with fail
  obtain ⟨g, hg⟩ : ∃ g, w1.heap.size = g := ⟨_, rfl⟩
  have hgw : w.heap.size ≤ g := by rw [← hg]; exact PM.out.size
  have HG := hid hgw
  have OM := hid (Blk.new w1 (bl n (fun _ => 0)) 5)
  have SM1 := hid (SM.out.below (below_alloc w1 (.cells (bl n (fun _ => 0)).toArray 5)))
  have LM1 := hid (LM.out.below (below_alloc w1 (.cells (bl n (fun _ => 0)).toArray 5)))
  have PM1 := hid (PM.out.trans (Kp.of_below S (below_alloc w1 (.cells (bl n (fun _ => 0)).toArray 5))) (fun _ _ e => e))
  rw [hg] at OM
  rw [hg]
  obtain ⟨W1, hW1⟩ : ∃ x, w1.alloc (.cells (bl n (fun _ => 0)).toArray 5) = x := ⟨_, rfl⟩
  rw [hW1] at OM SM1 LM1 PM1
  rw [hW1]
  clear hW1 hg hgw SM LM PM mk h0 h3
  have HOK := hid SM1.out.ok
  have HSF := hid SM1.out.sf
  go_loopw [9] (fun p wr => ∃ j A, j ≤ n ∧ p = .slice A (n - j) (n - j) ∧ (j < n → A = some ⟨g, j, none⟩) ∧ Sp wr b r sf (Z.out r y j) true ∧ Blk wr g (bl n (sayto r y j)) 5 ∧ LG S w wr lo (evk L0 ((Z.out r y j).c - y.c)) ∧ Kp S w wr) (fun p _ => slLen p)
  case atStart =>
    refine ⟨0, _, by omega, rfl, fun _ => rfl, SM1.out, ?_, ?_, PM1.out⟩
    · rw [sayto_zero]; exact OM.out
    · rw [show (Z.out r y 0).c - y.c = 0 from Nat.sub_self _]; exact LM1.out
  case round =>
    obtain ⟨j, A, hj, rfl, hA, hst, hob, hlg, hkp⟩ := hrel
    have HS1 := hid hst
    have HO1 := hid hob
    have HLG := hid hlg
    have HKP := hid hkp
    clear hst hob hlg hkp SM1 OM LM1 PM1
    by_cases hlt : j < n
    · obtain rfl := hA hlt
      clear hA
      have hlen : 0 < n - j := by omega
      have c0 := HS1.out.c0
      have cp := HS1.out.cp
      have HYP := hid ((HS1.out.ok.rdy (show 0 < r by omega)).o rfl)
      have HCB := hid (out_c_le r y j)
      have HCU := hid (out_c_up r y j)
      obtain ⟨x, hx⟩ : ∃ x, Z.out r y j = x := ⟨_, rfl⟩
      rw [hx] at HS1 HLG HYP cp HCB HCU
      obtain ⟨Y, hY⟩ : ∃ Y, Z.rdy r x = Y := ⟨_, rfl⟩
      rw [hY] at HYP
      have HY : Hid (Z.rdy r (Z.out r y j) = Y) := by rw [hx]; exact hY
      by_cases hfull : x.p = r
      · have he : (x.p : Int) = (r : Int) := by omega
        have eY : Y = ⟨psp x.f, 0, x.c + 1⟩ := by rw [← hY]; unfold Z.rdy; rw [if_pos hfull]; rfl
        have HEY := hid eY
        clear hx hY eY
        go_wp2_with fail
        go_region
        have B2 := hid (HS1.out.here.drewN 1)
        have L2 := hid (HLG.out.below (below_drewN wr 1))
        have K2 := hid (HKP.out.trans (Kp.of_below S (below_drewN wr 1)) (fun _ _ e => e))
        have O2 := hid (HO1.out.drewN 1)
        clear c0 cp HO1 HLG HKP
        go_wp2_with fail
        refine (permute_sp S w wr.drew lo _ b r sf _ _ true HS1.out.ok.b L2.out K2.out (evk_room2 HP.out HM.out.1 HM.out.2 _ (by have := HCU.out; omega)) HK.out HS.out.1 HS.out.2.1 HS.out.2.2 B2.out).mono ?_
        rintro e WX ⟨rfl, hb3, hl3, hp3, ht3⟩
        have HX : Hid (Blk WX b (spc r sf Y.f Y.p true) 109) := by rw [HEY.out]; exact hb3
        have LX : Hid (LG S w WX lo (evk L0 (Y.c - y.c))) := by
          rw [HEY.out]
          show LG S w WX lo (evk L0 (x.c + 1 - y.c))
          rw [show x.c + 1 - y.c = (x.c - y.c) + 1 from by have := HCB.out; omega]; exact hl3
        have PX := hid hp3
        have OX := hid (ht3 _ _ _ O2.out (by decide) (by decide) (by decide))
        clear hb3 hl3 hp3 ht3 B2 L2 K2 O2
        go_wp2_with fail
        refine (tell1 b r (n - j) g j (n - j) sf Y.f Y.p true _ WX HX.out (Nat.le_of_lt HYP.out) h192 OX.out (by rw [bl_length]; omega)).mono ?_
        rintro e w5 ⟨rfl, hb5, ho5, hk5⟩
        obtain ⟨K, hK⟩ : ∃ K, Nat.min (n - j) (r - Y.p) = K := ⟨_, rfl⟩
        rw [hK] at hb5 ho5
        rw [hK]
        have hyp := HYP.out
        have hK0 : 0 < K := by rw [← hK]; exact Nat.lt_min.2 ⟨by omega, by omega⟩
        have hK1 : K ≤ n - j := by rw [← hK]; exact Nat.min_le_left _ _
        have hK2 : K ≤ r - Y.p := by rw [← hK]; exact Nat.min_le_right _ _
        have B5 := hid hb5
        have O5 := hid ho5
        have P5 := hid (PX.out.trans hk5 (fun k hk e => by rcases e with e | e; rw [e]; exact HS.out.2.2; have := HG.out; omega))
        have L5 := hid (LX.out.kept hk5 (fun k e => by rcases e with e | e; subst e; exact ⟨_, _, HX.out, by decide, by decide⟩; subst e; exact ⟨_, _, OX.out, by decide, by decide⟩))
        clear hb5 ho5 hk5 hK HX OX LX PX
        have hk1' : (K : Int) ≤ ((n - j : Nat) : Int) := by omega
        go_wp2_with fail
        obtain ⟨A, eA, hA⟩ := sub_next g j (n - j) (n - j) K (by omega)
        have e3 : Z.out r y (j + K) = ⟨Y.f, Y.p + K, Y.c⟩ := by rw [out_add, out_rdy r _ K (by omega) hK0, HY.out, out_part r Y K (by omega)]
        refine ⟨⟨j + K, A, by omega, by rw [eA, Nat.sub_sub], fun h => by rw [hA (by omega)], ⟨by rw [e3]; exact B5.out, HOK.out.out (by omega) (j + K), hr8, h192, HSF.out⟩, ?_, ?_, P5.out⟩, by rw [eA]; simp [slLen]; omega⟩
        · rw [sayto_put r y n j K (fun i => Y.f (Y.p + i)) (by omega) (fun i hi => by rw [say_add, say_rdy r _ i (by omega), HY.out, say_part r Y i (by omega)])] at O5
          exact O5.out
        · rw [e3]; exact L5.out
      · have he : ¬ (x.p : Int) = (r : Int) := by omega
        have eY : Y = x := by rw [← hY]; unfold Z.rdy; rw [if_neg hfull]
        have HEY := hid eY
        clear hx hY eY
        go_wp2_with fail
        go_region
        have HX : Hid (Blk wr.drew b (spc r sf Y.f Y.p true) 109) := by rw [HEY.out]; exact HS1.out.here.drewN 1
        have LX : Hid (LG S w wr.drew lo (evk L0 (Y.c - y.c))) := by rw [HEY.out]; exact HLG.out.below (below_drewN wr 1)
        have PX : Hid (Kp S w wr.drew) := HKP.out.trans (Kp.of_below S (below_drewN wr 1)) (fun _ _ e => e)
        have OX : Hid (Blk wr.drew g (bl n (sayto r y j)) 5) := HO1.out.drewN 1
        obtain ⟨WX, hWX⟩ : ∃ x, wr.drew = x := ⟨_, rfl⟩
        rw [hWX] at HX LX PX OX
        rw [hWX]
        clear hWX c0 cp HO1 HLG HKP
        go_wp2_with fail
        refine (tell1 b r (n - j) g j (n - j) sf Y.f Y.p true _ WX HX.out (Nat.le_of_lt HYP.out) h192 OX.out (by rw [bl_length]; omega)).mono ?_
        rintro e w5 ⟨rfl, hb5, ho5, hk5⟩
        obtain ⟨K, hK⟩ : ∃ K, Nat.min (n - j) (r - Y.p) = K := ⟨_, rfl⟩
        rw [hK] at hb5 ho5
        rw [hK]
        have hyp := HYP.out
        have hK0 : 0 < K := by rw [← hK]; exact Nat.lt_min.2 ⟨by omega, by omega⟩
        have hK1 : K ≤ n - j := by rw [← hK]; exact Nat.min_le_left _ _
        have hK2 : K ≤ r - Y.p := by rw [← hK]; exact Nat.min_le_right _ _
        have B5 := hid hb5
        have O5 := hid ho5
        have P5 := hid (PX.out.trans hk5 (fun k hk e => by rcases e with e | e; rw [e]; exact HS.out.2.2; have := HG.out; omega))
        have L5 := hid (LX.out.kept hk5 (fun k e => by rcases e with e | e; subst e; exact ⟨_, _, HX.out, by decide, by decide⟩; subst e; exact ⟨_, _, OX.out, by decide, by decide⟩))
        clear hb5 ho5 hk5 hK HX OX LX PX
        have hk1' : (K : Int) ≤ ((n - j : Nat) : Int) := by omega
        go_wp2_with fail
        obtain ⟨A, eA, hA⟩ := sub_next g j (n - j) (n - j) K (by omega)
        have e3 : Z.out r y (j + K) = ⟨Y.f, Y.p + K, Y.c⟩ := by rw [out_add, out_rdy r _ K (by omega) hK0, HY.out, out_part r Y K (by omega)]
        refine ⟨⟨j + K, A, by omega, by rw [eA, Nat.sub_sub], fun h => by rw [hA (by omega)], ⟨by rw [e3]; exact B5.out, HOK.out.out (by omega) (j + K), hr8, h192, HSF.out⟩, ?_, ?_, P5.out⟩, by rw [eA]; simp [slLen]; omega⟩
        · rw [sayto_put r y n j K (fun i => Y.f (Y.p + i)) (by omega) (fun i hi => by rw [say_add, say_rdy r _ i (by omega), HY.out, say_part r Y i (by omega)])] at O5
          exact O5.out
        · rw [e3]; exact L5.out
    · have ej : j = n := by omega
      subst ej
      go_wp2
      go_ret2
      exact ⟨g, rfl, by have := HG.out; omega, HS1.out, by rw [sayto_all] at HO1; exact HO1.out, HLG.out, HKP.out⟩

end Go.Proofs.YtnhhkoekghjogaaGreatDoor.Kc
