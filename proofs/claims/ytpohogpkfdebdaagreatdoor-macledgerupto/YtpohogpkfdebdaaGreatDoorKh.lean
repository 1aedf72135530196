/- What a sponge of the program answers: Read. What a sponge of the program answers: Read refused, Clone, Wipe, Form. -/
import Derived.Test.YtpohogpkfdebdaaGreatDoorKg
namespace Go.Proofs.YtpohogpkfdebdaaGreatDoor.Kc
open Go.ChangeShapes Go.WideShapes Go.ChangeAt Go.RowKit
open Go.Proofs.YtpohogpkfdebdaaGreatDoor.By Go.Proofs.YtpohogpkfdebdaaGreatDoor.Wd
/-- What is told so far, noughts behind it. -/
def sayto (r : Nat) (y : Z) (j : Nat) : Nat → Int := fun i => if i < j then Z.say r y i else 0
theorem sayto_zero (r : Nat) (y : Z) : sayto r y 0 = fun _ => 0 := by funext i; unfold sayto; rw [if_neg (by omega)]
theorem sayto_all (r : Nat) (y : Z) (n : Nat) : bl n (sayto r y n) = bl n (Z.say r y) := bl_congr n _ _ (fun i hi => by unfold sayto; rw [if_pos hi])
theorem sayto_put (r : Nat) (y : Z) (n j k : Nat) (h : Nat → Int) (hk : j + k ≤ n) (he : ∀ i, i < k → Z.say r y (j + i) = h i) : put (bl n (sayto r y j)) j (bl k h) = bl n (sayto r y (j + k)) := by
  apply List.ext_getElem?
  intro i
  rw [put_get _ _ _ _ (by rw [bl_length, bl_length]; omega), bl_length]
  by_cases hi : i < n
  · rw [bl_get _ _ _ hi, bl_get _ _ _ hi]
    by_cases h2 : j ≤ i ∧ i < j + k
    · rw [if_pos h2, bl_get _ _ _ (by omega), ← he (i - j) (by omega)]
      unfold sayto
      rw [if_pos (by omega), show j + (i - j) = i from by omega]
    · rw [if_neg h2]
      unfold sayto
      by_cases h3 : i < j
      · rw [if_pos h3, if_pos (by omega)]
      · rw [if_neg h3, if_neg (by omega)]
  · rw [if_neg (by omega), List.getElem?_eq_none (by rw [bl_length]; omega), List.getElem?_eq_none (by rw [bl_length]; omega)]
theorem out_c_le (r : Nat) (y : Z) (j : Nat) : y.c ≤ (Z.out r y j).c := by
  induction j with
  | zero => exact Nat.le_refl _
  | succ j ih =>
    show y.c ≤ (Z.rdy r (Z.out r y j)).c
    unfold Z.rdy
    split
    · exact Nat.le_succ_of_le ih
    · exact ih
theorem out_c_up (r : Nat) (y : Z) (j : Nat) : (Z.out r y j).c ≤ y.c + j := by
  induction j with
  | zero => exact Nat.le_refl _
  | succ j ih =>
    show (Z.rdy r (Z.out r y j)).c ≤ _
    unfold Z.rdy
    split
    · show (Z.out r y j).c + 1 ≤ _; omega
    · omega
theorem evk_room2 {L : List Rn} (h : Pos L) (h1 : tot L ≤ 2305843009213693953) (h2 : L.length ≤ 10000001) (c : Nat) (hc : c ≤ 10000000) : Room (evk L c) := by
  have h3 := evk_len L c
  refine ⟨?_, by omega⟩
  rw [evk_tot h c (by omega)]; omega
theorem make_n (n : Nat) (h : n ≤ 65536) (w : World) : (Instr.makeSlice 23 (.int .i64 n) (.int .i64 n)).run Tryz.prog w = .ok (.slice (some ⟨w.heap.size, 0, none⟩) n n) (w.alloc (.cells (bl n (fun _ => 0)).toArray 5)) := by
  obtain ⟨i0, hi, hz0, hz1, hz2⟩ := info_parts info5
  have hr := run_make (P := Tryz.prog) w 23 5 i0 (.int .u8 0) Tryz.underlying23 hi hz0 .i64 .i64 n n (by omega) (by omega) (by rw [hz2]; omega) (by omega)
  have e : madeCells #[Value.int .u8 0] n = (bl n (fun _ => 0)).toArray := by rw [← bl_zero]
  simp only [Int.toNat_natCast, hz1, Nat.mul_one, Value.cells, e] at hr
  exact hr
set_option maxRecDepth 4000 in
set_option maxHeartbeats 8000000 in
theorem read_open (b r n : Nat) (sf : Int) (z y : Z) (lo : Option Nat) (L : List Rn) (S : Nat → Prop) (w : World) (hst : Sp w b r sf z false) (hk : KT w) (hS0 : ¬ S 2) (hS1 : ¬ S 4) (hSb : S b) (hl : LG S w w lo L) (hp : Pos L) (hmn : n ≤ 65536) (hroom : Big L) (L0 : List Rn) (ey : y = Z.fin r sf z) (eL : L0 = evk L 1) :
    Calls Tryz.prog 220 #[.pointer (some ⟨b, 0, none⟩), lpv lo, .int .i64 n] w fun e w' => ∃ g, e = .returned (.tuple #[.slice (some ⟨g, 0, none⟩) n n, .int .i64 0]) ∧ w.heap.size ≤ g ∧ Sp w' b r sf (Z.out r y n) true ∧ Blk w' g (bl n (Z.say r y)) 5 ∧ LG S w w' lo (evk L0 ((Z.out r y n).c - y.c)) ∧ Kp S w w' := by
  have h0 := hst.c0
  have h3 := hst.cs
  have H0 := hid hst
  have HK := hid hk
  have HS : Hid (¬ S 2 ∧ ¬ S 4 ∧ S b) := ⟨hS0, hS1, hSb⟩
  have HL := hid hl
  have hr8 := hst.lo
  have h192 := hst.hi
  have mk := fun w => make_n n hmn w
  have n1 : ¬ (n : Int) < 0 := by omega
  have n2 : ¬ (65536 : Int) < n := by omega
  have HP := hid (eL ▸ evk_pos hp 1 : Pos L0)
  have HM : Hid (tot L0 ≤ 2305843009213693953 ∧ L0.length ≤ 10000001) := by
    have e1 := evk_tot hp 1 (by have := hroom.1; omega)
    have e2 := evk_len L 1
    have e3 := hroom.1
    have e4 := hroom.2
    rw [eL]
    exact ⟨by omega, by omega⟩
  have HE := hid (end1 S w w lo L b r sf z.f z.p hst.ok.b (hst.ok.o rfl) hst.hi hl (Kp.refl _ _) ⟨by have := hroom.1; omega, by have := hroom.2; omega⟩ hk hS0 hS1 hSb hst.here)
  have EY := hid ey
  have EL := hid eL
  clear ey eL hst hk hS0 hS1 hSb hl hp hroom
  go_enter Tryz.func220, Tryz.ntmps220
  go_wp2_with (first | (go_at_call 213; refine (isNone_sp _ _ r h0 hr8).mono ?_; rintro e w ⟨rfl, rfl⟩))
  refine HE.out.mono ?_
  rintro e w1 ⟨rfl, hb1, hl1, hp1⟩
  have SM : Hid (Sp w1 b r sf y true) := ⟨by rw [EY.out]; exact hb1, by rw [EY.out]; exact Z.Ok.fin z true sf (by omega), H0.out.lo, H0.out.hi, H0.out.sf⟩
  have LM : Hid (LG S w w1 lo L0) := by rw [EL.out]; exact hl1
  have PM := hid hp1
  clear hb1 hl1 hp1 HE
  go_wp2_with fail
  obtain ⟨g, hg⟩ : ∃ g, w1.heap.size = g := ⟨_, rfl⟩
  have hgw : w.heap.size ≤ g := by rw [← hg]; exact PM.out.size
  have HG := hid hgw
  have OM := hid (Blk.new w1 (bl n (fun _ => 0)) 5)
  have SM1 := hid (SM.out.below (below_alloc w1 (.cells (bl n (fun _ => 0)).toArray 5)))
  have LM1 := hid (LM.out.below (below_alloc w1 (.cells (bl n (fun _ => 0)).toArray 5)))
  have PM1 := hid (PM.out.trans (Kp.of_below S (below_alloc w1 (.cells (bl n (fun _ => 0)).toArray 5))) (fun _ _ e => e))
  rw [hg] at OM
  rw [hg]
  obtain ⟨W1, hW1⟩ : ∃ x, w1.alloc (.cells (bl n (fun _ => 0)).toArray 5) = x := ⟨_, rfl⟩
  rw [hW1] at OM SM1 LM1 PM1
  rw [hW1]
  clear hW1 hg hgw SM LM PM mk h0 h3
  have HOK := hid SM1.out.ok
  have HSF := hid SM1.out.sf
  go_loopw [9] (fun p wr => ∃ j A, j ≤ n ∧ p = .slice A (n - j) (n - j) ∧ (j < n → A = some ⟨g, j, none⟩) ∧ Sp wr b r sf (Z.out r y j) true ∧ Blk wr g (bl n (sayto r y j)) 5 ∧ LG S w wr lo (evk L0 ((Z.out r y j).c - y.c)) ∧ Kp S w wr) (fun p _ => slLen p)
  case atStart =>
    refine ⟨0, _, by omega, rfl, fun _ => rfl, SM1.out, ?_, ?_, PM1.out⟩
    · rw [sayto_zero]; exact OM.out
    · rw [show (Z.out r y 0).c - y.c = 0 from Nat.sub_self _]; exact LM1.out
  case round =>
    obtain ⟨j, A, hj, rfl, hA, hst, hob, hlg, hkp⟩ := hrel
    have HS1 := hid hst
    have HO1 := hid hob
    have HLG := hid hlg
    have HKP := hid hkp
    clear hst hob hlg hkp SM1 OM LM1 PM1
    by_cases hlt : j < n
    · obtain rfl := hA hlt
      clear hA
      have hlen : 0 < n - j := by omega
      have c0 := HS1.out.c0
      have cp := HS1.out.cp
      have HYP := hid ((HS1.out.ok.rdy (show 0 < r by omega)).o rfl)
      have HCB := hid (out_c_le r y j)
      have HCU := hid (out_c_up r y j)
      obtain ⟨x, hx⟩ : ∃ x, Z.out r y j = x := ⟨_, rfl⟩
      rw [hx] at HS1 HLG HYP cp HCB HCU
      obtain ⟨Y, hY⟩ : ∃ Y, Z.rdy r x = Y := ⟨_, rfl⟩
      rw [hY] at HYP
      have HY : Hid (Z.rdy r (Z.out r y j) = Y) := by rw [hx]; exact hY
      by_cases hfull : x.p = r
      · have he : (x.p : Int) = (r : Int) := by omega
        have eY : Y = ⟨psp x.f, 0, x.c + 1⟩ := by rw [← hY]; unfold Z.rdy; rw [if_pos hfull]; rfl
        have HEY := hid eY
        clear hx hY eY
        go_wp2_with fail
        go_region
        have B2 := hid (HS1.out.here.drewN 1)
        have L2 := hid (HLG.out.below (below_drewN wr 1))
        have K2 := hid (HKP.out.trans (Kp.of_below S (below_drewN wr 1)) (fun _ _ e => e))
        have O2 := hid (HO1.out.drewN 1)
        clear c0 cp HO1 HLG HKP
        go_wp2_with fail
        refine (permute_sp S w wr.drew lo _ b r sf _ _ true HS1.out.ok.b L2.out K2.out (evk_room2 HP.out HM.out.1 HM.out.2 _ (by have := HCU.out; omega)) HK.out HS.out.1 HS.out.2.1 HS.out.2.2 B2.out).mono ?_
        rintro e WX ⟨rfl, hb3, hl3, hp3, ht3⟩
        have HX : Hid (Blk WX b (spc r sf Y.f Y.p true) 241) := by rw [HEY.out]; exact hb3
        have LX : Hid (LG S w WX lo (evk L0 (Y.c - y.c))) := by
          rw [HEY.out]
          show LG S w WX lo (evk L0 (x.c + 1 - y.c))
          rw [show x.c + 1 - y.c = (x.c - y.c) + 1 from by have := HCB.out; omega]; exact hl3
        have PX := hid hp3
        have OX := hid (ht3 _ _ _ O2.out (by decide) (by decide) (by decide))
        clear hb3 hl3 hp3 ht3 B2 L2 K2 O2
        go_wp2_with fail
        refine (tell1 b r (n - j) g j (n - j) sf Y.f Y.p true _ WX HX.out (Nat.le_of_lt HYP.out) h192 OX.out (by rw [bl_length]; omega)).mono ?_
        rintro e w5 ⟨rfl, hb5, ho5, hk5⟩
        obtain ⟨K, hK⟩ : ∃ K, Nat.min (n - j) (r - Y.p) = K := ⟨_, rfl⟩
        rw [hK] at hb5 ho5
        rw [hK]
        have hyp := HYP.out
        have hK0 : 0 < K := by rw [← hK]; exact Nat.lt_min.2 ⟨by omega, by omega⟩
        have hK1 : K ≤ n - j := by rw [← hK]; exact Nat.min_le_left _ _
        have hK2 : K ≤ r - Y.p := by rw [← hK]; exact Nat.min_le_right _ _
        have B5 := hid hb5
        have O5 := hid ho5
        have P5 := hid (PX.out.trans hk5 (fun k hk e => by rcases e with e | e; rw [e]; exact HS.out.2.2; have := HG.out; omega))
        have L5 := hid (LX.out.kept hk5 (fun k e => by rcases e with e | e; subst e; exact ⟨_, _, HX.out, by decide, by decide⟩; subst e; exact ⟨_, _, OX.out, by decide, by decide⟩))
        clear hb5 ho5 hk5 hK HX OX LX PX
        have hk1' : (K : Int) ≤ ((n - j : Nat) : Int) := by omega
        go_wp2_with fail
        obtain ⟨A, eA, hA⟩ := sub_next g j (n - j) (n - j) K (by omega)
        have e3 : Z.out r y (j + K) = ⟨Y.f, Y.p + K, Y.c⟩ := by rw [out_add, out_rdy r _ K (by omega) hK0, HY.out, out_part r Y K (by omega)]
        refine ⟨⟨j + K, A, by omega, by rw [eA, Nat.sub_sub], fun h => by rw [hA (by omega)], ⟨by rw [e3]; exact B5.out, HOK.out.out (by omega) (j + K), hr8, h192, HSF.out⟩, ?_, ?_, P5.out⟩, by rw [eA]; simp [slLen]; omega⟩
        · rw [sayto_put r y n j K (fun i => Y.f (Y.p + i)) (by omega) (fun i hi => by rw [say_add, say_rdy r _ i (by omega), HY.out, say_part r Y i (by omega)])] at O5
          exact O5.out
        · rw [e3]; exact L5.out
      · have he : ¬ (x.p : Int) = (r : Int) := by omega
        have eY : Y = x := by rw [← hY]; unfold Z.rdy; rw [if_neg hfull]
        have HEY := hid eY
        clear hx hY eY
        go_wp2_with fail
        go_region
        have HX : Hid (Blk wr.drew b (spc r sf Y.f Y.p true) 241) := by rw [HEY.out]; exact HS1.out.here.drewN 1
        have LX : Hid (LG S w wr.drew lo (evk L0 (Y.c - y.c))) := by rw [HEY.out]; exact HLG.out.below (below_drewN wr 1)
        have PX : Hid (Kp S w wr.drew) := HKP.out.trans (Kp.of_below S (below_drewN wr 1)) (fun _ _ e => e)
        have OX : Hid (Blk wr.drew g (bl n (sayto r y j)) 5) := HO1.out.drewN 1
        obtain ⟨WX, hWX⟩ : ∃ x, wr.drew = x := ⟨_, rfl⟩
        rw [hWX] at HX LX PX OX
        rw [hWX]
        clear hWX c0 cp HO1 HLG HKP
        go_wp2_with fail
        refine (tell1 b r (n - j) g j (n - j) sf Y.f Y.p true _ WX HX.out (Nat.le_of_lt HYP.out) h192 OX.out (by rw [bl_length]; omega)).mono ?_
        rintro e w5 ⟨rfl, hb5, ho5, hk5⟩
        obtain ⟨K, hK⟩ : ∃ K, Nat.min (n - j) (r - Y.p) = K := ⟨_, rfl⟩
        rw [hK] at hb5 ho5
        rw [hK]
        have hyp := HYP.out
        have hK0 : 0 < K := by rw [← hK]; exact Nat.lt_min.2 ⟨by omega, by omega⟩
        have hK1 : K ≤ n - j := by rw [← hK]; exact Nat.min_le_left _ _
        have hK2 : K ≤ r - Y.p := by rw [← hK]; exact Nat.min_le_right _ _
        have B5 := hid hb5
        have O5 := hid ho5
        have P5 := hid (PX.out.trans hk5 (fun k hk e => by rcases e with e | e; rw [e]; exact HS.out.2.2; have := HG.out; omega))
        have L5 := hid (LX.out.kept hk5 (fun k e => by rcases e with e | e; subst e; exact ⟨_, _, HX.out, by decide, by decide⟩; subst e; exact ⟨_, _, OX.out, by decide, by decide⟩))
        clear hb5 ho5 hk5 hK HX OX LX PX
        have hk1' : (K : Int) ≤ ((n - j : Nat) : Int) := by omega
        go_wp2_with fail
        obtain ⟨A, eA, hA⟩ := sub_next g j (n - j) (n - j) K (by omega)
        have e3 : Z.out r y (j + K) = ⟨Y.f, Y.p + K, Y.c⟩ := by rw [out_add, out_rdy r _ K (by omega) hK0, HY.out, out_part r Y K (by omega)]
        refine ⟨⟨j + K, A, by omega, by rw [eA, Nat.sub_sub], fun h => by rw [hA (by omega)], ⟨by rw [e3]; exact B5.out, HOK.out.out (by omega) (j + K), hr8, h192, HSF.out⟩, ?_, ?_, P5.out⟩, by rw [eA]; simp [slLen]; omega⟩
        · rw [sayto_put r y n j K (fun i => Y.f (Y.p + i)) (by omega) (fun i hi => by rw [say_add, say_rdy r _ i (by omega), HY.out, say_part r Y i (by omega)])] at O5
          exact O5.out
        · rw [e3]; exact L5.out
    · have ej : j = n := by omega
      subst ej
      go_wp2
      go_ret2
      exact ⟨g, rfl, by have := HG.out; omega, HS1.out, by rw [sayto_all] at HO1; exact HO1.out, HLG.out, HKP.out⟩

end Go.Proofs.YtpohogpkfdebdaaGreatDoor.Kc
namespace Go.Proofs.YtpohogpkfdebdaaGreatDoor.Kc
open Go.ChangeShapes Go.WideShapes Go.ChangeAt Go.RowKit
open Go.Proofs.YtpohogpkfdebdaaGreatDoor.By Go.Proofs.YtpohogpkfdebdaaGreatDoor.Wd
def LDs (a : Addr) : Sem Value := loadVar 241 a
def SVs (a : Addr) (v : Value) : Sem Unit := storeVar 241 a v
@[go_sem ↓ high] theorem lds (a : Addr) : loadVar 241 a = LDs a := rfl
@[go_sem ↓ high] theorem svs (a : Addr) (v : Value) : storeVar 241 a v = SVs a v := rfl
theorem infos : (Tryz.prog.info? 241).map (·.size) = some 204 := by kernel_rfl
theorem LDs_run {w : World} {g o : Nat} {cs : List Value} (h : w.rangeAt g o cs) (hl : cs.length = 204) : (LDs ⟨g, o, none⟩).run Tryz.prog w = .ok (.agg cs.toArray) w :=
  run_loadVar_mid w g o _ cs _ h Tryz.underlying241 rfl (by rw [hl]; exact infos)
theorem SVs_run {w : World} {g o : Nat} {cs : List Value} (h : w.there g o 204) (hl : cs.length = 204) (h1 : ∀ u ∈ cs, u.oneCell' = true) : (SVs ⟨g, o, none⟩ (.agg cs.toArray)).run Tryz.prog w = .ok () (w.setCells g o cs) :=
  run_storeVar_mid w g o _ cs.toArray (by simpa [hl] using h) (by simpa [hl] using infos) (all_oneCell_toArray h1)
/-- The cells of the zero sponge. -/
def zsp : List Value := spc 0 0 (fun _ => 0) 0 false
set_option maxRecDepth 4000 in
theorem clone_sp (b r : Nat) (sf : Int) (z : Z) (sh : Bool) (w : World) (h : Sp w b r sf z sh) :
    Calls Tryz.prog 218 #[.pointer (some ⟨b, 0, none⟩)] w fun e w' => e = .returned (.tuple #[.pointer (some ⟨w.heap.size, 0, none⟩), .int .i64 0]) ∧ Sp w' w.heap.size r sf z sh ∧ Below w.heap.size w w' := by
  have H := hid h
  have h0 := h.c0
  have hr8 := h.lo
  have x1 := LDs_run (h.here.range 0 (spc r sf z.f z.p sh) (fun j v hj => by rw [Nat.zero_add]; exact hj)) (spc_length _ _ _ _ _)
  have bn := Blk.newAt w Tryz.zeroCells241 zsp 241 w.heap.size rfl zero_sp
  have x2 := SVs_run (cs := spc r sf z.f z.p sh) (bn.there 0 204 (by rw [zsp, spc_length]; omega)) (spc_length _ _ _ _ _) (spc_one _ _ _ _ _)
  have B := hid bn
  clear bn h
  go_enter Tryz.func218, Tryz.ntmps218
  go_wp2_with (go_at_call 213; refine (isNone_sp _ _ r h0 hr8).mono ?_; rintro e w ⟨rfl, rfl⟩)
  go_ret2
  have b2 := B.out.put 0 (spc r sf z.f z.p sh)
  rw [put_all _ _ (by rw [zsp, spc_length, spc_length])] at b2
  exact ⟨rfl, ⟨b2, H.out.ok, H.out.lo, H.out.hi, H.out.sf⟩, below_cells (below_alloc _ _) _ _ _ (Nat.le_refl _) (by rw [size_alloc]; omega)⟩
set_option maxRecDepth 4000 in
theorem wipe_sp (b r : Nat) (sf : Int) (z : Z) (sh : Bool) (lo : Option Nat) (L : List Rn) (S : Nat → Prop) (w : World) (h : Sp w b r sf z sh) (hSb : S b) (hl : LG S w w lo L) (hroom : Big L) :
    Calls Tryz.prog 221 #[.pointer (some ⟨b, 0, none⟩), lpv lo] w fun e w' => e = .returned (.int .i64 0) ∧ NoSp w' b ∧ LG S w w' lo (putL L ⟨8, 203, 1⟩) ∧ Kp S w w' := by
  have H := hid h
  have h0 := h.c0
  have hr8 := h.lo
  have HS := hid hSb
  have HL := hid hl
  have HM := hid hroom
  have x2 := SVs_run (cs := zsp) (h.here.there 0 204 (by rw [spc_length]; omega)) (spc_length _ _ _ _ _) (spc_one _ _ _ _ _)
  rw [show zsp.toArray = Tryz.zeroCells241 from zero_sp.symm] at x2
  clear h hSb hl hroom
  go_enter Tryz.func221, Tryz.ntmps221
  go_wp2_with (first | (go_at_call 213; refine (isNone_sp _ _ r h0 hr8).mono ?_; rintro e w ⟨rfl, rfl⟩))
  have b2 := H.out.here.put 0 zsp
  rw [put_all _ _ (by rw [zsp, spc_length, spc_length])] at b2
  have B1 := hid b2
  have K1 : Hid (Kp S w (w.setCells b 0 zsp)) := (Kp.setCells b _ _).mono (fun k _ e => by have : k = b := e; rw [this]; exact HS.out)
  have L1 : Hid (LG S w (w.setCells b 0 zsp) lo L) := HL.out.kept (Kp.setCells b 0 zsp) (fun g e => by subst e; exact ⟨_, _, H.out.here, by decide, by decide⟩)
  clear b2 x2 h0
  refine (note_lg S w _ lo L 8 203 (by decide) (by decide) L1.out K1.out ⟨by have := HM.out.1; omega, by have := HM.out.2; omega⟩).mono ?_
  rintro e W6 ⟨rfl, hl6, hk6, ht6⟩
  have B6 := hid (ht6 _ _ _ B1.out (by decide) (by decide))
  have K6 := hid hk6
  have L6 := hid hl6
  clear hl6 hk6 ht6
  go_wp2
  go_ret
  exact ⟨rfl, ⟨_, B6.out⟩, L6.out, K6.out⟩
/-- A sponge's form. -/
def fmf (z : Z) (sh : Bool) (i : Nat) : Int := if i < 200 then z.f i else if i = 200 then (z.p : Int) / 256 % 256 else if i = 201 then (z.p : Int) % 256 else if sh then 1 else 0
theorem fmf_b {z : Z} (h : BB z.f) (sh : Bool) : BB (fmf z sh) := fun i => by
  unfold fmf
  split
  · exact h i
  · split
    · omega
    · split
      · omega
      · split <;> decide
theorem copyAll (W : World) (b ob : Nat) (ty : TypeId) (oc : List Value) (f : Nat → Int) (hob : Blk W ob oc 5) (hol : 200 ≤ oc.length) (hs : ∀ i, i < 200 → W.cell? ⟨b, 2 + i, none⟩ = some (.int .u8 (f i))) :
    (Builtin.copy_ #[23, 23] ty #[.slice (some ⟨ob, 0, none⟩) 203 203, .slice (some ⟨b, 2, none⟩) 200 200]).run Tryz.prog W = .ok (.int .i64 200) (W.setCells ob 0 (bl 200 f)) := by
  have h := run_copy_cells (P := Tryz.prog) W 23 23 ty 5 ob 0 203 203 ⟨b, 2, none⟩ 200 200 (bl 200 f) Tryz.underlying23 (by kernel_rfl) (by rw [bl_length]; rfl)
    (fun j v hj => by obtain ⟨hj1, rfl⟩ := bl_get_inv _ _ _ _ hj; rw [By.add_plain]; exact hs j (by omega))
    (fun j hj => (hob.there 0 200 (by omega) j (by rw [bl_length] at hj; omega)).1) (fun j hj => hob.frozen _) (bl_one _ _)
  rw [bl_length] at h
  exact h
theorem made_form (z : Z) (sh : Bool) (a b c : Int) (ha : a = (z.p : Int) / 256 % 256) (hb : b = (z.p : Int) % 256) (hc : c = if sh then 1 else 0) : (((put (bl 203 (fun _ => 0)) 0 (bl 200 z.f)).set 200 (.int .u8 a)).set 201 (.int .u8 b)).set 202 (.int .u8 c) = bl 203 (fmf z sh) := by
  apply List.ext_getElem?
  intro i
  rw [List.getElem?_set, List.getElem?_set, List.getElem?_set, put_get _ _ _ _ (by rw [bl_length, bl_length]; omega)]
  simp only [List.length_set, put_length, bl_length]
  by_cases h : i < 203
  · rw [bl_get _ _ _ h, bl_get _ _ _ h]
    unfold fmf
    by_cases h1 : i < 200
    · rw [if_neg (by omega), if_neg (by omega), if_neg (by omega), if_pos (by omega), if_pos h1, bl_get _ _ _ (by omega), Nat.sub_zero]
    · by_cases h2 : i = 200
      · subst h2; rw [if_neg (by omega), if_neg (by omega), if_pos rfl, if_pos (by omega), if_neg (by omega), if_pos rfl, ha]
      · by_cases h3 : i = 201
        · subst h3; rw [if_neg (by omega), if_pos rfl, if_pos (by omega), if_neg (by omega), if_neg (by omega), if_pos rfl, hb]
        · obtain rfl : i = 202 := by omega
          rw [if_pos rfl, if_pos (by omega), if_neg (by omega), if_neg (by omega), if_neg (by omega), hc]
  · rw [if_neg (by omega), if_neg (by omega), if_neg (by omega), if_neg (by omega), List.getElem?_eq_none (by rw [bl_length]; omega), List.getElem?_eq_none (by rw [bl_length]; omega)]
theorem make203 (w : World) : (Instr.makeSlice 23 (.int .i64 203) (.int .i64 203)).run Tryz.prog w = .ok (.slice (some ⟨w.heap.size, 0, none⟩) 203 203) (w.alloc (.cells (bl 203 (fun _ => 0)).toArray 5)) := make_n 203 (by omega) w
set_option maxRecDepth 4000 in
set_option maxHeartbeats 4000000 in
theorem form_sp (b r : Nat) (sf : Int) (z : Z) (sh : Bool) (w : World) (h : Sp w b r sf z sh) :
    Calls Tryz.prog 222 #[.pointer (some ⟨b, 0, none⟩)] w fun e w' => e = .returned (.slice (some ⟨w.heap.size, 0, none⟩) 203 203) ∧ Blk w' w.heap.size (bl 203 (fmf z sh)) 5 ∧ Below w.heap.size w w' := by
  have H := hid h
  have h0 := h.c0
  have hr8 := h.lo
  have mk := make203 w
  have hsl := fun W => sliceAll W b
  have O1 := hid (Blk.new w (bl 203 (fun _ => 0)) 5)
  have B1 := hid (h.here.alloc (.cells (bl 203 (fun _ => 0)).toArray 5))
  have hcp := fun ty => copyAll _ b w.heap.size ty _ z.f O1.out (by rw [bl_length]; omega) (fun i hi => B1.out.cell _ _ (spc_at _ _ _ _ _ i hi))
  have HBE := hid (below_cells (below_alloc w (.cells (bl 203 (fun _ => 0)).toArray 5)) w.heap.size 0 (bl 200 z.f) (Nat.le_refl _) (by rw [size_alloc]; omega))
  have HLT := hid h.here.lt
  clear h
  go_enter Tryz.func222, Tryz.ntmps222
  go_wp2_with (first | (go_at_call 213; refine (isNone_sp _ _ r h0 hr8).mono ?_; rintro e w ⟨rfl, rfl⟩))
  have O2 := hid (O1.out.put 0 (bl 200 z.f))
  have B2 := hid (B1.out.kept (Kp.setCells w.heap.size 0 (bl 200 z.f)) (by have := HLT.out; omega))
  obtain ⟨W2, hW2⟩ : ∃ x, (w.alloc (.cells (bl 203 (fun _ => 0)).toArray 5)).setCells w.heap.size 0 (bl 200 z.f) = x := ⟨_, rfl⟩
  rw [hW2] at O2 B2 HBE
  rw [hW2]
  have hne : b ≠ w.heap.size := by have := HLT.out; omega
  obtain ⟨g, hg⟩ : ∃ g, w.heap.size = g := ⟨_, rfl⟩
  have HG := hid hg
  rw [hg] at O2 hne
  rw [hg]
  clear hW2 hg hcp mk hsl h0 O1 B1
  have cp := B2.out.cell 202 _ (spc_p _ _ _ _ _)
  have cs := B2.out.cell 203 _ (spc_s _ _ _ _ _)
  have g0 := O2.out.cell 200 (.int .u8 0) (by rw [put_get _ _ _ _ (by rw [bl_length, bl_length]; omega), bl_length, if_neg (by omega)]; exact bl_get 203 _ 200 (by omega))
  have g1 := O2.out.cell 201 (.int .u8 0) (by rw [put_get _ _ _ _ (by rw [bl_length, bl_length]; omega), bl_length, if_neg (by omega)]; exact bl_get 203 _ 201 (by omega))
  have g2 := O2.out.cell 202 (.int .u8 0) (by rw [put_get _ _ _ _ (by rw [bl_length, bl_length]; omega), bl_length, if_neg (by omega)]; exact bl_get 203 _ 202 (by omega))
  have f0 := O2.out.frozen 200
  have f1 := O2.out.frozen 201
  have f2 := O2.out.frozen 202
  have hp : (z.p : Int) ≤ 192 := by have := H.out.ok.p; have := H.out.hi; omega
  go_wp2_with fail
  go_region
  have HE1 : Hid (w.heap.size ≤ g) := by rw [HG.out]; exact Nat.le_refl _
  have O3 : Hid (Blk ((W2.setCell ⟨g, 200, none⟩ (.int .u8 ((z.p : Int) / 256))).setCell ⟨g, 201, none⟩ (.int .u8 (z.p : Int))).drew g (((put (bl 203 (fun _ => 0)) 0 (bl 200 z.f)).set 200 (.int .u8 ((z.p : Int) / 256))).set 201 (.int .u8 (z.p : Int))) 5) := ((O2.out.set 200 _).set 201 _).drewN 1
  have B3 : Hid (Blk ((W2.setCell ⟨g, 200, none⟩ (.int .u8 ((z.p : Int) / 256))).setCell ⟨g, 201, none⟩ (.int .u8 (z.p : Int))).drew b (spc r sf z.f z.p sh) 241) := ((B2.out.other hne _ _).other hne _ _).drewN 1
  have E3 : Hid (Below w.heap.size w ((W2.setCell ⟨g, 200, none⟩ (.int .u8 ((z.p : Int) / 256))).setCell ⟨g, 201, none⟩ (.int .u8 (z.p : Int))).drew) := by
    have e1 := below_set HBE.out g 200 (.int .u8 ((z.p : Int) / 256)) HE1.out HBE.out.size
    exact below_drew' (below_set e1 g 201 (.int .u8 (z.p : Int)) HE1.out e1.size) 1
  obtain ⟨W3, hW3⟩ : ∃ x, ((W2.setCell ⟨g, 200, none⟩ (.int .u8 ((z.p : Int) / 256))).setCell ⟨g, 201, none⟩ (.int .u8 (z.p : Int))).drew = x := ⟨_, rfl⟩
  rw [hW3] at O3 B3 E3
  rw [hW3]
  clear hW3 cp cs g0 g1 g2 f0 f1 f2 HBE O2 B2
  have cs := B3.out.cell 203 _ (spc_s _ _ _ _ _)
  have g2 := O3.out.cell 202 (.int .u8 0) (by rw [List.getElem?_set, if_neg (by omega), List.getElem?_set, if_neg (by omega), put_get _ _ _ _ (by rw [bl_length, bl_length]; omega), bl_length, if_neg (by omega)]; exact bl_get 203 _ 202 (by omega))
  have f2 := O3.out.frozen 202
  cases sh with
  | true =>
    have M := hid (made_form z true ((z.p : Int) / 256) (z.p : Int) 1 (by omega) (by omega) rfl)
    go_wp2
    go_ret
    rw [HG.out]
    have E4 := below_set E3.out g 202 (.int .u8 1) HE1.out E3.out.size
    rw [HG.out] at E4
    refine ⟨rfl, ?_, E4⟩
    rw [← M.out]
    exact O3.out.set 202 _
  | false =>
    have M := hid (made_form z false ((z.p : Int) / 256) (z.p : Int) 0 (by omega) (by omega) rfl)
    go_wp2
    go_ret
    rw [HG.out]
    have E4 := E3.out
    rw [HG.out] at E4
    refine ⟨rfl, ?_, E4⟩
    rw [← M.out]
    have e : (((put (bl 203 (fun _ => 0)) 0 (bl 200 z.f)).set 200 (.int .u8 ((z.p : Int) / 256))).set 201 (.int .u8 (z.p : Int))).set 202 (.int .u8 0) = ((put (bl 203 (fun _ => 0)) 0 (bl 200 z.f)).set 200 (.int .u8 ((z.p : Int) / 256))).set 201 (.int .u8 (z.p : Int)) := by
      apply List.ext_getElem?
      intro i
      rw [List.getElem?_set]
      by_cases hi : 202 = i
      · subst hi
        rw [if_pos rfl]
        simp only [List.length_set, put_length, bl_length]
        rw [if_pos (by omega), List.getElem?_set, if_neg (by omega), List.getElem?_set, if_neg (by omega), put_get _ _ _ _ (by rw [bl_length, bl_length]; omega), bl_length, if_neg (by omega), bl_get 203 _ 202 (by omega)]
      · rw [if_neg hi]
    rw [e]
    exact O3.out
end Go.Proofs.YtpohogpkfdebdaaGreatDoor.Kc
