/- The statement CmacKnown, walked. -/
import Derived.Test.YtnncgniiceglaabDoorVlkn0
namespace Go.Proofs.YtnncgniiceglaabDoor.Vm
open Go.ChangeShapes Go.WideShapes Go.ChangeAt Go.RowKit
open Go.Proofs.YtnncgniiceglaabDoor.By Go.Proofs.YtnncgniiceglaabDoor.Gf Go.Proofs.YtnncgniiceglaabDoor.Ae
def dTop : Nat → Nat := ofl [128, 0, 0, 0, 0, 0, 0, 0, 0, 0, 0, 0, 0, 0, 0, 0]
def dLow : Nat → Nat := ofl [0, 0, 0, 0, 0, 0, 0, 0, 0, 0, 0, 0, 0, 0, 0, 128]
def wTop : Nat → Nat := ofl [0, 0, 0, 0, 0, 0, 0, 0, 0, 0, 0, 0, 0, 0, 0, 135]
def wLow : Nat → Nat := ofl [0, 0, 0, 0, 0, 0, 0, 0, 0, 0, 0, 0, 0, 0, 1, 0]
theorem zTop : Value.agg (z16.set 0 (Value.int IntKind.u8 128)).toArray = bv dTop := by kernel_rfl
theorem zLow : Value.agg (z16.set 15 (Value.int IntKind.u8 128)).toArray = bv dLow := by kernel_rfl
theorem yTop : Value.agg (z16.set 15 (Value.int IntKind.u8 135)).toArray = bv wTop := by kernel_rfl
theorem yLow : Value.agg (z16.set 14 (Value.int IntKind.u8 1)).toArray = bv wLow := by kernel_rfl
set_option maxRecDepth 100000 in
theorem dt : ∀ i, i < 16 → dbl dTop i = wTop i := by decide +kernel
set_option maxRecDepth 100000 in
theorem dl : ∀ i, i < 16 → dbl dLow i = wLow i := by decide +kernel
theorem dTop_b : B16 dTop := fun i _ => ofl_lt _ (by decide +kernel) i
theorem dLow_b : B16 dLow := fun i _ => ofl_lt _ (by decide +kernel) i
theorem eqT : eqb (dbl dTop) wTop = true := eqb_true dt
theorem eqL : eqb (dbl dLow) wLow = true := eqb_true dl
theorem z_varb (w : World) (f : Nat → Nat) : ∃ W, (SVb ⟨w.heap.size, 0, none⟩ (bv f)).run Tryd.prog (w.alloc (.cells z16.toArray 34)) = .ok () W ∧ Blk W w.heap.size (bl 16 (cb f)) 34 ∧ Below w.heap.size w W := z_var w f
theorem z_ldb {W : World} {q : Nat} {f : Nat → Nat} (h : Blk W q (bl 16 (cb f)) 34) : (LDb ⟨q, 0, none⟩).run Tryd.prog W = .ok (bv f) W := z_ld h
theorem one_b (i : Nat) : ofl [1] i < 256 := ofl_lt _ (by decide +kernel) i
set_option maxRecDepth 4000 in
set_option maxHeartbeats 4000000 in
theorem known_walk (w : World) (hk : KM w) : Calls Tryd.prog 3 #[] w fun e w' => e = .returned (.bool true) ∧ Below w.heap.size w w' := by
  have HK := hid hk
  clear hk
  go_enter Tryd.func3, Tryd.ntmps3
  go_wp2_with fail
  refine (new9 w).mono ?_
  rintro e w2 ⟨rfl, hl2, hb2⟩
  have L2 := hid hl2
  have B2 := hid hb2
  clear hl2 hb2
  go_wp2_with fail
  refine (key1 w2).mono ?_
  rintro e w3 ⟨rfl, hx3, hb3⟩
  have L3 := hid (L2.out.below hb3)
  have X3 := hid hx3
  have B3 := hid (below_next B2.out hb3)
  clear hx3 hb3 L2 B2
  have NC := hid (cnewN 4 (.inl rfl) (ofl XK) xk_b w2.heap.size 0 16 (by omega) w3 (km_below HK.out B3.out) (fun i hi => by rw [Nat.zero_add]; exact X3.out.cell i _ (bl_get 16 _ i (by omega))))
  rw [show 4 * 4 = 16 from rfl] at NC
  go_wp2_with fail
  refine NC.out.mono ?_
  rintro e w4 ⟨g, gc, rfl, hm4, hg4, -, hb4⟩
  obtain ⟨l, hl⟩ : ∃ l, w.heap.size = l := ⟨_, rfl⟩
  have Z4 := hid (show KZ w l g gc [] 0 nought [] w4 from ⟨Kp.of_below _ (below_next B3.out hb4), by
    rw [← hl]
    exact ⟨Nat.le_refl _, _, L3.out.below hb4, fun q hq => by simp [Value.ownBlock] at hq⟩, hm4, Nat.le_trans B3.out.size hg4, fun p hp => by simp at hp⟩)
  clear hm4 hg4 hb4 NC L3 X3 B3
  rw [hl]
  go_wp2_with fail
  refine Z4.out.form.mono ?_
  rintro e w5 ⟨v1, rfl, hz5⟩
  have Z5 := hid hz5
  clear hz5 Z4
  go_wp2_with fail
  refine (text1 w5).mono ?_
  rintro e w6 ⟨rfl, hx6, hb6⟩
  have Z6 := hid (Z5.out.below hb6)
  have X6 := hid hx6
  clear hx6 hb6 Z5
  obtain ⟨o, ho⟩ : ∃ x, w5.heap.size = x := ⟨_, rfl⟩
  rw [ho] at X6 ⊢
  have W6 := hid (Z6.out.write HK.out pos_nil ⟨by decide, by decide⟩ 16 (ofl XT) xt_b (by decide) (some ⟨o, 0, none⟩) 40 (fun V hV => ⟨cb_b xt_b, _, _, rfl, by omega, by simp [maxLen], .inr ⟨o, 0, rfl, fun i hi => by rw [Nat.zero_add]; exact (hV.2 _ _ _ (by decide) (by decide) (by decide) X6.out).cell i _ (bl_get 40 _ i (by omega))⟩⟩))
  go_wp2_with fail
  refine W6.out.mono ?_
  rintro e w7 ⟨rfl, hz7⟩
  rw [show nbl (0 + 16) - nbl 0 = 0 from rfl, evb_zero, Nat.zero_add] at hz7
  have Z7 := hid hz7
  have LN := Z7.out.len
  rw [show tot [] = 0 from rfl] at LN
  clear hz7 Z6 W6 X6
  go_wp2_with fail
  refine LN.mono ?_
  rintro e w' ⟨rfl, hw'⟩
  subst w'
  clear LN
  go_wp2_with fail
  refine Z7.out.form.mono ?_
  rintro e w8 ⟨v2, rfl, hz8⟩
  have k9 := below_alloc w8 (.cells #[Value.int IntKind.u8 1] 5)
  have hx9 := Blk.newAt w8 #[Value.int IntKind.u8 1] [Value.int IntKind.u8 1] 5 _ rfl rfl
  obtain ⟨W9, hW9⟩ : ∃ x, w8.alloc (.cells #[Value.int IntKind.u8 1] 5) = x := ⟨_, rfl⟩
  obtain ⟨o9, ho9⟩ : ∃ x, w8.heap.size = x := ⟨_, rfl⟩
  rw [hW9] at k9 hx9
  rw [ho9] at hx9
  have Z9 := hid (hz8.below k9)
  have X9 := hid hx9
  clear hz8 k9 hx9 Z7
  have W9' := hid (Z9.out.write HK.out pos_nil ⟨by decide, by decide⟩ 1 (ofl [1]) one_b (by decide) (some ⟨o9, 0, none⟩) 1 (fun V hV => ⟨cb_b one_b, _, _, rfl, by omega, by simp [maxLen], .inr ⟨o9, 0, rfl, fun i hi => by
    obtain rfl : i = 0 := by omega
    exact (hV.2 _ _ _ (by decide) (by decide) (by decide) X9.out).cell 0 _ rfl⟩⟩))
  go_wp2_with fail
  refine W9'.out.mono ?_
  rintro e wA ⟨rfl, hzA⟩
  rw [show nbl (16 + 1) - nbl 16 = 1 from rfl] at hzA
  have ZA := hid hzA
  have LN := ZA.out.len
  rw [ev_one 1 (by decide), show tot [⟨5, 16, ((1 : Nat) : Int)⟩] = 1 from rfl] at LN
  clear hzA Z9 W9' X9 hW9
  go_wp2_with fail
  refine LN.mono ?_
  rintro e w' ⟨rfl, hw'⟩
  subst w'
  clear LN
  go_wp2_with fail
  refine ZA.out.form.mono ?_
  rintro e wB ⟨v3, rfl, hzB⟩
  have ZB := hid hzB
  clear hzB ZA
  go_wp2_with fail
  refine (ZB.out.sum HK.out ⟨by rw [ev_one 1 (by decide)]; decide, by rw [ev_one 1 (by decide)]; decide⟩).mono ?_
  rintro e wC ⟨v4, rfl, hzC⟩
  rw [ev2, show 16 + 1 = 17 from rfl] at hzC
  have ZC := hid hzC
  clear hzC ZB
  obtain ⟨b1, c1, rfl, x1, y1, z1⟩ := ZC.out.cells (v := v1) (.tail _ (.tail _ (.head _)))
  obtain ⟨b2, c2, rfl, x2, -, -⟩ := ZC.out.cells (v := v2) (.tail _ (.head _))
  obtain ⟨b3, c3, rfl, x3, -, -⟩ := ZC.out.cells (v := v3) (.head _)
  rw [show ((ctn 0 : Nat) : Int) = 0 from rfl] at x1
  rw [show ((ctn 16 : Nat) : Int) = 16 from rfl] at x2
  rw [show ((ctn 17 : Nat) : Int) = 1 from rfl] at x3
  rw [sk_0, show ((251 : Nat) : Int) = 251 from rfl] at y1
  rw [sk_1, show ((238 : Nat) : Int) = 238 from rfl] at z1
  have h1 := zTop
  have h2 := zLow
  have h3 := yTop
  have h4 := yLow
  have h5 := eqT
  have h6 := eqL
  go_wp2_with fail
  refine (dbl1 dTop dTop_b wC).mono ?_
  rintro e wD ⟨rfl, hbD⟩
  obtain ⟨W1, s1, b1', k1⟩ := z_varb wD (dbl dTop)
  have ZD := hid (ZC.out.below (below_next hbD k1))
  have T1 := hid b1'
  clear hbD ZC x1 x2 x3 y1 z1 k1 b1'
  obtain ⟨p1, hp1⟩ : ∃ x, wD.heap.size = x := ⟨_, rfl⟩
  rw [hp1] at s1 T1
  go_wp2_with fail
  refine (dbl1 dLow dLow_b W1).mono ?_
  rintro e wE ⟨rfl, hbE⟩
  obtain ⟨W2, s2, b2', k2⟩ := z_varb wE (dbl dLow)
  have kE := below_next hbE k2
  have ZE := hid (ZD.out.below kE)
  have T2 := hid (T1.out.below kE)
  have U2 := hid b2'
  clear hbE ZD k2 kE b2' T1 s1
  obtain ⟨p2, hp2⟩ : ∃ x, wE.heap.size = x := ⟨_, rfl⟩
  rw [hp2] at s2 U2
  go_wp2_with fail
  refine (tag_bad _ _ none 0 0 W2 (by decide) (by decide) (by decide)).mono ?_
  rintro e wF ⟨rfl, hbF⟩
  have ZF := hid (ZE.out.below hbF)
  have T3 := hid (T2.out.below hbF)
  have U3 := hid (U2.out.below hbF)
  clear hbF ZE T2 U2 s2
  go_wp2_with fail
  refine (awake1 wF (ZF.out.km HK.out)).mono ?_
  rintro e wG ⟨rfl, hbG⟩
  have ZG := hid (ZF.out.below hbG)
  have LN := ZG.out.len
  rw [ev_one 2 (by decide), show tot [⟨5, 16, ((2 : Nat) : Int)⟩] = 2 from rfl] at LN
  have T4 := hid (T3.out.below hbG)
  have U4 := hid (U3.out.below hbG)
  clear hbG ZF T3 U3
  go_wp2_with fail
  refine LN.mono ?_
  rintro e w' ⟨rfl, hw'⟩
  subst w'
  clear LN
  have CN := ZG.out.count (by rw [ev_one 2 (by decide)]; decide) 5
  rw [ev_one 2 (by decide), show cnt 5 [⟨5, 16, ((2 : Nat) : Int)⟩] = 2 from rfl] at CN
  go_wp2_with fail
  refine CN.mono ?_
  rintro e wH ⟨rfl, hzH, hbH⟩
  have BH := hid hzH.bel
  have l1 := z_ldb (T4.out.below hbH)
  have l2 := z_ldb (U4.out.below hbH)
  clear hzH CN ZG hbH
  go_wp2_with fail
  go_ret
  exact ⟨rfl, BH.out⟩
end Go.Proofs.YtnncgniiceglaabDoor.Vm
