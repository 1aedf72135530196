/- The law Pbkdf2Joins. -/
import Derived.Test.YtjhhnajgfngbhaaDoorNaw
import Derived.Test.YtjhhnajgfngbhaaDoorIpk0
namespace Go.Proofs.YtjhhnajgfngbhaaDoor.Dg
open Go.ChangeShapes Go.WideShapes Go.ChangeAt Go.RowKit
open Go.Proofs.YtjhhnajgfngbhaaDoor.By
open Go.Proofs.YtjhhnajgfngbhaaDoor.Sh (Blk size_alloc)
set_option maxRecDepth 8000 in
set_option maxHeartbeats 8000000 in
theorem joins_on (a : Bool) (ka sa : Option Addr) (np pc ns sc : Nat) (g f : Nat → Int) (c n z : Int) (w : World) (hr : By.RB w (.slice ka np pc) np g) (hr2 : By.RB w (.slice sa ns sc) ns f) (hk : KT w) (hn : np ≤ 140737488351232) (hns : ns ≤ 140737488351232) :
    Calls Tryd.prog 4 #[.bool a, .slice ka np pc, .slice sa ns sc, .int .i64 c, .int .i64 n, .int .i64 z] w fun e w' => e = .returned (.bool true) ∧ Below w.heap.size w w' := by
  have HK := hid hk
  have A1 := hid (show ∀ w', Below w.heap.size w w' → By.RB w' (.slice ka np pc) np g from fun w' hb => hr.below hb)
  have A2 := hid (show ∀ w', Below w.heap.size w w' → By.RB w' (.slice sa ns sc) ns f from fun w' hb => hr2.below hb)
  clear hr hr2
  obtain ⟨s, hs⟩ : ∃ s, sz a = s := ⟨_, rfl⟩
  have hs1 : 32 ≤ s := by rw [← hs]; cases a <;> decide
  have hs2 : s ≤ 64 := by rw [← hs]; exact sz_le a
  have HA := hid (fun w => alg1 a w)
  rw [hs] at HA
  have PC := hid (fun w => pickN c 8 (by omega) (by omega) w)
  have PN := hid (fun w => pickN n 300 (by omega) (by omega) w)
  have HS := hid hs
  clear hk hs
  by_cases h1 : np ≤ 3000
  · by_cases h2 : ns ≤ 3000
    · have h1' : ¬ (3000 : Int) < (np : Int) := by omega
      have h2' : ¬ (3000 : Int) < (ns : Int) := by omega
      go_enter Tryd.func4, Tryd.ntmps4
      go_wp2_with fail
      refine (awake1 _ HK.out).mono ?_
      rintro e w1 ⟨rfl, hb⟩
      have B1 := hid hb
      clear hb
      go_wp2_with fail
      refine (HA.out _).mono ?_
      rintro e ww ⟨rfl, hw⟩
      subst ww
      go_wp2_with fail
      refine (PC.out _).mono ?_
      rintro e ww ⟨⟨C, hC, rfl⟩, hw⟩
      subst ww
      go_wp2_with fail
      refine (PN.out _).mono ?_
      rintro e ww ⟨⟨N, hN, rfl⟩, hw⟩
      subst ww
      have PZ := hid (fun w => pickN z (N + 1) (by omega) (by omega) w)
      rw [show ((N + 1 : Nat) : Int) = (N : Int) + 1 from rfl] at PZ
      go_wp2_with fail
      refine (PZ.out _).mono ?_
      rintro e ww ⟨⟨M, hM, rfl⟩, hw⟩
      subst ww
      obtain ⟨c1, hc1⟩ : ∃ c1, 1 + C = c1 := ⟨_, rfl⟩
      have hci : (1 : Int) + (C : Int) = (c1 : Int) := by omega
      rw [hci]
      clear hci
      have Kf := hid (dk_b a (kb a np g) ns f c1)
      go_wp2_with fail
      refine (pkey0k a np ns c1 N _ _ g f _ (HK.out.below B1.out) (A1.out _ B1.out) (A2.out _ B1.out) (by omega) (by omega) (by omega) (by omega) (by omega)).mono ?_
      rintro e w2 ⟨u2, rfl, hu, hb⟩
      have U2 := hid hu
      have B2 := hid (below_next B1.out hb)
      clear hu hb B1
      go_wp2_with fail
      refine (pkey0k a np ns c1 M _ _ g f _ (HK.out.below B2.out) (A1.out _ B2.out) (A2.out _ B2.out) (by omega) (by omega) (by omega) (by omega) (by omega)).mono ?_
      rintro e w3 ⟨u3, rfl, hu, hb⟩
      have V3 := hid hu
      have U3 := hid (own_below U2.out hb)
      have B3 := hid (below_next B2.out hb)
      clear hu hb B2 U2
      go_wp2_with fail
      go_loopw [20, 21] (fun ov i wr => ∃ k ol : Nat, k ≤ 400 ∧ k * s = ol ∧ i = .int .i64 ((k : Int) + 1) ∧ By.Own wr w3.heap.size ov ol (dk a (kb a np g) ns f c1) ∧ Below w3.heap.size w3 wr ∧ ol ≤ N + 64) (fun ov _ _ => N + 64 - slen ov)
      case atStart => exact ⟨0, 0, Nat.zero_le _, Nat.zero_mul _, rfl, own_nil _ _ _ Kf.out, Below.refl _ _, by omega⟩
      case round =>
        obtain ⟨k, ol, hk, hol, rfl, ho, hb, hol2⟩ := hrel
        have B := hid (below_next B3.out hb)
        have BW := hid hb
        have OO := hid ho
        have HO := hid hol
        obtain ⟨oa, oc, rfl⟩ := own_sl ho
        clear ho hb hol
        by_cases hlt : ol < N
        · have hlt' : (ol : Int) < (N : Int) := by omega
          have hk3 : k < 300 := by
            apply Classical.byContradiction
            intro h
            have h2 : 300 * s ≤ k * s := Nat.mul_le_mul_right _ (by omega)
            have := HO.out
            omega
          have P := hid (pblk0k a np ns c1 (k + 1) _ _ g f _ (HK.out.below B.out) (A1.out _ B.out) (A2.out _ B.out) (by omega) (by omega) (by omega) (by omega) (by omega) (by omega))
          rw [show ((k + 1 : Nat) : Int) = (k : Int) + 1 from rfl, HS.out] at P
          go_wp2_with fail
          refine P.out.mono ?_
          rintro e w4 ⟨u4, rfl, hu, hb⟩
          have U4 := hid hu
          have O4 := hid (own_below OO.out hb)
          have B4 := hid (below_next BW.out hb)
          have Z4 := hid (below_next BW.out hb).size
          have Z3 := hid B3.out.size
          obtain ⟨ua, uc, rfl⟩ := own_sl hu
          clear hu hb P OO BW
          go_wp2_with (at_builtin; go_must (refine Sg.wpList_cat rfl _ _ rfl w3.heap.size ol s _ _ _ _ rfl O4.out rfl U4.out.reads (by omega) Z4.out ?_))
          intro ov' w5 ho5 hg5
          have O5 := hid (show By.Own w5 w3.heap.size ov' (ol + s) (dk a (kb a np g) ns f c1) from own_congr ho5 Kf.out (fun i hi => by
            have h := dk_cat a (kb a np g) ns f c1 k s (by rw [HS.out]; omega) i (by rw [HS.out, HO.out]; exact hi)
            rw [HS.out, HO.out] at h
            exact h))
          have B5 := hid (Sh.below_grow B4.out Z4.out O4.out hg5)
          obtain ⟨na, nc, rfl⟩ := own_sl O5.out
          clear ho5 hg5 O4 U4 B4 Z4
          go_wp2_with fail
          refine ⟨⟨k + 1, ol + s, by omega, by rw [Nat.succ_mul, HO.out], by rfl, O5.out, B5.out, by omega⟩, by simp [slen]; omega⟩
        · have hlt' : ¬ (ol : Int) < (N : Int) := by omega
          have hoc := rb_cap OO.out.reads
          have s1 := fun W => psub_h oa ol oc N W (by omega) hoc
          have s2 := fun W => psub_h oa ol oc M W (by omega) hoc
          have U5 := hid (own_below U3.out BW.out)
          have V5 := hid (own_below V3.out BW.out)
          clear U3 V3
          go_wp2_with fail
          refine (same_true _ _ N _ _ _ U5.out.reads (OO.out.reads.first N (by omega)) (by omega) (fun _ _ => rfl)).mono ?_
          rintro e w6 ⟨rfl, d6, hw⟩
          have hb : Below wr.heap.size wr w6 := by rw [hw]; exact below_drewN wr d6
          have O6 := hid (own_below OO.out hb)
          have V6 := hid (own_below V5.out hb)
          have B6 := hid (below_next B.out hb)
          clear hw hb OO V5 B U5 BW
          go_wp2_with fail
          refine (same_true _ _ M _ _ _ V6.out.reads (O6.out.reads.first M (by omega)) (by omega) (fun _ _ => rfl)).mono ?_
          rintro e w7 ⟨rfl, d7, hw⟩
          have B7 := hid (below_next B6.out (show Below w6.heap.size w6 w7 by rw [hw]; exact below_drewN w6 d7))
          clear hw
          go_wp2
          go_ret
          exact ⟨rfl, B7.out⟩
    · have h2' : (3000 : Int) < (ns : Int) := by omega
      have h1' : ¬ (3000 : Int) < (np : Int) := by omega
      go_enter Tryd.func4, Tryd.ntmps4
      go_wp2_with fail
      refine (awake1 _ HK.out).mono ?_
      rintro e w1 ⟨rfl, hb⟩
      have B1 := hid hb
      clear hb
      go_wp2
      go_ret
      exact ⟨rfl, B1.out⟩
  · have h1' : (3000 : Int) < (np : Int) := by omega
    go_enter Tryd.func4, Tryd.ntmps4
    go_wp2_with fail
    refine (awake1 _ HK.out).mono ?_
    rintro e w1 ⟨rfl, hb⟩
    have B1 := hid hb
    clear hb
    go_wp2
    go_ret
    exact ⟨rfl, B1.out⟩
end Go.Proofs.YtjhhnajgfngbhaaDoor.Dg
