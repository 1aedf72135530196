/- The law HkdfNames. -/
import Derived.Test.YtmbcccmidfpgeaaDoorIaw
import Derived.Test.YtmbcccmidfpgeaaDoorIgm
import Derived.Test.YtmbcccmidfpgeaaDoorRcount
namespace Go.Proofs.YtmbcccmidfpgeaaDoor.Dg
open Go.ChangeShapes Go.WideShapes Go.ChangeAt Go.RowKit
open Go.Proofs.YtmbcccmidfpgeaaDoor.By
open Go.Proofs.YtmbcccmidfpgeaaDoor.Sh (Blk size_alloc)
theorem ev1 (c : Int) (n : Nat) (hb : c + n ≤ 9000000000000000000) : evs false [⟨1, 64, c⟩] n = [⟨1, 64, c + n⟩] := by
  induction n with
  | zero => rw [evs_zero]; simp
  | succ n ih =>
    show putL (evs false [⟨1, 64, c⟩] n) ⟨1, 64, 1⟩ = _
    rw [ih (by omega)]
    have h := Sh.putL_last [] ⟨1, 64, c + n⟩ ⟨1, 64, 1⟩ (by decide) ⟨rfl, rfl⟩
    rw [List.nil_append] at h
    rw [h]
    have e : sm (c + n) 1 = c + ((n + 1 : Nat) : Int) := by unfold sm; rw [if_pos (by omega)]; omega
    simp [e]
theorem e1 : tev false [] 13 22 = [⟨1, 64, 4⟩] := by rfl
theorem q42 : qp false (42 : Int).toNat = 2 := by decide
theorem q8160 : qp false (8160 : Int).toNat = 255 := by decide
theorem e2 : yl false [⟨1, 64, 4⟩] 13 22 10 42 = [⟨1, 64, 14⟩] := by
  unfold yl
  rw [if_pos (by decide), q42]
  rfl
theorem e3 : yl false [⟨1, 64, 14⟩] 13 22 10 0 = [⟨1, 64, 20⟩] := by
  unfold yl
  rw [if_pos (by decide)]
  rfl
theorem e4 : xl false [⟨1, 64, 20⟩] 0 0 8160 = [⟨1, 64, 532⟩] := by
  unfold xl
  rw [if_pos (by decide), q8160]
  show evs false (evs false [⟨1, 64, 20⟩] 2) (es false 0 255) = _
  rw [evs_add, show 2 + es false 0 255 = 512 from by decide +kernel, ev1 20 512 (by decide)]
  rfl
theorem e5 : xl false [⟨1, 64, 532⟩] 0 0 8161 = [⟨1, 64, 532⟩] := by unfold xl; rw [if_neg (by decide)]
theorem e6 : xl false [⟨1, 64, 532⟩] 0 0 (-1) = [⟨1, 64, 532⟩] := by unfold xl; rw [if_neg (by decide)]
theorem c8160 : xc false 8160 = 0 := by decide
theorem c8161 : xc false 8161 = 9 := by decide
theorem c42 : xc false 42 = 0 := by decide
theorem c0 : xc false 0 = 0 := by decide
theorem cm1 : xc false (-1) = 2 := by decide
theorem n8160 : xN false 8160 = 8160 := by decide
theorem n0 : xN false 0 = 0 := by decide
theorem rb_none (w : World) : By.RB w (.slice none 0 0) 0 nof := (own_nil w 0 nof nof_b).reads
set_option maxRecDepth 8000 in
set_option maxHeartbeats 8000000 in
theorem names_on (w : World) (hk : KT w) : Calls Tryd.prog 3 #[] w fun e w' => e = .returned (.bool true) ∧ Below w.heap.size w w' := by
  have HK := hid hk
  go_enter Tryd.func3, Tryd.ntmps3
  go_wp2_with fail
  refine (new9 _).mono ?_
  rintro e w0 ⟨rfl, hl, hb⟩
  have G := hid ((GM.start w hk).addLed hb (o := true) hl)
  rw [List.nil_append] at G
  clear hk hl hb
  go_wp2_with fail
  refine (rows13 _).mono ?_
  rintro e w1 ⟨a1, rfl, h, b⟩
  have Oa1 := hid h
  have G1 := hid (G.out.below b)
  clear h b G 
  go_wp2_with fail
  refine (fill22 _).mono ?_
  rintro e w2 ⟨a2, rfl, h, b⟩
  have Oa2 := hid h
  have G2 := hid (G1.out.below b)
  have Na1 := hid (own_below Oa1.out b)
  clear h b G1 Oa1
  have Oa1 := hid Na1.out
  clear Na1
  go_wp2_with fail
  refine (GM.extract (l1 := []) (l2 := []) G2.out false 13 22 a1 a2 ksal kel (GM.rdO (l1 := []) (l2 := []) G2.out Oa1.out) (GM.rdO (l1 := []) (l2 := []) G2.out Oa2.out) (by omega) (by omega) (by decide)).mono ?_
  rintro e w3 ⟨u, rv3, rfl, hu, hg, hko⟩
  rw [e1] at hg
  have G3 := hid hg
  clear hu hg hko G2 Oa1 Oa2
  go_wp2_with fail
  refine (count24 _ _ _ 1 _ (GM.midL (l1 := []) (l2 := []) G3.out).1 (by decide)).mono ?_
  rintro e w4 ⟨rfl, hb⟩
  have G4 := hid (G3.out.below hb)
  rw [show cnt 1 [⟨1, 64, 4⟩] = 4 from by decide]
  clear hb G3
  go_wp2_with fail
  refine (fill22 _).mono ?_
  rintro e w5 ⟨a1, rfl, h, b⟩
  have Oa1 := hid h
  have G5 := hid (G4.out.below b)
  clear h b G4 
  go_wp2_with fail
  refine (rows13 _).mono ?_
  rintro e w6 ⟨a2, rfl, h, b⟩
  have Oa2 := hid h
  have G6 := hid (G5.out.below b)
  have Na1 := hid (own_below Oa1.out b)
  clear h b G5 Oa1
  have Oa1 := hid Na1.out
  clear Na1
  go_wp2_with fail
  refine (rows10 _).mono ?_
  rintro e w7 ⟨a3, rfl, h, b⟩
  have Oa3 := hid h
  have G7 := hid (G6.out.below b)
  have Na1 := hid (own_below Oa1.out b)
  have Na2 := hid (own_below Oa2.out b)
  clear h b G6 Oa1 Oa2
  have Oa1 := hid Na1.out
  clear Na1
  have Oa2 := hid Na2.out
  clear Na2
  go_wp2_with fail
  refine (GM.key (l1 := []) (l2 := []) G7.out false 22 13 10 42 a1 a2 a3 kel ksal kinf (GM.rdO (l1 := []) (l2 := []) G7.out Oa1.out) (GM.rdO (l1 := []) (l2 := []) G7.out Oa2.out) (GM.rdO (l1 := []) (l2 := []) G7.out Oa3.out) (by omega) (by omega) (by omega) (by decide)).mono ?_
  rintro e w8 ⟨u, rv8, rfl, hu, hg, hko⟩
  rw [e2] at hg
  have G8 := hid hg
  clear hu hg hko G7 Oa1 Oa2 Oa3
  go_wp2_with fail
  refine (count24 _ _ _ 1 _ (GM.midL (l1 := []) (l2 := []) G8.out).1 (by decide)).mono ?_
  rintro e w9 ⟨rfl, hb⟩
  have G9 := hid (G8.out.below hb)
  rw [show cnt 1 [⟨1, 64, 14⟩] = 14 from by decide]
  clear hb G8
  go_wp2_with fail
  refine (fill22 _).mono ?_
  rintro e w10 ⟨a1, rfl, h, b⟩
  have Oa1 := hid h
  have G10 := hid (G9.out.below b)
  clear h b G9 
  go_wp2_with fail
  refine (rows13 _).mono ?_
  rintro e w11 ⟨a2, rfl, h, b⟩
  have Oa2 := hid h
  have G11 := hid (G10.out.below b)
  have Na1 := hid (own_below Oa1.out b)
  clear h b G10 Oa1
  have Oa1 := hid Na1.out
  clear Na1
  go_wp2_with fail
  refine (rows10 _).mono ?_
  rintro e w12 ⟨a3, rfl, h, b⟩
  have Oa3 := hid h
  have G12 := hid (G11.out.below b)
  have Na1 := hid (own_below Oa1.out b)
  have Na2 := hid (own_below Oa2.out b)
  clear h b G11 Oa1 Oa2
  have Oa1 := hid Na1.out
  clear Na1
  have Oa2 := hid Na2.out
  clear Na2
  go_wp2_with fail
  refine (GM.key (l1 := []) (l2 := []) G12.out false 22 13 10 0 a1 a2 a3 kel ksal kinf (GM.rdO (l1 := []) (l2 := []) G12.out Oa1.out) (GM.rdO (l1 := []) (l2 := []) G12.out Oa2.out) (GM.rdO (l1 := []) (l2 := []) G12.out Oa3.out) (by omega) (by omega) (by omega) (by decide)).mono ?_
  rintro e w13 ⟨un, rv13, rfl, hu, hg, hko⟩
  rw [e3] at hg
  have G13 := hid hg
  rw [c0]
  rw [n0] at hu
  obtain ⟨na, nc, rfl⟩ := own_sl hu
  clear hu hg hko G12 Oa1 Oa2 Oa3
  go_wp2_with fail
  refine (count24 _ _ _ 1 _ (GM.midL (l1 := []) (l2 := []) G13.out).1 (by decide)).mono ?_
  rintro e w14 ⟨rfl, hb⟩
  have G14 := hid (G13.out.below hb)
  rw [show cnt 1 [⟨1, 64, 20⟩] = 20 from by decide]
  clear hb G13
  go_wp2_with fail
  refine (GM.expand (l1 := []) (l2 := []) G14.out false 0 0 8160 _ _ nof nof (fun w' _ => rb_none w') (fun w' _ => rb_none w') (by omega) (by omega) (by decide)).mono ?_
  rintro e w15 ⟨ul, rv15, rfl, hu, hg, hko⟩
  rw [e4] at hg
  have G15 := hid hg
  rw [c8160]
  rw [n8160] at hu
  obtain ⟨ma, mc, rfl⟩ := own_sl hu
  clear hu hg hko G14
  go_wp2_with fail
  refine (GM.expand (l1 := []) (l2 := []) G15.out false 0 0 8161 _ _ nof nof (fun w' _ => rb_none w') (fun w' _ => rb_none w') (by omega) (by omega) (by decide)).mono ?_
  rintro e w16 ⟨u5, rv16, rfl, hu, hg, hko⟩
  rw [e5] at hg
  have G16 := hid hg
  rw [c8161]
  obtain ⟨xa5, xc5, rfl⟩ := own_sl hu
  clear hu hg hko G15
  go_wp2_with fail
  refine (GM.expand (l1 := []) (l2 := []) G16.out false 0 0 (-1) _ _ nof nof (fun w' _ => rb_none w') (fun w' _ => rb_none w') (by omega) (by omega) (by decide)).mono ?_
  rintro e w17 ⟨u6, rv17, rfl, hu, hg, hko⟩
  rw [e6] at hg
  have G17 := hid hg
  rw [cm1]
  obtain ⟨xa6, xc6, rfl⟩ := own_sl hu
  clear hu hg hko G16
  go_wp2_with fail
  refine (extractN 3 (by decide) (by decide) _ _ _ _).mono ?_
  rintro e w18 ⟨rfl, hb⟩
  have G18 := hid (G17.out.below hb)
  clear hb G17
  go_wp2_with fail
  refine (keyN 0 (by decide) (by decide) _ _ _ _ _ _).mono ?_
  rintro e wj ⟨rfl, hw⟩
  subst wj
  go_wp2_with fail
  refine (awake1 _ G18.out.kt).mono ?_
  rintro e w19 ⟨rfl, hb⟩
  have G19 := hid (G18.out.below hb)
  clear hb G18
  go_wp2_with fail
  refine (count24 _ _ _ 1 _ (GM.midL (l1 := []) (l2 := []) G19.out).1 (by decide)).mono ?_
  rintro e w20 ⟨rfl, hb⟩
  have G20 := hid (G19.out.below hb)
  rw [show cnt 1 [⟨1, 64, 532⟩] = 532 from by decide]
  clear hb G19
  go_wp2
  go_ret
  exact ⟨rfl, G20.out.bel⟩
end Go.Proofs.YtmbcccmidfpgeaaDoor.Dg
