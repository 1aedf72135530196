/- The law HmacNames. -/
import Derived.Test.YtpgkalgnlkfmaaaDoorZmk
import Derived.Test.YtpgkalgnlkfmaaaDoorMev
import Derived.Deep.RegionHeld3
namespace Go.Proofs.YtpgkalgnlkfmaaaDoor.Dg
open Go.ChangeShapes Go.WideShapes Go.ChangeAt Go.RowKit
open Go.Proofs.YtpgkalgnlkfmaaaDoor.By
open Go.Proofs.YtpgkalgnlkfmaaaDoor.Sh (Blk size_alloc)
theorem rb_nil (w : World) : By.RB w (.slice none 0 0) 0 knul := (own_nil w 0 knul knul_b).reads
theorem l4 : sev false (evs false (kev false [] 0) (0 / bk false)) 0 = [⟨1, 64, 4⟩] := by rfl
theorem l5 : sev true (evs true (kev true [] 3) (3 / bk true)) 3 = [⟨2, 128, 4⟩] := by rfl
theorem l65 : kev false [] 65 = [⟨1, 64, 4⟩] := by rfl
theorem l64 : kev false [] 64 = [⟨1, 64, 2⟩] := by rfl
theorem s55 : sev false [] 55 = [⟨1, 64, 2⟩] := by rfl
theorem s56 : sev false [] 56 = [⟨1, 64, 3⟩] := by rfl
theorem s64 : sev false [] 64 = [⟨1, 64, 2⟩] := by rfl
theorem make65z (w : World) : (Instr.makeSlice 24 (.int .i64 65) (.int .i64 65)).run Tryd.prog w = .ok (.slice (some ⟨w.heap.size, 0, none⟩) 65 65) (w.alloc (.cells (bl 65 nof).toArray 5)) := by kernel_rfl
theorem make64z (w : World) : (Instr.makeSlice 24 (.int .i64 64) (.int .i64 64)).run Tryd.prog w = .ok (.slice (some ⟨w.heap.size, 0, none⟩) 64 64) (w.alloc (.cells (bl 64 nof).toArray 5)) := by kernel_rfl
theorem make55z (w : World) : (Instr.makeSlice 24 (.int .i64 55) (.int .i64 55)).run Tryd.prog w = .ok (.slice (some ⟨w.heap.size, 0, none⟩) 55 55) (w.alloc (.cells (bl 55 nof).toArray 5)) := by kernel_rfl
theorem make56z (w : World) : (Instr.makeSlice 24 (.int .i64 56) (.int .i64 56)).run Tryd.prog w = .ok (.slice (some ⟨w.heap.size, 0, none⟩) 56 56) (w.alloc (.cells (bl 56 nof).toArray 5)) := by kernel_rfl
/-- What the loops hold. -/
structure NI (w : World) (_n za zb : Nat) (ca cb : List Value) (W : World) : Prop where
  g : ∃ sts rv L, GM w w.heap.size sts [⟨true, w.heap.size, rv, L⟩] W
  a : Blk W za ca 3
  b : Blk W zb cb 3
structure NJ (w : World) (sts : List EM) (b : Nat) (K : Nat → Int) (fv : Value) (F : Nat → Int) (za zb : Nat) (W : World) : Prop where
  g : ∃ m f c0 b1 b2 rv L, GM w w.heap.size (sts ++ (b, some ⟨false, K, m, f, c0, b1, b2⟩) :: []) [⟨true, w.heap.size, rv, L⟩] W
  a : Blk W za [.int .i64 55, .int .i64 56, .int .i64 64] 3
  b : Blk W zb [.int .i64 2, .int .i64 3, .int .i64 2] 3
  f : By.Own W 0 fv 312 F
theorem form32 : ∀ i, i < 8 → mfm false (kb false 3 kkey) 0 nof (32 + i) = lst [0, 0, 0, 0, 0, 0, 0, 64] i := by
  intro i hi
  have h : mfm false (kb false 3 kkey) 0 nof (32 + i) = Wd.beByte 8 (((64 + 0 : Nat)) : Int) i := by
    show (if 32 + i < 104 + 104 then (if 32 + i < 104 then (if 32 + i < 40 then (if 32 + i < 32 then _ else Wd.beByte 8 _ (32 + i - 32)) else _) else _) else _) = _
    rw [if_pos (by omega), if_pos (by omega), if_pos (by omega), if_neg (by omega), show 32 + i - 32 = i from by omega]
    rfl
  rw [h]
  exact (show ∀ i, i < 8 → Wd.beByte 8 (((64 + 0 : Nat)) : Int) i = lst [0, 0, 0, 0, 0, 0, 0, 64] i by decide +kernel) i hi
theorem form136 : ∀ i, i < 8 → mfm false (kb false 3 kkey) 0 nof (136 + i) = lst [0, 0, 0, 0, 0, 0, 0, 64] i := by
  intro i hi
  have h : mfm false (kb false 3 kkey) 0 nof (136 + i) = Wd.beByte 8 ((64 : Nat) : Int) i := by
    show (if 136 + i < 104 + 104 then (if 136 + i < 104 then _ else (if 136 + i - 104 < 40 then (if 136 + i - 104 < 32 then _ else Wd.beByte 8 _ (136 + i - 104 - 32)) else _)) else _) = _
    rw [if_pos (by omega), if_neg (by omega), if_pos (by omega), if_neg (by omega), show 136 + i - 104 - 32 = i from by omega]
    rfl
  rw [h]
  exact (show ∀ i, i < 8 → Wd.beByte 8 ((64 : Nat) : Int) i = lst [0, 0, 0, 0, 0, 0, 0, 64] i by decide +kernel) i hi
theorem se_nil {lb j : Nat} (h : SE ⟨true, lb, .slice none 0 0, []⟩ j) : j = lb := by
  rcases h with e | e
  · exact e
  · simp [Value.ownBlock] at e
set_option maxRecDepth 40000 in
set_option maxHeartbeats 8000000 in
theorem names1 (w : World) (hk : KT w) : Calls Tryd.prog 3 #[] w fun e w' => e = .returned (.bool true) ∧ Below w.heap.size w w' := by
  have HK := hid hk
  have hcv := fun w => Lib.run_convert_bytes_const (P := Tryd.prog) w 24 5 #[Value.int .u8 107, .int .u8 101, .int .u8 121] 3 3 Tryd.underlying24 Tryd.underlying5
  have hcw := fun w => Lib.run_convert_bytes_const (P := Tryd.prog) w 24 5 #[Value.int .u8 97, .int .u8 98, .int .u8 99] 3 3 Tryd.underlying24 Tryd.underlying5
  clear hk
  go_enter Tryd.func3, Tryd.ntmps3
  go_wp2_with fail
  refine (new9 _).mono ?_
  rintro e w1 ⟨rfl, hl, hb⟩
  have G := hid ((GM.start w HK.out).addLed hb (o := true) hl)
  clear hl hb
  go_wp2_with fail
  refine (GM.tag (l1 := []) (l2 := []) G.out false 0 0 _ _ knul knul (fun w' _ => rb_nil w') (fun w' _ => rb_nil w') (by omega) (by omega) (by decide)).mono ?_
  rw [l4]
  rintro e w2 ⟨u2, rv2, rfl, hu, hG, -⟩
  have U_2 := hid hu
  have G2 := hid hG
  clear hu hG G
  go_wp2_with fail
  refine (unhex1 sNN 32 _ rfl (by omega)).mono ?_
  rintro e w3 ⟨x3, rfl, hx, hb⟩
  have X_3 := hid hx
  clear hx
  have G3 := hid (G2.out.below hb)
  have U_3 := hid (own_below U_2.out hb)
  clear hb G2 U_2
  go_wp2_with fail
  refine (same_true _ _ 32 _ _ _ U_3.out.reads X_3.out.reads (by decide) (fun i hi => (hm_nn i hi).trans (hexNN i hi))).mono ?_
  rintro e w4 ⟨rfl, d4, hw⟩
  have hb : Below w3.heap.size w3 w4 := by rw [hw]; exact below_drewN w3 d4
  clear hw
  have G4 := hid (G3.out.below hb)
  have U_4 := hid (own_below U_3.out hb)
  have X_4 := hid (own_below X_3.out hb)
  clear hb G3 U_3 X_3
  clear U_4 X_4
  go_wp2_with fail
  refine (runs22 _ _ _ _ (GM.midL (l1 := []) (l2 := []) G4.out).1 (by decide)).mono ?_
  rintro e w5 ⟨r5, rfl, ho, hb⟩
  have O5 := hid ho
  clear ho
  have G5 := hid (G4.out.below hb)
  clear hb G4
  go_wp2_with fail
  refine (events256 4 (by decide) (by decide) _).mono ?_
  rintro e w6 ⟨r6, rfl, ho, hb⟩
  have P6 := hid ho
  have Q6 := hid (O5.out.below hb)
  clear ho O5
  have G6 := hid (G5.out.below hb)
  clear hb G5
  go_wp2_with fail
  refine (same14 _ _ [⟨1, 64, 4⟩] [⟨1, 64, 4⟩] _ Q6.out.reads P6.out.reads (by decide) (by decide)).mono ?_
  rw [decide_eq_true (show ([⟨1, 64, 4⟩] : List Rn) = [⟨1, 64, 4⟩] from rfl)]
  rintro e w7 ⟨rfl, d7, hw⟩
  have hb : Below w6.heap.size w6 w7 := by rw [hw]; exact below_drewN w6 d7
  clear hw P6 Q6
  have G7 := hid (G6.out.below hb)
  clear hb G6
  go_wp2_with fail
  refine (GM.resetL (l1 := []) (l2 := []) G7.out).mono ?_
  rintro e w8 ⟨rfl, hG, hko⟩
  have G8 := hid hG
  clear hG G7
  clear hko 
  have hcx := hcw (w8.alloc (.cells #[Value.int .u8 107, .int .u8 101, .int .u8 121] 5 (3, 4)))
  rw [size_alloc] at hcx
  go_wp2_with fail
  have lt0 := (GM.midL (l1 := []) (l2 := []) G8.out).1.lt
  have R3 := Sg.rb_marked w8 3 kkey (3, 4) kkey_b (by decide)
  have c3 := below_alloc w8 (.cells (bl 3 kkey).toArray 5 (3, 4))
  rw [key_arr] at R3 c3
  have R4 := Sg.rb_marked (w8.alloc (.cells #[Value.int .u8 107, .int .u8 101, .int .u8 121] 5 (3, 4))) 3 Sh.abc (3, 4) abc_b (by decide)
  have c4 := below_alloc (w8.alloc (.cells #[Value.int .u8 107, .int .u8 101, .int .u8 121] 5 (3, 4))) (.cells (bl 3 Sh.abc).toArray 5 (3, 4))
  rw [abc_arr] at R4 c4
  rw [size_alloc] at R4
  have RK := hid (R3.below c4)
  have RA := hid R4
  have Ga := hid (G8.out.below (below_next c3 c4))
  clear R3 c3 R4 c4 G8 hcx
  refine (GM.tag (l1 := []) (l2 := []) Ga.out true 3 3 _ _ kkey Sh.abc (fun w' hk' => Sg.rb_kept RK.out hk' (fun e => by have := se_nil e; omega)) (fun w' hk' => Sg.rb_kept RA.out hk' (fun e => by have := se_nil e; omega)) (by omega) (by omega) (by decide)).mono ?_
  rw [l5]
  rintro e w9 ⟨u9, rv9, rfl, -, hG, -⟩
  have G9 := hid hG
  clear hG Ga RK RA lt0
  go_wp2_with fail
  refine (runs22 _ _ _ _ (GM.midL (l1 := []) (l2 := []) G9.out).1 (by decide)).mono ?_
  rintro e w10 ⟨r10, rfl, ho, hb⟩
  have O10 := hid ho
  clear ho
  have G10 := hid (G9.out.below hb)
  clear hb G9
  go_wp2_with fail
  refine (events512 4 (by decide) (by decide) _).mono ?_
  rintro e w11 ⟨r11, rfl, ho, hb⟩
  have P11 := hid ho
  have Q11 := hid (O10.out.below hb)
  clear ho O10
  have G11 := hid (G10.out.below hb)
  clear hb G10
  go_wp2_with fail
  refine (same14 _ _ [⟨2, 128, 4⟩] [⟨2, 128, 4⟩] _ Q11.out.reads P11.out.reads (by decide) (by decide)).mono ?_
  rw [decide_eq_true (show ([⟨2, 128, 4⟩] : List Rn) = [⟨2, 128, 4⟩] from rfl)]
  rintro e w12 ⟨rfl, d12, hw⟩
  have hb : Below w11.heap.size w11 w12 := by rw [hw]; exact below_drewN w11 d12
  clear hw P11 Q11
  have G12 := hid (G11.out.below hb)
  clear hb G11
  have I1 := hid (Sh.Blk.new w12 [.int .i64 65, .int .i64 64] 3)
  have I2 := hid (Sh.Blk.new (w12.alloc (.cells #[.int .i64 65, .int .i64 64] 3)) [.int .i64 4, .int .i64 2] 3)
  have c1 := below_alloc w12 (.cells #[.int .i64 65, .int .i64 64] 3)
  have c2 := below_alloc (w12.alloc (.cells #[.int .i64 65, .int .i64 64] 3)) (.cells #[.int .i64 4, .int .i64 2] 3)
  rw [size_alloc] at I2
  have N0 := hid (show NI w 2 w12.heap.size (w12.heap.size + 1) [.int .i64 65, .int .i64 64] [.int .i64 4, .int .i64 2] ((w12.alloc (.cells #[.int .i64 65, .int .i64 64] 3)).alloc (.cells #[.int .i64 4, .int .i64 2] 3)) from ⟨⟨_, _, _, G12.out.below (below_next c1 c2)⟩, I1.out.below c2, I2.out⟩)
  clear c1 c2 I1 I2 G12
  go_wp2_with fail
  go_loopw [7] (fun i wr => ∃ k : Nat, k ≤ 2 ∧ i = .int .i64 k ∧ NI w 2 w12.heap.size (w12.heap.size + 1) [.int .i64 65, .int .i64 64] [.int .i64 4, .int .i64 2] wr) (fun i _ => 2 - (intOf i).toNat)
  case atStart => exact ⟨0, by omega, rfl, N0.out⟩
  case round =>
    clear N0
    obtain ⟨k, hk, rfl, hni⟩ := hrel
    match k, hk with
    | 0, _ =>
      obtain ⟨⟨sts, rv, L, hG⟩, hi1, hi2⟩ := hni
      have G100 := hid hG
      have I1 := hid hi1
      have I2 := hid hi2
      clear hG hi1 hi2
      go_wp2_with fail
      refine (GM.resetL (l1 := []) (l2 := []) G100.out).mono ?_
      rintro e wa ⟨rfl, hG, hko⟩
      have Ga := hid hG
      have x1 := (hko _ _ _ I1.out (by decide)).cell 0 _ rfl
      have J1 := hid (hko _ _ _ I1.out (by decide))
      have J2 := hid (hko _ _ _ I2.out (by decide))
      clear hG hko G100 I1 I2
      have hmk := make65z
      have Gb := hid (Ga.out.below (below_alloc wa (.cells (bl 65 nof).toArray 5)))
      have lt0 := (GM.midL (l1 := []) (l2 := []) Ga.out).1.lt
      have R := hid (Sg.rb_marked wa 65 nof (0, 0) nof_b (by decide))
      have K1 := hid (J1.out.below (below_alloc wa (.cells (bl 65 nof).toArray 5)))
      have K2 := hid (J2.out.below (below_alloc wa (.cells (bl 65 nof).toArray 5)))
      clear Ga J1 J2
      go_wp2_with fail
      refine (GM.new (l1 := []) (l2 := []) Gb.out false 65 _ nof (fun w' hk' => Sg.rb_kept R.out hk' (fun e => by have := se_nil e; omega)) (by omega) (by decide)).mono ?_
      rw [l65]
      rintro e wb ⟨b, b0, b1, b2, rvb, rfl, hG, hko, -⟩
      have Gc := hid hG
      have x2 := (hko _ _ _ K2.out (by decide)).cell 0 _ rfl
      have J1 := hid (hko _ _ _ K1.out (by decide))
      have J2 := hid (hko _ _ _ K2.out (by decide))
      clear hG hko Gb R K1 K2 hmk x1 lt0
      have HA := hid (show Calls Tryd.prog 11 #[.pointer (some ⟨w.heap.size, 0, none⟩)] wb.drew (fun e w' => ∃ r, e = .returned r ∧ Own w' wb.heap.size r [⟨1, 64, 4⟩] ∧ Below wb.heap.size wb w') from by
        refine (runs22 _ _ _ _ ((GM.midL (l1 := []) (l2 := []) Gc.out).1.below (below_drewN wb 1)) (by decide)).mono ?_
        rintro e w' ⟨r, rfl, ho, hb⟩
        exact ⟨r, rfl, ho, below_next (below_drewN wb 1) hb⟩)
      have HB := hid (fun (W : World) (hb : Below wb.heap.size wb W) => show Calls Tryd.prog 12 #[.bool false, .int .i64 4] W (fun e w' => ∃ r, e = .returned r ∧ Own w' (W.heap.size + 1) r [⟨1, 64, 4⟩] ∧ Below wb.heap.size wb w' ∧ Below W.heap.size W w') from by
        refine (events256 4 (by decide) (by decide) W).mono ?_
        rintro e w' ⟨r, rfl, ho, hb'⟩
        exact ⟨r, rfl, ho, below_next hb hb', hb'⟩)
      have x0 : wb.cell? ⟨(w12.heap.size + 1), 0, none⟩ = some (.int .i64 4) := J2.out.cell 0 _ rfl
      have CB := hid (fun (W : World) (hb : Below wb.heap.size wb W) => show W.cell? ⟨(w12.heap.size + 1), 0, none⟩ = some (.int .i64 4) from (J2.out.below hb).cell 0 _ rfl)
      clear x2
      go_upto_region 16 with fail
      go_region_held3 (fun W => W.cell? ⟨(w12.heap.size + 1), 0, none⟩ = some (.int .i64 4)) (first | assumption | go_keep) (first
        | (go_at_call 11; refine HA.out.mono ?_; rintro e wc ⟨r, rfl, ho, hb⟩; have O := hid ho; have BC := hid hb; have y1 := CB.out _ hb; clear ho hb)
        | (go_at_call 12; refine (HB.out _ BC.out).mono ?_; rintro e wd ⟨q, rfl, ho, hb, hb2⟩; have P := hid ho; have O2 := hid (O.out.below hb2); have BD := hid hb; have y2 := CB.out _ hb; clear ho hb hb2)
        | (go_at_call 10; refine (same14 _ _ [⟨1, 64, 4⟩] [⟨1, 64, 4⟩] _ O2.out.reads P.out.reads (by decide) (by decide)).mono ?_; rw [decide_eq_true (show ([⟨1, 64, 4⟩] : List Rn) = [⟨1, 64, 4⟩] from rfl)]; rintro e wf ⟨rfl, df, hw⟩; have BF := hid (show Below wb.heap.size wb wf from by rw [hw]; exact below_next BD.out (below_drewN wd df)); have y3 := CB.out _ BF.out; clear hw))
      have GD := hid (Gc.out.below BF.out)
      have JA := hid (J1.out.below BF.out)
      have JB := hid (J2.out.below BF.out)
      clear HA HB x0 CB y1 y2 y3 O P O2 BC BD Gc J1 J2
      go_wp2
      exact ⟨⟨1, by omega, rfl, ⟨_, _, _, GD.out⟩, JA.out, JB.out⟩, by simp [intOf]⟩
    | 1, _ =>
      obtain ⟨⟨sts, rv, L, hG⟩, hi1, hi2⟩ := hni
      have G120 := hid hG
      have I1 := hid hi1
      have I2 := hid hi2
      clear hG hi1 hi2
      go_wp2_with fail
      refine (GM.resetL (l1 := []) (l2 := []) G120.out).mono ?_
      rintro e wa ⟨rfl, hG, hko⟩
      have Ga := hid hG
      have x1 := (hko _ _ _ I1.out (by decide)).cell 1 _ rfl
      have J1 := hid (hko _ _ _ I1.out (by decide))
      have J2 := hid (hko _ _ _ I2.out (by decide))
      clear hG hko G120 I1 I2
      have hmk := make64z
      have Gb := hid (Ga.out.below (below_alloc wa (.cells (bl 64 nof).toArray 5)))
      have lt0 := (GM.midL (l1 := []) (l2 := []) Ga.out).1.lt
      have R := hid (Sg.rb_marked wa 64 nof (0, 0) nof_b (by decide))
      have K1 := hid (J1.out.below (below_alloc wa (.cells (bl 64 nof).toArray 5)))
      have K2 := hid (J2.out.below (below_alloc wa (.cells (bl 64 nof).toArray 5)))
      clear Ga J1 J2
      go_wp2_with fail
      refine (GM.new (l1 := []) (l2 := []) Gb.out false 64 _ nof (fun w' hk' => Sg.rb_kept R.out hk' (fun e => by have := se_nil e; omega)) (by omega) (by decide)).mono ?_
      rw [l64]
      rintro e wb ⟨b, b0, b1, b2, rvb, rfl, hG, hko, -⟩
      have Gc := hid hG
      have x2 := (hko _ _ _ K2.out (by decide)).cell 1 _ rfl
      have J1 := hid (hko _ _ _ K1.out (by decide))
      have J2 := hid (hko _ _ _ K2.out (by decide))
      clear hG hko Gb R K1 K2 hmk x1 lt0
      have HA := hid (show Calls Tryd.prog 11 #[.pointer (some ⟨w.heap.size, 0, none⟩)] wb.drew (fun e w' => ∃ r, e = .returned r ∧ Own w' wb.heap.size r [⟨1, 64, 2⟩] ∧ Below wb.heap.size wb w') from by
        refine (runs22 _ _ _ _ ((GM.midL (l1 := []) (l2 := []) Gc.out).1.below (below_drewN wb 1)) (by decide)).mono ?_
        rintro e w' ⟨r, rfl, ho, hb⟩
        exact ⟨r, rfl, ho, below_next (below_drewN wb 1) hb⟩)
      have HB := hid (fun (W : World) (hb : Below wb.heap.size wb W) => show Calls Tryd.prog 12 #[.bool false, .int .i64 2] W (fun e w' => ∃ r, e = .returned r ∧ Own w' (W.heap.size + 1) r [⟨1, 64, 2⟩] ∧ Below wb.heap.size wb w' ∧ Below W.heap.size W w') from by
        refine (events256 2 (by decide) (by decide) W).mono ?_
        rintro e w' ⟨r, rfl, ho, hb'⟩
        exact ⟨r, rfl, ho, below_next hb hb', hb'⟩)
      have x0 : wb.cell? ⟨(w12.heap.size + 1), 1, none⟩ = some (.int .i64 2) := J2.out.cell 1 _ rfl
      have CB := hid (fun (W : World) (hb : Below wb.heap.size wb W) => show W.cell? ⟨(w12.heap.size + 1), 1, none⟩ = some (.int .i64 2) from (J2.out.below hb).cell 1 _ rfl)
      clear x2
      go_upto_region 16 with fail
      go_region_held3 (fun W => W.cell? ⟨(w12.heap.size + 1), 1, none⟩ = some (.int .i64 2)) (first | assumption | go_keep) (first
        | (go_at_call 11; refine HA.out.mono ?_; rintro e wc ⟨r, rfl, ho, hb⟩; have O := hid ho; have BC := hid hb; have y1 := CB.out _ hb; clear ho hb)
        | (go_at_call 12; refine (HB.out _ BC.out).mono ?_; rintro e wd ⟨q, rfl, ho, hb, hb2⟩; have P := hid ho; have O2 := hid (O.out.below hb2); have BD := hid hb; have y2 := CB.out _ hb; clear ho hb hb2)
        | (go_at_call 10; refine (same14 _ _ [⟨1, 64, 2⟩] [⟨1, 64, 2⟩] _ O2.out.reads P.out.reads (by decide) (by decide)).mono ?_; rw [decide_eq_true (show ([⟨1, 64, 2⟩] : List Rn) = [⟨1, 64, 2⟩] from rfl)]; rintro e wf ⟨rfl, df, hw⟩; have BF := hid (show Below wb.heap.size wb wf from by rw [hw]; exact below_next BD.out (below_drewN wd df)); have y3 := CB.out _ BF.out; clear hw))
      have GD := hid (Gc.out.below BF.out)
      have JA := hid (J1.out.below BF.out)
      have JB := hid (J2.out.below BF.out)
      clear HA HB x0 CB y1 y2 y3 O P O2 BC BD Gc J1 J2
      go_wp2
      exact ⟨⟨2, by omega, rfl, ⟨_, _, _, GD.out⟩, JA.out, JB.out⟩, by simp [intOf]⟩
    | 2, _ =>
      obtain ⟨⟨sts, rv, L, hG⟩, -, -⟩ := hni
      have G200 := hid hG
      clear hG
      go_wp2_with fail
      refine (newNo 3 _ _ _ (by decide) (by decide)).mono ?_
      rintro e w201 ⟨rfl, hb⟩
      have G201 := hid (G200.out.below hb)
      clear hb G200
      go_wp2_with fail
      refine (newNo 0 _ _ _ (by decide) (by decide)).mono ?_
      rintro e w202 ⟨rfl, hb⟩
      have G202 := hid (G201.out.below hb)
      clear hb G201
      go_wp2_with fail
      have R := hid (Sg.rb_marked w202 3 kkey (3, 4) kkey_b (by decide))
      have c1 := below_alloc w202 (.cells (bl 3 kkey).toArray 5 (3, 4))
      rw [key_arr] at R c1
      have Ga := hid (G202.out.below c1)
      clear c1 G202
      refine (GM.new0 Ga.out false 3 _ kkey R.out (by omega)).mono ?_
      rintro e w203 ⟨b, b0, b1, b2, rfl, hG, -, -⟩
      have G203 := hid hG
      clear hG Ga R
      go_wp2_with fail
      refine (formM b _ _ (GM.mid (s1 := sts) (s2 := []) G203.out)).mono ?_
      rintro e w204 ⟨fv, rfl, hf, hb⟩
      have F204 := hid (show By.Own w204 w203.heap.size fv 312 (mfm false (kb false 3 kkey) 0 nof) from hf)
      have G204 := hid (G203.out.below hb)
      clear hf hb G203
      obtain ⟨fg, fc, rfl, -⟩ := own_cells F204.out (by decide)
      have hfc : (312 : Int) ≤ fc := by have : 312 ≤ fc := rb_cap F204.out.reads; omega
      go_wp2_with fail
      refine (sizeM b _ _ (GM.mid (s1 := sts) (s2 := []) G204.out)).mono ?_
      rintro e w205 ⟨rfl, hw⟩
      subst w205
      have I1 := hid (Sh.Blk.new w204 [.int .i64 55, .int .i64 56, .int .i64 64] 3)
      have I2 := hid (Sh.Blk.new (w204.alloc (.cells #[.int .i64 55, .int .i64 56, .int .i64 64] 3)) [.int .i64 2, .int .i64 3, .int .i64 2] 3)
      have c1 := below_alloc w204 (.cells #[.int .i64 55, .int .i64 56, .int .i64 64] 3)
      have c2 := below_alloc (w204.alloc (.cells #[.int .i64 55, .int .i64 56, .int .i64 64] 3)) (.cells #[.int .i64 2, .int .i64 3, .int .i64 2] 3)
      rw [size_alloc] at I2
      have N0 := hid (show NJ w sts b (kb false 3 kkey) (.slice (some ⟨fg, 0, none⟩) 312 fc) (mfm false (kb false 3 kkey) 0 nof) w204.heap.size (w204.heap.size + 1) ((w204.alloc (.cells #[.int .i64 55, .int .i64 56, .int .i64 64] 3)).alloc (.cells #[.int .i64 2, .int .i64 3, .int .i64 2] 3)) from ⟨⟨_, _, _, _, _, _, _, G204.out.below (below_next c1 c2)⟩, I1.out.below c2, I2.out, Sg.own_mono (own_below F204.out (below_next c1 c2)) (Nat.zero_le _)⟩)
      clear c1 c2 I1 I2 G204 F204
      go_wp2_with fail
      go_loopw [19] (fun i wr => ∃ k : Nat, k ≤ 3 ∧ i = .int .i64 k ∧ NJ w sts b (kb false 3 kkey) (.slice (some ⟨fg, 0, none⟩) 312 fc) (mfm false (kb false 3 kkey) 0 nof) w204.heap.size (w204.heap.size + 1) wr) (fun i _ => 3 - (intOf i).toNat)
      case atStart => exact ⟨0, by omega, rfl, N0.out⟩
      case round =>
        clear N0
        obtain ⟨k, hk, rfl, hni⟩ := hrel
        match k, hk with
        | 0, _ =>
          obtain ⟨⟨m, f, c0, b1, b2, rv, L, hG⟩, hi1, hi2, hfo⟩ := hni
          have G0 := hid hG
          have I1 := hid hi1
          have I2 := hid hi2
          have FO := hid hfo
          clear hG hi1 hi2 hfo
          go_wp2_with fail
          refine (GM.reset (s1 := sts) (s2 := []) G0.out).mono ?_
          rintro e wa ⟨rfl, c, hG, hko⟩
          have G1 := hid hG
          have x1 := (hko _ _ _ I1.out (by decide)).cell 0 _ rfl
          have J1 := hid (hko _ _ _ I1.out (by decide))
          have J2 := hid (hko _ _ _ I2.out (by decide))
          have FA := hid (hko.own FO.out)
          clear hG hko G0 I1 I2 FO
          have hmk := make55z
          have ca := below_alloc wa (.cells (bl 55 nof).toArray 5)
          have G2 := hid (G1.out.below ca)
          have ltc := hid (show c < wa.heap.size by obtain ⟨cs, hc⟩ := (GM.mid (s1 := sts) (s2 := []) G1.out).s0.blk; exact hc.lt)
          have R := hid (Sg.rb_marked wa 55 nof (0, 0) nof_b (by decide))
          have K1 := hid (J1.out.below ca)
          have K2 := hid (J2.out.below ca)
          have FB := hid (own_below FA.out ca)
          clear G1 J1 J2 FA ca
          go_wp2_with fail
          refine (GM.write0 (s1 := sts) (s2 := []) G2.out 55 _ nof (fun w' hk' => Sg.rb_kept R.out hk' (fun e => by have e' : wa.heap.size = c := e; have := ltc.out; omega)) (by show 0 + 55 ≤ 5500000; omega)).mono ?_
          rintro e wc ⟨rfl, hG, hko⟩
          have G3 := hid hG
          have J1 := hid (hko _ _ _ K1.out (by decide))
          have J2 := hid (hko _ _ _ K2.out (by decide))
          have FC := hid (hko.own FB.out)
          clear hG hko G2 K1 K2 FB R ltc hmk x1
          go_wp2_with fail
          refine (GM.resetL (l1 := []) (l2 := []) G3.out).mono ?_
          rintro e wd ⟨rfl, hG, hko⟩
          have G4 := hid hG
          have K1 := hid (hko _ _ _ J1.out (by decide))
          have K2 := hid (hko _ _ _ J2.out (by decide))
          have FD := hid (hko.own FC.out)
          clear hG hko G3 J1 J2 FC
          go_wp2_with fail
          refine (GM.sum (s1 := sts) (s2 := []) (l1 := []) (l2 := []) G4.out (by show 0 + 55 ≤ 4900000; omega) (by decide)).mono ?_
          rintro e wb ⟨sv, rvb, rfl, -, hG, hko⟩
          have Gc := hid (show GM w w.heap.size (sts ++ (b, some _) :: []) [⟨true, w.heap.size, rvb, [⟨1, 64, 2⟩]⟩] wb from by
            have e : sev false [] (0 + 55) = [⟨1, 64, 2⟩] := s55
            rw [← e]; exact hG)
          have x2 := (hko _ _ _ K2.out (by decide)).cell 0 _ rfl
          have J1 := hid (hko _ _ _ K1.out (by decide))
          have J2 := hid (hko _ _ _ K2.out (by decide))
          have FE := hid (hko.own FD.out)
          clear hG hko G4 K1 K2 FD
          have HA := hid (show Calls Tryd.prog 11 #[.pointer (some ⟨w.heap.size, 0, none⟩)] wb.drew (fun e w' => ∃ r, e = .returned r ∧ Own w' wb.heap.size r [⟨1, 64, 2⟩] ∧ Below wb.heap.size wb w') from by
            refine (runs22 _ _ _ _ ((GM.midL (l1 := []) (l2 := []) Gc.out).1.below (below_drewN wb 1)) (by decide)).mono ?_
            rintro e w' ⟨r, rfl, ho, hb⟩
            exact ⟨r, rfl, ho, below_next (below_drewN wb 1) hb⟩)
          have HB := hid (fun (W : World) (hb : Below wb.heap.size wb W) => show Calls Tryd.prog 12 #[.bool false, .int .i64 2] W (fun e w' => ∃ r, e = .returned r ∧ Own w' (W.heap.size + 1) r [⟨1, 64, 2⟩] ∧ Below wb.heap.size wb w' ∧ Below W.heap.size W w') from by
            refine (events256 2 (by decide) (by decide) W).mono ?_
            rintro e w' ⟨r, rfl, ho, hb'⟩
            exact ⟨r, rfl, ho, below_next hb hb', hb'⟩)
          have x0 : wb.cell? ⟨(w204.heap.size + 1), 0, none⟩ = some (.int .i64 2) := J2.out.cell 0 _ rfl
          have CB := hid (fun (W : World) (hb : Below wb.heap.size wb W) => show W.cell? ⟨(w204.heap.size + 1), 0, none⟩ = some (.int .i64 2) from (J2.out.below hb).cell 0 _ rfl)
          clear x2
          go_upto_region 32 with fail
          go_region_held3 (fun W => W.cell? ⟨(w204.heap.size + 1), 0, none⟩ = some (.int .i64 2)) (first | assumption | go_keep) (first
            | (go_at_call 11; refine HA.out.mono ?_; rintro e wc ⟨r, rfl, ho, hb⟩; have O := hid ho; have BC := hid hb; have y1 := CB.out _ hb; clear ho hb)
            | (go_at_call 12; refine (HB.out _ BC.out).mono ?_; rintro e wd ⟨q, rfl, ho, hb, hb2⟩; have P := hid ho; have O2 := hid (O.out.below hb2); have BD := hid hb; have y2 := CB.out _ hb; clear ho hb hb2)
            | (go_at_call 10; refine (same14 _ _ [⟨1, 64, 2⟩] [⟨1, 64, 2⟩] _ O2.out.reads P.out.reads (by decide) (by decide)).mono ?_; rw [decide_eq_true (show ([⟨1, 64, 2⟩] : List Rn) = [⟨1, 64, 2⟩] from rfl)]; rintro e wf ⟨rfl, df, hw⟩; have BF := hid (show Below wb.heap.size wb wf from by rw [hw]; exact below_next BD.out (below_drewN wd df)); have y3 := CB.out _ BF.out; clear hw))
          have GD := hid (Gc.out.below BF.out)
          have JA := hid (J1.out.below BF.out)
          have JB := hid (J2.out.below BF.out)
          have FF := hid (own_below FE.out BF.out)
          clear HA HB x0 CB y1 y2 y3 O P O2 BC BD Gc J1 J2
          go_wp2
          refine ⟨⟨_, _, _, _, _, _, _, _, _, _, _, _, _, _, _, _, _, _, _, _, _, _, _, _, _, _, _, _, _, _, _, ⟨1, by omega, rfl, ⟨_, _, _, _, _, _, _, GD.out⟩, JA.out, JB.out, FF.out⟩, rfl⟩, ?_⟩
          show 3 - (intOf (.int .i64 1)).toNat < 3 - (intOf (.int .i64 ((0 : Nat) : Int))).toNat
          decide
        | 1, _ =>
          obtain ⟨⟨m, f, c0, b1, b2, rv, L, hG⟩, hi1, hi2, hfo⟩ := hni
          have G0 := hid hG
          have I1 := hid hi1
          have I2 := hid hi2
          have FO := hid hfo
          clear hG hi1 hi2 hfo
          go_wp2_with fail
          refine (GM.reset (s1 := sts) (s2 := []) G0.out).mono ?_
          rintro e wa ⟨rfl, c, hG, hko⟩
          have G1 := hid hG
          have x1 := (hko _ _ _ I1.out (by decide)).cell 1 _ rfl
          have J1 := hid (hko _ _ _ I1.out (by decide))
          have J2 := hid (hko _ _ _ I2.out (by decide))
          have FA := hid (hko.own FO.out)
          clear hG hko G0 I1 I2 FO
          have hmk := make56z
          have ca := below_alloc wa (.cells (bl 56 nof).toArray 5)
          have G2 := hid (G1.out.below ca)
          have ltc := hid (show c < wa.heap.size by obtain ⟨cs, hc⟩ := (GM.mid (s1 := sts) (s2 := []) G1.out).s0.blk; exact hc.lt)
          have R := hid (Sg.rb_marked wa 56 nof (0, 0) nof_b (by decide))
          have K1 := hid (J1.out.below ca)
          have K2 := hid (J2.out.below ca)
          have FB := hid (own_below FA.out ca)
          clear G1 J1 J2 FA ca
          go_wp2_with fail
          refine (GM.write0 (s1 := sts) (s2 := []) G2.out 56 _ nof (fun w' hk' => Sg.rb_kept R.out hk' (fun e => by have e' : wa.heap.size = c := e; have := ltc.out; omega)) (by show 0 + 56 ≤ 5500000; omega)).mono ?_
          rintro e wc ⟨rfl, hG, hko⟩
          have G3 := hid hG
          have J1 := hid (hko _ _ _ K1.out (by decide))
          have J2 := hid (hko _ _ _ K2.out (by decide))
          have FC := hid (hko.own FB.out)
          clear hG hko G2 K1 K2 FB R ltc hmk x1
          go_wp2_with fail
          refine (GM.resetL (l1 := []) (l2 := []) G3.out).mono ?_
          rintro e wd ⟨rfl, hG, hko⟩
          have G4 := hid hG
          have K1 := hid (hko _ _ _ J1.out (by decide))
          have K2 := hid (hko _ _ _ J2.out (by decide))
          have FD := hid (hko.own FC.out)
          clear hG hko G3 J1 J2 FC
          go_wp2_with fail
          refine (GM.sum (s1 := sts) (s2 := []) (l1 := []) (l2 := []) G4.out (by show 0 + 56 ≤ 4900000; omega) (by decide)).mono ?_
          rintro e wb ⟨sv, rvb, rfl, -, hG, hko⟩
          have Gc := hid (show GM w w.heap.size (sts ++ (b, some _) :: []) [⟨true, w.heap.size, rvb, [⟨1, 64, 3⟩]⟩] wb from by
            have e : sev false [] (0 + 56) = [⟨1, 64, 3⟩] := s56
            rw [← e]; exact hG)
          have x2 := (hko _ _ _ K2.out (by decide)).cell 1 _ rfl
          have J1 := hid (hko _ _ _ K1.out (by decide))
          have J2 := hid (hko _ _ _ K2.out (by decide))
          have FE := hid (hko.own FD.out)
          clear hG hko G4 K1 K2 FD
          have HA := hid (show Calls Tryd.prog 11 #[.pointer (some ⟨w.heap.size, 0, none⟩)] wb.drew (fun e w' => ∃ r, e = .returned r ∧ Own w' wb.heap.size r [⟨1, 64, 3⟩] ∧ Below wb.heap.size wb w') from by
            refine (runs22 _ _ _ _ ((GM.midL (l1 := []) (l2 := []) Gc.out).1.below (below_drewN wb 1)) (by decide)).mono ?_
            rintro e w' ⟨r, rfl, ho, hb⟩
            exact ⟨r, rfl, ho, below_next (below_drewN wb 1) hb⟩)
          have HB := hid (fun (W : World) (hb : Below wb.heap.size wb W) => show Calls Tryd.prog 12 #[.bool false, .int .i64 3] W (fun e w' => ∃ r, e = .returned r ∧ Own w' (W.heap.size + 1) r [⟨1, 64, 3⟩] ∧ Below wb.heap.size wb w' ∧ Below W.heap.size W w') from by
            refine (events256 3 (by decide) (by decide) W).mono ?_
            rintro e w' ⟨r, rfl, ho, hb'⟩
            exact ⟨r, rfl, ho, below_next hb hb', hb'⟩)
          have x0 : wb.cell? ⟨(w204.heap.size + 1), 1, none⟩ = some (.int .i64 3) := J2.out.cell 1 _ rfl
          have CB := hid (fun (W : World) (hb : Below wb.heap.size wb W) => show W.cell? ⟨(w204.heap.size + 1), 1, none⟩ = some (.int .i64 3) from (J2.out.below hb).cell 1 _ rfl)
          clear x2
          go_upto_region 32 with fail
          go_region_held3 (fun W => W.cell? ⟨(w204.heap.size + 1), 1, none⟩ = some (.int .i64 3)) (first | assumption | go_keep) (first
            | (go_at_call 11; refine HA.out.mono ?_; rintro e wc ⟨r, rfl, ho, hb⟩; have O := hid ho; have BC := hid hb; have y1 := CB.out _ hb; clear ho hb)
            | (go_at_call 12; refine (HB.out _ BC.out).mono ?_; rintro e wd ⟨q, rfl, ho, hb, hb2⟩; have P := hid ho; have O2 := hid (O.out.below hb2); have BD := hid hb; have y2 := CB.out _ hb; clear ho hb hb2)
            | (go_at_call 10; refine (same14 _ _ [⟨1, 64, 3⟩] [⟨1, 64, 3⟩] _ O2.out.reads P.out.reads (by decide) (by decide)).mono ?_; rw [decide_eq_true (show ([⟨1, 64, 3⟩] : List Rn) = [⟨1, 64, 3⟩] from rfl)]; rintro e wf ⟨rfl, df, hw⟩; have BF := hid (show Below wb.heap.size wb wf from by rw [hw]; exact below_next BD.out (below_drewN wd df)); have y3 := CB.out _ BF.out; clear hw))
          have GD := hid (Gc.out.below BF.out)
          have JA := hid (J1.out.below BF.out)
          have JB := hid (J2.out.below BF.out)
          have FF := hid (own_below FE.out BF.out)
          clear HA HB x0 CB y1 y2 y3 O P O2 BC BD Gc J1 J2
          go_wp2
          refine ⟨⟨_, _, _, _, _, _, _, _, _, _, _, _, _, _, _, _, _, _, _, _, _, _, _, _, _, _, _, _, _, _, _, ⟨2, by omega, rfl, ⟨_, _, _, _, _, _, _, GD.out⟩, JA.out, JB.out, FF.out⟩, rfl⟩, ?_⟩
          show 3 - (intOf (.int .i64 2)).toNat < 3 - (intOf (.int .i64 ((1 : Nat) : Int))).toNat
          decide
        | 2, _ =>
          obtain ⟨⟨m, f, c0, b1, b2, rv, L, hG⟩, hi1, hi2, hfo⟩ := hni
          have G0 := hid hG
          have I1 := hid hi1
          have I2 := hid hi2
          have FO := hid hfo
          clear hG hi1 hi2 hfo
          go_wp2_with fail
          refine (GM.reset (s1 := sts) (s2 := []) G0.out).mono ?_
          rintro e wa ⟨rfl, c, hG, hko⟩
          have G1 := hid hG
          have x1 := (hko _ _ _ I1.out (by decide)).cell 2 _ rfl
          have J1 := hid (hko _ _ _ I1.out (by decide))
          have J2 := hid (hko _ _ _ I2.out (by decide))
          have FA := hid (hko.own FO.out)
          clear hG hko G0 I1 I2 FO
          have hmk := make64z
          have ca := below_alloc wa (.cells (bl 64 nof).toArray 5)
          have G2 := hid (G1.out.below ca)
          have ltc := hid (show c < wa.heap.size by obtain ⟨cs, hc⟩ := (GM.mid (s1 := sts) (s2 := []) G1.out).s0.blk; exact hc.lt)
          have R := hid (Sg.rb_marked wa 64 nof (0, 0) nof_b (by decide))
          have K1 := hid (J1.out.below ca)
          have K2 := hid (J2.out.below ca)
          have FB := hid (own_below FA.out ca)
          clear G1 J1 J2 FA ca
          go_wp2_with fail
          refine (GM.write0 (s1 := sts) (s2 := []) G2.out 64 _ nof (fun w' hk' => Sg.rb_kept R.out hk' (fun e => by have e' : wa.heap.size = c := e; have := ltc.out; omega)) (by show 0 + 64 ≤ 5500000; omega)).mono ?_
          rintro e wc ⟨rfl, hG, hko⟩
          have G3 := hid hG
          have J1 := hid (hko _ _ _ K1.out (by decide))
          have J2 := hid (hko _ _ _ K2.out (by decide))
          have FC := hid (hko.own FB.out)
          clear hG hko G2 K1 K2 FB R ltc hmk x1
          go_wp2_with fail
          refine (GM.resetL (l1 := []) (l2 := []) G3.out).mono ?_
          rintro e wd ⟨rfl, hG, hko⟩
          have G4 := hid hG
          have K1 := hid (hko _ _ _ J1.out (by decide))
          have K2 := hid (hko _ _ _ J2.out (by decide))
          have FD := hid (hko.own FC.out)
          clear hG hko G3 J1 J2 FC
          go_wp2_with fail
          refine (GM.sum (s1 := sts) (s2 := []) (l1 := []) (l2 := []) G4.out (by show 0 + 64 ≤ 4900000; omega) (by decide)).mono ?_
          rintro e wb ⟨sv, rvb, rfl, -, hG, hko⟩
          have Gc := hid (show GM w w.heap.size (sts ++ (b, some _) :: []) [⟨true, w.heap.size, rvb, [⟨1, 64, 2⟩]⟩] wb from by
            have e : sev false [] (0 + 64) = [⟨1, 64, 2⟩] := s64
            rw [← e]; exact hG)
          have x2 := (hko _ _ _ K2.out (by decide)).cell 2 _ rfl
          have J1 := hid (hko _ _ _ K1.out (by decide))
          have J2 := hid (hko _ _ _ K2.out (by decide))
          have FE := hid (hko.own FD.out)
          clear hG hko G4 K1 K2 FD
          have HA := hid (show Calls Tryd.prog 11 #[.pointer (some ⟨w.heap.size, 0, none⟩)] wb.drew (fun e w' => ∃ r, e = .returned r ∧ Own w' wb.heap.size r [⟨1, 64, 2⟩] ∧ Below wb.heap.size wb w') from by
            refine (runs22 _ _ _ _ ((GM.midL (l1 := []) (l2 := []) Gc.out).1.below (below_drewN wb 1)) (by decide)).mono ?_
            rintro e w' ⟨r, rfl, ho, hb⟩
            exact ⟨r, rfl, ho, below_next (below_drewN wb 1) hb⟩)
          have HB := hid (fun (W : World) (hb : Below wb.heap.size wb W) => show Calls Tryd.prog 12 #[.bool false, .int .i64 2] W (fun e w' => ∃ r, e = .returned r ∧ Own w' (W.heap.size + 1) r [⟨1, 64, 2⟩] ∧ Below wb.heap.size wb w' ∧ Below W.heap.size W w') from by
            refine (events256 2 (by decide) (by decide) W).mono ?_
            rintro e w' ⟨r, rfl, ho, hb'⟩
            exact ⟨r, rfl, ho, below_next hb hb', hb'⟩)
          have x0 : wb.cell? ⟨(w204.heap.size + 1), 2, none⟩ = some (.int .i64 2) := J2.out.cell 2 _ rfl
          have CB := hid (fun (W : World) (hb : Below wb.heap.size wb W) => show W.cell? ⟨(w204.heap.size + 1), 2, none⟩ = some (.int .i64 2) from (J2.out.below hb).cell 2 _ rfl)
          clear x2
          go_upto_region 32 with fail
          go_region_held3 (fun W => W.cell? ⟨(w204.heap.size + 1), 2, none⟩ = some (.int .i64 2)) (first | assumption | go_keep) (first
            | (go_at_call 11; refine HA.out.mono ?_; rintro e wc ⟨r, rfl, ho, hb⟩; have O := hid ho; have BC := hid hb; have y1 := CB.out _ hb; clear ho hb)
            | (go_at_call 12; refine (HB.out _ BC.out).mono ?_; rintro e wd ⟨q, rfl, ho, hb, hb2⟩; have P := hid ho; have O2 := hid (O.out.below hb2); have BD := hid hb; have y2 := CB.out _ hb; clear ho hb hb2)
            | (go_at_call 10; refine (same14 _ _ [⟨1, 64, 2⟩] [⟨1, 64, 2⟩] _ O2.out.reads P.out.reads (by decide) (by decide)).mono ?_; rw [decide_eq_true (show ([⟨1, 64, 2⟩] : List Rn) = [⟨1, 64, 2⟩] from rfl)]; rintro e wf ⟨rfl, df, hw⟩; have BF := hid (show Below wb.heap.size wb wf from by rw [hw]; exact below_next BD.out (below_drewN wd df)); have y3 := CB.out _ BF.out; clear hw))
          have GD := hid (Gc.out.below BF.out)
          have JA := hid (J1.out.below BF.out)
          have JB := hid (J2.out.below BF.out)
          have FF := hid (own_below FE.out BF.out)
          clear HA HB x0 CB y1 y2 y3 O P O2 BC BD Gc J1 J2
          go_wp2
          refine ⟨⟨_, _, _, _, _, _, _, _, _, _, _, _, _, _, _, _, _, _, _, _, _, _, _, _, _, _, _, _, _, _, _, ⟨3, by omega, rfl, ⟨_, _, _, _, _, _, _, GD.out⟩, JA.out, JB.out, FF.out⟩, rfl⟩, ?_⟩
          show 3 - (intOf (.int .i64 3)).toNat < 3 - (intOf (.int .i64 ((2 : Nat) : Int))).toNat
          decide
        | 3, _ =>
          obtain ⟨⟨m, f, c0, b1, b2, rv, L, hG⟩, -, -, hfo⟩ := hni
          have G0 := hid hG
          have FO := hid hfo
          clear hG hfo
          go_wp2_with fail
          have hcell : ∀ i, i < 312 → wr.cell? ⟨fg, i, none⟩ = some (.int .u8 (mfm false (kb false 3 kkey) 0 nof i)) := fun i hi => by
            obtain ⟨g', c', e, h⟩ := own_cells FO.out (by decide)
            simp only [Value.slice.injEq, Option.some.injEq, Addr.mk.injEq, and_true, true_and] at e
            obtain ⟨rfl, rfl⟩ := e
            exact h i hi
          have fcl : fc ≤ maxLen := by
            obtain ⟨_, _, c', e, _, h2, _⟩ := FO.out.reads
            simp only [Value.slice.injEq, true_and] at e
            omega
          have lit := fun (W : World) => rb_lit W #[Value.int .u8 0, .int .u8 0, .int .u8 0, .int .u8 0, .int .u8 0, .int .u8 0, .int .u8 0, .int .u8 64] 8 (lst [0, 0, 0, 0, 0, 0, 0, 64]) (lst_bound _ (by decide)) (by decide) rfl rfl
          have HA := hid (fun (W : World) (o : Nat) (ho : o = 32 ∨ o = 136) (hb : Below wr.heap.size wr W) => show Calls Tryd.prog 8 #[.slice (some ⟨fg, o, none⟩) 8 (fc - o), .slice (some ⟨W.heap.size, 0, none⟩) 8 8] (W.alloc (.cells #[Value.int .u8 0, .int .u8 0, .int .u8 0, .int .u8 0, .int .u8 0, .int .u8 0, .int .u8 0, .int .u8 64] 5)) (fun e w' => e = .returned (.bool true) ∧ Below wr.heap.size wr w') from by
            have hfl : fg < wr.heap.size := block_lt_of_cell (hcell 0 (by omega))
            have hb2 := below_next hb (below_alloc W (.cells #[Value.int .u8 0, .int .u8 0, .int .u8 0, .int .u8 0, .int .u8 0, .int .u8 0, .int .u8 0, .int .u8 64] 5))
            refine (same_true _ _ 8 (fun i => mfm false (kb false 3 kkey) 0 nof (o + i)) _ _ ⟨fun i => (FO.out.1 (o + i)), _, _, rfl, by omega, by omega, .inr ⟨fg, o, rfl, fun i hi => ?_⟩⟩ (lit W) (by decide) (fun i hi => ?_)).mono ?_
            · rw [hb2.cell (p := ⟨fg, o + i, none⟩) hfl]
              exact hcell (o + i) (by omega)
            · rcases ho with rfl | rfl
              · exact form32 i hi
              · exact form136 i hi
            · rintro e w' ⟨rfl, d, hw⟩
              exact ⟨rfl, by rw [hw]; exact below_next hb2 (below_drewN _ d)⟩)
          refine (HA.out wr 32 (.inl rfl) (Below.refl _ _)).mono ?_
          rintro e wx ⟨rfl, hb⟩
          have BX := hid hb
          clear hb
          go_wp2_with fail
          refine (HA.out wx 136 (.inr rfl) BX.out).mono ?_
          rintro e wy ⟨rfl, hb⟩
          have BY := hid hb
          clear hb
          go_wp2_with fail
          refine (awake1 _ (G0.out.kt.below BY.out)).mono ?_
          rintro e wz ⟨rfl, hb⟩
          have BZ := hid (below_next BY.out hb)
          clear hb
          go_wp2
          go_ret
          exact ⟨rfl, G0.out.bel.trans (BZ.out.mono G0.out.hB)⟩
end Go.Proofs.YtpgkalgnlkfmaaaDoor.Dg
