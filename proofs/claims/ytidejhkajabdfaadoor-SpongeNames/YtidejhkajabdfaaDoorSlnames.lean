/- The statement Names, walked. -/
import Derived.Test.YtidejhkajabdfaaDoorSlnone
namespace Go.Proofs.YtidejhkajabdfaaDoor.Kc
open Go.ChangeShapes Go.WideShapes Go.ChangeAt Go.RowKit
open Go.Proofs.YtidejhkajabdfaaDoor.By Go.Proofs.YtidejhkajabdfaaDoor.Wd
def z1 : Z := Z.out 168 (Z.fin 168 31 zz) 8
def z2 : Z := Z.out 168 z1 160
theorem cnt1 : z1.c - (Z.fin 168 31 zz).c = 0 := by
  unfold z1; rw [(out_count (r := 168) (by omega) rfl 7).1]; rfl
theorem z2_eq : z2 = Z.out 168 (Z.fin 168 31 zz) 168 := (out_add 168 (Z.fin 168 31 zz) 8 160).symm
theorem cnt2 : z2.c - z1.c = 0 := by
  rw [z2_eq]; unfold z1; rw [(out_count (r := 168) (by omega) rfl 7).1, (out_count (r := 168) (by omega) rfl 167).1]; rfl
theorem cnt3 : (Z.out 168 z2 1).c - z2.c = 1 := by
  rw [z2_eq, ← out_add, (out_count (r := 168) (by omega) rfl 168).1, (out_count (r := 168) (by omega) rfl 167).1]; rfl
set_option maxRecDepth 4000 in
set_option maxHeartbeats 8000000 in
theorem names_walk (w : World) (hk : KT w) :
    Calls Tryd.prog 6 #[] w fun e w' => e = .returned (.bool true) ∧ Below w.heap.size w w' := by
  have G0 := hid (GS.start w hk)
  clear hk
  go_enter Tryd.func6, Tryd.ntmps6
  go_wp2_with fail
  refine (newBad 0 6 w (.inl (by omega))).mono ?_
  rintro e w1 ⟨rfl, rfl⟩
  go_wp2_with fail
  refine (newBad 12 6 w1 (.inr (.inr (by omega)))).mono ?_
  rintro e w2 ⟨rfl, rfl⟩
  go_wp2_with fail
  refine (newBad 200 6 w2 (.inr (.inl (by omega)))).mono ?_
  rintro e w3 ⟨rfl, rfl⟩
  go_wp2_with fail
  refine (newOk 192 0 w3 (by omega) (by omega) (by omega) (by decide)).mono ?_
  rintro e w4 ⟨rfl, -, hb4⟩
  have G4 := hid (G0.out.below hb4)
  clear hb4
  go_wp2_with fail
  refine (newOk 136 6 w4 (by omega) (by omega) (by omega) (by decide)).mono ?_
  rintro e w5 ⟨rfl, hs5, hb5⟩
  have G5 := hid (G4.out.addNew hb5 (k := some (136, 6, zz, false)) hs5)
  clear hs5 hb5
  obtain ⟨b, hb⟩ : ∃ b, w4.heap.size = b := ⟨_, rfl⟩
  rw [hb] at G5
  rw [hb]
  clear hb
  go_wp2_with fail
  refine (GS.close0 (sts1 := []) (sts2 := []) G5.out).mono ?_
  rintro e w6 ⟨rfl, hG6, -⟩
  have G6 := hid hG6
  clear hG6
  go_wp2_with fail
  refine (GS.readS0 (sts1 := []) (sts2 := []) G6.out 32 (by omega)).mono ?_
  rintro e w7 ⟨g, rfl, hg, ho, hG7, -⟩
  have R7 := hid ((rb_blk ho (say_b (Z.Ok.fin zz true 6 (by omega)) (by omega)) (by decide)).congr lB_b sayB)
  have G7 := hid hG7
  clear hG7 ho hg
  go_wp2_with fail
  have R8 := hid (R7.out.alloc (.cells (bl 32 (lst lB)).toArray 5))
  have Q8 := hid (rb_blk (Blk.new w7 (bl 32 (lst lB)) 5) lB_b (by decide))
  have G8 := hid (G7.out.below (below_alloc w7 (.cells (bl 32 (lst lB)).toArray 5)))
  obtain ⟨W8, hW8⟩ : ∃ x, w7.alloc (.cells (bl 32 (lst lB)).toArray 5) = x := ⟨_, rfl⟩
  rw [hW8] at R8 Q8 G8
  refine (show Calls Tryd.prog 9 #[] (w7.alloc (.cells (bl 32 (lst lB)).toArray 5)) _ from ?_)
  rw [hW8]
  clear hW8
  refine (new9 W8).mono ?_
  rintro e w9 ⟨rfl, hl9, hb9⟩
  have G9 := hid (G8.out.addLed hb9 (o := true) hl9)
  have R9 := hid (R8.out.below hb9)
  have Q9 := hid (Q8.out.below hb9)
  clear hl9 hb9 R8 Q8
  obtain ⟨lb, hlb⟩ : ∃ lb, W8.heap.size = lb := ⟨_, rfl⟩
  rw [hlb] at G9
  rw [hlb]
  clear hlb
  go_wp2_with fail
  refine (newOk 168 31 w9 (by omega) (by omega) (by omega) (by decide)).mono ?_
  rintro e w10 ⟨rfl, hs10, hb10⟩
  have G10 := hid (G9.out.addNew hb10 (k := some (168, 31, zz, false)) hs10)
  have R10 := hid (R9.out.below hb10)
  have Q10 := hid (Q9.out.below hb10)
  clear hs10 hb10 R9 Q9
  obtain ⟨xb, hxb⟩ : ∃ b, w9.heap.size = b := ⟨_, rfl⟩
  rw [hxb] at G10
  rw [hxb]
  clear hxb
  go_wp2_with fail
  refine (same_true _ _ 32 _ _ _ R10.out Q10.out (by omega) (fun _ _ => rfl)).mono ?_
  rintro e w11 ⟨rfl, d11, rfl⟩
  have G11 := hid (G10.out.below (below_drewN w10 d11))
  obtain ⟨W11, hW11⟩ : ∃ x, w10.drewN d11 = x := ⟨_, rfl⟩
  rw [hW11] at G11
  rw [hW11]
  clear hW11 R10 Q10 R7 G0 G4 G5 G6 G7 G8 G9 G10
  have SX := hid (GS.mid (sts1 := [(b, _)]) (sts2 := []) G11.out).1
  go_wp2_with fail
  refine (read_arg xb 168 31 zz false 65537 _ W11 SX.out (.inr (by omega))).mono ?_
  rintro e w12 ⟨rfl, rfl⟩
  go_wp2_with fail
  refine (read_arg xb 168 31 zz false (-1) _ _ SX.out (.inl (by omega))).mono ?_
  rintro e w13 ⟨rfl, rfl⟩
  go_wp2_with fail
  refine (shut_sp xb 168 31 zz false _ SX.out).mono ?_
  rintro e w14 ⟨rfl, rfl⟩
  go_wp2_with fail
  refine (len20 lb _ [] _ (GS.midL (leds1 := []) (leds2 := []) G11.out).1).mono ?_
  rw [show tot ([] : List Rn) = 0 from rfl]
  rintro e w15 ⟨rfl, rfl⟩
  go_wp2_with fail
  refine (GS.readO (sts1 := [(b, _)]) (sts2 := []) (leds1 := []) (leds2 := []) G11.out 8 (by omega) big_nil).mono ?_
  rintro e w16 ⟨g16, rfl, -, -, rv16, hG16, -⟩
  have hG : GS w3 w3.heap.size ([(b, some (136, 6, Z.out 136 (Z.fin 136 6 zz) 32, true))] ++ (xb, some (168, 31, z1, true)) :: []) ([] ++ ⟨true, lb, rv16, [⟨3, 200, 1⟩]⟩ :: []) w16 := by
    have e1 : evk (evk [] 1) ((Z.out 168 (Z.fin 168 31 zz) 8).c - (Z.fin 168 31 zz).c) = [⟨3, 200, 1⟩] := by rw [show (Z.out 168 (Z.fin 168 31 zz) 8).c - (Z.fin 168 31 zz).c = 0 from cnt1]; rfl
    rw [e1] at hG16
    exact hG16
  have G16 := hid hG
  clear hG hG16 G11 SX
  have SY := hid (GS.mid (sts1 := [(b, _)]) (sts2 := []) G16.out).1
  go_wp2_with fail
  refine (len20 lb _ [⟨3, 200, 1⟩] _ (GS.midL (leds1 := []) (leds2 := []) G16.out).1).mono ?_
  rw [show tot ([⟨3, 200, 1⟩] : List Rn) = 1 from rfl]
  rintro e w17 ⟨rfl, rfl⟩
  go_wp2_with fail
  refine (write_shut xb 168 31 z1 _ _ _ SY.out).mono ?_
  rintro e w18 ⟨rfl, rfl⟩
  go_wp2_with fail
  refine (close_shut xb 168 31 z1 _ _ SY.out).mono ?_
  rintro e w19 ⟨rfl, rfl⟩
  go_wp2_with fail
  refine (shut_sp xb 168 31 z1 true _ SY.out).mono ?_
  rintro e w20 ⟨rfl, rfl⟩
  go_wp2_with fail
  refine (rate_sp xb 168 31 z1 true _ SY.out).mono ?_
  rintro e w21 ⟨rfl, rfl⟩
  go_wp2_with fail
  refine (GS.readS (sts1 := [(b, _)]) (sts2 := []) (leds1 := []) (leds2 := []) G16.out 160 (by omega) ⟨by decide, by decide⟩).mono ?_
  rintro e w22 ⟨g22, rfl, -, -, rv22, hG22, -⟩
  have hG : GS w3 w3.heap.size ([(b, some (136, 6, Z.out 136 (Z.fin 136 6 zz) 32, true))] ++ (xb, some (168, 31, z2, true)) :: []) ([] ++ ⟨true, lb, rv22, [⟨3, 200, 1⟩]⟩ :: []) w22 := by
    have e1 : evk [⟨3, 200, 1⟩] ((Z.out 168 z1 160).c - z1.c) = [⟨3, 200, 1⟩] := by rw [show (Z.out 168 z1 160).c - z1.c = 0 from cnt2]; rfl
    rw [e1] at hG22
    exact hG22
  have G22 := hid hG
  clear hG hG22 G16 SY
  go_wp2_with fail
  refine (len20 lb _ [⟨3, 200, 1⟩] _ (GS.midL (leds1 := []) (leds2 := []) G22.out).1).mono ?_
  rw [show tot ([⟨3, 200, 1⟩] : List Rn) = 1 from rfl]
  rintro e w23 ⟨rfl, rfl⟩
  go_wp2_with fail
  refine (GS.readS (sts1 := [(b, _)]) (sts2 := []) (leds1 := []) (leds2 := []) G22.out 1 (by omega) ⟨by decide, by decide⟩).mono ?_
  rintro e w24 ⟨g24, rfl, -, -, rv24, hG24, -⟩
  have hG : GS w3 w3.heap.size ([(b, some (136, 6, Z.out 136 (Z.fin 136 6 zz) 32, true))] ++ (xb, some (168, 31, Z.out 168 z2 1, true)) :: []) ([] ++ ⟨true, lb, rv24, [⟨3, 200, 2⟩]⟩ :: []) w24 := by
    rw [cnt3] at hG24
    exact hG24
  have G24 := hid hG
  clear hG hG24 G22
  go_wp2_with fail
  refine (runs22 lb rv24 _ _ (GS.midL (leds1 := []) (leds2 := []) G24.out).1 (by show ([⟨3, 200, 2⟩] : List Rn).length * 24 ≤ _; decide)).mono ?_
  rintro e w25 ⟨u25, rfl, hu25, hb25⟩
  have U25 := hid hu25
  have G25 := hid (G24.out.below hb25)
  clear hu25 hb25 G24
  go_wp2_with fail
  have ol := own_lit w25 [⟨3, 200, 2⟩] #[.int .u8 3, .int .i64 200, .int .i64 2] (fun r hr => by simp at hr; subst hr; exact ⟨by decide, by decide, by decide⟩) rfl (by decide)
  refine (same14 _ _ [⟨3, 200, 2⟩] [⟨3, 200, 2⟩] _ ((U25.out.alloc _).reads) ol.reads (by decide) (by decide)).mono ?_
  rw [decide_eq_true (show ([⟨3, 200, 2⟩] : List Rn) = [⟨3, 200, 2⟩] from rfl)]
  rintro e w26 ⟨rfl, d26, rfl⟩
  have G26 := hid (G25.out.below (below_drew' (below_alloc w25 (.cells #[.int .u8 3, .int .i64 200, .int .i64 2] 67)) d26))
  clear ol G25 U25
  obtain ⟨w27, hw27⟩ : ∃ x, (w25.alloc (.cells #[.int .u8 3, .int .i64 200, .int .i64 2] 67)).drewN d26 = x := ⟨_, rfl⟩
  rw [hw27] at G26
  rw [hw27]
  clear hw27
  go_wp2_with fail
  refine (GS.readS0 (sts1 := [(b, _)]) (sts2 := []) G26.out 65536 (by omega)).mono ?_
  rintro e w28 ⟨g28, rfl, -, -, hG28, -⟩
  have G28 := hid hG28
  clear hG28 G26
  go_wp2_with fail
  refine (lives1 _ G28.out.kt).mono ?_
  rintro e w29 ⟨rfl, hb29⟩
  have G29 := hid (G28.out.below hb29)
  clear hb29 G28
  go_wp2
  go_ret
  exact ⟨rfl, G29.out.bel⟩
end Go.Proofs.YtidejhkajabdfaaDoor.Kc
