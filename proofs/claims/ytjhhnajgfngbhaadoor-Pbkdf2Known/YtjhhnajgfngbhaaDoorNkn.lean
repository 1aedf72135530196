/- The law Pbkdf2Known. -/
import Derived.Test.YtjhhnajgfngbhaaDoorNaw
import Derived.Test.YtjhhnajgfngbhaaDoorIpk0
namespace Go.Proofs.YtjhhnajgfngbhaaDoor.Dg
open Go.ChangeShapes Go.WideShapes Go.ChangeAt Go.RowKit
open Go.Proofs.YtjhhnajgfngbhaaDoor.By
open Go.Proofs.YtjhhnajgfngbhaaDoor.Sh (Blk size_alloc)
theorem prb_l {w : World} {ag N cap c d : Nat} {f : Nat → Int} (hr : By.RB w (.slice (some ⟨ag, 0, none⟩) N cap) N f) (h : c + d ≤ N) (hd : 0 < d) : By.RB w (.slice (some ⟨ag, c, none⟩) d (cap - c)) d (fun j => f (c + j)) := by
  obtain ⟨hf, a', cap', he, h1, h2, hc⟩ := hr
  simp only [Value.slice.injEq] at he
  obtain ⟨rfl, _, rfl⟩ := he
  refine ⟨fun i => hf _, _, _, rfl, by omega, by omega, .inr ⟨ag, c, rfl, fun i hi => ?_⟩⟩
  rcases hc with ⟨e, _⟩ | ⟨b, off, hb, hcell⟩
  · omega
  · cases hb
    have := hcell (c + i) (by omega)
    rw [Nat.zero_add] at this
    exact this
theorem rb_kept {w w' : World} {v : Value} {n : Nat} {f : Nat → Int} {S : Nat → Prop} (h : By.RB w v n f) (hk : Kp S w w') (hs : ∀ b off cap, v = .slice (some ⟨b, off, none⟩) n cap → ¬ S b) : By.RB w' v n f := by
  have h' := h
  obtain ⟨hf, a, cap, rfl, h1, h2, h0 | ⟨b, off, rfl, hc⟩⟩ := h
  · exact ⟨hf, a, cap, rfl, h1, h2, .inl h0⟩
  · refine ⟨hf, _, cap, rfl, h1, h2, .inr ⟨b, off, rfl, fun i hi => ?_⟩⟩
    have hlt := h'.lt rfl (by omega)
    have he := hk.block b hlt (hs b off cap rfl)
    have hc' := hc i hi
    unfold World.cell? at hc' ⊢
    simp only at hc' ⊢
    rw [he]
    exact hc'
set_option maxHeartbeats 2000000 in
theorem refused1 (al c n code : Int) (H : ∀ (lp v v2 : Value) (w : World), Calls Tryd.prog 14 #[lp, .int .u8 al, v, v2, .int .i64 c, .int .i64 n] w fun e w' => e = .returned (.tuple #[.slice none 0 0, .int .i64 code]) ∧ w' = w) (w : World) :
    Calls Tryd.prog 19 #[.int .u8 al, .int .i64 c, .int .i64 n, .int .i64 code] w fun e w' => e = .returned (.bool true) ∧ Below w.heap.size w w' := by
  have HH := hid H
  clear H
  go_enter Tryd.func19, Tryd.ntmps19
  go_wp2_with fail
  refine (new9 _).mono ?_
  rintro e w1 ⟨rfl, hl, hb⟩
  have c1 := Lib.run_convert_bytes_const (P := Tryd.prog) w1 22 5 #[Value.int IntKind.u8 112, Value.int IntKind.u8 97, Value.int IntKind.u8 115, Value.int IntKind.u8 115, Value.int IntKind.u8 119, Value.int IntKind.u8 111, Value.int IntKind.u8 114, Value.int IntKind.u8 100] 8 8 Tryd.underlying22 Tryd.underlying5
  simp only [List.size_toArray, List.length_cons, List.length_nil, Nat.reduceAdd] at c1
  have b2 := below_alloc w1 (.cells #[Value.int IntKind.u8 112, Value.int IntKind.u8 97, Value.int IntKind.u8 115, Value.int IntKind.u8 115, Value.int IntKind.u8 119, Value.int IntKind.u8 111, Value.int IntKind.u8 114, Value.int IntKind.u8 100] 5 (8, 9))
  have L2 := hid (hl.below b2)
  have B2 := hid (below_next hb b2)
  clear hl hb b2
  go_wp2_with fail
  clear c1
  refine (HH.out _ _ _ _).mono ?_
  rintro e ww ⟨rfl, hw⟩
  subst ww
  go_wp2_with fail
  refine (len20 _ _ _ _ L2.out).mono ?_
  rintro e ww ⟨rfl, hw⟩
  subst ww
  rw [show tot ([] : List Rn) = 0 from rfl]
  go_wp2
  go_ret
  exact ⟨rfl, B2.out⟩
theorem kl_one : kl false [] 8 4 1 32 = [⟨1, 64, 4⟩] := by decide +kernel
theorem kl_none : kl false [] 65 0 1 0 = [⟨1, 64, 4⟩] := by decide +kernel
theorem ref_n (al : Int) (h1 : ¬ al = 1) (h2 : ¬ al = 2) (c n : Int) (w : World) : Calls Tryd.prog 19 #[.int .u8 al, .int .i64 c, .int .i64 n, .int .i64 4] w fun e w' => e = .returned (.bool true) ∧ Below w.heap.size w w' := refused1 al c n 4 (fun lp v v2 w => pkeyN al h1 h2 lp v v2 c n w) w
theorem ref_b (a : Bool) (al c n code : Int) (ha : an a = al) (h : ¬ kok c n) (hc : kc c n = code) (w : World) : Calls Tryd.prog 19 #[.int .u8 al, .int .i64 c, .int .i64 n, .int .i64 code] w fun e w' => e = .returned (.bool true) ∧ Below w.heap.size w w' := refused1 al c n code (fun lp v v2 w => by rw [← ha, ← hc]; exact pkey_bad a c n h lp v v2 w) w
set_option maxRecDepth 8000 in
set_option maxHeartbeats 16000000 in
theorem known_on (w : World) (hk : KT w) : Calls Tryd.prog 6 #[] w fun e w' => e = .returned (.bool true) ∧ Below w.heap.size w w' := by
  have HK := hid hk
  clear hk
  have T0 := hid tq_nil
  have c1 := Lib.run_convert_bytes_const (P := Tryd.prog) w 22 5 #[Value.int IntKind.u8 112, Value.int IntKind.u8 97, Value.int IntKind.u8 115, Value.int IntKind.u8 115, Value.int IntKind.u8 119, Value.int IntKind.u8 111, Value.int IntKind.u8 114, Value.int IntKind.u8 100] 8 8 Tryd.underlying22 Tryd.underlying5
  have c2 := Lib.run_convert_bytes_const (P := Tryd.prog) (w.alloc (.cells #[Value.int IntKind.u8 112, Value.int IntKind.u8 97, Value.int IntKind.u8 115, Value.int IntKind.u8 115, Value.int IntKind.u8 119, Value.int IntKind.u8 111, Value.int IntKind.u8 114, Value.int IntKind.u8 100] 5 (8, 9))) 22 5 #[Value.int IntKind.u8 115, Value.int IntKind.u8 97, Value.int IntKind.u8 108, Value.int IntKind.u8 116] 4 4 Tryd.underlying22 Tryd.underlying5
  simp only [List.size_toArray, List.length_cons, List.length_nil, Nat.reduceAdd, size_alloc] at c1 c2
  go_enter Tryd.func6, Tryd.ntmps6
  go_wp2_with fail
  clear c1 c2
  have b1 := below_alloc w (.cells #[Value.int IntKind.u8 112, Value.int IntKind.u8 97, Value.int IntKind.u8 115, Value.int IntKind.u8 115, Value.int IntKind.u8 119, Value.int IntKind.u8 111, Value.int IntKind.u8 114, Value.int IntKind.u8 100] 5 (8, 9))
  have b2 := below_alloc (w.alloc (.cells #[Value.int IntKind.u8 112, Value.int IntKind.u8 97, Value.int IntKind.u8 115, Value.int IntKind.u8 115, Value.int IntKind.u8 119, Value.int IntKind.u8 111, Value.int IntKind.u8 114, Value.int IntKind.u8 100] 5 (8, 9))) (.cells #[Value.int IntKind.u8 115, Value.int IntKind.u8 97, Value.int IntKind.u8 108, Value.int IntKind.u8 116] 5 (4, 5))
  have bb := below_next b1 b2
  have R1 := hid ((show By.RB (w.alloc (.cells #[Value.int IntKind.u8 112, Value.int IntKind.u8 97, Value.int IntKind.u8 115, Value.int IntKind.u8 115, Value.int IntKind.u8 119, Value.int IntKind.u8 111, Value.int IntKind.u8 114, Value.int IntKind.u8 100] 5 (8, 9))) (.slice (some ⟨w.heap.size, 0, none⟩) 8 8) 8 kpw from Sg.rb_marked w 8 kpw (8, 9) kpw_b (by decide)).below b2)
  have R2' := show By.RB ((w.alloc (.cells #[Value.int IntKind.u8 112, Value.int IntKind.u8 97, Value.int IntKind.u8 115, Value.int IntKind.u8 115, Value.int IntKind.u8 119, Value.int IntKind.u8 111, Value.int IntKind.u8 114, Value.int IntKind.u8 100] 5 (8, 9))).alloc (.cells #[Value.int IntKind.u8 115, Value.int IntKind.u8 97, Value.int IntKind.u8 108, Value.int IntKind.u8 116] 5 (4, 5))) (.slice (some ⟨(w.alloc (.cells #[Value.int IntKind.u8 112, Value.int IntKind.u8 97, Value.int IntKind.u8 115, Value.int IntKind.u8 115, Value.int IntKind.u8 119, Value.int IntKind.u8 111, Value.int IntKind.u8 114, Value.int IntKind.u8 100] 5 (8, 9))).heap.size, 0, none⟩) 4 4) 4 kst from Sg.rb_marked _ 4 kst (4, 5) kst_b (by decide)
  rw [size_alloc] at R2'
  have R2 := hid R2'
  have B1 := hid (bb)
  obtain ⟨w1, hw2⟩ : ∃ y, (w.alloc (.cells #[Value.int IntKind.u8 112, Value.int IntKind.u8 97, Value.int IntKind.u8 115, Value.int IntKind.u8 115, Value.int IntKind.u8 119, Value.int IntKind.u8 111, Value.int IntKind.u8 114, Value.int IntKind.u8 100] 5 (8, 9))).alloc (.cells #[Value.int IntKind.u8 115, Value.int IntKind.u8 97, Value.int IntKind.u8 108, Value.int IntKind.u8 116] 5 (4, 5)) = y := ⟨_, rfl⟩
  rw [hw2] at R1 R2 B1 ⊢
  clear b1 b2 bb R2' hw2
  refine (pkey0k false 8 4 1 40 _ _ kpw kst _ (HK.out.below B1.out) R1.out R2.out (by omega) (by omega) (by omega) (by omega) (by omega)).mono ?_
  rintro e w2 ⟨k2, rfl, hu, hb⟩
  obtain ⟨gk, ck, rfl, -⟩ := own_cells hu (by omega)
  have K2 := hid hu
  have G2 := hid ((GM.start w HK.out).below (below_next B1.out hb))
  clear hu hb B1 R1 R2
  go_wp2_with fail
  refine (new9 _).mono ?_
  rintro e w3 ⟨rfl, hl, hb⟩
  have G3 := hid (G2.out.addLed hb (o := true) hl)
  rw [List.nil_append] at G3
  have K3 := hid (own_below K2.out hb)
  have Z3 := hid (show w2.heap.size < w3.heap.size from Sh.Blk.lt (show Blk w3 w2.heap.size _ 63 from hl.here))
  clear hl hb G2 K2
  have c1 := Lib.run_convert_bytes_const (P := Tryd.prog) w3 22 5 #[Value.int IntKind.u8 112, Value.int IntKind.u8 97, Value.int IntKind.u8 115, Value.int IntKind.u8 115, Value.int IntKind.u8 119, Value.int IntKind.u8 111, Value.int IntKind.u8 114, Value.int IntKind.u8 100] 8 8 Tryd.underlying22 Tryd.underlying5
  have c2 := Lib.run_convert_bytes_const (P := Tryd.prog) (w3.alloc (.cells #[Value.int IntKind.u8 112, Value.int IntKind.u8 97, Value.int IntKind.u8 115, Value.int IntKind.u8 115, Value.int IntKind.u8 119, Value.int IntKind.u8 111, Value.int IntKind.u8 114, Value.int IntKind.u8 100] 5 (8, 9))) 22 5 #[Value.int IntKind.u8 115, Value.int IntKind.u8 97, Value.int IntKind.u8 108, Value.int IntKind.u8 116] 4 4 Tryd.underlying22 Tryd.underlying5
  simp only [List.size_toArray, List.length_cons, List.length_nil, Nat.reduceAdd, size_alloc] at c1 c2
  go_wp2_with fail
  clear c1 c2
  have b1 := below_alloc w3 (.cells #[Value.int IntKind.u8 112, Value.int IntKind.u8 97, Value.int IntKind.u8 115, Value.int IntKind.u8 115, Value.int IntKind.u8 119, Value.int IntKind.u8 111, Value.int IntKind.u8 114, Value.int IntKind.u8 100] 5 (8, 9))
  have b2 := below_alloc (w3.alloc (.cells #[Value.int IntKind.u8 112, Value.int IntKind.u8 97, Value.int IntKind.u8 115, Value.int IntKind.u8 115, Value.int IntKind.u8 119, Value.int IntKind.u8 111, Value.int IntKind.u8 114, Value.int IntKind.u8 100] 5 (8, 9))) (.cells #[Value.int IntKind.u8 115, Value.int IntKind.u8 97, Value.int IntKind.u8 108, Value.int IntKind.u8 116] 5 (4, 5))
  have bb := below_next b1 b2
  have R1 := hid ((show By.RB (w3.alloc (.cells #[Value.int IntKind.u8 112, Value.int IntKind.u8 97, Value.int IntKind.u8 115, Value.int IntKind.u8 115, Value.int IntKind.u8 119, Value.int IntKind.u8 111, Value.int IntKind.u8 114, Value.int IntKind.u8 100] 5 (8, 9))) (.slice (some ⟨w3.heap.size, 0, none⟩) 8 8) 8 kpw from Sg.rb_marked w3 8 kpw (8, 9) kpw_b (by decide)).below b2)
  have R2' := show By.RB ((w3.alloc (.cells #[Value.int IntKind.u8 112, Value.int IntKind.u8 97, Value.int IntKind.u8 115, Value.int IntKind.u8 115, Value.int IntKind.u8 119, Value.int IntKind.u8 111, Value.int IntKind.u8 114, Value.int IntKind.u8 100] 5 (8, 9))).alloc (.cells #[Value.int IntKind.u8 115, Value.int IntKind.u8 97, Value.int IntKind.u8 108, Value.int IntKind.u8 116] 5 (4, 5))) (.slice (some ⟨(w3.alloc (.cells #[Value.int IntKind.u8 112, Value.int IntKind.u8 97, Value.int IntKind.u8 115, Value.int IntKind.u8 115, Value.int IntKind.u8 119, Value.int IntKind.u8 111, Value.int IntKind.u8 114, Value.int IntKind.u8 100] 5 (8, 9))).heap.size, 0, none⟩) 4 4) 4 kst from Sg.rb_marked _ 4 kst (4, 5) kst_b (by decide)
  rw [size_alloc] at R2'
  have R2 := hid R2'
  have G4 := hid (G3.out.below bb)
  have K4 := hid (own_below K3.out bb)
  obtain ⟨w4, hw2⟩ : ∃ y, (w3.alloc (.cells #[Value.int IntKind.u8 112, Value.int IntKind.u8 97, Value.int IntKind.u8 115, Value.int IntKind.u8 115, Value.int IntKind.u8 119, Value.int IntKind.u8 111, Value.int IntKind.u8 114, Value.int IntKind.u8 100] 5 (8, 9))).alloc (.cells #[Value.int IntKind.u8 115, Value.int IntKind.u8 97, Value.int IntKind.u8 108, Value.int IntKind.u8 116] 5 (4, 5)) = y := ⟨_, rfl⟩
  rw [hw2] at R1 R2 G4 K4 ⊢
  clear b1 b2 bb R2' hw2
  clear G3 K3
  refine (GM.pkey (l1 := []) G4.out false 8 4 1 32 _ _ kpw kst (fun w' hk' => ?_) (fun w' hk' => ?_) (by omega) (fun _ => by omega) (by have := T0.out; omega)).mono ?_
  · refine rb_kept R1.out hk' (fun b off cap e hs => ?_)
    simp only [Value.slice.injEq, Option.some.injEq, Addr.mk.injEq] at e
    rcases hs with hs | hs
    · have h1 := Z3.out; have : b = w2.heap.size := hs; omega
    · simp [Value.ownBlock] at hs
  · refine rb_kept R2.out hk' (fun b off cap e hs => ?_)
    simp only [Value.slice.injEq, Option.some.injEq, Addr.mk.injEq] at e
    rcases hs with hs | hs
    · have h1 := Z3.out; have : b = w2.heap.size := hs; omega
    · simp [Value.ownBlock] at hs
  rintro e w5 ⟨u5, rv5, rfl, hu, hg, hko⟩
  rw [kl_one] at hg
  have G5 := hid hg
  have K5 := hid (hko.own K4.out)
  clear hu hg hko G4 K4 R1 R2
  go_wp2_with fail
  refine (new9 _).mono ?_
  rintro e w6 ⟨rfl, hl, hb⟩
  have G6 := hid (G5.out.addLed hb (o := true) hl)
  have K6 := hid (own_below K5.out hb)
  clear hl hb G5 K5
  have hmk : (Instr.makeSlice 22 (.int .i64 65) (.int .i64 65)).run Tryd.prog w6 = .ok (.slice (some ⟨w6.heap.size, 0, none⟩) 65 65) (w6.alloc (.cells (bl 65 (fun _ => 0)).toArray 5)) := make_nn 65 (by omega) w6
  obtain ⟨z65, hz65⟩ : ∃ y, (bl 65 (fun _ => 0)).toArray = y := ⟨_, rfl⟩
  rw [hz65] at hmk
  go_wp2_with fail
  clear hmk
  have b7 := below_alloc w6 (.cells z65 5)
  have O7 := hid (show By.Own (w6.alloc (.cells z65 5)) w6.heap.size (.slice (some ⟨w6.heap.size, 0, none⟩) 65 65) 65 (fun _ => 0) from by rw [← hz65]; exact Sh.own_made w6 65 65 w6.heap.size (fun _ => 0) (fun _ => by decide) (Nat.le_refl _) (by simp [maxLen]) (Nat.le_refl _))
  have G7 := hid (G6.out.below b7)
  have K7 := hid (own_below K6.out b7)
  obtain ⟨w7, hw7⟩ : ∃ y, w6.alloc (.cells z65 5) = y := ⟨_, rfl⟩
  rw [hw7] at O7 G7 K7 ⊢
  clear b7 hz65 hw7 G6 K6
  refine (GM.pkey (l1 := [_]) (l2 := []) G7.out false 65 0 1 0 _ _ (fun _ => 0) nof (GM.rdO (l1 := [_]) (l2 := []) G7.out O7.out) (fun w' _ => (own_nil w' 0 nof nof_b).reads) (by omega) (fun _ => by omega) (by have := T0.out; omega)).mono ?_
  rintro e w8 ⟨u8, rv8, rfl, hu, hg, hko⟩
  rw [kl_none, List.singleton_append] at hg
  rw [show kN 1 0 = 0 from rfl] at hu
  rw [show kc 1 0 = 0 from rfl]
  obtain ⟨ua8, uc8, rfl⟩ := own_sl hu
  have G8 := hid hg
  have K8 := hid (hko.own K7.out)
  clear hu hg hko G7 K7 O7
  go_wp2_with fail
  have b9 := below_alloc w8 (.cells #[.int .u8 1, .int .i64 64, .int .i64 4] 48)
  have D9 := own_lit w8 [⟨1, 64, 4⟩] #[.int .u8 1, .int .i64 64, .int .i64 4] (fun r hr => by
    simp at hr; subst hr
    exact ⟨by decide, by decide, by decide⟩) rfl (by decide)
  have c9 := below_alloc (w8.alloc (.cells #[.int .u8 1, .int .i64 64, .int .i64 4] 48)) (.cells #[Value.int IntKind.u8 77, Value.int IntKind.u8 191, Value.int IntKind.u8 58, Value.int IntKind.u8 47, Value.int IntKind.u8 61, Value.int IntKind.u8 173, Value.int IntKind.u8 51, Value.int IntKind.u8 119] 5)
  have V9' := show By.Own ((w8.alloc (.cells #[.int .u8 1, .int .i64 64, .int .i64 4] 48)).alloc (.cells #[Value.int IntKind.u8 77, Value.int IntKind.u8 191, Value.int IntKind.u8 58, Value.int IntKind.u8 47, Value.int IntKind.u8 61, Value.int IntKind.u8 173, Value.int IntKind.u8 51, Value.int IntKind.u8 119] 5)) (w8.alloc (.cells #[.int .u8 1, .int .i64 64, .int .i64 4] 48)).heap.size (.slice (some ⟨(w8.alloc (.cells #[.int .u8 1, .int .i64 64, .int .i64 4] 48)).heap.size, 0, none⟩) 8 8) 8 (lst [77, 191, 58, 47, 61, 173, 51, 119]) from own_bytes _ [77, 191, 58, 47, 61, 173, 51, 119] (lst_bound _ (by decide)) (by decide)
  rw [size_alloc] at V9'
  have V9 := hid V9'
  have R9 := hid (D9.below c9)
  have G9 := hid ((G8.out.below b9).below c9)
  have K9 := hid (own_below (own_below K8.out b9) c9)
  obtain ⟨w9, hw9⟩ : ∃ y, (w8.alloc (.cells #[.int .u8 1, .int .i64 64, .int .i64 4] 48)).alloc (.cells #[Value.int IntKind.u8 77, Value.int IntKind.u8 191, Value.int IntKind.u8 58, Value.int IntKind.u8 47, Value.int IntKind.u8 61, Value.int IntKind.u8 173, Value.int IntKind.u8 51, Value.int IntKind.u8 119] 5) = y := ⟨_, rfl⟩
  rw [hw9] at V9 R9 G9 K9 ⊢
  clear b9 c9 D9 V9' hw9 G8 K8
  obtain ⟨A9, hs9, hA9⟩ := Sh.sub_next gk 0 40 ck 32 (rb_cap K9.out.reads)
  obtain rfl := hA9 (by omega)
  rw [show ((32 : Nat) : Int) = 32 from rfl, show ((40 : Nat) : Int) = 40 from rfl] at hs9
  rw [hs9]
  clear hs9 hA9
  refine (same_true _ _ 8 _ _ _ (prb_l (c := 32) (d := 8) K9.out.reads (by omega) (by omega)) V9.out.reads (by omega) dk_c).mono ?_
  rintro e w10 ⟨rfl, d10, hw⟩
  have hb : Below w9.heap.size w9 w10 := by rw [hw]; exact below_drewN w9 d10
  have R10 := hid (R9.out.below hb)
  have G10 := hid (G9.out.below hb)
  clear hw hb V9 R9 G9 K9
  go_wp2_with fail
  refine (runs22 _ _ _ _ (GM.midL (l1 := []) G10.out).1 (by decide)).mono ?_
  rintro e w11 ⟨r11, rfl, ho, hb⟩
  have S11 := hid ho
  have R11 := hid (R10.out.below hb)
  have G11 := hid (G10.out.below hb)
  clear ho hb R10 G10
  go_wp2_with fail
  refine (same14 _ _ [⟨1, 64, 4⟩] [⟨1, 64, 4⟩] _ S11.out.reads R11.out.reads (by decide) (by decide)).mono ?_
  rw [decide_eq_true (show ([⟨1, 64, 4⟩] : List Rn) = [⟨1, 64, 4⟩] from rfl)]
  rintro e w12 ⟨rfl, d12, hw⟩
  have hb : Below w11.heap.size w11 w12 := by rw [hw]; exact below_drewN w11 d12
  have R12 := hid (R11.out.below hb)
  have G12 := hid (G11.out.below hb)
  clear hw hb R11 G11 S11
  go_wp2_with fail
  refine (runs22 _ _ _ _ (GM.midL (l1 := [_]) (l2 := []) G12.out).1 (by decide)).mono ?_
  rintro e w13 ⟨r13, rfl, ho, hb⟩
  have S13 := hid ho
  have R13 := hid (R12.out.below hb)
  have G13 := hid (G12.out.below hb)
  clear ho hb R12 G12
  go_wp2_with fail
  refine (same14 _ _ [⟨1, 64, 4⟩] [⟨1, 64, 4⟩] _ S13.out.reads R13.out.reads (by decide) (by decide)).mono ?_
  rw [decide_eq_true (show ([⟨1, 64, 4⟩] : List Rn) = [⟨1, 64, 4⟩] from rfl)]
  rintro e w14 ⟨rfl, d14, hw⟩
  have B14 := hid (G13.out.below (show Below w13.heap.size w13 w14 by rw [hw]; exact below_drewN w13 d14)).bel
  clear hw R13 G13 S13
  go_wp2_with fail
  refine (ref_n 3 (by decide) (by decide) 0 (-1) _).mono ?_
  rintro e w15 ⟨rfl, hb⟩
  have B15 := hid (below_next B14.out hb)
  clear hb B14
  go_wp2_with fail
  refine (ref_n 0 (by decide) (by decide) 1 1 _).mono ?_
  rintro e w16 ⟨rfl, hb⟩
  have B16 := hid (below_next B15.out hb)
  clear hb B15
  go_wp2_with fail
  refine (ref_b false 1 0 (-1) 10 rfl (by decide) (by decide) _).mono ?_
  rintro e w17 ⟨rfl, hb⟩
  have B17 := hid (below_next B16.out hb)
  clear hb B16
  go_wp2_with fail
  refine (ref_b false 1 1048577 1 10 rfl (by decide) (by decide) _).mono ?_
  rintro e w18 ⟨rfl, hb⟩
  have B18 := hid (below_next B17.out hb)
  clear hb B17
  go_wp2_with fail
  refine (ref_b true 2 1 (-1) 2 rfl (by decide) (by decide) _).mono ?_
  rintro e w19 ⟨rfl, hb⟩
  have B19 := hid (below_next B18.out hb)
  clear hb B18
  go_wp2_with fail
  refine (ref_b true 2 1 16321 9 rfl (by decide) (by decide) _).mono ?_
  rintro e w20 ⟨rfl, hb⟩
  have B20 := hid (below_next B19.out hb)
  clear hb B19
  go_wp2_with fail
  refine (pblk0 false 0 0 1 0 (by decide) _ _ nof nof _ (HK.out.below B20.out) (own_nil _ 0 nof nof_b).reads (own_nil _ 0 nof nof_b).reads (by omega) (fun _ => by omega)).mono ?_
  rintro e w21 ⟨y0, rfl, hu, hb⟩
  rw [show ic 1 0 = 2 from by decide]
  rw [show iN false 1 0 = 0 from by decide] at hu
  obtain ⟨ya0, yc0, rfl⟩ := own_sl hu
  have B21 := hid (below_next B20.out hb)
  clear hu hb B20
  go_wp2_with fail
  refine (pblk0 false 0 0 1 4294967296 (by decide) _ _ nof nof _ (HK.out.below B21.out) (own_nil _ 0 nof nof_b).reads (own_nil _ 0 nof nof_b).reads (by omega) (fun _ => by omega)).mono ?_
  rintro e w22 ⟨y1, rfl, hu, hb⟩
  rw [show ic 1 4294967296 = 2 from by decide]
  rw [show iN false 1 4294967296 = 0 from by decide] at hu
  obtain ⟨ya1, yc1, rfl⟩ := own_sl hu
  have B22 := hid (below_next B21.out hb)
  clear hu hb B21
  go_wp2_with fail
  refine (pblk0 false 0 0 1 4294967295 (by decide) _ _ nof nof _ (HK.out.below B22.out) (own_nil _ 0 nof nof_b).reads (own_nil _ 0 nof nof_b).reads (by omega) (fun _ => by omega)).mono ?_
  rintro e w23 ⟨y2, rfl, hu, hb⟩
  rw [show ic 1 4294967295 = 0 from by decide]
  rw [show iN false 1 4294967295 = 32 from by decide] at hu
  obtain ⟨ya2, yc2, rfl⟩ := own_sl hu
  have B23 := hid (below_next B22.out hb)
  clear hu hb B22
  go_wp2_with fail
  refine (pkey0k true 0 0 1 16320 _ _ nof nof _ (HK.out.below B23.out) (own_nil _ 0 nof nof_b).reads (own_nil _ 0 nof nof_b).reads (by omega) (by omega) (by omega) (by omega) (by omega)).mono ?_
  rintro e w24 ⟨z, rfl, hu, hb⟩
  obtain ⟨za, zc, rfl⟩ := own_sl hu
  have B24 := hid (below_next B23.out hb)
  clear hu hb B23
  go_wp2_with fail
  refine (awake1 _ (HK.out.below B24.out)).mono ?_
  rintro e w25 ⟨rfl, hb⟩
  have B25 := hid (below_next B24.out hb)
  clear hb B24
  go_wp2
  go_ret
  exact ⟨rfl, B25.out⟩
end Go.Proofs.YtjhhnajgfngbhaaDoor.Dg
