/- The law Sha512Names, walked. -/
import Derived.Test.YtjalconbhliipaaDoorJnam
namespace Go.Proofs.YtjalconbhliipaaDoor.Sg
open Go.ChangeShapes Go.WideShapes Go.ChangeAt Go.RowKit
open Go.Proofs.YtjalconbhliipaaDoor.By Go.Proofs.YtjalconbhliipaaDoor.Wd

theorem bel_al {w w' : World} {o : Obj} (h : Below w.heap.size w w') : Below w.heap.size w (w'.alloc o) := h.alloc h.size o
theorem bel_d1 {B : Nat} {w w' : World} (h : Below B w w') : Below B w w'.drew := below_drew' h 1
theorem bel_dn {B : Nat} {w w' : World} {d : Nat} (h : Below B w w') : Below B w (w'.drewN d) := below_drew' h d
theorem rb_lit4 (W : World) (a b c d : Int) (h : ∀ x ∈ [a, b, c, d], 0 ≤ x ∧ x < 256) : By.RB (W.alloc (.cells #[.int .u8 a, .int .u8 b, .int .u8 c, .int .u8 d] 5)) (.slice (some ⟨W.heap.size, 0, none⟩) 4 4) 4 (lst [a, b, c, d]) :=
  rb_blk (Blk.newAt W _ (bl 4 (lst [a, b, c, d])) 5 _ rfl rfl) (fun i => lst_bound _ (by simpa using h) i) (by decide)
theorem rb_at {w : World} {g n cap o k : Nat} {f : Nat → Int} (h : By.RB w (.slice (some ⟨g, 0, none⟩) n cap) n f) (hk : o + k ≤ n) (h0 : 0 < n) : By.RB w (.slice (some ⟨g, o, none⟩) k (cap - o)) k (fun i => f (o + i)) := by
  obtain ⟨hf, a, c, e, h1, h2, hc⟩ := h
  simp only [Value.slice.injEq, true_and] at e
  obtain ⟨rfl, rfl⟩ := e
  refine ⟨fun i => hf _, _, _, rfl, by omega, by omega, .inr ⟨g, o, rfl, fun i hi => ?_⟩⟩
  rcases hc with ⟨hc, _⟩ | ⟨b, off, e, hc⟩
  · omega
  · simp only [Option.some.injEq, Addr.mk.injEq, and_true] at e
    obtain ⟨rfl, rfl⟩ := e
    have := hc (o + i) (by omega)
    rwa [Nat.zero_add] at this
theorem rb_cell {w : World} {g n cap : Nat} {f : Nat → Int} (h : By.RB w (.slice (some ⟨g, 0, none⟩) n cap) n f) (i : Nat) (hi : i < n) : w.cell? ⟨g, i, none⟩ = some (.int .u8 (f i)) := by
  obtain ⟨hf, a, c, e, h1, h2, hc⟩ := h
  simp only [Value.slice.injEq, true_and] at e
  obtain ⟨rfl, rfl⟩ := e
  rcases hc with ⟨hc, _⟩ | ⟨b, off, e, hc⟩
  · omega
  · simp only [Option.some.injEq, Addr.mk.injEq, and_true] at e
    obtain ⟨rfl, rfl⟩ := e
    have := hc i hi
    rwa [Nat.zero_add] at this
theorem ok8 : ∀ r ∈ ([⟨8, 200, 1⟩] : List Rn), r.Ok := fun r hr => by
  obtain rfl := List.mem_singleton.1 hr
  exact ⟨by show (0 : Int) ≤ 8 ∧ (8 : Int) < 256; decide, by show (-9223372036854775808 : Int) ≤ 200 ∧ (200 : Int) ≤ 9223372036854775807; decide, by show (-9223372036854775808 : Int) ≤ 1 ∧ (1 : Int) ≤ 9223372036854775807; decide⟩
theorem one8 : ([⟨8, 200, 1⟩] : List Rn).length < 1000000000000000000 := by decide
theorem d4_0 : ∀ j, j < 4 → lf (wof wz0) j = lst [207, 131, 225, 53] j := by decide +kernel
theorem dig_0 (j : Nat) (hj : j < 4) : dig 0 zf j = lst [207, 131, 225, 53] j := (lf_l8 _ _ (z0_words.trans (by rfl)) j (by omega)).trans (d4_0 j hj)
theorem form0_4 : ∀ j, j < 4 → formf 0 zf j = lst [106, 9, 230, 103] j := by decide +kernel
theorem form0_z : ∀ j, j < 200 → 64 ≤ j → formf 0 zf j = 0 := by decide +kernel
theorem form3_z : ∀ j, j < 200 → 64 ≤ j → (j < 71 ∨ 74 < j) → formf 3 abc j = 0 := by decide +kernel
theorem form3_w : ∀ j, j < 64 → formf 3 abc j = formf 0 zf j := by decide +kernel
theorem form3_t : ∀ j, j < 4 → formf 3 abc (71 + j) = lst [3, 97, 98, 99] j := by decide +kernel
set_option maxRecDepth 8000 in
set_option maxHeartbeats 2000000 in
theorem names_walk (w : World) (hk : KT w) : Calls Tryd.prog 5 #[] w fun e w' => e = .returned (.bool true) ∧ Below w.heap.size w w' := by
  have HK := hid hk
  have H0 := hid hk.lt
  have hcv := fun w => Lib.run_convert_bytes_const (P := Tryd.prog) w 41 5 #[Value.int .u8 97, .int .u8 98, .int .u8 99] 3 3 Tryd.underlying41 Tryd.underlying5
  clear hk
  go_enter Tryd.func5, Tryd.ntmps5
  go_wp2_with fail
  obtain ⟨W8, hW8⟩ : ∃ x, ((((((((w.alloc (.cells #[Value.int .u8 119, .int .u8 221, .int .u8 211, .int .u8 165] 5)).alloc (.cells #[Value.int .u8 43, .int .u8 226, .int .u8 231, .int .u8 136] 5)).alloc (.cells #[Value.int .u8 135, .int .u8 111, .int .u8 238, .int .u8 38] 5)).alloc (.cells #[Value.int .u8 171, .int .u8 148, .int .u8 47, .int .u8 82] 5)).alloc (.cells #[Value.int .u8 177, .int .u8 245, .int .u8 66, .int .u8 246] 5)).alloc (.cells #[Value.slice (some ⟨w.heap.size, 0, none⟩) 4 4, .slice (some ⟨w.heap.size + 1, 0, none⟩) 4 4, .slice (some ⟨w.heap.size + 1 + 1, 0, none⟩) 4 4, .slice (some ⟨w.heap.size + 1 + 1 + 1, 0, none⟩) 4 4, .slice (some ⟨w.heap.size + 1 + 1 + 1 + 1, 0, none⟩) 4 4] 41)).alloc (.cells #[Value.int .i64 111, .int .i64 112, .int .i64 127, .int .i64 128, .int .i64 129] 3)).alloc (.cells #[Value.int .i64 1, .int .i64 2, .int .i64 2, .int .i64 2, .int .i64 2] 3)) = x := ⟨_, rfl⟩
  have N0 := hid (ns_start w W8 hW8)
  rw [hW8]
  clear hW8
  go_loopw [5] (fun x wr => ∃ i : Nat, i ≤ 5 ∧ x = .int .i64 i ∧ NS w wr) (fun x _ => 5 - (intOf x).toNat)
  case atStart => exact ⟨0, by omega, rfl, N0.out⟩
  case round =>
    clear N0
    obtain ⟨i, hi, rfl, hN⟩ := hrel
    have N := hid hN
    clear hN
    by_cases h1 : i < 5
    · go_wp2_with fail
      refine (new9 _).mono ?_
      rintro e y1 ⟨rfl, hl, hb⟩
      have L1 := hid hl
      have b1 := hid hb
      have cs := (N.out.below hb).szc i h1
      have hmk := make_i (sz i) (by have := sz_le i; omega)
      clear hl hb
      have SZ := hid (sz_le i)
      have DG := hid (dig_sz i h1)
      have MN := hid (sz_mny i h1)
      have MP := hid (mny_pos i h1)
      obtain ⟨n, en⟩ : ∃ n, sz i = n := ⟨_, rfl⟩
      rw [en] at cs hmk SZ DG MN
      have hn := SZ.out
      clear en
      go_wp2_with fail
      obtain ⟨Y2, hY2⟩ : ∃ x, y1.alloc (.cells (bl n (fun _ => 0)).toArray 5) = x := ⟨_, rfl⟩
      have P2 := hid (show By.RB Y2 (.slice (some ⟨y1.heap.size, 0, none⟩) n n) n zf from by rw [← hY2]; exact rb_blk (Blk.new y1 (bl n zf) 5) zf_bound (by simp [maxLen]; omega))
      have h2 : Below y1.heap.size y1 Y2 := by rw [← hY2]; exact below_alloc _ _
      have L2 := hid (L1.out.below h2)
      have b2 := hid (below_next b1.out h2)
      have zb := hid b1.out.size
      have zl := hid L1.out.lt
      rw [hY2]
      clear hY2 h2 L1 cs hmk
      refine (sum_led2 wr.heap.size wr.heap.size n _ zf _ [] Y2 ((HK.out.below N.out.bel).below b2.out) (by have := N.out.far; omega) b2.out.size L2.out (Nat.le_refl _) (fun q hq => by simp [Value.ownBlock] at hq) (fun w' hk' => rb_kept P2.out hk' (by rintro (e | e); have := zl.out; omega; simp [Value.ownBlock] at e)) (by omega) wide_nil).mono ?_
      rintro e y3 ⟨u3, rv3, rfl, hu, hl, -, -, hb⟩
      have U3 := hid hu
      rw [MN.out] at hl
      have L3 := hid hl
      have b3 := hid (b2.out.trans hb)
      have N3 := hid (N.out.below b3.out)
      obtain ⟨g3, c3, rfl, -⟩ := own_cells hu (by omega)
      have hc3 := rb_cap hu.reads
      have hc4 : (4 : Int) ≤ c3 := by omega
      obtain ⟨fv, hfc, hfv⟩ := N3.out.frc i h1
      have FV := hid hfv
      have mc := hid (N3.out.mnc i h1)
      clear hu hl hb L2 P2 b2 zl hfv
      have SC := hid (fun W' (h : Below y3.heap.size y3 W') => (show W'.cell? ⟨w.heap.size + 1 + 1 + 1 + 1 + 1, i, none⟩ = some fv ∧ W'.cell? ⟨w.heap.size + 1 + 1 + 1 + 1 + 1 + 1 + 1, i, none⟩ = some (.int .i64 (mny i)) from ⟨(h.cell (p := ⟨w.heap.size + 1 + 1 + 1 + 1 + 1, i, none⟩) (by show w.heap.size + 1 + 1 + 1 + 1 + 1 < y3.heap.size; have := N3.out.far; omega)).trans hfc, (h.cell (p := ⟨w.heap.size + 1 + 1 + 1 + 1 + 1 + 1 + 1, i, none⟩) (by show w.heap.size + 1 + 1 + 1 + 1 + 1 + 1 + 1 < y3.heap.size; have := N3.out.far; omega)).trans mc.out⟩))
      have FA := hid (fun W' (h : Below y3.heap.size y3 W') => (U3.out.reads.below h).first 4 (by omega))
      have FB := hid (fun W' (h : Below y3.heap.size y3 W') => FV.out.below h)
      have FL := hid (fun W' (h : Below y3.heap.size y3 W') => L3.out.below h)
      have EV := hid (show evs512 [] (mny i) = [⟨2, 128, ((mny i : Nat) : Int)⟩] from by
        have h := evs_one (mny i - 1) (by have := MP.out; omega)
        rwa [show mny i - 1 + 1 = mny i from by have := MP.out; omega] at h)
      have EL := hid (show (evs512 [] (mny i)).length = 1 from by rw [EV.out]; rfl)
      have ONA := hid (show (evs512 [] (mny i)).length < 1000000000000000000 from by have := EL.out; omega)
      have ONB := hid (show ([⟨2, 128, ((mny i : Nat) : Int)⟩] : List Rn).length < 1000000000000000000 from by show 1 < 1000000000000000000; decide)
      have h7 := hid (Below.refl y3.heap.size y3)
      have h8 := hid (Below.refl y3.heap.size y3)
      have mcc := mc.out
      go_wp2_with fail
      go_region_held3 (fun W' => W'.cell? ⟨w.heap.size + 1 + 1 + 1 + 1 + 1, i, none⟩ = some fv ∧ W'.cell? ⟨w.heap.size + 1 + 1 + 1 + 1 + 1 + 1 + 1, i, none⟩ = some (.int .i64 (mny i))) (go_keep) (first
        | (go_at_call 19; go_must (with_reducible refine (same_true _ _ 4 (dig n zf) (fr i) _ (FA.out _ ?b1) (FB.out _ ?b2) (by omega) DG.out).mono ?_; (case b1 => (repeat (first | with_reducible exact Below.refl _ _ | with_reducible exact h7.out | with_reducible exact h8.out | with_reducible refine bel_d1 ?_ | with_reducible refine bel_dn ?_))); (case b2 => (repeat (first | with_reducible exact Below.refl _ _ | with_reducible exact h7.out | with_reducible exact h8.out | with_reducible refine bel_d1 ?_ | with_reducible refine bel_dn ?_))); rintro e z1 ⟨rfl, dz, rfl⟩))
        | (go_at_call 14; go_must (with_reducible refine (runs22 wr.heap.size rv3 (evs512 [] (mny i)) _ (FL.out _ ?b1) (by have := EL.out; omega)).mono ?_; (case b1 => (repeat (first | with_reducible exact Below.refl _ _ | with_reducible exact h7.out | with_reducible exact h8.out | with_reducible refine bel_d1 ?_ | with_reducible refine bel_dn ?_))); rintro e z2 ⟨r2, rfl, hu, hb⟩; have A2 := hid hu; have h7 := hid (show Below y3.heap.size y3 z2 from below_next (show Below y3.heap.size y3 _ from (by repeat (first | with_reducible exact Below.refl _ _ | with_reducible exact h7.out | with_reducible exact h8.out | with_reducible refine bel_d1 ?_ | with_reducible refine bel_dn ?_))) hb); have s7 := SC.out _ h7.out; clear hu hb))
        | (go_at_call 26; go_must (with_reducible refine (blocks26 (mny i) MP.out.1 _ (by have := MP.out; omega)).mono ?_; rintro e z3 ⟨r3, rfl, hu, hb⟩; have A3 := hid hu; have B2 := hid (A2.out.below hb); have h8 := hid (show Below y3.heap.size y3 z3 from below_next h7.out hb); have s8 := SC.out _ h8.out; clear hu hb))
        | (go_at_call 13; go_must (with_reducible refine (same14 _ _ (evs512 [] (mny i)) [⟨2, 128, ((mny i : Nat) : Int)⟩] _ B2.out.reads A3.out.reads ONA.out ONB.out).mono ?_; rw [decide_eq_true EV.out]; rintro e z4 ⟨rfl, dy, rfl⟩)))
      go_wp2
      exact ⟨⟨i + 1, by omega, by go_num, N3.out.below (bel_dn h8.out)⟩, by simp [intOf]; omega⟩
    · have ei : i = 5 := by omega
      subst ei
      have G0 := hid ((GS.start w HK.out).below N.out.bel)
      clear N
      go_wp2_with fail
      refine (sum23 0 _ zf none [] (fun _ => False) _ G0.out.kt (fun e => e) (lg_nil _ _) pos_nil' (fun w' h' => ⟨zf_bound, none, 0, rfl, Nat.le_refl _, by decide, .inl ⟨rfl, fun _ => rfl⟩⟩) (by omega) wide_nil).mono ?_
      rintro e y1 ⟨u1, rfl, hu, -, hk1⟩
      have U1 := hid hu
      have G1 := hid (G0.out.below (below_kp hk1))
      clear hu hk1 G0
      go_wp2_with fail
      refine (new12 _).mono ?_
      rintro e y2 ⟨rfl, hs, hb⟩
      have G2 := hid (show GS w w.heap.size [(y1.heap.size, some (0, zf))] [] y2 from G1.out.addNew hb (k := some (0, zf)) hs)
      have U2 := hid (own_below U1.out hb)
      obtain ⟨b1, eb1⟩ : ∃ x, y1.heap.size = x := ⟨_, rfl⟩
      rw [eb1] at G2
      rw [eb1]
      clear hs hb U1 eb1
      go_wp2_with fail
      refine (form30 _ _ _ _ (GS.mid (sts1 := []) (sts2 := []) G2.out).1).mono ?_
      rintro e y3 ⟨v3, rfl, hu, hb⟩
      have V3 := hid hu
      have U3 := hid (own_below U2.out hb)
      have G3 := hid (G2.out.below hb)
      clear hu hb U2 G2
      go_wp2_with fail
      obtain ⟨Y4, hY4⟩ : ∃ x, y3.alloc (.cells #[Value.int .u8 97, .int .u8 98, .int .u8 99] 5 (3, 4)) = x := ⟨_, rfl⟩
      have B4 := hid (show By.RB Y4 (.slice (some ⟨y3.heap.size, 0, none⟩) 3 3) 3 abc from by rw [← hY4]; exact rb_marked y3 3 abc (3, 4) abc_bound (by decide))
      have h4 : Below y3.heap.size y3 Y4 := by rw [← hY4]; exact below_alloc y3 _
      have lt3 := hid (show b1 < y3.heap.size from by obtain ⟨c, hc⟩ := (GS.mid (sts1 := []) (sts2 := []) G3.out).1.blk; exact hc.lt)
      rw [hY4]
      have V4 := hid (own_below V3.out h4)
      have U4 := hid (own_below U3.out h4)
      have G4 := hid (G3.out.below h4)
      clear hY4 h4 V3 U3 G3
      refine (GS.write0 (sts1 := []) (sts2 := []) G4.out 3 _ abc (fun w' hk' => rb_kept B4.out hk' (by have := lt3.out; omega)) (by omega)).mono ?_
      rintro e y5 ⟨rfl, hG, hko⟩
      have G5 := hid (show GS w w.heap.size [(b1, some (3, abc))] [] y5 from by
        have h : GS w w.heap.size [(b1, some (0 + 3, cat 0 zf abc))] [] y5 := hG
        rwa [Nat.zero_add, cat0] at h)
      have V5 := hid (hko.own V4.out)
      have U5 := hid (hko.own U4.out)
      clear hG hko G4 V4 U4 B4
      go_wp2_with fail
      refine (form30 _ _ _ _ (GS.mid (sts1 := []) (sts2 := []) G5.out).1).mono ?_
      rintro e y6 ⟨v6, rfl, hu, hb⟩
      have F6 := hid hu
      have V6 := hid (own_below V5.out hb)
      have U6 := hid (own_below U5.out hb)
      have G6 := hid (G5.out.below hb)
      clear hu hb V5 U5 G5
      go_wp2_with fail
      refine (new9 _).mono ?_
      rintro e y7 ⟨rfl, hl, hb⟩
      have G7 := hid (show GS w w.heap.size [(b1, some (3, abc))] [⟨true, y6.heap.size, .slice none 0 0, []⟩] y7 from G6.out.addLed hb (o := true) hl)
      have F7 := hid (own_below F6.out hb)
      have V7 := hid (own_below V6.out hb)
      have U7 := hid (own_below U6.out hb)
      obtain ⟨lb, elb⟩ : ∃ x, y6.heap.size = x := ⟨_, rfl⟩
      rw [elb] at G7
      rw [elb]
      clear hl hb F6 V6 U6 G6 elb
      go_wp2_with fail
      refine (GS.wipe (sts1 := []) (sts2 := []) (leds1 := []) (leds2 := []) G7.out wide_nil.big.room).mono ?_
      rintro e y8 ⟨rfl, rv8, hG, hko⟩
      have G8 := hid (show GS w w.heap.size [(b1, none)] [⟨true, lb, rv8, [⟨8, 200, 1⟩]⟩] y8 from hG)
      have F8 := hid (hko.own F7.out)
      have V8 := hid (hko.own V7.out)
      have U8 := hid (hko.own U7.out)
      clear hG hko F7 V7 U7 G7
      go_wp2_with fail
      refine (wipe29n b1 _ y8 (GS.mid (sts1 := []) (sts2 := []) G8.out).1).mono ?_
      rintro e y8 ⟨rfl, rfl⟩
      obtain ⟨gu, cu, rfl, -⟩ := own_cells U8.out (by omega)
      obtain ⟨gv, cv, rfl, -⟩ := own_cells V8.out (by omega)
      obtain ⟨gf, cf, rfl, -⟩ := own_cells F8.out (by omega)
      have hcu : (4 : Int) ≤ cu := by have := rb_cap U8.out.reads; omega
      have hcv' : (4 : Int) ≤ cv := by have := rb_cap V8.out.reads; omega
      go_wp2_with fail
      have K8 := hid (below_alloc y8 (.cells #[Value.int .u8 207, .int .u8 131, .int .u8 225, .int .u8 53] 5))
      refine (same_true _ _ 4 (dig 0 zf) (lst [207, 131, 225, 53]) _ ((own_below U8.out K8.out).reads.first 4 (by omega)) (rb_lit4 y8 207 131 225 53 (by decide)) (by omega) dig_0).mono ?_
      rintro e y9 ⟨rfl, d9, rfl⟩
      obtain ⟨Y9, hY⟩ : ∃ x, (y8.alloc (.cells #[Value.int .u8 207, .int .u8 131, .int .u8 225, .int .u8 53] 5)).drewN d9 = x := ⟨_, rfl⟩
      have hb : Below y8.heap.size y8 Y9 := by rw [← hY]; exact below_drew' K8.out d9
      rw [hY]
      clear hY K8
      have F9 := hid (own_below F8.out hb)
      have V9 := hid (own_below V8.out hb)
      have G9 := hid (G8.out.below hb)
      clear hb F8 V8 U8 G8
      go_wp2_with fail
      have K9 := hid (below_alloc Y9 (.cells #[Value.int .u8 106, .int .u8 9, .int .u8 230, .int .u8 103] 5))
      refine (same_true _ _ 4 (formf 0 zf) (lst [106, 9, 230, 103]) _ ((own_below V9.out K9.out).reads.first 4 (by omega)) (rb_lit4 Y9 106 9 230 103 (by decide)) (by omega) form0_4).mono ?_
      rintro e y10 ⟨rfl, d10, rfl⟩
      obtain ⟨Y10, hY⟩ : ∃ x, (Y9.alloc (.cells #[Value.int .u8 106, .int .u8 9, .int .u8 230, .int .u8 103] 5)).drewN d10 = x := ⟨_, rfl⟩
      have hb : Below Y9.heap.size Y9 Y10 := by rw [← hY]; exact below_drew' K9.out d10
      rw [hY]
      clear hY K9
      have F10 := hid (own_below F9.out hb)
      have V10 := hid (own_below V9.out hb)
      have G10 := hid (G9.out.below hb)
      clear hb F9 V9 G9
      go_wp2_with fail
      go_loopw [15] (fun x wq => ∃ i d : Nat, 64 ≤ i ∧ i ≤ 200 ∧ x = .int .i64 i ∧ wq = Y10.drewN d) (fun x _ => 200 - (intOf x).toNat)
      case atStart => exact ⟨64, 0, by omega, by omega, rfl, rfl⟩
      case round =>
        obtain ⟨i, d, hi0, hi1, rfl, rfl⟩ := hrel
        by_cases h2 : i < 200
        · have cv1 : Y10.cell? ⟨gv, i, none⟩ = some (.int .u8 0) := by rw [rb_cell V10.out.reads i h2, form0_z i h2 hi0]
          by_cases h3 : i < 71
          · have cf1 : Y10.cell? ⟨gf, i, none⟩ = some (.int .u8 0) := by rw [rb_cell F10.out.reads i h2, form3_z i h2 hi0 (.inl h3)]
            have e1 : decide ((i : Int) < 71) = true := by simp; omega
            have e2 : decide ((74 : Int) < i) = false := by simp; omega
            go_wp2
            exact ⟨⟨i + 1, d, by omega, by omega, by go_num, rfl⟩, by simp [intOf]; omega⟩
          · by_cases h4 : 74 < i
            · have cf1 : Y10.cell? ⟨gf, i, none⟩ = some (.int .u8 0) := by rw [rb_cell F10.out.reads i h2, form3_z i h2 hi0 (.inr h4)]
              have e1 : decide ((i : Int) < 71) = false := by simp; omega
              have e2 : decide ((74 : Int) < i) = true := by simp; omega
              go_wp2
              exact ⟨⟨i + 1, d, by omega, by omega, by go_num, rfl⟩, by simp [intOf]; omega⟩
            · have e1 : decide ((i : Int) < 71) = false := by simp; omega
              have e2 : decide ((74 : Int) < i) = false := by simp; omega
              go_wp2
              exact ⟨⟨i + 1, d, by omega, by omega, by go_num, rfl⟩, by simp [intOf]; omega⟩
        · have ei : i = 200 := by omega
          subst ei
          obtain ⟨Z, hZ⟩ : ∃ x, Y10.drewN d = x := ⟨_, rfl⟩
          have hbz : Below Y10.heap.size Y10 Z := by rw [← hZ]; exact below_drewN Y10 d
          rw [hZ]
          clear hZ
          have FA := hid (fun W' (h : Below Z.heap.size Z W') => ((own_below F10.out hbz).reads.below h).first 64 (by omega))
          have FB := hid (fun W' (h : Below Z.heap.size Z W') => ((own_below V10.out hbz).reads.below h).first 64 (by omega))
          have FC := hid (fun W' (h : Below Z.heap.size Z W') => rb_at (o := 71) (k := 4) ((own_below F10.out hbz).reads.below h) (by omega) (by omega))
          have FN := hid (fun W' (h : Below Z.heap.size Z W') => (show NoSt W' b1 from (GS.mid (sts1 := []) (sts2 := []) ((G10.out.below hbz).below h)).1))
          have FL := hid (fun W' (h : Below Z.heap.size Z W') => (show Led W' lb rv8 [⟨8, 200, 1⟩] from (GS.midL (leds1 := []) (leds2 := []) ((G10.out.below hbz).below h)).1))
          have FK := hid (fun W' (h : Below Z.heap.size Z W') => ((G10.out.below hbz).below h).kt)
          have FE := hid (fun W' (h : Below Z.heap.size Z W') => ((G10.out.below hbz).below h).bel)
          have hcf := rb_cap F10.out.reads
          have hcw := rb_cap V10.out.reads
          have c1 : (64 : Int) ≤ cf := by omega
          have c2 : (64 : Int) ≤ cv := by omega
          have c3 : (75 : Int) ≤ cf := by omega
          have c4 : ¬ cf = 71 := by omega
          have h7 := hid (Below.refl Z.heap.size Z)
          have h8 := hid (Below.refl Z.heap.size Z)
          clear hbz F10 V10 G10 hcf hcw
          go_wp2_with fail
          go_region_held3 (fun _ => True) (trivial) (first
            | (go_at_call 29; go_must ((with_reducible refine (awake29 _ (FK.out _ ?b1)).mono ?_); (case b1 => (repeat (first | with_reducible exact Below.refl _ _ | with_reducible exact h7.out | with_reducible exact h8.out | with_reducible refine bel_al ?_ | with_reducible refine bel_d1 ?_ | with_reducible refine bel_dn ?_))); rintro e z1 ⟨rfl, hb⟩; have RLz := hid (show ∀ d, By.RB ((z1.drewN d).alloc (.cells #[Value.int .u8 3, .int .u8 97, .int .u8 98, .int .u8 99] 5)) (.slice (some ⟨z1.heap.size, 0, none⟩) 4 4) 4 (lst [3, 97, 98, 99]) from fun d => rb_lit4 (z1.drewN d) 3 97 98 99 (by decide)); have RLr := hid (show ∀ W' : World, W'.heap.size = z1.heap.size + 1 → Own (W'.alloc (.cells #[Value.int .u8 8, .int .i64 200, .int .i64 1] 71)) (z1.heap.size + 1) (.slice (some ⟨z1.heap.size + 1, 0, none⟩) 1 1) [⟨8, 200, 1⟩] from fun W' e => by rw [← e]; exact Go.Proofs.YtjalconbhliipaaDoor.own_lit W' [⟨8, 200, 1⟩] #[Value.int .u8 8, .int .i64 200, .int .i64 1] ok8 rfl (by show 1 ≤ maxLen; decide)); have h7 := hid (show Below Z.heap.size Z z1 from below_next (show Below Z.heap.size Z _ from (by repeat (first | with_reducible exact Below.refl _ _ | with_reducible exact h7.out | with_reducible exact h8.out | with_reducible refine bel_al ?_ | with_reducible refine bel_d1 ?_ | with_reducible refine bel_dn ?_))) hb); clear hb))
            | (go_at_call 19; go_must ((first
              | ((with_reducible refine (same_true _ _ 64 (formf 3 abc) (formf 0 zf) _ (FA.out _ ?b1) (FB.out _ ?b2) (by omega) form3_w).mono ?_); (case b1 => (repeat (first | with_reducible exact Below.refl _ _ | with_reducible exact h7.out | with_reducible exact h8.out | with_reducible refine bel_al ?_ | with_reducible refine bel_d1 ?_ | with_reducible refine bel_dn ?_))); (case b2 => (repeat (first | with_reducible exact Below.refl _ _ | with_reducible exact h7.out | with_reducible exact h8.out | with_reducible refine bel_al ?_ | with_reducible refine bel_d1 ?_ | with_reducible refine bel_dn ?_))))
              | ((with_reducible refine (same_true _ _ 4 (fun i => formf 3 abc (71 + i)) (lst [3, 97, 98, 99]) _ (FC.out _ ?b1) (RLz.out _) (by omega) form3_t).mono ?_); (case b1 => (repeat (first | with_reducible exact Below.refl _ _ | with_reducible exact h7.out | with_reducible exact h8.out | with_reducible refine bel_al ?_ | with_reducible refine bel_d1 ?_ | with_reducible refine bel_dn ?_))))); rintro e z2 ⟨rfl, dz, rfl⟩))
            | (go_at_call 30; go_must ((with_reducible refine (len31n b1 _ (FN.out _ ?b1)).mono ?_); (case b1 => (repeat (first | with_reducible exact Below.refl _ _ | with_reducible exact h7.out | with_reducible exact h8.out | with_reducible refine bel_al ?_ | with_reducible refine bel_d1 ?_ | with_reducible refine bel_dn ?_))); rintro e z3 ⟨rfl, rfl⟩))
            | (go_at_call 17; go_must ((with_reducible refine (form30n b1 _ (FN.out _ ?b1)).mono ?_); (case b1 => (repeat (first | with_reducible exact Below.refl _ _ | with_reducible exact h7.out | with_reducible exact h8.out | with_reducible refine bel_al ?_ | with_reducible refine bel_d1 ?_ | with_reducible refine bel_dn ?_))); rintro e z4 ⟨rfl, rfl⟩))
            | (go_at_call 14; go_must ((with_reducible refine (runs22 lb rv8 [⟨8, 200, 1⟩] _ (FL.out _ ?b1) (by decide)).mono ?_); (case b1 => (repeat (first | with_reducible exact Below.refl _ _ | with_reducible exact h7.out | with_reducible exact h8.out | with_reducible refine bel_al ?_ | with_reducible refine bel_d1 ?_ | with_reducible refine bel_dn ?_))); rintro e z5 ⟨r5, rfl, hu, hb⟩; (first | (have L5 := hid (Own.below (RLr.out _ (by first | exact size_alloc _ _ | simp)) hb); have A5 := hid hu) | (have A5 := hid (Own.below hu (below_alloc z5 (.cells #[Value.int .u8 8, .int .i64 200, .int .i64 1] 71))); have L5 := hid (show Own (z5.alloc (.cells #[Value.int .u8 8, .int .i64 200, .int .i64 1] 71)) z5.heap.size (.slice (some ⟨z5.heap.size, 0, none⟩) 1 1) [⟨8, 200, 1⟩] from Go.Proofs.YtjalconbhliipaaDoor.own_lit z5 [⟨8, 200, 1⟩] #[Value.int .u8 8, .int .i64 200, .int .i64 1] ok8 rfl (by show 1 ≤ maxLen; decide)))); have h8 := hid (show Below Z.heap.size Z z5 from below_next (show Below Z.heap.size Z _ from (by repeat (first | with_reducible exact Below.refl _ _ | with_reducible exact h7.out | with_reducible exact h8.out | with_reducible refine bel_al ?_ | with_reducible refine bel_d1 ?_ | with_reducible refine bel_dn ?_))) hb); clear hu hb))
            | (go_at_call 13; go_must ((with_reducible refine (same14 _ _ [⟨8, 200, 1⟩] [⟨8, 200, 1⟩] _ A5.out.reads L5.out.reads one8 one8).mono ?_); rw [decide_eq_true (show ([⟨8, 200, 1⟩] : List Rn) = [⟨8, 200, 1⟩] from rfl)]; rintro e z6 ⟨rfl, dy, rfl⟩)))
          all_goals go_wp2
          all_goals go_ret
          all_goals (first | exact ⟨rfl, FE.out _ (bel_dn (bel_al h8.out))⟩ | exact ⟨rfl, FE.out _ (bel_dn h8.out)⟩)
end Go.Proofs.YtjalconbhliipaaDoor.Sg
