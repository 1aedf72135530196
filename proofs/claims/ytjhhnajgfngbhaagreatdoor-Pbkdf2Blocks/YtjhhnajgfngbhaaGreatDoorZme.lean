/- The document's HMAC: Block, last, Digest, keyed, inner, Of, blocks, Begins, Ends, Tag. -/
import Derived.Test.YtjhhnajgfngbhaaGreatDoorZmc
import Derived.Test.YtjhhnajgfngbhaaGreatDoorZhh
import Derived.Test.YtjhhnajgfngbhaaGreatDoorZec
namespace Go.Proofs.YtjhhnajgfngbhaaGreatDoor.Dg
open Go.ChangeShapes Go.WideShapes Go.ChangeAt Go.RowKit
open Go.Proofs.YtjhhnajgfngbhaaGreatDoor.By
open Go.Proofs.YtjhhnajgfngbhaaGreatDoor.Sh (Blk size_alloc)
theorem rb_at {W : World} {A : Option Addr} {n cap : Nat} {f : Nat → Int} (h : By.RB W (.slice A n cap) n f) {j : Nat} (hj : j < n) : ∃ pb po, A = some ⟨pb, po, none⟩ ∧ W.cell? ⟨pb, po + j, none⟩ = some (.int .u8 (f j)) := by
  obtain ⟨_, A', cap', hv, _, _, ⟨e0, _⟩ | ⟨pb, po, rfl, hc⟩⟩ := h
  · omega
  · simp only [Value.slice.injEq, true_and] at hv
    exact ⟨pb, po, hv.1, hc j hj⟩
theorem rblockNo (a : Int) (w : World) (h1 : ¬ a = 1) (h2 : ¬ a = 2) : Calls Tryz.prog 33 #[.int .u8 a] w fun e w' => e = .returned (.int .i64 0) ∧ w' = w := by
  go_enter Tryz.func33, Tryz.ntmps33
  go_wp2
  go_ret
  exact ⟨rfl, rfl⟩
theorem rdigest256 (n : Nat) (v : Value) (f : Nat → Int) (w : World) (hr : By.RB w v n f) (hn : n ≤ 140737488353328) :
    Calls Tryz.prog 68 #[.int .u8 1, v] w fun e w' => ∃ u, e = .returned u ∧ By.Own w' w.heap.size u 32 (dig false n f) ∧ Below w.heap.size w w' := by
  have HR := hid hr
  clear hr
  go_enter Tryz.func68, Tryz.ntmps68
  go_wp2_with fail
  refine (Sh.rnew11 _).mono ?_
  rintro e w1 ⟨rfl, h1, hb1⟩
  have H1 := hid h1
  have B1 := hid hb1
  clear h1 hb1
  have HC := hid (Sh.rwrite35 w.heap.size 0 n none (fun _ => 0) f v [] w1 H1.out trivial (fun w' hb => (HR.out.below B1.out).below hb) (by omega))
  go_wp2_with fail
  refine HC.out.mono ?_
  rintro e w2 ⟨rfl, h2, -, hk2, -⟩
  have H2 := hid (show Sh.IsR w2 w.heap.size (some (n, f)) from by rw [Nat.zero_add, show Sh.cat 0 (fun _ => 0) f = f from Sh.cat0 _ _] at h2; exact h2)
  have B2 := hid (show Below w.heap.size w w2 from B1.out.trans (hk2.below B1.out.size (fun k hk e => by rcases e with e | e; omega; exact e)))
  clear h2 hk2 HC H1
  have HC := hid (Sh.rsum36 w.heap.size n none f [] w2 H2.out trivial)
  go_wp2_with fail
  refine HC.out.mono ?_
  rintro e w3 ⟨u, rfl, h3, -, hk3⟩
  have R := hid (Sg.own_mono h3 B2.out.size)
  have B3 := hid (below_next B2.out (hk3.below (Nat.le_refl _) (fun _ _ e => e)))
  clear h3 hk3
  go_wp2
  go_ret
  exact ⟨u, rfl, R.out, B3.out⟩
theorem rdigest512 (n : Nat) (v : Value) (f : Nat → Int) (w : World) (hr : By.RB w v n f) (hn : n ≤ 140737488353328) :
    Calls Tryz.prog 68 #[.int .u8 2, v] w fun e w' => ∃ u, e = .returned u ∧ By.Own w' w.heap.size u 64 (dig true n f) ∧ Below w.heap.size w w' := by
  have HC := hid (Sg.digest52 n v f w hr (by omega))
  clear hr
  go_enter Tryz.func68, Tryz.ntmps68
  go_wp2_with fail
  refine HC.out.mono ?_
  rintro e w1 ⟨u, rfl, h1, h2⟩
  go_wp2
  go_ret
  exact ⟨u, rfl, h1, h2⟩
theorem rlast256 (n : Nat) (w : World) (hn : n ≤ 140737488353328) : Calls Tryz.prog 42 #[.int .u8 1, .int .i64 n] w fun e w' => e = .returned (.int .i64 (last false n)) ∧ w' = w := by
  by_cases h : n % 64 < 56
  · have h1 : (n : Int) % 64 < 56 := by omega
    have e : last false n = 1 := by show Sh.last n = 1; unfold Sh.last Sh.zs; omega
    rw [e]
    go_enter Tryz.func42, Tryz.ntmps42
    go_wp2
    go_ret
    exact ⟨rfl, rfl⟩
  · have h1 : ¬ (n : Int) % 64 < 56 := by omega
    have e : last false n = 2 := by show Sh.last n = 2; unfold Sh.last Sh.zs; omega
    rw [e]
    go_enter Tryz.func42, Tryz.ntmps42
    go_wp2
    go_ret
    exact ⟨rfl, rfl⟩
theorem rlast512 (n : Nat) (w : World) (hn : n ≤ 140737488353328) : Calls Tryz.prog 42 #[.int .u8 2, .int .i64 n] w fun e w' => e = .returned (.int .i64 (last true n)) ∧ w' = w := by
  go_enter Tryz.func42, Tryz.ntmps42
  go_wp2_with fail
  refine (Sg.last51 n _ (by omega)).mono ?_
  rintro e w1 ⟨rfl, rfl⟩
  go_wp2
  go_ret
  exact ⟨rfl, rfl⟩
theorem rblock256 (w : World) : Calls Tryz.prog 33 #[.int .u8 1] w fun e w' => e = .returned (.int .i64 64) ∧ w' = w := by
  go_enter Tryz.func33, Tryz.ntmps33
  go_wp2
  go_ret
  exact ⟨rfl, rfl⟩
set_option maxRecDepth 4000 in
set_option maxHeartbeats 4000000 in
theorem rkeyedL256 (n : Nat) (v : Value) (g : Nat → Int) (x : Int) (w : World) (hr : By.RB w v n g) (hn : n ≤ 140737488353328) (hlong : 64 < n) :
    Calls Tryz.prog 67 #[.int .u8 1, v, .int .u8 x] w fun e w' => ∃ u, e = .returned u ∧ By.Own w' w.heap.size u 64 (msk x (kb false n g)) ∧ Below w.heap.size w w' := by
  have HR := hid hr
  obtain ⟨hg, A, cap, rfl, -⟩ := hr
  have hlong' : (64 : Int) < n := by omega
  go_enter Tryz.func67, Tryz.ntmps67
  go_wp2_with fail
  refine (rblock256 _).mono ?_
  rintro e w1 ⟨rfl, hw1⟩
  subst w1
  go_wp2_with fail
  refine (rdigest256 n _ g _ HR.out hn).mono ?_
  rintro e w1 ⟨ku, rfl, hu, hb⟩
  have KR := hid hu.reads
  have B1 := hid hb
  clear hu hb HR
  obtain ⟨KB, KA, kc, rfl, -⟩ := KR.out
  have KE := hid (show ∀ i, i < 32 → kb false n g i = dig false n g i from fun i hi => (cat_kbl false n g hlong i).symm.trans (if_pos hi))
  have KF := hid (show ∀ i, ¬ i < 32 → kb false n g i = 0 from fun i hi => (cat_kbl false n g hlong i).symm.trans (if_neg hi))
  go_wp2_with fail
  go_loopw [8, 9] (fun u i wr => ∃ j : Nat, j ≤ 64 ∧ i = .int .i64 j ∧ By.Own wr w1.heap.size u j (msk x (kb false n g)) ∧ Below w1.heap.size w1 wr) (fun _ i _ => 64 - (intOf i).toNat)
  case atStart => exact ⟨0, Nat.zero_le _, rfl, own_nil _ _ _ (msk_b _ _), Below.refl _ _⟩
  case round =>
    obtain ⟨j, hj, rfl, hown, hbel⟩ := hrel
    have HO := hid hown
    have HB := hid hbel
    have hz := hid hbel.size
    clear hown hbel
    by_cases hlt : j < 64
    · have hlt' : (j : Int) < 64 := by omega
      go_wp2_with fail
      refine (rblock256 _).mono ?_
      rintro e w2 ⟨rfl, hw2⟩
      subst w2
      by_cases hin : j < 32
      · have hin' : (j : Int) < 32 := by omega
        obtain ⟨pb, po, rfl, x1⟩ := rb_at (KR.out.below HB.out) hin
        have ek := hid (KE.out j hin)
        obtain ⟨c, hc⟩ : ∃ c, bx (dig false n g j) x = c := ⟨_, rfl⟩
        have hc2 : bits BinOp.xor IntKind.u8 (dig false n g j) x = c := hc
        have em := hid (show msk x (kb false n g) j = c by show bx (kb false n g j) x = c; rw [ek.out, hc])
        have cb := hid (show 0 ≤ c ∧ c < 256 by rw [← hc]; exact bx_b _ _)
        clear hc ek
        have OV := hid (own_below HO.out (below_alloc wr (.cells #[.int .u8 c] 5)))
        have OL := hid (Sh.rb_one wr c cb.out)
        go_wp2_with (at_builtin; go_must (refine Sg.wpList_cat rfl _ _ rfl w1.heap.size j 1 _ _ (msk x (kb false n g)) (fun _ => c) rfl OV.out rfl OL.out (by omega) (by rw [size_alloc]; have := hz.out; omega) ?_))
        intro u3 w3 hown3 hgrow3
        have R1 : Hid (By.Own w3 w1.heap.size u3 (j + 1) (msk x (kb false n g))) := own_congr hown3 (msk_b _ _) (Sh.cat_one j _ _ c (fun _ _ => rfl) em.out.symm)
        have R2 : Hid (Below w1.heap.size w1 w3) := Sh.below_grow (below_next HB.out (below_alloc wr (.cells #[.int .u8 c] 5))) (by rw [size_alloc]; have := hz.out; omega) OV.out hgrow3
        clear hown3 hgrow3 HO HB OV OL hz
        go_wp2
        exact ⟨⟨j + 1, by omega, by go_num, R1.out, R2.out⟩, by simp [intOf]; omega⟩
      · have hin' : ¬ (j : Int) < 32 := by omega
        have ek := hid (KF.out j hin)
        obtain ⟨c, hc⟩ : ∃ c, bx 0 x = c := ⟨_, rfl⟩
        have hc2 : bits BinOp.xor IntKind.u8 0 x = c := hc
        have em := hid (show msk x (kb false n g) j = c by show bx (kb false n g j) x = c; rw [ek.out, hc])
        have cb := hid (show 0 ≤ c ∧ c < 256 by rw [← hc]; exact bx_b _ _)
        clear hc ek
        have OV := hid (own_below HO.out (below_alloc wr (.cells #[.int .u8 c] 5)))
        have OL := hid (Sh.rb_one wr c cb.out)
        go_wp2_with (at_builtin; go_must (refine Sg.wpList_cat rfl _ _ rfl w1.heap.size j 1 _ _ (msk x (kb false n g)) (fun _ => c) rfl OV.out rfl OL.out (by omega) (by rw [size_alloc]; have := hz.out; omega) ?_))
        intro u3 w3 hown3 hgrow3
        have R1 : Hid (By.Own w3 w1.heap.size u3 (j + 1) (msk x (kb false n g))) := own_congr hown3 (msk_b _ _) (Sh.cat_one j _ _ c (fun _ _ => rfl) em.out.symm)
        have R2 : Hid (Below w1.heap.size w1 w3) := Sh.below_grow (below_next HB.out (below_alloc wr (.cells #[.int .u8 c] 5))) (by rw [size_alloc]; have := hz.out; omega) OV.out hgrow3
        clear hown3 hgrow3 HO HB OV OL hz
        go_wp2
        exact ⟨⟨j + 1, by omega, by go_num, R1.out, R2.out⟩, by simp [intOf]; omega⟩
    · obtain rfl : j = 64 := by omega
      go_wp2_with fail
      refine (rblock256 _).mono ?_
      rintro e w2 ⟨rfl, hw2⟩
      subst w2
      go_wp2
      go_ret
      exact ⟨_, rfl, Sg.own_mono HO.out B1.out.size, below_next B1.out HB.out⟩
set_option maxRecDepth 4000 in
set_option maxHeartbeats 4000000 in
theorem rkeyedS256 (n : Nat) (v : Value) (g : Nat → Int) (x : Int) (w : World) (hr : By.RB w v n g) (hlong : ¬ 64 < n) :
    Calls Tryz.prog 67 #[.int .u8 1, v, .int .u8 x] w fun e w' => ∃ u, e = .returned u ∧ By.Own w' w.heap.size u 64 (msk x (kb false n g)) ∧ Below w.heap.size w w' := by
  have KR := hid hr
  obtain ⟨hg, A, cap, rfl, -⟩ := hr
  have hlong' : ¬ (64 : Int) < n := by omega
  have KE := hid (show ∀ i, i < n → kb false n g i = g i from fun i hi => (cat_kb false n g hlong i).symm.trans (if_pos hi))
  have KF := hid (show ∀ i, ¬ i < n → kb false n g i = 0 from fun i hi => (cat_kb false n g hlong i).symm.trans (if_neg hi))
  have B1 := hid (Below.refl w.heap.size w)
  go_enter Tryz.func67, Tryz.ntmps67
  go_wp2_with fail
  refine (rblock256 _).mono ?_
  rintro e w2 ⟨rfl, hw2⟩
  subst w2
  go_wp2_with fail
  go_loopw [8, 9] (fun u i wr => ∃ j : Nat, j ≤ 64 ∧ i = .int .i64 j ∧ By.Own wr w.heap.size u j (msk x (kb false n g)) ∧ Below w.heap.size w wr) (fun _ i _ => 64 - (intOf i).toNat)
  case atStart => exact ⟨0, Nat.zero_le _, rfl, own_nil _ _ _ (msk_b _ _), Below.refl _ _⟩
  case round =>
    obtain ⟨j, hj, rfl, hown, hbel⟩ := hrel
    have HO := hid hown
    have HB := hid hbel
    have hz := hid hbel.size
    clear hown hbel
    by_cases hlt : j < 64
    · have hlt' : (j : Int) < 64 := by omega
      go_wp2_with fail
      refine (rblock256 _).mono ?_
      rintro e w2 ⟨rfl, hw2⟩
      subst w2
      by_cases hin : j < n
      · have hin' : (j : Int) < n := by omega
        obtain ⟨pb, po, rfl, x1⟩ := rb_at (KR.out.below HB.out) hin
        have ek := hid (KE.out j hin)
        obtain ⟨c, hc⟩ : ∃ c, bx (g j) x = c := ⟨_, rfl⟩
        have hc2 : bits BinOp.xor IntKind.u8 (g j) x = c := hc
        have em := hid (show msk x (kb false n g) j = c by show bx (kb false n g j) x = c; rw [ek.out, hc])
        have cb := hid (show 0 ≤ c ∧ c < 256 by rw [← hc]; exact bx_b _ _)
        clear hc ek
        have OV := hid (own_below HO.out (below_alloc wr (.cells #[.int .u8 c] 5)))
        have OL := hid (Sh.rb_one wr c cb.out)
        go_wp2_with (at_builtin; go_must (refine Sg.wpList_cat rfl _ _ rfl w.heap.size j 1 _ _ (msk x (kb false n g)) (fun _ => c) rfl OV.out rfl OL.out (by omega) (by rw [size_alloc]; have := hz.out; omega) ?_))
        intro u3 w3 hown3 hgrow3
        have R1 : Hid (By.Own w3 w.heap.size u3 (j + 1) (msk x (kb false n g))) := own_congr hown3 (msk_b _ _) (Sh.cat_one j _ _ c (fun _ _ => rfl) em.out.symm)
        have R2 : Hid (Below w.heap.size w w3) := Sh.below_grow (below_next HB.out (below_alloc wr (.cells #[.int .u8 c] 5))) (by rw [size_alloc]; have := hz.out; omega) OV.out hgrow3
        clear hown3 hgrow3 HO HB OV OL hz
        go_wp2
        exact ⟨⟨j + 1, by omega, by go_num, R1.out, R2.out⟩, by simp [intOf]; omega⟩
      · have hin' : ¬ (j : Int) < n := by omega
        have ek := hid (KF.out j hin)
        obtain ⟨c, hc⟩ : ∃ c, bx 0 x = c := ⟨_, rfl⟩
        have hc2 : bits BinOp.xor IntKind.u8 0 x = c := hc
        have em := hid (show msk x (kb false n g) j = c by show bx (kb false n g j) x = c; rw [ek.out, hc])
        have cb := hid (show 0 ≤ c ∧ c < 256 by rw [← hc]; exact bx_b _ _)
        clear hc ek
        have OV := hid (own_below HO.out (below_alloc wr (.cells #[.int .u8 c] 5)))
        have OL := hid (Sh.rb_one wr c cb.out)
        go_wp2_with (at_builtin; go_must (refine Sg.wpList_cat rfl _ _ rfl w.heap.size j 1 _ _ (msk x (kb false n g)) (fun _ => c) rfl OV.out rfl OL.out (by omega) (by rw [size_alloc]; have := hz.out; omega) ?_))
        intro u3 w3 hown3 hgrow3
        have R1 : Hid (By.Own w3 w.heap.size u3 (j + 1) (msk x (kb false n g))) := own_congr hown3 (msk_b _ _) (Sh.cat_one j _ _ c (fun _ _ => rfl) em.out.symm)
        have R2 : Hid (Below w.heap.size w w3) := Sh.below_grow (below_next HB.out (below_alloc wr (.cells #[.int .u8 c] 5))) (by rw [size_alloc]; have := hz.out; omega) OV.out hgrow3
        clear hown3 hgrow3 HO HB OV OL hz
        go_wp2
        exact ⟨⟨j + 1, by omega, by go_num, R1.out, R2.out⟩, by simp [intOf]; omega⟩
    · obtain rfl : j = 64 := by omega
      go_wp2_with fail
      refine (rblock256 _).mono ?_
      rintro e w2 ⟨rfl, hw2⟩
      subst w2
      go_wp2
      go_ret
      exact ⟨_, rfl, Sg.own_mono HO.out B1.out.size, below_next B1.out HB.out⟩
theorem rblock512 (w : World) : Calls Tryz.prog 33 #[.int .u8 2] w fun e w' => e = .returned (.int .i64 128) ∧ w' = w := by
  go_enter Tryz.func33, Tryz.ntmps33
  go_wp2
  go_ret
  exact ⟨rfl, rfl⟩
set_option maxRecDepth 4000 in
set_option maxHeartbeats 4000000 in
theorem rkeyedL512 (n : Nat) (v : Value) (g : Nat → Int) (x : Int) (w : World) (hr : By.RB w v n g) (hn : n ≤ 140737488353328) (hlong : 128 < n) :
    Calls Tryz.prog 67 #[.int .u8 2, v, .int .u8 x] w fun e w' => ∃ u, e = .returned u ∧ By.Own w' w.heap.size u 128 (msk x (kb true n g)) ∧ Below w.heap.size w w' := by
  have HR := hid hr
  obtain ⟨hg, A, cap, rfl, -⟩ := hr
  have hlong' : (128 : Int) < n := by omega
  go_enter Tryz.func67, Tryz.ntmps67
  go_wp2_with fail
  refine (rblock512 _).mono ?_
  rintro e w1 ⟨rfl, hw1⟩
  subst w1
  go_wp2_with fail
  refine (rdigest512 n _ g _ HR.out hn).mono ?_
  rintro e w1 ⟨ku, rfl, hu, hb⟩
  have KR := hid hu.reads
  have B1 := hid hb
  clear hu hb HR
  obtain ⟨KB, KA, kc, rfl, -⟩ := KR.out
  have KE := hid (show ∀ i, i < 64 → kb true n g i = dig true n g i from fun i hi => (cat_kbl true n g hlong i).symm.trans (if_pos hi))
  have KF := hid (show ∀ i, ¬ i < 64 → kb true n g i = 0 from fun i hi => (cat_kbl true n g hlong i).symm.trans (if_neg hi))
  go_wp2_with fail
  go_loopw [8, 9] (fun u i wr => ∃ j : Nat, j ≤ 128 ∧ i = .int .i64 j ∧ By.Own wr w1.heap.size u j (msk x (kb true n g)) ∧ Below w1.heap.size w1 wr) (fun _ i _ => 128 - (intOf i).toNat)
  case atStart => exact ⟨0, Nat.zero_le _, rfl, own_nil _ _ _ (msk_b _ _), Below.refl _ _⟩
  case round =>
    obtain ⟨j, hj, rfl, hown, hbel⟩ := hrel
    have HO := hid hown
    have HB := hid hbel
    have hz := hid hbel.size
    clear hown hbel
    by_cases hlt : j < 128
    · have hlt' : (j : Int) < 128 := by omega
      go_wp2_with fail
      refine (rblock512 _).mono ?_
      rintro e w2 ⟨rfl, hw2⟩
      subst w2
      by_cases hin : j < 64
      · have hin' : (j : Int) < 64 := by omega
        obtain ⟨pb, po, rfl, x1⟩ := rb_at (KR.out.below HB.out) hin
        have ek := hid (KE.out j hin)
        obtain ⟨c, hc⟩ : ∃ c, bx (dig true n g j) x = c := ⟨_, rfl⟩
        have hc2 : bits BinOp.xor IntKind.u8 (dig true n g j) x = c := hc
        have em := hid (show msk x (kb true n g) j = c by show bx (kb true n g j) x = c; rw [ek.out, hc])
        have cb := hid (show 0 ≤ c ∧ c < 256 by rw [← hc]; exact bx_b _ _)
        clear hc ek
        have OV := hid (own_below HO.out (below_alloc wr (.cells #[.int .u8 c] 5)))
        have OL := hid (Sh.rb_one wr c cb.out)
        go_wp2_with (at_builtin; go_must (refine Sg.wpList_cat rfl _ _ rfl w1.heap.size j 1 _ _ (msk x (kb true n g)) (fun _ => c) rfl OV.out rfl OL.out (by omega) (by rw [size_alloc]; have := hz.out; omega) ?_))
        intro u3 w3 hown3 hgrow3
        have R1 : Hid (By.Own w3 w1.heap.size u3 (j + 1) (msk x (kb true n g))) := own_congr hown3 (msk_b _ _) (Sh.cat_one j _ _ c (fun _ _ => rfl) em.out.symm)
        have R2 : Hid (Below w1.heap.size w1 w3) := Sh.below_grow (below_next HB.out (below_alloc wr (.cells #[.int .u8 c] 5))) (by rw [size_alloc]; have := hz.out; omega) OV.out hgrow3
        clear hown3 hgrow3 HO HB OV OL hz
        go_wp2
        exact ⟨⟨j + 1, by omega, by go_num, R1.out, R2.out⟩, by simp [intOf]; omega⟩
      · have hin' : ¬ (j : Int) < 64 := by omega
        have ek := hid (KF.out j hin)
        obtain ⟨c, hc⟩ : ∃ c, bx 0 x = c := ⟨_, rfl⟩
        have hc2 : bits BinOp.xor IntKind.u8 0 x = c := hc
        have em := hid (show msk x (kb true n g) j = c by show bx (kb true n g j) x = c; rw [ek.out, hc])
        have cb := hid (show 0 ≤ c ∧ c < 256 by rw [← hc]; exact bx_b _ _)
        clear hc ek
        have OV := hid (own_below HO.out (below_alloc wr (.cells #[.int .u8 c] 5)))
        have OL := hid (Sh.rb_one wr c cb.out)
        go_wp2_with (at_builtin; go_must (refine Sg.wpList_cat rfl _ _ rfl w1.heap.size j 1 _ _ (msk x (kb true n g)) (fun _ => c) rfl OV.out rfl OL.out (by omega) (by rw [size_alloc]; have := hz.out; omega) ?_))
        intro u3 w3 hown3 hgrow3
        have R1 : Hid (By.Own w3 w1.heap.size u3 (j + 1) (msk x (kb true n g))) := own_congr hown3 (msk_b _ _) (Sh.cat_one j _ _ c (fun _ _ => rfl) em.out.symm)
        have R2 : Hid (Below w1.heap.size w1 w3) := Sh.below_grow (below_next HB.out (below_alloc wr (.cells #[.int .u8 c] 5))) (by rw [size_alloc]; have := hz.out; omega) OV.out hgrow3
        clear hown3 hgrow3 HO HB OV OL hz
        go_wp2
        exact ⟨⟨j + 1, by omega, by go_num, R1.out, R2.out⟩, by simp [intOf]; omega⟩
    · obtain rfl : j = 128 := by omega
      go_wp2_with fail
      refine (rblock512 _).mono ?_
      rintro e w2 ⟨rfl, hw2⟩
      subst w2
      go_wp2
      go_ret
      exact ⟨_, rfl, Sg.own_mono HO.out B1.out.size, below_next B1.out HB.out⟩
set_option maxRecDepth 4000 in
set_option maxHeartbeats 4000000 in
theorem rkeyedS512 (n : Nat) (v : Value) (g : Nat → Int) (x : Int) (w : World) (hr : By.RB w v n g) (hlong : ¬ 128 < n) :
    Calls Tryz.prog 67 #[.int .u8 2, v, .int .u8 x] w fun e w' => ∃ u, e = .returned u ∧ By.Own w' w.heap.size u 128 (msk x (kb true n g)) ∧ Below w.heap.size w w' := by
  have KR := hid hr
  obtain ⟨hg, A, cap, rfl, -⟩ := hr
  have hlong' : ¬ (128 : Int) < n := by omega
  have KE := hid (show ∀ i, i < n → kb true n g i = g i from fun i hi => (cat_kb true n g hlong i).symm.trans (if_pos hi))
  have KF := hid (show ∀ i, ¬ i < n → kb true n g i = 0 from fun i hi => (cat_kb true n g hlong i).symm.trans (if_neg hi))
  have B1 := hid (Below.refl w.heap.size w)
  go_enter Tryz.func67, Tryz.ntmps67
  go_wp2_with fail
  refine (rblock512 _).mono ?_
  rintro e w2 ⟨rfl, hw2⟩
  subst w2
  go_wp2_with fail
  go_loopw [8, 9] (fun u i wr => ∃ j : Nat, j ≤ 128 ∧ i = .int .i64 j ∧ By.Own wr w.heap.size u j (msk x (kb true n g)) ∧ Below w.heap.size w wr) (fun _ i _ => 128 - (intOf i).toNat)
  case atStart => exact ⟨0, Nat.zero_le _, rfl, own_nil _ _ _ (msk_b _ _), Below.refl _ _⟩
  case round =>
    obtain ⟨j, hj, rfl, hown, hbel⟩ := hrel
    have HO := hid hown
    have HB := hid hbel
    have hz := hid hbel.size
    clear hown hbel
    by_cases hlt : j < 128
    · have hlt' : (j : Int) < 128 := by omega
      go_wp2_with fail
      refine (rblock512 _).mono ?_
      rintro e w2 ⟨rfl, hw2⟩
      subst w2
      by_cases hin : j < n
      · have hin' : (j : Int) < n := by omega
        obtain ⟨pb, po, rfl, x1⟩ := rb_at (KR.out.below HB.out) hin
        have ek := hid (KE.out j hin)
        obtain ⟨c, hc⟩ : ∃ c, bx (g j) x = c := ⟨_, rfl⟩
        have hc2 : bits BinOp.xor IntKind.u8 (g j) x = c := hc
        have em := hid (show msk x (kb true n g) j = c by show bx (kb true n g j) x = c; rw [ek.out, hc])
        have cb := hid (show 0 ≤ c ∧ c < 256 by rw [← hc]; exact bx_b _ _)
        clear hc ek
        have OV := hid (own_below HO.out (below_alloc wr (.cells #[.int .u8 c] 5)))
        have OL := hid (Sh.rb_one wr c cb.out)
        go_wp2_with (at_builtin; go_must (refine Sg.wpList_cat rfl _ _ rfl w.heap.size j 1 _ _ (msk x (kb true n g)) (fun _ => c) rfl OV.out rfl OL.out (by omega) (by rw [size_alloc]; have := hz.out; omega) ?_))
        intro u3 w3 hown3 hgrow3
        have R1 : Hid (By.Own w3 w.heap.size u3 (j + 1) (msk x (kb true n g))) := own_congr hown3 (msk_b _ _) (Sh.cat_one j _ _ c (fun _ _ => rfl) em.out.symm)
        have R2 : Hid (Below w.heap.size w w3) := Sh.below_grow (below_next HB.out (below_alloc wr (.cells #[.int .u8 c] 5))) (by rw [size_alloc]; have := hz.out; omega) OV.out hgrow3
        clear hown3 hgrow3 HO HB OV OL hz
        go_wp2
        exact ⟨⟨j + 1, by omega, by go_num, R1.out, R2.out⟩, by simp [intOf]; omega⟩
      · have hin' : ¬ (j : Int) < n := by omega
        have ek := hid (KF.out j hin)
        obtain ⟨c, hc⟩ : ∃ c, bx 0 x = c := ⟨_, rfl⟩
        have hc2 : bits BinOp.xor IntKind.u8 0 x = c := hc
        have em := hid (show msk x (kb true n g) j = c by show bx (kb true n g j) x = c; rw [ek.out, hc])
        have cb := hid (show 0 ≤ c ∧ c < 256 by rw [← hc]; exact bx_b _ _)
        clear hc ek
        have OV := hid (own_below HO.out (below_alloc wr (.cells #[.int .u8 c] 5)))
        have OL := hid (Sh.rb_one wr c cb.out)
        go_wp2_with (at_builtin; go_must (refine Sg.wpList_cat rfl _ _ rfl w.heap.size j 1 _ _ (msk x (kb true n g)) (fun _ => c) rfl OV.out rfl OL.out (by omega) (by rw [size_alloc]; have := hz.out; omega) ?_))
        intro u3 w3 hown3 hgrow3
        have R1 : Hid (By.Own w3 w.heap.size u3 (j + 1) (msk x (kb true n g))) := own_congr hown3 (msk_b _ _) (Sh.cat_one j _ _ c (fun _ _ => rfl) em.out.symm)
        have R2 : Hid (Below w.heap.size w w3) := Sh.below_grow (below_next HB.out (below_alloc wr (.cells #[.int .u8 c] 5))) (by rw [size_alloc]; have := hz.out; omega) OV.out hgrow3
        clear hown3 hgrow3 HO HB OV OL hz
        go_wp2
        exact ⟨⟨j + 1, by omega, by go_num, R1.out, R2.out⟩, by simp [intOf]; omega⟩
    · obtain rfl : j = 128 := by omega
      go_wp2_with fail
      refine (rblock512 _).mono ?_
      rintro e w2 ⟨rfl, hw2⟩
      subst w2
      go_wp2
      go_ret
      exact ⟨_, rfl, Sg.own_mono HO.out B1.out.size, below_next B1.out HB.out⟩
end Go.Proofs.YtjhhnajgfngbhaaGreatDoor.Dg
