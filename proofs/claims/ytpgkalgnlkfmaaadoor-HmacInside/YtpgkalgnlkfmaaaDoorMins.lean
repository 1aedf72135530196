/- The law HmacInside. -/
import Derived.Test.YtpgkalgnlkfmaaaDoorZmk
import Derived.Test.YtpgkalgnlkfmaaaDoorZmt
import Derived.Test.YtpgkalgnlkfmaaaDoorZgb
namespace Go.Proofs.YtpgkalgnlkfmaaaDoor.Dg
open Go.ChangeShapes Go.WideShapes Go.ChangeAt Go.RowKit
open Go.Proofs.YtpgkalgnlkfmaaaDoor.By
open Go.Proofs.YtpgkalgnlkfmaaaDoor.Sh (Blk size_alloc)
theorem algF (w : World) : Calls Tryd.prog 21 #[.bool false] w fun e w' => e = .returned (.tuple #[.int .u8 1, .int .i64 64]) ∧ w' = w := by
  go_enter Tryd.func21, Tryd.ntmps21
  go_wp2
  go_ret2
  exact ⟨rfl, rfl⟩
theorem algT (w : World) : Calls Tryd.prog 21 #[.bool true] w fun e w' => e = .returned (.tuple #[.int .u8 2, .int .i64 128]) ∧ w' = w := by
  go_enter Tryd.func21, Tryd.ntmps21
  go_wp2
  go_ret2
  exact ⟨rfl, rfl⟩
theorem rb_at {W : World} {A : Option Addr} {n cap : Nat} {f : Nat → Int} (h : By.RB W (.slice A n cap) n f) {j : Nat} (hj : j < n) : ∃ pb po, A = some ⟨pb, po, none⟩ ∧ W.cell? ⟨pb, po + j, none⟩ = some (.int .u8 (f j)) := by
  obtain ⟨_, A', cap', hv, _, _, ⟨e0, _⟩ | ⟨pb, po, rfl, hc⟩⟩ := h
  · omega
  · simp only [Value.slice.injEq, true_and] at hv
    exact ⟨pb, po, hv.1, hc j hj⟩
theorem cat_one1 (j : Nat) (f : Nat → Int) (c : Int) (h : c = f j) (i : Nat) (hi : i < j + 1) : cat j f (fun _ => c) i = f i := by
  show (if i < j then f i else c) = f i
  by_cases h1 : i < j
  · rw [if_pos h1]
  · rw [if_neg h1, h, show i = j from by omega]
/-- Two lists of the call's own, apart. -/
structure Two (w1 W : World) (u v : Value) (m n : Nat) (f g : Nat → Int) : Prop where
  hu : By.Own W w1.heap.size u m f
  hv : By.Own W w1.heap.size v n g
  ne : ∀ q, u.ownBlock = some q → v.ownBlock ≠ some q
  bel : Below w1.heap.size w1 W
section
variable {w1 W W' : World} {u v u' : Value} {m n m' : Nat} {f g f' : Nat → Int}
theorem Two.below (h : Two w1 W u v m n f g) (hb : Below W.heap.size W W') : Two w1 W' u v m n f g := ⟨own_below h.hu hb, own_below h.hv hb, h.ne, below_next h.bel hb⟩
theorem Two.swap (h : Two w1 W u v m n f g) : Two w1 W v u n m g f := ⟨h.hv, h.hu, fun q hv hu => h.ne q hu hv, h.bel⟩
theorem Two.push (h : Two w1 W u v m n f g) (hu : By.Own W' w1.heap.size u' m' f') (hk : Kp (fun k => u.ownBlock = some k) W W') (hs : SameOrNew W u u') : Two w1 W' u' v m' n f' g := by
  refine ⟨hu, Sg.own_kept h.hv hk (fun q hq e => h.ne q e hq), fun q hq hv => ?_, h.bel.trans (hk.below h.bel.size (fun k hk e => by have := own_row h.hu k e; omega))⟩
  rcases hs with e | e
  · exact h.ne q (e ▸ hq) hv
  · have := e q hq
    have := own_lt h.hv q hv
    omega
end
set_option maxRecDepth 8000 in
set_option maxHeartbeats 4000000 in
theorem inside256 (A C : Option Addr) (n cap np cp : Nat) (g f : Nat → Int) (w : World) (hr : By.RB w (.slice A n cap) n g) (hr2 : By.RB w (.slice C np cp) np f) (hk : KT w) (hs : n ≤ 140737488351232 ∧ np ≤ 140737488351232) :
    Calls Tryd.prog 5 #[.bool false, .slice A n cap, .slice C np cp] w fun e w' => e = .returned (.bool true) ∧ Below w.heap.size w w' := by
  have HR := hid hr
  have HR2 := hid hr2
  have HK := hid hk
  have hg := hid hr.1
  clear hr hr2 hk
  go_enter Tryd.func5, Tryd.ntmps5
  go_wp2_with fail
  refine (algF _).mono ?_
  rintro e w1 ⟨rfl, hw⟩
  subst w1
  go_wp2_with fail
  refine (copy16 _ n g _ HR.out (by omega)).mono ?_
  rintro e w1 ⟨kv, rfl, hkv, hb⟩
  have KR := hid hkv.reads
  have B1 := hid hb
  clear hkv hb
  obtain ⟨-, KA, kc, rfl, -⟩ := KR.out
  by_cases hlong : 64 < n
  · have hlong' : (64 : Int) < n := by omega
    have HC := hid (sumf256 n (.slice A n cap) g none [] (fun _ => False) w1 (HK.out.below B1.out) id id trivial Sg.pos_nil' (fun w' hk' => (HR.out.below B1.out).below (Sg.below_kp hk')) (by omega) (by decide))
    have B0 := hid B1.out
    clear B1 KR
    go_wp2_with fail
    refine HC.out.mono ?_
    rintro e w2 ⟨ku, rfl, hu, -, hk2⟩
    have KR := hid (show By.RB w2 ku 32 (dig false n g) from hu.reads)
    have B1 := hid (below_next B0.out (Sg.below_kp hk2))
    clear hu hk2 HC B0
    obtain ⟨-, KA, kc, rfl, -⟩ := KR.out
    have KE := hid (show ∀ i, i < 32 → kb false n g i = dig false n g i from fun i hi => (cat_kbl false n g hlong i).symm.trans (if_pos hi))
    have KF := hid (show ∀ i, ¬ i < 32 → kb false n g i = 0 from fun i hi => (cat_kbl false n g hlong i).symm.trans (if_neg hi))
    go_wp2_with fail
    go_loopw [10, 11, 12] (fun u v i wr => ∃ j : Nat, j ≤ 64 ∧ i = .int .i64 j ∧ Two w2 wr u v j j (msk 54 (kb false n g)) (msk 92 (kb false n g))) (fun _ _ i _ => 64 - (intOf i).toNat)
    case atStart => exact ⟨0, Nat.zero_le _, rfl, own_nil _ _ _ (msk_b _ _), own_nil _ _ _ (msk_b _ _), fun q hq => by simp [Value.ownBlock] at hq, Below.refl _ _⟩
    case round =>
      obtain ⟨j, hj, rfl, htwo⟩ := hrel
      have T := hid htwo
      clear htwo
      by_cases hlt : j < 64
      · have hlt' : (j : Int) < 64 := by omega
        by_cases hin : j < 32
        · have hin' : (j : Int) < 32 := by omega
          obtain ⟨pb, po, rfl, x1⟩ := rb_at (KR.out.below T.out.bel) hin
          have ek := hid (KE.out j hin)
          obtain ⟨y, hy⟩ : ∃ y, dig false n g j = y := ⟨_, rfl⟩
          rw [hy] at ek x1
          obtain ⟨c, hc⟩ : ∃ c, bx y 54 = c := ⟨_, rfl⟩
          obtain ⟨d, hd⟩ : ∃ d, bx y 92 = d := ⟨_, rfl⟩
          have hc2 : bits BinOp.xor IntKind.u8 y 54 = c := hc
          have hd2 : bits BinOp.xor IntKind.u8 y 92 = d := hd
          have ec := hid (show msk 54 (kb false n g) j = c by show bx (kb false n g j) 54 = c; rw [ek.out, hc])
          have ed := hid (show msk 92 (kb false n g) j = d by show bx (kb false n g j) 92 = d; rw [ek.out, hd])
          have cb := hid (show 0 ≤ c ∧ c < 256 by rw [← hc]; exact bx_b _ _)
          have db := hid (show 0 ≤ d ∧ d < 256 by rw [← hd]; exact bx_b _ _)
          clear hc hd ek hy
          have T1 := hid (T.out.below (below_alloc wr (.cells #[.int .u8 c] 5)))
          have OL := hid (own_one wr c cb.out)
          go_wp2_with (at_builtin; go_must (refine wpList_catS rfl _ _ rfl w2.heap.size j 1 _ _ (msk 54 (kb false n g)) (fun _ => c) rfl T1.out.hu rfl OL.out.reads (by omega) T1.out.bel.size ?_))
          intro u3 w3 hown3 hk3 hs3
          have T3 := hid (T1.out.push (own_congr hown3 (msk_b _ _) (cat_one1 j _ c ec.out.symm)) hk3 hs3)
          clear hown3 hk3 hs3 T1 OL T
          have T4 := hid (T3.out.below (below_alloc w3 (.cells #[.int .u8 d] 5)))
          have OL := hid (own_one w3 d db.out)
          go_wp2_with (at_builtin; go_must (refine wpList_catS rfl _ _ rfl w2.heap.size j 1 _ _ (msk 92 (kb false n g)) (fun _ => d) rfl T4.out.hv rfl OL.out.reads (by omega) T4.out.bel.size ?_))
          intro v5 w5 hown5 hk5 hs5
          have T5 := (T4.out.swap.push (own_congr hown5 (msk_b _ _) (cat_one1 j _ d ed.out.symm)) hk5 hs5).swap
          clear hown5 hk5 hs5 T4 OL T3
          go_wp2
          exact ⟨⟨j + 1, by omega, by go_num, T5⟩, by simp [intOf]; omega⟩
        · have hin' : ¬ (j : Int) < 32 := by omega
          have ek := hid (KF.out j hin)
          obtain ⟨c, hc⟩ : ∃ c, bx 0 54 = c := ⟨_, rfl⟩
          obtain ⟨d, hd⟩ : ∃ d, bx 0 92 = d := ⟨_, rfl⟩
          have hc2 : bits BinOp.xor IntKind.u8 0 54 = c := hc
          have hd2 : bits BinOp.xor IntKind.u8 0 92 = d := hd
          have ec := hid (show msk 54 (kb false n g) j = c by show bx (kb false n g j) 54 = c; rw [ek.out, hc])
          have ed := hid (show msk 92 (kb false n g) j = d by show bx (kb false n g j) 92 = d; rw [ek.out, hd])
          have cb := hid (show 0 ≤ c ∧ c < 256 by rw [← hc]; exact bx_b _ _)
          have db := hid (show 0 ≤ d ∧ d < 256 by rw [← hd]; exact bx_b _ _)
          clear hc hd ek
          have T1 := hid (T.out.below (below_alloc wr (.cells #[.int .u8 c] 5)))
          have OL := hid (own_one wr c cb.out)
          go_wp2_with (at_builtin; go_must (refine wpList_catS rfl _ _ rfl w2.heap.size j 1 _ _ (msk 54 (kb false n g)) (fun _ => c) rfl T1.out.hu rfl OL.out.reads (by omega) T1.out.bel.size ?_))
          intro u3 w3 hown3 hk3 hs3
          have T3 := hid (T1.out.push (own_congr hown3 (msk_b _ _) (cat_one1 j _ c ec.out.symm)) hk3 hs3)
          clear hown3 hk3 hs3 T1 OL T
          have T4 := hid (T3.out.below (below_alloc w3 (.cells #[.int .u8 d] 5)))
          have OL := hid (own_one w3 d db.out)
          go_wp2_with (at_builtin; go_must (refine wpList_catS rfl _ _ rfl w2.heap.size j 1 _ _ (msk 92 (kb false n g)) (fun _ => d) rfl T4.out.hv rfl OL.out.reads (by omega) T4.out.bel.size ?_))
          intro v5 w5 hown5 hk5 hs5
          have T5 := (T4.out.swap.push (own_congr hown5 (msk_b _ _) (cat_one1 j _ d ed.out.symm)) hk5 hs5).swap
          clear hown5 hk5 hs5 T4 OL T3
          go_wp2
          exact ⟨⟨j + 1, by omega, by go_num, T5⟩, by simp [intOf]; omega⟩
      · obtain rfl : j = 64 := by omega
        have hz := hid T.out.bel.size
        have RP := hid (((HR2.out.below B1.out).below T.out.bel))
        go_wp2_with (at_builtin; go_must (refine wpList_catS rfl _ _ rfl w2.heap.size 64 np _ _ (msk 54 (kb false n g)) f rfl T.out.hu rfl RP.out (by omega) T.out.bel.size ?_))
        intro u3 w3 hown3 hk3 hs3
        have T3 := hid (T.out.push (show By.Own w3 w2.heap.size u3 (64 + np) (inr false (kb false n g) f) from hown3) hk3 hs3)
        clear hown3 hk3 hs3 T RP hz
        have B3 := hid (below_next B1.out T3.out.bel)
        have HC := hid (sumf256 (64 + np) u3 (inr false (kb false n g) f) none [] (fun _ => False) w3 (HK.out.below B3.out) id id trivial Sg.pos_nil' (fun w' hk' => T3.out.hu.reads.below (Sg.below_kp hk')) (by omega) (by decide))
        go_wp2_with fail
        refine HC.out.mono ?_
        rintro e w4 ⟨u4, rfl, hu, -, hk4⟩
        have U4 := hid (show By.RB w4 u4 32 (dig false (64 + np) (inr false (kb false n g) f)) from hu.reads)
        have T4 := hid (T3.out.below (Sg.below_kp hk4))
        clear hu hk4 HC T3 B3
        obtain ⟨-, ua, uc, rfl, -⟩ := U4.out
        go_wp2_with (at_builtin; go_must (refine wpList_catS rfl _ _ rfl w2.heap.size 64 32 _ _ (msk 92 (kb false n g)) (dig false (64 + np) (inr false (kb false n g) f)) rfl T4.out.hv rfl U4.out (by omega) T4.out.bel.size ?_))
        intro u5 w5 hown5 hk5 hs5
        have T5 := hid (T4.out.swap.push hown5 hk5 hs5)
        clear hown5 hk5 hs5 T4 U4
        have B5 := hid (below_next B1.out T5.out.bel)
        have HC := hid (sumf256 (64 + 32) u5 (cat 64 (msk 92 (kb false n g)) (dig false (64 + np) (inr false (kb false n g) f))) none [] (fun _ => False) w5 (HK.out.below B5.out) id id trivial Sg.pos_nil' (fun w' hk' => T5.out.hu.reads.below (Sg.below_kp hk')) (by omega) (by decide))
        go_wp2_with fail
        refine HC.out.mono ?_
        rintro e w6 ⟨u6, rfl, hu, -, hk6⟩
        have U6 := hid (show By.Own w6 w5.heap.size u6 32 (hm false (kb false n g) np f) from hu)
        have B6 := hid (below_next B5.out (Sg.below_kp hk6))
        clear hu hk6 HC T5 B5
        have HC := hid (tag256 n np (.slice A n cap) (.slice C np cp) g f none [] (fun _ => False) w6 (HK.out.below B6.out) id id trivial Sg.pos_nil' (fun w' hk' => (HR.out.below B6.out).below (Sg.below_kp hk')) (fun w' hk' => (HR2.out.below B6.out).below (Sg.below_kp hk')) (by omega) (by omega) (by decide))
        go_wp2_with fail
        refine HC.out.mono ?_
        rintro e w7 ⟨u7, rfl, hu, -, hk7⟩
        have U7 := hid hu
        have V7 := hid (own_below U6.out (Sg.below_kp hk7))
        have B7 := hid (below_next B6.out (Sg.below_kp hk7))
        clear hu hk7 HC U6 B6
        go_wp2_with fail
        refine (awake1 _ (HK.out.below B7.out)).mono ?_
        rintro e w8 ⟨rfl, hb⟩
        have U8 := hid (own_below U7.out hb)
        have V8 := hid (own_below V7.out hb)
        have B8 := hid (below_next B7.out hb)
        clear hb U7 V7 B7
        go_wp2_with fail
        refine (same_true _ _ 32 _ _ _ U8.out.reads V8.out.reads (by decide) (fun _ _ => rfl)).mono ?_
        rintro e w9 ⟨rfl, d9, rfl⟩
        go_wp2
        go_ret
        exact ⟨rfl, below_next B8.out (below_drewN w8 d9)⟩
  · have hlong' : ¬ (64 : Int) < n := by omega
    have KE := hid (show ∀ i, i < n → kb false n g i = g i from fun i hi => (cat_kb false n g hlong i).symm.trans (if_pos hi))
    have KF := hid (show ∀ i, ¬ i < n → kb false n g i = 0 from fun i hi => (cat_kb false n g hlong i).symm.trans (if_neg hi))
    go_wp2_with fail
    go_loopw [10, 11, 12] (fun u v i wr => ∃ j : Nat, j ≤ 64 ∧ i = .int .i64 j ∧ Two w1 wr u v j j (msk 54 (kb false n g)) (msk 92 (kb false n g))) (fun _ _ i _ => 64 - (intOf i).toNat)
    case atStart => exact ⟨0, Nat.zero_le _, rfl, own_nil _ _ _ (msk_b _ _), own_nil _ _ _ (msk_b _ _), fun q hq => by simp [Value.ownBlock] at hq, Below.refl _ _⟩
    case round =>
      obtain ⟨j, hj, rfl, htwo⟩ := hrel
      have T := hid htwo
      clear htwo
      by_cases hlt : j < 64
      · have hlt' : (j : Int) < 64 := by omega
        by_cases hin : j < n
        · have hin' : (j : Int) < n := by omega
          obtain ⟨pb, po, rfl, x1⟩ := rb_at (KR.out.below T.out.bel) hin
          have ek := hid (KE.out j hin)
          obtain ⟨y, hy⟩ : ∃ y, g j = y := ⟨_, rfl⟩
          rw [hy] at ek x1
          obtain ⟨c, hc⟩ : ∃ c, bx y 54 = c := ⟨_, rfl⟩
          obtain ⟨d, hd⟩ : ∃ d, bx y 92 = d := ⟨_, rfl⟩
          have hc2 : bits BinOp.xor IntKind.u8 y 54 = c := hc
          have hd2 : bits BinOp.xor IntKind.u8 y 92 = d := hd
          have ec := hid (show msk 54 (kb false n g) j = c by show bx (kb false n g j) 54 = c; rw [ek.out, hc])
          have ed := hid (show msk 92 (kb false n g) j = d by show bx (kb false n g j) 92 = d; rw [ek.out, hd])
          have cb := hid (show 0 ≤ c ∧ c < 256 by rw [← hc]; exact bx_b _ _)
          have db := hid (show 0 ≤ d ∧ d < 256 by rw [← hd]; exact bx_b _ _)
          clear hc hd ek hy
          have T1 := hid (T.out.below (below_alloc wr (.cells #[.int .u8 c] 5)))
          have OL := hid (own_one wr c cb.out)
          go_wp2_with (at_builtin; go_must (refine wpList_catS rfl _ _ rfl w1.heap.size j 1 _ _ (msk 54 (kb false n g)) (fun _ => c) rfl T1.out.hu rfl OL.out.reads (by omega) T1.out.bel.size ?_))
          intro u3 w3 hown3 hk3 hs3
          have T3 := hid (T1.out.push (own_congr hown3 (msk_b _ _) (cat_one1 j _ c ec.out.symm)) hk3 hs3)
          clear hown3 hk3 hs3 T1 OL T
          have T4 := hid (T3.out.below (below_alloc w3 (.cells #[.int .u8 d] 5)))
          have OL := hid (own_one w3 d db.out)
          go_wp2_with (at_builtin; go_must (refine wpList_catS rfl _ _ rfl w1.heap.size j 1 _ _ (msk 92 (kb false n g)) (fun _ => d) rfl T4.out.hv rfl OL.out.reads (by omega) T4.out.bel.size ?_))
          intro v5 w5 hown5 hk5 hs5
          have T5 := (T4.out.swap.push (own_congr hown5 (msk_b _ _) (cat_one1 j _ d ed.out.symm)) hk5 hs5).swap
          clear hown5 hk5 hs5 T4 OL T3
          go_wp2
          exact ⟨⟨j + 1, by omega, by go_num, T5⟩, by simp [intOf]; omega⟩
        · have hin' : ¬ (j : Int) < n := by omega
          have ek := hid (KF.out j hin)
          obtain ⟨c, hc⟩ : ∃ c, bx 0 54 = c := ⟨_, rfl⟩
          obtain ⟨d, hd⟩ : ∃ d, bx 0 92 = d := ⟨_, rfl⟩
          have hc2 : bits BinOp.xor IntKind.u8 0 54 = c := hc
          have hd2 : bits BinOp.xor IntKind.u8 0 92 = d := hd
          have ec := hid (show msk 54 (kb false n g) j = c by show bx (kb false n g j) 54 = c; rw [ek.out, hc])
          have ed := hid (show msk 92 (kb false n g) j = d by show bx (kb false n g j) 92 = d; rw [ek.out, hd])
          have cb := hid (show 0 ≤ c ∧ c < 256 by rw [← hc]; exact bx_b _ _)
          have db := hid (show 0 ≤ d ∧ d < 256 by rw [← hd]; exact bx_b _ _)
          clear hc hd ek
          have T1 := hid (T.out.below (below_alloc wr (.cells #[.int .u8 c] 5)))
          have OL := hid (own_one wr c cb.out)
          go_wp2_with (at_builtin; go_must (refine wpList_catS rfl _ _ rfl w1.heap.size j 1 _ _ (msk 54 (kb false n g)) (fun _ => c) rfl T1.out.hu rfl OL.out.reads (by omega) T1.out.bel.size ?_))
          intro u3 w3 hown3 hk3 hs3
          have T3 := hid (T1.out.push (own_congr hown3 (msk_b _ _) (cat_one1 j _ c ec.out.symm)) hk3 hs3)
          clear hown3 hk3 hs3 T1 OL T
          have T4 := hid (T3.out.below (below_alloc w3 (.cells #[.int .u8 d] 5)))
          have OL := hid (own_one w3 d db.out)
          go_wp2_with (at_builtin; go_must (refine wpList_catS rfl _ _ rfl w1.heap.size j 1 _ _ (msk 92 (kb false n g)) (fun _ => d) rfl T4.out.hv rfl OL.out.reads (by omega) T4.out.bel.size ?_))
          intro v5 w5 hown5 hk5 hs5
          have T5 := (T4.out.swap.push (own_congr hown5 (msk_b _ _) (cat_one1 j _ d ed.out.symm)) hk5 hs5).swap
          clear hown5 hk5 hs5 T4 OL T3
          go_wp2
          exact ⟨⟨j + 1, by omega, by go_num, T5⟩, by simp [intOf]; omega⟩
      · obtain rfl : j = 64 := by omega
        have hz := hid T.out.bel.size
        have RP := hid (((HR2.out.below B1.out).below T.out.bel))
        go_wp2_with (at_builtin; go_must (refine wpList_catS rfl _ _ rfl w1.heap.size 64 np _ _ (msk 54 (kb false n g)) f rfl T.out.hu rfl RP.out (by omega) T.out.bel.size ?_))
        intro u3 w3 hown3 hk3 hs3
        have T3 := hid (T.out.push (show By.Own w3 w1.heap.size u3 (64 + np) (inr false (kb false n g) f) from hown3) hk3 hs3)
        clear hown3 hk3 hs3 T RP hz
        have B3 := hid (below_next B1.out T3.out.bel)
        have HC := hid (sumf256 (64 + np) u3 (inr false (kb false n g) f) none [] (fun _ => False) w3 (HK.out.below B3.out) id id trivial Sg.pos_nil' (fun w' hk' => T3.out.hu.reads.below (Sg.below_kp hk')) (by omega) (by decide))
        go_wp2_with fail
        refine HC.out.mono ?_
        rintro e w4 ⟨u4, rfl, hu, -, hk4⟩
        have U4 := hid (show By.RB w4 u4 32 (dig false (64 + np) (inr false (kb false n g) f)) from hu.reads)
        have T4 := hid (T3.out.below (Sg.below_kp hk4))
        clear hu hk4 HC T3 B3
        obtain ⟨-, ua, uc, rfl, -⟩ := U4.out
        go_wp2_with (at_builtin; go_must (refine wpList_catS rfl _ _ rfl w1.heap.size 64 32 _ _ (msk 92 (kb false n g)) (dig false (64 + np) (inr false (kb false n g) f)) rfl T4.out.hv rfl U4.out (by omega) T4.out.bel.size ?_))
        intro u5 w5 hown5 hk5 hs5
        have T5 := hid (T4.out.swap.push hown5 hk5 hs5)
        clear hown5 hk5 hs5 T4 U4
        have B5 := hid (below_next B1.out T5.out.bel)
        have HC := hid (sumf256 (64 + 32) u5 (cat 64 (msk 92 (kb false n g)) (dig false (64 + np) (inr false (kb false n g) f))) none [] (fun _ => False) w5 (HK.out.below B5.out) id id trivial Sg.pos_nil' (fun w' hk' => T5.out.hu.reads.below (Sg.below_kp hk')) (by omega) (by decide))
        go_wp2_with fail
        refine HC.out.mono ?_
        rintro e w6 ⟨u6, rfl, hu, -, hk6⟩
        have U6 := hid (show By.Own w6 w5.heap.size u6 32 (hm false (kb false n g) np f) from hu)
        have B6 := hid (below_next B5.out (Sg.below_kp hk6))
        clear hu hk6 HC T5 B5
        have HC := hid (tag256 n np (.slice A n cap) (.slice C np cp) g f none [] (fun _ => False) w6 (HK.out.below B6.out) id id trivial Sg.pos_nil' (fun w' hk' => (HR.out.below B6.out).below (Sg.below_kp hk')) (fun w' hk' => (HR2.out.below B6.out).below (Sg.below_kp hk')) (by omega) (by omega) (by decide))
        go_wp2_with fail
        refine HC.out.mono ?_
        rintro e w7 ⟨u7, rfl, hu, -, hk7⟩
        have U7 := hid hu
        have V7 := hid (own_below U6.out (Sg.below_kp hk7))
        have B7 := hid (below_next B6.out (Sg.below_kp hk7))
        clear hu hk7 HC U6 B6
        go_wp2_with fail
        refine (awake1 _ (HK.out.below B7.out)).mono ?_
        rintro e w8 ⟨rfl, hb⟩
        have U8 := hid (own_below U7.out hb)
        have V8 := hid (own_below V7.out hb)
        have B8 := hid (below_next B7.out hb)
        clear hb U7 V7 B7
        go_wp2_with fail
        refine (same_true _ _ 32 _ _ _ U8.out.reads V8.out.reads (by decide) (fun _ _ => rfl)).mono ?_
        rintro e w9 ⟨rfl, d9, rfl⟩
        go_wp2
        go_ret
        exact ⟨rfl, below_next B8.out (below_drewN w8 d9)⟩
set_option maxRecDepth 8000 in
set_option maxHeartbeats 4000000 in
theorem inside512 (A C : Option Addr) (n cap np cp : Nat) (g f : Nat → Int) (w : World) (hr : By.RB w (.slice A n cap) n g) (hr2 : By.RB w (.slice C np cp) np f) (hk : KT w) (hs : n ≤ 140737488351232 ∧ np ≤ 140737488351232) :
    Calls Tryd.prog 5 #[.bool true, .slice A n cap, .slice C np cp] w fun e w' => e = .returned (.bool true) ∧ Below w.heap.size w w' := by
  have HR := hid hr
  have HR2 := hid hr2
  have HK := hid hk
  have hg := hid hr.1
  clear hr hr2 hk
  go_enter Tryd.func5, Tryd.ntmps5
  go_wp2_with fail
  refine (algT _).mono ?_
  rintro e w1 ⟨rfl, hw⟩
  subst w1
  go_wp2_with fail
  refine (copy16 _ n g _ HR.out (by omega)).mono ?_
  rintro e w1 ⟨kv, rfl, hkv, hb⟩
  have KR := hid hkv.reads
  have B1 := hid hb
  clear hkv hb
  obtain ⟨-, KA, kc, rfl, -⟩ := KR.out
  by_cases hlong : 128 < n
  · have hlong' : (128 : Int) < n := by omega
    have HC := hid (sumf512 n (.slice A n cap) g none [] (fun _ => False) w1 (HK.out.below B1.out) id id trivial Sg.pos_nil' (fun w' hk' => (HR.out.below B1.out).below (Sg.below_kp hk')) (by omega) (by decide))
    have B0 := hid B1.out
    clear B1 KR
    go_wp2_with fail
    refine HC.out.mono ?_
    rintro e w2 ⟨ku, rfl, hu, -, hk2⟩
    have KR := hid (show By.RB w2 ku 64 (dig true n g) from hu.reads)
    have B1 := hid (below_next B0.out (Sg.below_kp hk2))
    clear hu hk2 HC B0
    obtain ⟨-, KA, kc, rfl, -⟩ := KR.out
    have KE := hid (show ∀ i, i < 64 → kb true n g i = dig true n g i from fun i hi => (cat_kbl true n g hlong i).symm.trans (if_pos hi))
    have KF := hid (show ∀ i, ¬ i < 64 → kb true n g i = 0 from fun i hi => (cat_kbl true n g hlong i).symm.trans (if_neg hi))
    go_wp2_with fail
    go_loopw [10, 11, 12] (fun u v i wr => ∃ j : Nat, j ≤ 128 ∧ i = .int .i64 j ∧ Two w2 wr u v j j (msk 54 (kb true n g)) (msk 92 (kb true n g))) (fun _ _ i _ => 128 - (intOf i).toNat)
    case atStart => exact ⟨0, Nat.zero_le _, rfl, own_nil _ _ _ (msk_b _ _), own_nil _ _ _ (msk_b _ _), fun q hq => by simp [Value.ownBlock] at hq, Below.refl _ _⟩
    case round =>
      obtain ⟨j, hj, rfl, htwo⟩ := hrel
      have T := hid htwo
      clear htwo
      by_cases hlt : j < 128
      · have hlt' : (j : Int) < 128 := by omega
        by_cases hin : j < 64
        · have hin' : (j : Int) < 64 := by omega
          obtain ⟨pb, po, rfl, x1⟩ := rb_at (KR.out.below T.out.bel) hin
          have ek := hid (KE.out j hin)
          obtain ⟨y, hy⟩ : ∃ y, dig true n g j = y := ⟨_, rfl⟩
          rw [hy] at ek x1
          obtain ⟨c, hc⟩ : ∃ c, bx y 54 = c := ⟨_, rfl⟩
          obtain ⟨d, hd⟩ : ∃ d, bx y 92 = d := ⟨_, rfl⟩
          have hc2 : bits BinOp.xor IntKind.u8 y 54 = c := hc
          have hd2 : bits BinOp.xor IntKind.u8 y 92 = d := hd
          have ec := hid (show msk 54 (kb true n g) j = c by show bx (kb true n g j) 54 = c; rw [ek.out, hc])
          have ed := hid (show msk 92 (kb true n g) j = d by show bx (kb true n g j) 92 = d; rw [ek.out, hd])
          have cb := hid (show 0 ≤ c ∧ c < 256 by rw [← hc]; exact bx_b _ _)
          have db := hid (show 0 ≤ d ∧ d < 256 by rw [← hd]; exact bx_b _ _)
          clear hc hd ek hy
          have T1 := hid (T.out.below (below_alloc wr (.cells #[.int .u8 c] 5)))
          have OL := hid (own_one wr c cb.out)
          go_wp2_with (at_builtin; go_must (refine wpList_catS rfl _ _ rfl w2.heap.size j 1 _ _ (msk 54 (kb true n g)) (fun _ => c) rfl T1.out.hu rfl OL.out.reads (by omega) T1.out.bel.size ?_))
          intro u3 w3 hown3 hk3 hs3
          have T3 := hid (T1.out.push (own_congr hown3 (msk_b _ _) (cat_one1 j _ c ec.out.symm)) hk3 hs3)
          clear hown3 hk3 hs3 T1 OL T
          have T4 := hid (T3.out.below (below_alloc w3 (.cells #[.int .u8 d] 5)))
          have OL := hid (own_one w3 d db.out)
          go_wp2_with (at_builtin; go_must (refine wpList_catS rfl _ _ rfl w2.heap.size j 1 _ _ (msk 92 (kb true n g)) (fun _ => d) rfl T4.out.hv rfl OL.out.reads (by omega) T4.out.bel.size ?_))
          intro v5 w5 hown5 hk5 hs5
          have T5 := (T4.out.swap.push (own_congr hown5 (msk_b _ _) (cat_one1 j _ d ed.out.symm)) hk5 hs5).swap
          clear hown5 hk5 hs5 T4 OL T3
          go_wp2
          exact ⟨⟨j + 1, by omega, by go_num, T5⟩, by simp [intOf]; omega⟩
        · have hin' : ¬ (j : Int) < 64 := by omega
          have ek := hid (KF.out j hin)
          obtain ⟨c, hc⟩ : ∃ c, bx 0 54 = c := ⟨_, rfl⟩
          obtain ⟨d, hd⟩ : ∃ d, bx 0 92 = d := ⟨_, rfl⟩
          have hc2 : bits BinOp.xor IntKind.u8 0 54 = c := hc
          have hd2 : bits BinOp.xor IntKind.u8 0 92 = d := hd
          have ec := hid (show msk 54 (kb true n g) j = c by show bx (kb true n g j) 54 = c; rw [ek.out, hc])
          have ed := hid (show msk 92 (kb true n g) j = d by show bx (kb true n g j) 92 = d; rw [ek.out, hd])
          have cb := hid (show 0 ≤ c ∧ c < 256 by rw [← hc]; exact bx_b _ _)
          have db := hid (show 0 ≤ d ∧ d < 256 by rw [← hd]; exact bx_b _ _)
          clear hc hd ek
          have T1 := hid (T.out.below (below_alloc wr (.cells #[.int .u8 c] 5)))
          have OL := hid (own_one wr c cb.out)
          go_wp2_with (at_builtin; go_must (refine wpList_catS rfl _ _ rfl w2.heap.size j 1 _ _ (msk 54 (kb true n g)) (fun _ => c) rfl T1.out.hu rfl OL.out.reads (by omega) T1.out.bel.size ?_))
          intro u3 w3 hown3 hk3 hs3
          have T3 := hid (T1.out.push (own_congr hown3 (msk_b _ _) (cat_one1 j _ c ec.out.symm)) hk3 hs3)
          clear hown3 hk3 hs3 T1 OL T
          have T4 := hid (T3.out.below (below_alloc w3 (.cells #[.int .u8 d] 5)))
          have OL := hid (own_one w3 d db.out)
          go_wp2_with (at_builtin; go_must (refine wpList_catS rfl _ _ rfl w2.heap.size j 1 _ _ (msk 92 (kb true n g)) (fun _ => d) rfl T4.out.hv rfl OL.out.reads (by omega) T4.out.bel.size ?_))
          intro v5 w5 hown5 hk5 hs5
          have T5 := (T4.out.swap.push (own_congr hown5 (msk_b _ _) (cat_one1 j _ d ed.out.symm)) hk5 hs5).swap
          clear hown5 hk5 hs5 T4 OL T3
          go_wp2
          exact ⟨⟨j + 1, by omega, by go_num, T5⟩, by simp [intOf]; omega⟩
      · obtain rfl : j = 128 := by omega
        have hz := hid T.out.bel.size
        have RP := hid (((HR2.out.below B1.out).below T.out.bel))
        go_wp2_with (at_builtin; go_must (refine wpList_catS rfl _ _ rfl w2.heap.size 128 np _ _ (msk 54 (kb true n g)) f rfl T.out.hu rfl RP.out (by omega) T.out.bel.size ?_))
        intro u3 w3 hown3 hk3 hs3
        have T3 := hid (T.out.push (show By.Own w3 w2.heap.size u3 (128 + np) (inr true (kb true n g) f) from hown3) hk3 hs3)
        clear hown3 hk3 hs3 T RP hz
        have B3 := hid (below_next B1.out T3.out.bel)
        have HC := hid (sumf512 (128 + np) u3 (inr true (kb true n g) f) none [] (fun _ => False) w3 (HK.out.below B3.out) id id trivial Sg.pos_nil' (fun w' hk' => T3.out.hu.reads.below (Sg.below_kp hk')) (by omega) (by decide))
        go_wp2_with fail
        refine HC.out.mono ?_
        rintro e w4 ⟨u4, rfl, hu, -, hk4⟩
        have U4 := hid (show By.RB w4 u4 64 (dig true (128 + np) (inr true (kb true n g) f)) from hu.reads)
        have T4 := hid (T3.out.below (Sg.below_kp hk4))
        clear hu hk4 HC T3 B3
        obtain ⟨-, ua, uc, rfl, -⟩ := U4.out
        go_wp2_with (at_builtin; go_must (refine wpList_catS rfl _ _ rfl w2.heap.size 128 64 _ _ (msk 92 (kb true n g)) (dig true (128 + np) (inr true (kb true n g) f)) rfl T4.out.hv rfl U4.out (by omega) T4.out.bel.size ?_))
        intro u5 w5 hown5 hk5 hs5
        have T5 := hid (T4.out.swap.push hown5 hk5 hs5)
        clear hown5 hk5 hs5 T4 U4
        have B5 := hid (below_next B1.out T5.out.bel)
        have HC := hid (sumf512 (128 + 64) u5 (cat 128 (msk 92 (kb true n g)) (dig true (128 + np) (inr true (kb true n g) f))) none [] (fun _ => False) w5 (HK.out.below B5.out) id id trivial Sg.pos_nil' (fun w' hk' => T5.out.hu.reads.below (Sg.below_kp hk')) (by omega) (by decide))
        go_wp2_with fail
        refine HC.out.mono ?_
        rintro e w6 ⟨u6, rfl, hu, -, hk6⟩
        have U6 := hid (show By.Own w6 w5.heap.size u6 64 (hm true (kb true n g) np f) from hu)
        have B6 := hid (below_next B5.out (Sg.below_kp hk6))
        clear hu hk6 HC T5 B5
        have HC := hid (tag512 n np (.slice A n cap) (.slice C np cp) g f none [] (fun _ => False) w6 (HK.out.below B6.out) id id trivial Sg.pos_nil' (fun w' hk' => (HR.out.below B6.out).below (Sg.below_kp hk')) (fun w' hk' => (HR2.out.below B6.out).below (Sg.below_kp hk')) (by omega) (by omega) (by decide))
        go_wp2_with fail
        refine HC.out.mono ?_
        rintro e w7 ⟨u7, rfl, hu, -, hk7⟩
        have U7 := hid hu
        have V7 := hid (own_below U6.out (Sg.below_kp hk7))
        have B7 := hid (below_next B6.out (Sg.below_kp hk7))
        clear hu hk7 HC U6 B6
        go_wp2_with fail
        refine (awake1 _ (HK.out.below B7.out)).mono ?_
        rintro e w8 ⟨rfl, hb⟩
        have U8 := hid (own_below U7.out hb)
        have V8 := hid (own_below V7.out hb)
        have B8 := hid (below_next B7.out hb)
        clear hb U7 V7 B7
        go_wp2_with fail
        refine (same_true _ _ 64 _ _ _ U8.out.reads V8.out.reads (by decide) (fun _ _ => rfl)).mono ?_
        rintro e w9 ⟨rfl, d9, rfl⟩
        go_wp2
        go_ret
        exact ⟨rfl, below_next B8.out (below_drewN w8 d9)⟩
  · have hlong' : ¬ (128 : Int) < n := by omega
    have KE := hid (show ∀ i, i < n → kb true n g i = g i from fun i hi => (cat_kb true n g hlong i).symm.trans (if_pos hi))
    have KF := hid (show ∀ i, ¬ i < n → kb true n g i = 0 from fun i hi => (cat_kb true n g hlong i).symm.trans (if_neg hi))
    go_wp2_with fail
    go_loopw [10, 11, 12] (fun u v i wr => ∃ j : Nat, j ≤ 128 ∧ i = .int .i64 j ∧ Two w1 wr u v j j (msk 54 (kb true n g)) (msk 92 (kb true n g))) (fun _ _ i _ => 128 - (intOf i).toNat)
    case atStart => exact ⟨0, Nat.zero_le _, rfl, own_nil _ _ _ (msk_b _ _), own_nil _ _ _ (msk_b _ _), fun q hq => by simp [Value.ownBlock] at hq, Below.refl _ _⟩
    case round =>
      obtain ⟨j, hj, rfl, htwo⟩ := hrel
      have T := hid htwo
      clear htwo
      by_cases hlt : j < 128
      · have hlt' : (j : Int) < 128 := by omega
        by_cases hin : j < n
        · have hin' : (j : Int) < n := by omega
          obtain ⟨pb, po, rfl, x1⟩ := rb_at (KR.out.below T.out.bel) hin
          have ek := hid (KE.out j hin)
          obtain ⟨y, hy⟩ : ∃ y, g j = y := ⟨_, rfl⟩
          rw [hy] at ek x1
          obtain ⟨c, hc⟩ : ∃ c, bx y 54 = c := ⟨_, rfl⟩
          obtain ⟨d, hd⟩ : ∃ d, bx y 92 = d := ⟨_, rfl⟩
          have hc2 : bits BinOp.xor IntKind.u8 y 54 = c := hc
          have hd2 : bits BinOp.xor IntKind.u8 y 92 = d := hd
          have ec := hid (show msk 54 (kb true n g) j = c by show bx (kb true n g j) 54 = c; rw [ek.out, hc])
          have ed := hid (show msk 92 (kb true n g) j = d by show bx (kb true n g j) 92 = d; rw [ek.out, hd])
          have cb := hid (show 0 ≤ c ∧ c < 256 by rw [← hc]; exact bx_b _ _)
          have db := hid (show 0 ≤ d ∧ d < 256 by rw [← hd]; exact bx_b _ _)
          clear hc hd ek hy
          have T1 := hid (T.out.below (below_alloc wr (.cells #[.int .u8 c] 5)))
          have OL := hid (own_one wr c cb.out)
          go_wp2_with (at_builtin; go_must (refine wpList_catS rfl _ _ rfl w1.heap.size j 1 _ _ (msk 54 (kb true n g)) (fun _ => c) rfl T1.out.hu rfl OL.out.reads (by omega) T1.out.bel.size ?_))
          intro u3 w3 hown3 hk3 hs3
          have T3 := hid (T1.out.push (own_congr hown3 (msk_b _ _) (cat_one1 j _ c ec.out.symm)) hk3 hs3)
          clear hown3 hk3 hs3 T1 OL T
          have T4 := hid (T3.out.below (below_alloc w3 (.cells #[.int .u8 d] 5)))
          have OL := hid (own_one w3 d db.out)
          go_wp2_with (at_builtin; go_must (refine wpList_catS rfl _ _ rfl w1.heap.size j 1 _ _ (msk 92 (kb true n g)) (fun _ => d) rfl T4.out.hv rfl OL.out.reads (by omega) T4.out.bel.size ?_))
          intro v5 w5 hown5 hk5 hs5
          have T5 := (T4.out.swap.push (own_congr hown5 (msk_b _ _) (cat_one1 j _ d ed.out.symm)) hk5 hs5).swap
          clear hown5 hk5 hs5 T4 OL T3
          go_wp2
          exact ⟨⟨j + 1, by omega, by go_num, T5⟩, by simp [intOf]; omega⟩
        · have hin' : ¬ (j : Int) < n := by omega
          have ek := hid (KF.out j hin)
          obtain ⟨c, hc⟩ : ∃ c, bx 0 54 = c := ⟨_, rfl⟩
          obtain ⟨d, hd⟩ : ∃ d, bx 0 92 = d := ⟨_, rfl⟩
          have hc2 : bits BinOp.xor IntKind.u8 0 54 = c := hc
          have hd2 : bits BinOp.xor IntKind.u8 0 92 = d := hd
          have ec := hid (show msk 54 (kb true n g) j = c by show bx (kb true n g j) 54 = c; rw [ek.out, hc])
          have ed := hid (show msk 92 (kb true n g) j = d by show bx (kb true n g j) 92 = d; rw [ek.out, hd])
          have cb := hid (show 0 ≤ c ∧ c < 256 by rw [← hc]; exact bx_b _ _)
          have db := hid (show 0 ≤ d ∧ d < 256 by rw [← hd]; exact bx_b _ _)
          clear hc hd ek
          have T1 := hid (T.out.below (below_alloc wr (.cells #[.int .u8 c] 5)))
          have OL := hid (own_one wr c cb.out)
          go_wp2_with (at_builtin; go_must (refine wpList_catS rfl _ _ rfl w1.heap.size j 1 _ _ (msk 54 (kb true n g)) (fun _ => c) rfl T1.out.hu rfl OL.out.reads (by omega) T1.out.bel.size ?_))
          intro u3 w3 hown3 hk3 hs3
          have T3 := hid (T1.out.push (own_congr hown3 (msk_b _ _) (cat_one1 j _ c ec.out.symm)) hk3 hs3)
          clear hown3 hk3 hs3 T1 OL T
          have T4 := hid (T3.out.below (below_alloc w3 (.cells #[.int .u8 d] 5)))
          have OL := hid (own_one w3 d db.out)
          go_wp2_with (at_builtin; go_must (refine wpList_catS rfl _ _ rfl w1.heap.size j 1 _ _ (msk 92 (kb true n g)) (fun _ => d) rfl T4.out.hv rfl OL.out.reads (by omega) T4.out.bel.size ?_))
          intro v5 w5 hown5 hk5 hs5
          have T5 := (T4.out.swap.push (own_congr hown5 (msk_b _ _) (cat_one1 j _ d ed.out.symm)) hk5 hs5).swap
          clear hown5 hk5 hs5 T4 OL T3
          go_wp2
          exact ⟨⟨j + 1, by omega, by go_num, T5⟩, by simp [intOf]; omega⟩
      · obtain rfl : j = 128 := by omega
        have hz := hid T.out.bel.size
        have RP := hid (((HR2.out.below B1.out).below T.out.bel))
        go_wp2_with (at_builtin; go_must (refine wpList_catS rfl _ _ rfl w1.heap.size 128 np _ _ (msk 54 (kb true n g)) f rfl T.out.hu rfl RP.out (by omega) T.out.bel.size ?_))
        intro u3 w3 hown3 hk3 hs3
        have T3 := hid (T.out.push (show By.Own w3 w1.heap.size u3 (128 + np) (inr true (kb true n g) f) from hown3) hk3 hs3)
        clear hown3 hk3 hs3 T RP hz
        have B3 := hid (below_next B1.out T3.out.bel)
        have HC := hid (sumf512 (128 + np) u3 (inr true (kb true n g) f) none [] (fun _ => False) w3 (HK.out.below B3.out) id id trivial Sg.pos_nil' (fun w' hk' => T3.out.hu.reads.below (Sg.below_kp hk')) (by omega) (by decide))
        go_wp2_with fail
        refine HC.out.mono ?_
        rintro e w4 ⟨u4, rfl, hu, -, hk4⟩
        have U4 := hid (show By.RB w4 u4 64 (dig true (128 + np) (inr true (kb true n g) f)) from hu.reads)
        have T4 := hid (T3.out.below (Sg.below_kp hk4))
        clear hu hk4 HC T3 B3
        obtain ⟨-, ua, uc, rfl, -⟩ := U4.out
        go_wp2_with (at_builtin; go_must (refine wpList_catS rfl _ _ rfl w1.heap.size 128 64 _ _ (msk 92 (kb true n g)) (dig true (128 + np) (inr true (kb true n g) f)) rfl T4.out.hv rfl U4.out (by omega) T4.out.bel.size ?_))
        intro u5 w5 hown5 hk5 hs5
        have T5 := hid (T4.out.swap.push hown5 hk5 hs5)
        clear hown5 hk5 hs5 T4 U4
        have B5 := hid (below_next B1.out T5.out.bel)
        have HC := hid (sumf512 (128 + 64) u5 (cat 128 (msk 92 (kb true n g)) (dig true (128 + np) (inr true (kb true n g) f))) none [] (fun _ => False) w5 (HK.out.below B5.out) id id trivial Sg.pos_nil' (fun w' hk' => T5.out.hu.reads.below (Sg.below_kp hk')) (by omega) (by decide))
        go_wp2_with fail
        refine HC.out.mono ?_
        rintro e w6 ⟨u6, rfl, hu, -, hk6⟩
        have U6 := hid (show By.Own w6 w5.heap.size u6 64 (hm true (kb true n g) np f) from hu)
        have B6 := hid (below_next B5.out (Sg.below_kp hk6))
        clear hu hk6 HC T5 B5
        have HC := hid (tag512 n np (.slice A n cap) (.slice C np cp) g f none [] (fun _ => False) w6 (HK.out.below B6.out) id id trivial Sg.pos_nil' (fun w' hk' => (HR.out.below B6.out).below (Sg.below_kp hk')) (fun w' hk' => (HR2.out.below B6.out).below (Sg.below_kp hk')) (by omega) (by omega) (by decide))
        go_wp2_with fail
        refine HC.out.mono ?_
        rintro e w7 ⟨u7, rfl, hu, -, hk7⟩
        have U7 := hid hu
        have V7 := hid (own_below U6.out (Sg.below_kp hk7))
        have B7 := hid (below_next B6.out (Sg.below_kp hk7))
        clear hu hk7 HC U6 B6
        go_wp2_with fail
        refine (awake1 _ (HK.out.below B7.out)).mono ?_
        rintro e w8 ⟨rfl, hb⟩
        have U8 := hid (own_below U7.out hb)
        have V8 := hid (own_below V7.out hb)
        have B8 := hid (below_next B7.out hb)
        clear hb U7 V7 B7
        go_wp2_with fail
        refine (same_true _ _ 64 _ _ _ U8.out.reads V8.out.reads (by decide) (fun _ _ => rfl)).mono ?_
        rintro e w9 ⟨rfl, d9, rfl⟩
        go_wp2
        go_ret
        exact ⟨rfl, below_next B8.out (below_drewN w8 d9)⟩
end Go.Proofs.YtpgkalgnlkfmaaaDoor.Dg
