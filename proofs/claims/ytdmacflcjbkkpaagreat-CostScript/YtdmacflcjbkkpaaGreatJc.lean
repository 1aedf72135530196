/- What refuses a session's beginning (Crc1). What refuses a session's beginning (Crc2). What refuses a session's beginning (Crc3). What refuses a session's beginning (Crc4). What refuses a session's beginning (Crc5). What refuses a session's beginning. -/
import Derived.Test.YtdmacflcjbkkpaaGreatCrf
namespace Go.Proofs.YtdmacflcjbkkpaaGreat.Co
open Go.ChangeShapes Go.WideShapes Go.ChangeAt Go.RowKit
open Go.Proofs.YtdmacflcjbkkpaaGreat (putL)
open Go.Proofs.YtdmacflcjbkkpaaGreat.Ou (Sk sv sL LDk SVk LDk_run SVk_run)
open Go.Proofs.YtdmacflcjbkkpaaGreat.Tb (Blk Blk.newAt put_all Kp.setCells results_cell1 results_cell2)
set_option maxRecDepth 8000 in
set_option maxHeartbeats 16000000 in
theorem refuseBegin_no (p gm gk : Nat) (P : St) (s : Sk) (w : World) (hp : PU w p gm gk P) (hs : Sk.Fit s) (n0 : ¬ (1 ≤ s.a ∧ s.a ≤ 7)) :
    Calls Tryz.prog 46 #[.pointer (some ⟨p, 0, none⟩), sv s] w fun e w' => e = .returned (.int .i64 (rBegin P s)) ∧ Below w.heap.size w w' := by
  obtain ⟨sk, sh, sa, sc, so, sd, sm⟩ := s
  have bh : -9223372036854775808 ≤ sh ∧ sh ≤ 9223372036854775807 := hs.h
  have bc : -9223372036854775808 ≤ sc ∧ sc ≤ 9223372036854775807 := hs.c
  have bo : -9223372036854775808 ≤ so ∧ so ≤ 9223372036854775807 := hs.o
  have bd' : 0 ≤ sd ∧ sd ≤ 9223372036854775807 := hs.d
  have bm : 0 ≤ sm ∧ sm ≤ 9223372036854775807 := hs.m
  obtain ⟨W, hW⟩ : ∃ W, w.alloc (.cells #[.int .u8 sk, .int .i64 sh, .int .u8 sa, .int .i64 sc, .int .i64 so, .int .i64 sd, .int .i64 sm] 40) = W := ⟨_, rfl⟩
  have BW : Hid (Below w.heap.size w W) := by rw [← hW]; exact below_alloc _ _
  have KB : Hid (Blk W w.heap.size [.int .u8 sk, .int .i64 sh, .int .u8 sa, .int .i64 sc, .int .i64 so, .int .i64 sd, .int .i64 sm] 40) := by rw [← hW]; exact Blk.newAt w _ _ _ w.heap.size rfl rfl
  have HP := hid (hp.below BW.out)
  obtain ⟨y, hy⟩ : ∃ y, (hat P sh).getD h0 = y := ⟨_, rfl⟩
  have hyy : yy P sh = y := hy
  obtain ⟨yk, ya, yo, yc, ym⟩ := y
  have LKf : ∀ V, Below W.heap.size W V → (LK (.map (some gm)) (.int .i64 sh) false).run Tryz.prog V = .ok (.agg #[.int .u8 ya, .int .i64 yo, .int .i64 yk, .int .i64 yc, .int .i64 ym]) V := fun V hV => by
    have := (HP.out.below hV).look bh false
    rw [hy] at this
    exact this
  have SW : Hid (∀ V, Below W.heap.size W V → V.cell? ⟨p, 0, none⟩ = some (.map (some gm)) ∧ V.cell? ⟨w.heap.size, 1, none⟩ = some (.int .i64 sh) ∧ V.cell? ⟨w.heap.size, 2, none⟩ = some (.int .u8 sa) ∧ V.cell? ⟨w.heap.size, 3, none⟩ = some (.int .i64 sc) ∧ V.cell? ⟨w.heap.size, 4, none⟩ = some (.int .i64 so) ∧ V.cell? ⟨w.heap.size, 5, none⟩ = some (.int .i64 sd) ∧ V.cell? ⟨w.heap.size, 6, none⟩ = some (.int .i64 sm) ∧ (LDk ⟨w.heap.size, 0, none⟩).run Tryz.prog V = .ok (.agg #[.int .u8 sk, .int .i64 sh, .int .u8 sa, .int .i64 sc, .int .i64 so, .int .i64 sd, .int .i64 sm]) V ∧ (LK (.map (some gm)) (.int .i64 sh) false).run Tryz.prog V = .ok (.agg #[.int .u8 ya, .int .i64 yo, .int .i64 yk, .int .i64 yc, .int .i64 ym]) V) := fun V hV => ⟨(HP.out.below hV).c0, (KB.out.below hV).cell 1 _ rfl, (KB.out.below hV).cell 2 _ rfl, (KB.out.below hV).cell 3 _ rfl, (KB.out.below hV).cell 4 _ rfl, (KB.out.below hV).cell 5 _ rfl, (KB.out.below hV).cell 6 _ rfl, (LDk_run (s := ⟨sk, sh, sa, sc, so, sd, sm⟩) (KB.out.below hV)), LKf V hV⟩
  have CR : Hid (∀ V, Below W.heap.size W V → Calls Tryz.prog 79 #[.pointer (some ⟨p, 0, none⟩)] V fun e w' => e = .returned (.int .i64 (ur P)) ∧ w' = V) := fun V hV => unlessRoom_ok p gm gk P V (HP.out.below hV)
  obtain ⟨r, hr⟩ : ∃ r, ur P = r := ⟨_, rfl⟩
  rw [hr] at CR
  have CH := hid (unlessKey_ok p gm gk P ⟨sk, sh, sa, sc, so, sd, sm⟩ W HP.out hs)
  have CH : Hid (Calls Tryz.prog 60 #[.pointer (some ⟨p, 0, none⟩), .agg #[.int .u8 sk, .int .i64 sh, .int .u8 sa, .int .i64 sc, .int .i64 so, .int .i64 sd, .int .i64 sm]] W fun e w' => e = .returned (.int .i64 (uk P sh)) ∧ Below W.heap.size W w') := CH
  obtain ⟨u, hu⟩ : ∃ u, uk P sh = u := ⟨_, rfl⟩
  rw [hu] at CH
  obtain ⟨x0, x1, x2, x3, x4, x5, x6, x7, x8⟩ := SW.out W (Below.refl _ _)
  obtain ⟨R, hR⟩ : ∃ R, rBegin P ⟨sk, sh, sa, sc, so, sd, sm⟩ = R := ⟨_, rfl⟩
  have RE : Hid (rBegin P ⟨sk, sh, sa, sc, so, sd, sm⟩ = R) := hid hR
  rw [hR]
  unfold rBegin at hR
  try simp only [hu] at hR
  try simp only [hr] at hR
  try simp only [hyy] at hR
  clear LKf hy hyy hp hs HP hu hr
  by_cases hu0 : u = 0
  · subst hu0
    have n0 : ¬ (1 ≤ sa ∧ sa ≤ 7) := n0
    have n00 : sa < 1 ∨ 7 < sa := by omega
    have E : Hid (R = 4) := hid (by rw [← hR]; (repeat' split) <;> first | rfl | omega | (exfalso; omega) | (simp_all; done))
    clear hR
    go_enter Tryz.func46, Tryz.ntmps46
    go_wp2_with fail
    clear hW
    refine CH.out.mono ?_
    rintro e W1 ⟨rfl, hb⟩
    have N1 : Hid (Below W.heap.size W W1) := hid hb
    clear hb
    obtain ⟨y0, y1, y2, y3, y4, y5, y6, y7, y8⟩ := SW.out W1 N1.out
    go_wp2_with fail
    refine (algorithmOf_no sa n0 _).mono ?_
    rintro e W2 ⟨rfl, hb⟩
    have N2 : Hid (Below W.heap.size W W2) := hid (below_next N1.out hb)
    clear hb
    obtain ⟨U, hU⟩ : ∃ U, W2.alloc (.cells #[.int .i64 0, .bool false, .nilFunc, .nilFunc, .nilFunc, .nilFunc] 113) = U := ⟨_, rfl⟩
    have NU : Hid (Below W2.heap.size W2 U) := by rw [← hU]; exact below_alloc _ _
    have ku : Blk U W2.heap.size [.int .i64 0, .bool false, .nilFunc, .nilFunc, .nilFunc, .nilFunc] 113 := by rw [← hU]; exact Blk.newAt W2 _ _ _ W2.heap.size rfl rfl
    obtain ⟨V, s1, kv, hkv⟩ : ∃ W', (SVa ⟨W2.heap.size, 0, none⟩ algZ).run Tryz.prog U = .ok () W' ∧ Blk W' W2.heap.size [.int .i64 0, .bool false, .nilFunc, .nilFunc, .nilFunc, .nilFunc] 113 ∧ Kp (fun j => j = W2.heap.size) U W' := by
      refine ⟨U.setCells W2.heap.size 0 [.int .i64 0, .bool false, .nilFunc, .nilFunc, .nilFunc, .nilFunc], run_storeVar_mid U W2.heap.size 0 _ #[.int .i64 0, .bool false, .nilFunc, .nilFunc, .nilFunc, .nilFunc] (ku.there 0 _ (by simp)) infoa (all_oneCell_toArray (all_one rfl)), ?_, Kp.setCells W2.heap.size 0 _⟩
      exact ku.put 0 [.int .i64 0, .bool false, .nilFunc, .nilFunc, .nilFunc, .nilFunc]
    have NV : Hid (Below W.heap.size W V) := hid (below_next N2.out (NU.out.trans (hkv.below NU.out.size (fun k h e => by omega))))
    have kk := kv
    obtain ⟨v0, v1, v2, v3, v4, v5, v6, v7, v8⟩ := SW.out V NV.out
    clear ku kv kk hkv y0 y1 y2 y3 y4 y5 y6 y7 y8
    go_wp2
    go_ret
    exact ⟨by rw [E.out]; rfl, below_next BW.out NV.out⟩

  · have hu1 : (u != 0) = true := by simpa using hu0
    have E : Hid (R = u) := hid (by rw [← hR]; (repeat' split) <;> first | rfl | omega | (exfalso; omega) | (simp_all; done))
    clear hR
    go_enter Tryz.func46, Tryz.ntmps46
    go_wp2_with fail
    clear hW
    refine CH.out.mono ?_
    rintro e W1 ⟨rfl, hb⟩
    have N1 : Hid (Below W.heap.size W W1) := hid hb
    clear hb
    go_wp2
    go_ret
    exact ⟨by rw [E.out]; rfl, below_next BW.out N1.out⟩
set_option maxRecDepth 8000 in
set_option maxHeartbeats 16000000 in
theorem refuseBegin_h1 (p gm gk : Nat) (P : St) (s : Sk) (w : World) (hp : PU w p gm gk P) (hs : Sk.Fit s) (a1 : s.a = 1) :
    Calls Tryz.prog 46 #[.pointer (some ⟨p, 0, none⟩), sv s] w fun e w' => e = .returned (.int .i64 (rBegin P s)) ∧ Below w.heap.size w w' := by
  obtain ⟨sk, sh, sa, sc, so, sd, sm⟩ := s
  have bh : -9223372036854775808 ≤ sh ∧ sh ≤ 9223372036854775807 := hs.h
  have bc : -9223372036854775808 ≤ sc ∧ sc ≤ 9223372036854775807 := hs.c
  have bo : -9223372036854775808 ≤ so ∧ so ≤ 9223372036854775807 := hs.o
  have bd' : 0 ≤ sd ∧ sd ≤ 9223372036854775807 := hs.d
  have bm : 0 ≤ sm ∧ sm ≤ 9223372036854775807 := hs.m
  obtain ⟨W, hW⟩ : ∃ W, w.alloc (.cells #[.int .u8 sk, .int .i64 sh, .int .u8 sa, .int .i64 sc, .int .i64 so, .int .i64 sd, .int .i64 sm] 40) = W := ⟨_, rfl⟩
  have BW : Hid (Below w.heap.size w W) := by rw [← hW]; exact below_alloc _ _
  have KB : Hid (Blk W w.heap.size [.int .u8 sk, .int .i64 sh, .int .u8 sa, .int .i64 sc, .int .i64 so, .int .i64 sd, .int .i64 sm] 40) := by rw [← hW]; exact Blk.newAt w _ _ _ w.heap.size rfl rfl
  have HP := hid (hp.below BW.out)
  obtain ⟨y, hy⟩ : ∃ y, (hat P sh).getD h0 = y := ⟨_, rfl⟩
  have hyy : yy P sh = y := hy
  obtain ⟨yk, ya, yo, yc, ym⟩ := y
  have LKf : ∀ V, Below W.heap.size W V → (LK (.map (some gm)) (.int .i64 sh) false).run Tryz.prog V = .ok (.agg #[.int .u8 ya, .int .i64 yo, .int .i64 yk, .int .i64 yc, .int .i64 ym]) V := fun V hV => by
    have := (HP.out.below hV).look bh false
    rw [hy] at this
    exact this
  have SW : Hid (∀ V, Below W.heap.size W V → V.cell? ⟨p, 0, none⟩ = some (.map (some gm)) ∧ V.cell? ⟨w.heap.size, 1, none⟩ = some (.int .i64 sh) ∧ V.cell? ⟨w.heap.size, 2, none⟩ = some (.int .u8 sa) ∧ V.cell? ⟨w.heap.size, 3, none⟩ = some (.int .i64 sc) ∧ V.cell? ⟨w.heap.size, 4, none⟩ = some (.int .i64 so) ∧ V.cell? ⟨w.heap.size, 5, none⟩ = some (.int .i64 sd) ∧ V.cell? ⟨w.heap.size, 6, none⟩ = some (.int .i64 sm) ∧ (LDk ⟨w.heap.size, 0, none⟩).run Tryz.prog V = .ok (.agg #[.int .u8 sk, .int .i64 sh, .int .u8 sa, .int .i64 sc, .int .i64 so, .int .i64 sd, .int .i64 sm]) V ∧ (LK (.map (some gm)) (.int .i64 sh) false).run Tryz.prog V = .ok (.agg #[.int .u8 ya, .int .i64 yo, .int .i64 yk, .int .i64 yc, .int .i64 ym]) V) := fun V hV => ⟨(HP.out.below hV).c0, (KB.out.below hV).cell 1 _ rfl, (KB.out.below hV).cell 2 _ rfl, (KB.out.below hV).cell 3 _ rfl, (KB.out.below hV).cell 4 _ rfl, (KB.out.below hV).cell 5 _ rfl, (KB.out.below hV).cell 6 _ rfl, (LDk_run (s := ⟨sk, sh, sa, sc, so, sd, sm⟩) (KB.out.below hV)), LKf V hV⟩
  have CR : Hid (∀ V, Below W.heap.size W V → Calls Tryz.prog 79 #[.pointer (some ⟨p, 0, none⟩)] V fun e w' => e = .returned (.int .i64 (ur P)) ∧ w' = V) := fun V hV => unlessRoom_ok p gm gk P V (HP.out.below hV)
  obtain ⟨r, hr⟩ : ∃ r, ur P = r := ⟨_, rfl⟩
  rw [hr] at CR
  have CH := hid (unlessKey_ok p gm gk P ⟨sk, sh, sa, sc, so, sd, sm⟩ W HP.out hs)
  have CH : Hid (Calls Tryz.prog 60 #[.pointer (some ⟨p, 0, none⟩), .agg #[.int .u8 sk, .int .i64 sh, .int .u8 sa, .int .i64 sc, .int .i64 so, .int .i64 sd, .int .i64 sm]] W fun e w' => e = .returned (.int .i64 (uk P sh)) ∧ Below W.heap.size W w') := CH
  obtain ⟨u, hu⟩ : ∃ u, uk P sh = u := ⟨_, rfl⟩
  rw [hu] at CH
  obtain ⟨x0, x1, x2, x3, x4, x5, x6, x7, x8⟩ := SW.out W (Below.refl _ _)
  obtain ⟨R, hR⟩ : ∃ R, rBegin P ⟨sk, sh, sa, sc, so, sd, sm⟩ = R := ⟨_, rfl⟩
  have RE : Hid (rBegin P ⟨sk, sh, sa, sc, so, sd, sm⟩ = R) := hid hR
  rw [hR]
  unfold rBegin at hR
  try simp only [hu] at hR
  try simp only [hr] at hR
  try simp only [hyy] at hR
  clear LKf hy hyy hp hs HP hu hr
  by_cases hu0 : u = 0
  · subst hu0
    have a1 : sa = 1 := a1
    subst a1
    have mm : mos 1 = 32 := rfl
    rw [mm] at hR
    by_cases h2 : 0 < sd
    · have E : Hid (R = 2) := hid (by rw [← hR]; (repeat' split) <;> first | rfl | omega | (exfalso; omega) | (simp_all; done))
      clear hR
      go_enter Tryz.func46, Tryz.ntmps46
      go_wp2_with fail
      clear hW
      refine CH.out.mono ?_
      rintro e W1 ⟨rfl, hb⟩
      have N1 : Hid (Below W.heap.size W W1) := hid hb
      clear hb
      obtain ⟨y0, y1, y2, y3, y4, y5, y6, y7, y8⟩ := SW.out W1 N1.out
      go_wp2_with fail
      refine (aofh1_ok _).mono ?_
      rintro e W2 ⟨g, rfl, -, -, hb⟩
      have N2 : Hid (Below W.heap.size W W2) := hid (below_next N1.out hb)
      clear hb
      obtain ⟨U, hU⟩ : ∃ U, W2.alloc (.cells #[.int .i64 0, .bool false, .nilFunc, .nilFunc, .nilFunc, .nilFunc] 113) = U := ⟨_, rfl⟩
      have NU : Hid (Below W2.heap.size W2 U) := by rw [← hU]; exact below_alloc _ _
      have ku : Blk U W2.heap.size [.int .i64 0, .bool false, .nilFunc, .nilFunc, .nilFunc, .nilFunc] 113 := by rw [← hU]; exact Blk.newAt W2 _ _ _ W2.heap.size rfl rfl
      obtain ⟨V, s1, kv, hkv⟩ := SVa_run 32 false 125 126 127 128 #[] #[.pointer (some ⟨g, 0, none⟩)] #[.pointer (some ⟨g, 0, none⟩)] #[.pointer (some ⟨g, 0, none⟩)] ku rfl
      have NV : Hid (Below W.heap.size W V) := hid (below_next N2.out (NU.out.trans (hkv.below NU.out.size (fun k h e => by omega))))
      have NV2 : Hid (Below W.heap.size W V.drew) := hid (below_next NV.out (below_drewN V 1))
      have kv2 := kv.below (below_drewN V 1)
      have q0 : V.drew.cell? ⟨W2.heap.size, 0, none⟩ = _ := kv2.cell 0 _ rfl
      have q1 : V.drew.cell? ⟨W2.heap.size, 1, none⟩ = _ := kv2.cell 1 _ rfl
      have q2 : V.drew.cell? ⟨W2.heap.size, 2, none⟩ = some (.func (.func 125) #[] #[]) := kv2.cell 2 _ rfl
      obtain ⟨v0, v1, v2, v3, v4, v5, v6, v7, v8⟩ := SW.out V.drew NV2.out
      have CK := hid (anyLength_ok yk)
      clear ku kv kv2 hkv y0 y1 y2 y3 y4 y5 y6 y7 y8
      go_wp2_with fail
      clear hU
      go_region_held3 (fun V => V.cell? ⟨W2.heap.size, 2, none⟩ = some (.func (.func 125) #[] #[]) ∧ V.cell? ⟨p, 0, none⟩ = some (.map (some gm)) ∧ V.cell? ⟨w.heap.size, 1, none⟩ = some (.int .i64 sh) ∧ V.cell? ⟨w.heap.size, 2, none⟩ = some (.int .u8 1) ∧ V.cell? ⟨w.heap.size, 3, none⟩ = some (.int .i64 sc) ∧ V.cell? ⟨w.heap.size, 4, none⟩ = some (.int .i64 so) ∧ V.cell? ⟨w.heap.size, 5, none⟩ = some (.int .i64 sd) ∧ V.cell? ⟨w.heap.size, 6, none⟩ = some (.int .i64 sm) ∧ (LDk ⟨w.heap.size, 0, none⟩).run Tryz.prog V = .ok (.agg #[.int .u8 sk, .int .i64 sh, .int .u8 1, .int .i64 sc, .int .i64 so, .int .i64 sd, .int .i64 sm]) V ∧ (LK (.map (some gm)) (.int .i64 sh) false).run Tryz.prog V = .ok (.agg #[.int .u8 ya, .int .i64 yo, .int .i64 yk, .int .i64 yc, .int .i64 ym]) V) (go_keep) (first
        | (go_at_call 125; with_reducible refine (CK.out _).mono ?_; rintro e W8 ⟨rfl, rfl⟩))
      go_wp2
      go_ret
      exact ⟨by rw [E.out]; rfl, below_next BW.out NV2.out⟩

    · by_cases h3 : so < 1
      · have E : Hid (R = 11) := hid (by rw [← hR]; (repeat' split) <;> first | rfl | omega | (exfalso; omega) | (simp_all; done))
        clear hR
        go_enter Tryz.func46, Tryz.ntmps46
        go_wp2_with fail
        clear hW
        refine CH.out.mono ?_
        rintro e W1 ⟨rfl, hb⟩
        have N1 : Hid (Below W.heap.size W W1) := hid hb
        clear hb
        obtain ⟨y0, y1, y2, y3, y4, y5, y6, y7, y8⟩ := SW.out W1 N1.out
        go_wp2_with fail
        refine (aofh1_ok _).mono ?_
        rintro e W2 ⟨g, rfl, -, -, hb⟩
        have N2 : Hid (Below W.heap.size W W2) := hid (below_next N1.out hb)
        clear hb
        obtain ⟨U, hU⟩ : ∃ U, W2.alloc (.cells #[.int .i64 0, .bool false, .nilFunc, .nilFunc, .nilFunc, .nilFunc] 113) = U := ⟨_, rfl⟩
        have NU : Hid (Below W2.heap.size W2 U) := by rw [← hU]; exact below_alloc _ _
        have ku : Blk U W2.heap.size [.int .i64 0, .bool false, .nilFunc, .nilFunc, .nilFunc, .nilFunc] 113 := by rw [← hU]; exact Blk.newAt W2 _ _ _ W2.heap.size rfl rfl
        obtain ⟨V, s1, kv, hkv⟩ := SVa_run 32 false 125 126 127 128 #[] #[.pointer (some ⟨g, 0, none⟩)] #[.pointer (some ⟨g, 0, none⟩)] #[.pointer (some ⟨g, 0, none⟩)] ku rfl
        have NV : Hid (Below W.heap.size W V) := hid (below_next N2.out (NU.out.trans (hkv.below NU.out.size (fun k h e => by omega))))
        have NV2 : Hid (Below W.heap.size W V.drew) := hid (below_next NV.out (below_drewN V 1))
        have kv2 := kv.below (below_drewN V 1)
        have q0 : V.drew.cell? ⟨W2.heap.size, 0, none⟩ = _ := kv2.cell 0 _ rfl
        have q1 : V.drew.cell? ⟨W2.heap.size, 1, none⟩ = _ := kv2.cell 1 _ rfl
        have q2 : V.drew.cell? ⟨W2.heap.size, 2, none⟩ = some (.func (.func 125) #[] #[]) := kv2.cell 2 _ rfl
        obtain ⟨v0, v1, v2, v3, v4, v5, v6, v7, v8⟩ := SW.out V.drew NV2.out
        have CK := hid (anyLength_ok yk)
        clear ku kv kv2 hkv y0 y1 y2 y3 y4 y5 y6 y7 y8
        go_wp2_with fail
        clear hU
        go_region_held3 (fun V => V.cell? ⟨W2.heap.size, 2, none⟩ = some (.func (.func 125) #[] #[]) ∧ V.cell? ⟨p, 0, none⟩ = some (.map (some gm)) ∧ V.cell? ⟨w.heap.size, 1, none⟩ = some (.int .i64 sh) ∧ V.cell? ⟨w.heap.size, 2, none⟩ = some (.int .u8 1) ∧ V.cell? ⟨w.heap.size, 3, none⟩ = some (.int .i64 sc) ∧ V.cell? ⟨w.heap.size, 4, none⟩ = some (.int .i64 so) ∧ V.cell? ⟨w.heap.size, 5, none⟩ = some (.int .i64 sd) ∧ V.cell? ⟨w.heap.size, 6, none⟩ = some (.int .i64 sm) ∧ (LDk ⟨w.heap.size, 0, none⟩).run Tryz.prog V = .ok (.agg #[.int .u8 sk, .int .i64 sh, .int .u8 1, .int .i64 sc, .int .i64 so, .int .i64 sd, .int .i64 sm]) V ∧ (LK (.map (some gm)) (.int .i64 sh) false).run Tryz.prog V = .ok (.agg #[.int .u8 ya, .int .i64 yo, .int .i64 yk, .int .i64 yc, .int .i64 ym]) V) (go_keep) (first
          | (go_at_call 125; with_reducible refine (CK.out _).mono ?_; rintro e W8 ⟨rfl, rfl⟩))
        go_wp2
        go_ret
        exact ⟨by rw [E.out]; rfl, below_next BW.out NV2.out⟩

      · by_cases h5 : 32 < so
        · have E : Hid (R = 11) := hid (by rw [← hR]; (repeat' split) <;> first | rfl | omega | (exfalso; omega) | (simp_all; done))
          clear hR
          go_enter Tryz.func46, Tryz.ntmps46
          go_wp2_with fail
          clear hW
          refine CH.out.mono ?_
          rintro e W1 ⟨rfl, hb⟩
          have N1 : Hid (Below W.heap.size W W1) := hid hb
          clear hb
          obtain ⟨y0, y1, y2, y3, y4, y5, y6, y7, y8⟩ := SW.out W1 N1.out
          go_wp2_with fail
          refine (aofh1_ok _).mono ?_
          rintro e W2 ⟨g, rfl, -, -, hb⟩
          have N2 : Hid (Below W.heap.size W W2) := hid (below_next N1.out hb)
          clear hb
          obtain ⟨U, hU⟩ : ∃ U, W2.alloc (.cells #[.int .i64 0, .bool false, .nilFunc, .nilFunc, .nilFunc, .nilFunc] 113) = U := ⟨_, rfl⟩
          have NU : Hid (Below W2.heap.size W2 U) := by rw [← hU]; exact below_alloc _ _
          have ku : Blk U W2.heap.size [.int .i64 0, .bool false, .nilFunc, .nilFunc, .nilFunc, .nilFunc] 113 := by rw [← hU]; exact Blk.newAt W2 _ _ _ W2.heap.size rfl rfl
          obtain ⟨V, s1, kv, hkv⟩ := SVa_run 32 false 125 126 127 128 #[] #[.pointer (some ⟨g, 0, none⟩)] #[.pointer (some ⟨g, 0, none⟩)] #[.pointer (some ⟨g, 0, none⟩)] ku rfl
          have NV : Hid (Below W.heap.size W V) := hid (below_next N2.out (NU.out.trans (hkv.below NU.out.size (fun k h e => by omega))))
          have NV2 : Hid (Below W.heap.size W V.drew) := hid (below_next NV.out (below_drewN V 1))
          have kv2 := kv.below (below_drewN V 1)
          have q0 : V.drew.cell? ⟨W2.heap.size, 0, none⟩ = _ := kv2.cell 0 _ rfl
          have q1 : V.drew.cell? ⟨W2.heap.size, 1, none⟩ = _ := kv2.cell 1 _ rfl
          have q2 : V.drew.cell? ⟨W2.heap.size, 2, none⟩ = some (.func (.func 125) #[] #[]) := kv2.cell 2 _ rfl
          obtain ⟨v0, v1, v2, v3, v4, v5, v6, v7, v8⟩ := SW.out V.drew NV2.out
          have CK := hid (anyLength_ok yk)
          clear ku kv kv2 hkv y0 y1 y2 y3 y4 y5 y6 y7 y8
          go_wp2_with fail
          clear hU
          go_region_held3 (fun V => V.cell? ⟨W2.heap.size, 2, none⟩ = some (.func (.func 125) #[] #[]) ∧ V.cell? ⟨p, 0, none⟩ = some (.map (some gm)) ∧ V.cell? ⟨w.heap.size, 1, none⟩ = some (.int .i64 sh) ∧ V.cell? ⟨w.heap.size, 2, none⟩ = some (.int .u8 1) ∧ V.cell? ⟨w.heap.size, 3, none⟩ = some (.int .i64 sc) ∧ V.cell? ⟨w.heap.size, 4, none⟩ = some (.int .i64 so) ∧ V.cell? ⟨w.heap.size, 5, none⟩ = some (.int .i64 sd) ∧ V.cell? ⟨w.heap.size, 6, none⟩ = some (.int .i64 sm) ∧ (LDk ⟨w.heap.size, 0, none⟩).run Tryz.prog V = .ok (.agg #[.int .u8 sk, .int .i64 sh, .int .u8 1, .int .i64 sc, .int .i64 so, .int .i64 sd, .int .i64 sm]) V ∧ (LK (.map (some gm)) (.int .i64 sh) false).run Tryz.prog V = .ok (.agg #[.int .u8 ya, .int .i64 yo, .int .i64 yk, .int .i64 yc, .int .i64 ym]) V) (go_keep) (first
            | (go_at_call 125; with_reducible refine (CK.out _).mono ?_; rintro e W8 ⟨rfl, rfl⟩))
          go_wp2
          go_ret
          exact ⟨by rw [E.out]; rfl, below_next BW.out NV2.out⟩

        · have E : Hid (R = r) := hid (by rw [← hR]; (repeat' split) <;> first | rfl | omega | (exfalso; omega) | (simp_all; done))
          clear hR
          go_enter Tryz.func46, Tryz.ntmps46
          go_wp2_with fail
          clear hW
          refine CH.out.mono ?_
          rintro e W1 ⟨rfl, hb⟩
          have N1 : Hid (Below W.heap.size W W1) := hid hb
          clear hb
          obtain ⟨y0, y1, y2, y3, y4, y5, y6, y7, y8⟩ := SW.out W1 N1.out
          go_wp2_with fail
          refine (aofh1_ok _).mono ?_
          rintro e W2 ⟨g, rfl, -, -, hb⟩
          have N2 : Hid (Below W.heap.size W W2) := hid (below_next N1.out hb)
          clear hb
          obtain ⟨U, hU⟩ : ∃ U, W2.alloc (.cells #[.int .i64 0, .bool false, .nilFunc, .nilFunc, .nilFunc, .nilFunc] 113) = U := ⟨_, rfl⟩
          have NU : Hid (Below W2.heap.size W2 U) := by rw [← hU]; exact below_alloc _ _
          have ku : Blk U W2.heap.size [.int .i64 0, .bool false, .nilFunc, .nilFunc, .nilFunc, .nilFunc] 113 := by rw [← hU]; exact Blk.newAt W2 _ _ _ W2.heap.size rfl rfl
          obtain ⟨V, s1, kv, hkv⟩ := SVa_run 32 false 125 126 127 128 #[] #[.pointer (some ⟨g, 0, none⟩)] #[.pointer (some ⟨g, 0, none⟩)] #[.pointer (some ⟨g, 0, none⟩)] ku rfl
          have NV : Hid (Below W.heap.size W V) := hid (below_next N2.out (NU.out.trans (hkv.below NU.out.size (fun k h e => by omega))))
          have NV2 : Hid (Below W.heap.size W V.drew) := hid (below_next NV.out (below_drewN V 1))
          have kv2 := kv.below (below_drewN V 1)
          have q0 : V.drew.cell? ⟨W2.heap.size, 0, none⟩ = _ := kv2.cell 0 _ rfl
          have q1 : V.drew.cell? ⟨W2.heap.size, 1, none⟩ = _ := kv2.cell 1 _ rfl
          have q2 : V.drew.cell? ⟨W2.heap.size, 2, none⟩ = some (.func (.func 125) #[] #[]) := kv2.cell 2 _ rfl
          obtain ⟨v0, v1, v2, v3, v4, v5, v6, v7, v8⟩ := SW.out V.drew NV2.out
          have CK := hid (anyLength_ok yk)
          clear ku kv kv2 hkv y0 y1 y2 y3 y4 y5 y6 y7 y8
          go_wp2_with fail
          clear hU
          go_region_held3 (fun V => V.cell? ⟨W2.heap.size, 2, none⟩ = some (.func (.func 125) #[] #[]) ∧ V.cell? ⟨p, 0, none⟩ = some (.map (some gm)) ∧ V.cell? ⟨w.heap.size, 1, none⟩ = some (.int .i64 sh) ∧ V.cell? ⟨w.heap.size, 2, none⟩ = some (.int .u8 1) ∧ V.cell? ⟨w.heap.size, 3, none⟩ = some (.int .i64 sc) ∧ V.cell? ⟨w.heap.size, 4, none⟩ = some (.int .i64 so) ∧ V.cell? ⟨w.heap.size, 5, none⟩ = some (.int .i64 sd) ∧ V.cell? ⟨w.heap.size, 6, none⟩ = some (.int .i64 sm) ∧ (LDk ⟨w.heap.size, 0, none⟩).run Tryz.prog V = .ok (.agg #[.int .u8 sk, .int .i64 sh, .int .u8 1, .int .i64 sc, .int .i64 so, .int .i64 sd, .int .i64 sm]) V ∧ (LK (.map (some gm)) (.int .i64 sh) false).run Tryz.prog V = .ok (.agg #[.int .u8 ya, .int .i64 yo, .int .i64 yk, .int .i64 yc, .int .i64 ym]) V) (go_keep) (first
            | (go_at_call 125; with_reducible refine (CK.out _).mono ?_; rintro e W8 ⟨rfl, rfl⟩))
          go_wp2_with fail
          refine (CR.out _ NV2.out).mono ?_
          rintro e W8 ⟨rfl, rfl⟩
          go_wp2
          go_ret
          exact ⟨by rw [E.out]; rfl, below_next BW.out NV2.out⟩




  · clear a1
    have hu1 : (u != 0) = true := by simpa using hu0
    have E : Hid (R = u) := hid (by rw [← hR]; (repeat' split) <;> first | rfl | omega | (exfalso; omega) | (simp_all; done))
    clear hR
    go_enter Tryz.func46, Tryz.ntmps46
    go_wp2_with fail
    clear hW
    refine CH.out.mono ?_
    rintro e W1 ⟨rfl, hb⟩
    have N1 : Hid (Below W.heap.size W W1) := hid hb
    clear hb
    go_wp2
    go_ret
    exact ⟨by rw [E.out]; rfl, below_next BW.out N1.out⟩
end Go.Proofs.YtdmacflcjbkkpaaGreat.Co
namespace Go.Proofs.YtdmacflcjbkkpaaGreat.Co
open Go.ChangeShapes Go.WideShapes Go.ChangeAt Go.RowKit
open Go.Proofs.YtdmacflcjbkkpaaGreat (putL)
open Go.Proofs.YtdmacflcjbkkpaaGreat.Ou (Sk sv sL LDk SVk LDk_run SVk_run)
open Go.Proofs.YtdmacflcjbkkpaaGreat.Tb (Blk Blk.newAt put_all Kp.setCells results_cell1 results_cell2)
set_option maxRecDepth 8000 in
set_option maxHeartbeats 16000000 in
theorem refuseBegin_h2 (p gm gk : Nat) (P : St) (s : Sk) (w : World) (hp : PU w p gm gk P) (hs : Sk.Fit s) (a2 : s.a = 2) :
    Calls Tryz.prog 46 #[.pointer (some ⟨p, 0, none⟩), sv s] w fun e w' => e = .returned (.int .i64 (rBegin P s)) ∧ Below w.heap.size w w' := by
  obtain ⟨sk, sh, sa, sc, so, sd, sm⟩ := s
  have bh : -9223372036854775808 ≤ sh ∧ sh ≤ 9223372036854775807 := hs.h
  have bc : -9223372036854775808 ≤ sc ∧ sc ≤ 9223372036854775807 := hs.c
  have bo : -9223372036854775808 ≤ so ∧ so ≤ 9223372036854775807 := hs.o
  have bd' : 0 ≤ sd ∧ sd ≤ 9223372036854775807 := hs.d
  have bm : 0 ≤ sm ∧ sm ≤ 9223372036854775807 := hs.m
  obtain ⟨W, hW⟩ : ∃ W, w.alloc (.cells #[.int .u8 sk, .int .i64 sh, .int .u8 sa, .int .i64 sc, .int .i64 so, .int .i64 sd, .int .i64 sm] 40) = W := ⟨_, rfl⟩
  have BW : Hid (Below w.heap.size w W) := by rw [← hW]; exact below_alloc _ _
  have KB : Hid (Blk W w.heap.size [.int .u8 sk, .int .i64 sh, .int .u8 sa, .int .i64 sc, .int .i64 so, .int .i64 sd, .int .i64 sm] 40) := by rw [← hW]; exact Blk.newAt w _ _ _ w.heap.size rfl rfl
  have HP := hid (hp.below BW.out)
  obtain ⟨y, hy⟩ : ∃ y, (hat P sh).getD h0 = y := ⟨_, rfl⟩
  have hyy : yy P sh = y := hy
  obtain ⟨yk, ya, yo, yc, ym⟩ := y
  have LKf : ∀ V, Below W.heap.size W V → (LK (.map (some gm)) (.int .i64 sh) false).run Tryz.prog V = .ok (.agg #[.int .u8 ya, .int .i64 yo, .int .i64 yk, .int .i64 yc, .int .i64 ym]) V := fun V hV => by
    have := (HP.out.below hV).look bh false
    rw [hy] at this
    exact this
  have SW : Hid (∀ V, Below W.heap.size W V → V.cell? ⟨p, 0, none⟩ = some (.map (some gm)) ∧ V.cell? ⟨w.heap.size, 1, none⟩ = some (.int .i64 sh) ∧ V.cell? ⟨w.heap.size, 2, none⟩ = some (.int .u8 sa) ∧ V.cell? ⟨w.heap.size, 3, none⟩ = some (.int .i64 sc) ∧ V.cell? ⟨w.heap.size, 4, none⟩ = some (.int .i64 so) ∧ V.cell? ⟨w.heap.size, 5, none⟩ = some (.int .i64 sd) ∧ V.cell? ⟨w.heap.size, 6, none⟩ = some (.int .i64 sm) ∧ (LDk ⟨w.heap.size, 0, none⟩).run Tryz.prog V = .ok (.agg #[.int .u8 sk, .int .i64 sh, .int .u8 sa, .int .i64 sc, .int .i64 so, .int .i64 sd, .int .i64 sm]) V ∧ (LK (.map (some gm)) (.int .i64 sh) false).run Tryz.prog V = .ok (.agg #[.int .u8 ya, .int .i64 yo, .int .i64 yk, .int .i64 yc, .int .i64 ym]) V) := fun V hV => ⟨(HP.out.below hV).c0, (KB.out.below hV).cell 1 _ rfl, (KB.out.below hV).cell 2 _ rfl, (KB.out.below hV).cell 3 _ rfl, (KB.out.below hV).cell 4 _ rfl, (KB.out.below hV).cell 5 _ rfl, (KB.out.below hV).cell 6 _ rfl, (LDk_run (s := ⟨sk, sh, sa, sc, so, sd, sm⟩) (KB.out.below hV)), LKf V hV⟩
  have CR : Hid (∀ V, Below W.heap.size W V → Calls Tryz.prog 79 #[.pointer (some ⟨p, 0, none⟩)] V fun e w' => e = .returned (.int .i64 (ur P)) ∧ w' = V) := fun V hV => unlessRoom_ok p gm gk P V (HP.out.below hV)
  obtain ⟨r, hr⟩ : ∃ r, ur P = r := ⟨_, rfl⟩
  rw [hr] at CR
  have CH := hid (unlessKey_ok p gm gk P ⟨sk, sh, sa, sc, so, sd, sm⟩ W HP.out hs)
  have CH : Hid (Calls Tryz.prog 60 #[.pointer (some ⟨p, 0, none⟩), .agg #[.int .u8 sk, .int .i64 sh, .int .u8 sa, .int .i64 sc, .int .i64 so, .int .i64 sd, .int .i64 sm]] W fun e w' => e = .returned (.int .i64 (uk P sh)) ∧ Below W.heap.size W w') := CH
  obtain ⟨u, hu⟩ : ∃ u, uk P sh = u := ⟨_, rfl⟩
  rw [hu] at CH
  obtain ⟨x0, x1, x2, x3, x4, x5, x6, x7, x8⟩ := SW.out W (Below.refl _ _)
  obtain ⟨R, hR⟩ : ∃ R, rBegin P ⟨sk, sh, sa, sc, so, sd, sm⟩ = R := ⟨_, rfl⟩
  have RE : Hid (rBegin P ⟨sk, sh, sa, sc, so, sd, sm⟩ = R) := hid hR
  rw [hR]
  unfold rBegin at hR
  try simp only [hu] at hR
  try simp only [hr] at hR
  try simp only [hyy] at hR
  clear LKf hy hyy hp hs HP hu hr
  by_cases hu0 : u = 0
  · subst hu0
    have a2 : sa = 2 := a2
    subst a2
    have mm : mos 2 = 64 := rfl
    rw [mm] at hR
    by_cases h2 : 0 < sd
    · have E : Hid (R = 2) := hid (by rw [← hR]; (repeat' split) <;> first | rfl | omega | (exfalso; omega) | (simp_all; done))
      clear hR
      go_enter Tryz.func46, Tryz.ntmps46
      go_wp2_with fail
      clear hW
      refine CH.out.mono ?_
      rintro e W1 ⟨rfl, hb⟩
      have N1 : Hid (Below W.heap.size W W1) := hid hb
      clear hb
      obtain ⟨y0, y1, y2, y3, y4, y5, y6, y7, y8⟩ := SW.out W1 N1.out
      go_wp2_with fail
      refine (aofh2_ok _).mono ?_
      rintro e W2 ⟨g, rfl, -, -, hb⟩
      have N2 : Hid (Below W.heap.size W W2) := hid (below_next N1.out hb)
      clear hb
      obtain ⟨U, hU⟩ : ∃ U, W2.alloc (.cells #[.int .i64 0, .bool false, .nilFunc, .nilFunc, .nilFunc, .nilFunc] 113) = U := ⟨_, rfl⟩
      have NU : Hid (Below W2.heap.size W2 U) := by rw [← hU]; exact below_alloc _ _
      have ku : Blk U W2.heap.size [.int .i64 0, .bool false, .nilFunc, .nilFunc, .nilFunc, .nilFunc] 113 := by rw [← hU]; exact Blk.newAt W2 _ _ _ W2.heap.size rfl rfl
      obtain ⟨V, s1, kv, hkv⟩ := SVa_run 64 false 125 126 127 128 #[] #[.pointer (some ⟨g, 0, none⟩)] #[.pointer (some ⟨g, 0, none⟩)] #[.pointer (some ⟨g, 0, none⟩)] ku rfl
      have NV : Hid (Below W.heap.size W V) := hid (below_next N2.out (NU.out.trans (hkv.below NU.out.size (fun k h e => by omega))))
      have NV2 : Hid (Below W.heap.size W V.drew) := hid (below_next NV.out (below_drewN V 1))
      have kv2 := kv.below (below_drewN V 1)
      have q0 : V.drew.cell? ⟨W2.heap.size, 0, none⟩ = _ := kv2.cell 0 _ rfl
      have q1 : V.drew.cell? ⟨W2.heap.size, 1, none⟩ = _ := kv2.cell 1 _ rfl
      have q2 : V.drew.cell? ⟨W2.heap.size, 2, none⟩ = some (.func (.func 125) #[] #[]) := kv2.cell 2 _ rfl
      obtain ⟨v0, v1, v2, v3, v4, v5, v6, v7, v8⟩ := SW.out V.drew NV2.out
      have CK := hid (anyLength_ok yk)
      clear ku kv kv2 hkv y0 y1 y2 y3 y4 y5 y6 y7 y8
      go_wp2_with fail
      clear hU
      go_region_held3 (fun V => V.cell? ⟨W2.heap.size, 2, none⟩ = some (.func (.func 125) #[] #[]) ∧ V.cell? ⟨p, 0, none⟩ = some (.map (some gm)) ∧ V.cell? ⟨w.heap.size, 1, none⟩ = some (.int .i64 sh) ∧ V.cell? ⟨w.heap.size, 2, none⟩ = some (.int .u8 2) ∧ V.cell? ⟨w.heap.size, 3, none⟩ = some (.int .i64 sc) ∧ V.cell? ⟨w.heap.size, 4, none⟩ = some (.int .i64 so) ∧ V.cell? ⟨w.heap.size, 5, none⟩ = some (.int .i64 sd) ∧ V.cell? ⟨w.heap.size, 6, none⟩ = some (.int .i64 sm) ∧ (LDk ⟨w.heap.size, 0, none⟩).run Tryz.prog V = .ok (.agg #[.int .u8 sk, .int .i64 sh, .int .u8 2, .int .i64 sc, .int .i64 so, .int .i64 sd, .int .i64 sm]) V ∧ (LK (.map (some gm)) (.int .i64 sh) false).run Tryz.prog V = .ok (.agg #[.int .u8 ya, .int .i64 yo, .int .i64 yk, .int .i64 yc, .int .i64 ym]) V) (go_keep) (first
        | (go_at_call 125; with_reducible refine (CK.out _).mono ?_; rintro e W8 ⟨rfl, rfl⟩))
      go_wp2
      go_ret
      exact ⟨by rw [E.out]; rfl, below_next BW.out NV2.out⟩

    · by_cases h3 : so < 1
      · have E : Hid (R = 11) := hid (by rw [← hR]; (repeat' split) <;> first | rfl | omega | (exfalso; omega) | (simp_all; done))
        clear hR
        go_enter Tryz.func46, Tryz.ntmps46
        go_wp2_with fail
        clear hW
        refine CH.out.mono ?_
        rintro e W1 ⟨rfl, hb⟩
        have N1 : Hid (Below W.heap.size W W1) := hid hb
        clear hb
        obtain ⟨y0, y1, y2, y3, y4, y5, y6, y7, y8⟩ := SW.out W1 N1.out
        go_wp2_with fail
        refine (aofh2_ok _).mono ?_
        rintro e W2 ⟨g, rfl, -, -, hb⟩
        have N2 : Hid (Below W.heap.size W W2) := hid (below_next N1.out hb)
        clear hb
        obtain ⟨U, hU⟩ : ∃ U, W2.alloc (.cells #[.int .i64 0, .bool false, .nilFunc, .nilFunc, .nilFunc, .nilFunc] 113) = U := ⟨_, rfl⟩
        have NU : Hid (Below W2.heap.size W2 U) := by rw [← hU]; exact below_alloc _ _
        have ku : Blk U W2.heap.size [.int .i64 0, .bool false, .nilFunc, .nilFunc, .nilFunc, .nilFunc] 113 := by rw [← hU]; exact Blk.newAt W2 _ _ _ W2.heap.size rfl rfl
        obtain ⟨V, s1, kv, hkv⟩ := SVa_run 64 false 125 126 127 128 #[] #[.pointer (some ⟨g, 0, none⟩)] #[.pointer (some ⟨g, 0, none⟩)] #[.pointer (some ⟨g, 0, none⟩)] ku rfl
        have NV : Hid (Below W.heap.size W V) := hid (below_next N2.out (NU.out.trans (hkv.below NU.out.size (fun k h e => by omega))))
        have NV2 : Hid (Below W.heap.size W V.drew) := hid (below_next NV.out (below_drewN V 1))
        have kv2 := kv.below (below_drewN V 1)
        have q0 : V.drew.cell? ⟨W2.heap.size, 0, none⟩ = _ := kv2.cell 0 _ rfl
        have q1 : V.drew.cell? ⟨W2.heap.size, 1, none⟩ = _ := kv2.cell 1 _ rfl
        have q2 : V.drew.cell? ⟨W2.heap.size, 2, none⟩ = some (.func (.func 125) #[] #[]) := kv2.cell 2 _ rfl
        obtain ⟨v0, v1, v2, v3, v4, v5, v6, v7, v8⟩ := SW.out V.drew NV2.out
        have CK := hid (anyLength_ok yk)
        clear ku kv kv2 hkv y0 y1 y2 y3 y4 y5 y6 y7 y8
        go_wp2_with fail
        clear hU
        go_region_held3 (fun V => V.cell? ⟨W2.heap.size, 2, none⟩ = some (.func (.func 125) #[] #[]) ∧ V.cell? ⟨p, 0, none⟩ = some (.map (some gm)) ∧ V.cell? ⟨w.heap.size, 1, none⟩ = some (.int .i64 sh) ∧ V.cell? ⟨w.heap.size, 2, none⟩ = some (.int .u8 2) ∧ V.cell? ⟨w.heap.size, 3, none⟩ = some (.int .i64 sc) ∧ V.cell? ⟨w.heap.size, 4, none⟩ = some (.int .i64 so) ∧ V.cell? ⟨w.heap.size, 5, none⟩ = some (.int .i64 sd) ∧ V.cell? ⟨w.heap.size, 6, none⟩ = some (.int .i64 sm) ∧ (LDk ⟨w.heap.size, 0, none⟩).run Tryz.prog V = .ok (.agg #[.int .u8 sk, .int .i64 sh, .int .u8 2, .int .i64 sc, .int .i64 so, .int .i64 sd, .int .i64 sm]) V ∧ (LK (.map (some gm)) (.int .i64 sh) false).run Tryz.prog V = .ok (.agg #[.int .u8 ya, .int .i64 yo, .int .i64 yk, .int .i64 yc, .int .i64 ym]) V) (go_keep) (first
          | (go_at_call 125; with_reducible refine (CK.out _).mono ?_; rintro e W8 ⟨rfl, rfl⟩))
        go_wp2
        go_ret
        exact ⟨by rw [E.out]; rfl, below_next BW.out NV2.out⟩

      · by_cases h5 : 64 < so
        · have E : Hid (R = 11) := hid (by rw [← hR]; (repeat' split) <;> first | rfl | omega | (exfalso; omega) | (simp_all; done))
          clear hR
          go_enter Tryz.func46, Tryz.ntmps46
          go_wp2_with fail
          clear hW
          refine CH.out.mono ?_
          rintro e W1 ⟨rfl, hb⟩
          have N1 : Hid (Below W.heap.size W W1) := hid hb
          clear hb
          obtain ⟨y0, y1, y2, y3, y4, y5, y6, y7, y8⟩ := SW.out W1 N1.out
          go_wp2_with fail
          refine (aofh2_ok _).mono ?_
          rintro e W2 ⟨g, rfl, -, -, hb⟩
          have N2 : Hid (Below W.heap.size W W2) := hid (below_next N1.out hb)
          clear hb
          obtain ⟨U, hU⟩ : ∃ U, W2.alloc (.cells #[.int .i64 0, .bool false, .nilFunc, .nilFunc, .nilFunc, .nilFunc] 113) = U := ⟨_, rfl⟩
          have NU : Hid (Below W2.heap.size W2 U) := by rw [← hU]; exact below_alloc _ _
          have ku : Blk U W2.heap.size [.int .i64 0, .bool false, .nilFunc, .nilFunc, .nilFunc, .nilFunc] 113 := by rw [← hU]; exact Blk.newAt W2 _ _ _ W2.heap.size rfl rfl
          obtain ⟨V, s1, kv, hkv⟩ := SVa_run 64 false 125 126 127 128 #[] #[.pointer (some ⟨g, 0, none⟩)] #[.pointer (some ⟨g, 0, none⟩)] #[.pointer (some ⟨g, 0, none⟩)] ku rfl
          have NV : Hid (Below W.heap.size W V) := hid (below_next N2.out (NU.out.trans (hkv.below NU.out.size (fun k h e => by omega))))
          have NV2 : Hid (Below W.heap.size W V.drew) := hid (below_next NV.out (below_drewN V 1))
          have kv2 := kv.below (below_drewN V 1)
          have q0 : V.drew.cell? ⟨W2.heap.size, 0, none⟩ = _ := kv2.cell 0 _ rfl
          have q1 : V.drew.cell? ⟨W2.heap.size, 1, none⟩ = _ := kv2.cell 1 _ rfl
          have q2 : V.drew.cell? ⟨W2.heap.size, 2, none⟩ = some (.func (.func 125) #[] #[]) := kv2.cell 2 _ rfl
          obtain ⟨v0, v1, v2, v3, v4, v5, v6, v7, v8⟩ := SW.out V.drew NV2.out
          have CK := hid (anyLength_ok yk)
          clear ku kv kv2 hkv y0 y1 y2 y3 y4 y5 y6 y7 y8
          go_wp2_with fail
          clear hU
          go_region_held3 (fun V => V.cell? ⟨W2.heap.size, 2, none⟩ = some (.func (.func 125) #[] #[]) ∧ V.cell? ⟨p, 0, none⟩ = some (.map (some gm)) ∧ V.cell? ⟨w.heap.size, 1, none⟩ = some (.int .i64 sh) ∧ V.cell? ⟨w.heap.size, 2, none⟩ = some (.int .u8 2) ∧ V.cell? ⟨w.heap.size, 3, none⟩ = some (.int .i64 sc) ∧ V.cell? ⟨w.heap.size, 4, none⟩ = some (.int .i64 so) ∧ V.cell? ⟨w.heap.size, 5, none⟩ = some (.int .i64 sd) ∧ V.cell? ⟨w.heap.size, 6, none⟩ = some (.int .i64 sm) ∧ (LDk ⟨w.heap.size, 0, none⟩).run Tryz.prog V = .ok (.agg #[.int .u8 sk, .int .i64 sh, .int .u8 2, .int .i64 sc, .int .i64 so, .int .i64 sd, .int .i64 sm]) V ∧ (LK (.map (some gm)) (.int .i64 sh) false).run Tryz.prog V = .ok (.agg #[.int .u8 ya, .int .i64 yo, .int .i64 yk, .int .i64 yc, .int .i64 ym]) V) (go_keep) (first
            | (go_at_call 125; with_reducible refine (CK.out _).mono ?_; rintro e W8 ⟨rfl, rfl⟩))
          go_wp2
          go_ret
          exact ⟨by rw [E.out]; rfl, below_next BW.out NV2.out⟩

        · have E : Hid (R = r) := hid (by rw [← hR]; (repeat' split) <;> first | rfl | omega | (exfalso; omega) | (simp_all; done))
          clear hR
          go_enter Tryz.func46, Tryz.ntmps46
          go_wp2_with fail
          clear hW
          refine CH.out.mono ?_
          rintro e W1 ⟨rfl, hb⟩
          have N1 : Hid (Below W.heap.size W W1) := hid hb
          clear hb
          obtain ⟨y0, y1, y2, y3, y4, y5, y6, y7, y8⟩ := SW.out W1 N1.out
          go_wp2_with fail
          refine (aofh2_ok _).mono ?_
          rintro e W2 ⟨g, rfl, -, -, hb⟩
          have N2 : Hid (Below W.heap.size W W2) := hid (below_next N1.out hb)
          clear hb
          obtain ⟨U, hU⟩ : ∃ U, W2.alloc (.cells #[.int .i64 0, .bool false, .nilFunc, .nilFunc, .nilFunc, .nilFunc] 113) = U := ⟨_, rfl⟩
          have NU : Hid (Below W2.heap.size W2 U) := by rw [← hU]; exact below_alloc _ _
          have ku : Blk U W2.heap.size [.int .i64 0, .bool false, .nilFunc, .nilFunc, .nilFunc, .nilFunc] 113 := by rw [← hU]; exact Blk.newAt W2 _ _ _ W2.heap.size rfl rfl
          obtain ⟨V, s1, kv, hkv⟩ := SVa_run 64 false 125 126 127 128 #[] #[.pointer (some ⟨g, 0, none⟩)] #[.pointer (some ⟨g, 0, none⟩)] #[.pointer (some ⟨g, 0, none⟩)] ku rfl
          have NV : Hid (Below W.heap.size W V) := hid (below_next N2.out (NU.out.trans (hkv.below NU.out.size (fun k h e => by omega))))
          have NV2 : Hid (Below W.heap.size W V.drew) := hid (below_next NV.out (below_drewN V 1))
          have kv2 := kv.below (below_drewN V 1)
          have q0 : V.drew.cell? ⟨W2.heap.size, 0, none⟩ = _ := kv2.cell 0 _ rfl
          have q1 : V.drew.cell? ⟨W2.heap.size, 1, none⟩ = _ := kv2.cell 1 _ rfl
          have q2 : V.drew.cell? ⟨W2.heap.size, 2, none⟩ = some (.func (.func 125) #[] #[]) := kv2.cell 2 _ rfl
          obtain ⟨v0, v1, v2, v3, v4, v5, v6, v7, v8⟩ := SW.out V.drew NV2.out
          have CK := hid (anyLength_ok yk)
          clear ku kv kv2 hkv y0 y1 y2 y3 y4 y5 y6 y7 y8
          go_wp2_with fail
          clear hU
          go_region_held3 (fun V => V.cell? ⟨W2.heap.size, 2, none⟩ = some (.func (.func 125) #[] #[]) ∧ V.cell? ⟨p, 0, none⟩ = some (.map (some gm)) ∧ V.cell? ⟨w.heap.size, 1, none⟩ = some (.int .i64 sh) ∧ V.cell? ⟨w.heap.size, 2, none⟩ = some (.int .u8 2) ∧ V.cell? ⟨w.heap.size, 3, none⟩ = some (.int .i64 sc) ∧ V.cell? ⟨w.heap.size, 4, none⟩ = some (.int .i64 so) ∧ V.cell? ⟨w.heap.size, 5, none⟩ = some (.int .i64 sd) ∧ V.cell? ⟨w.heap.size, 6, none⟩ = some (.int .i64 sm) ∧ (LDk ⟨w.heap.size, 0, none⟩).run Tryz.prog V = .ok (.agg #[.int .u8 sk, .int .i64 sh, .int .u8 2, .int .i64 sc, .int .i64 so, .int .i64 sd, .int .i64 sm]) V ∧ (LK (.map (some gm)) (.int .i64 sh) false).run Tryz.prog V = .ok (.agg #[.int .u8 ya, .int .i64 yo, .int .i64 yk, .int .i64 yc, .int .i64 ym]) V) (go_keep) (first
            | (go_at_call 125; with_reducible refine (CK.out _).mono ?_; rintro e W8 ⟨rfl, rfl⟩))
          go_wp2_with fail
          refine (CR.out _ NV2.out).mono ?_
          rintro e W8 ⟨rfl, rfl⟩
          go_wp2
          go_ret
          exact ⟨by rw [E.out]; rfl, below_next BW.out NV2.out⟩




  · clear a2
    have hu1 : (u != 0) = true := by simpa using hu0
    have E : Hid (R = u) := hid (by rw [← hR]; (repeat' split) <;> first | rfl | omega | (exfalso; omega) | (simp_all; done))
    clear hR
    go_enter Tryz.func46, Tryz.ntmps46
    go_wp2_with fail
    clear hW
    refine CH.out.mono ?_
    rintro e W1 ⟨rfl, hb⟩
    have N1 : Hid (Below W.heap.size W W1) := hid hb
    clear hb
    go_wp2
    go_ret
    exact ⟨by rw [E.out]; rfl, below_next BW.out N1.out⟩
end Go.Proofs.YtdmacflcjbkkpaaGreat.Co
namespace Go.Proofs.YtdmacflcjbkkpaaGreat.Co
open Go.ChangeShapes Go.WideShapes Go.ChangeAt Go.RowKit
open Go.Proofs.YtdmacflcjbkkpaaGreat (putL)
open Go.Proofs.YtdmacflcjbkkpaaGreat.Ou (Sk sv sL LDk SVk LDk_run SVk_run)
open Go.Proofs.YtdmacflcjbkkpaaGreat.Tb (Blk Blk.newAt put_all Kp.setCells results_cell1 results_cell2)
set_option maxRecDepth 8000 in
set_option maxHeartbeats 16000000 in
theorem refuseBegin_c (p gm gk : Nat) (P : St) (s : Sk) (w : World) (hp : PU w p gm gk P) (hs : Sk.Fit s) (a3 : s.a = 3) :
    Calls Tryz.prog 46 #[.pointer (some ⟨p, 0, none⟩), sv s] w fun e w' => e = .returned (.int .i64 (rBegin P s)) ∧ Below w.heap.size w w' := by
  obtain ⟨sk, sh, sa, sc, so, sd, sm⟩ := s
  have bh : -9223372036854775808 ≤ sh ∧ sh ≤ 9223372036854775807 := hs.h
  have bc : -9223372036854775808 ≤ sc ∧ sc ≤ 9223372036854775807 := hs.c
  have bo : -9223372036854775808 ≤ so ∧ so ≤ 9223372036854775807 := hs.o
  have bd' : 0 ≤ sd ∧ sd ≤ 9223372036854775807 := hs.d
  have bm : 0 ≤ sm ∧ sm ≤ 9223372036854775807 := hs.m
  obtain ⟨W, hW⟩ : ∃ W, w.alloc (.cells #[.int .u8 sk, .int .i64 sh, .int .u8 sa, .int .i64 sc, .int .i64 so, .int .i64 sd, .int .i64 sm] 40) = W := ⟨_, rfl⟩
  have BW : Hid (Below w.heap.size w W) := by rw [← hW]; exact below_alloc _ _
  have KB : Hid (Blk W w.heap.size [.int .u8 sk, .int .i64 sh, .int .u8 sa, .int .i64 sc, .int .i64 so, .int .i64 sd, .int .i64 sm] 40) := by rw [← hW]; exact Blk.newAt w _ _ _ w.heap.size rfl rfl
  have HP := hid (hp.below BW.out)
  obtain ⟨y, hy⟩ : ∃ y, (hat P sh).getD h0 = y := ⟨_, rfl⟩
  have hyy : yy P sh = y := hy
  obtain ⟨yk, ya, yo, yc, ym⟩ := y
  have LKf : ∀ V, Below W.heap.size W V → (LK (.map (some gm)) (.int .i64 sh) false).run Tryz.prog V = .ok (.agg #[.int .u8 ya, .int .i64 yo, .int .i64 yk, .int .i64 yc, .int .i64 ym]) V := fun V hV => by
    have := (HP.out.below hV).look bh false
    rw [hy] at this
    exact this
  have SW : Hid (∀ V, Below W.heap.size W V → V.cell? ⟨p, 0, none⟩ = some (.map (some gm)) ∧ V.cell? ⟨w.heap.size, 1, none⟩ = some (.int .i64 sh) ∧ V.cell? ⟨w.heap.size, 2, none⟩ = some (.int .u8 sa) ∧ V.cell? ⟨w.heap.size, 3, none⟩ = some (.int .i64 sc) ∧ V.cell? ⟨w.heap.size, 4, none⟩ = some (.int .i64 so) ∧ V.cell? ⟨w.heap.size, 5, none⟩ = some (.int .i64 sd) ∧ V.cell? ⟨w.heap.size, 6, none⟩ = some (.int .i64 sm) ∧ (LDk ⟨w.heap.size, 0, none⟩).run Tryz.prog V = .ok (.agg #[.int .u8 sk, .int .i64 sh, .int .u8 sa, .int .i64 sc, .int .i64 so, .int .i64 sd, .int .i64 sm]) V ∧ (LK (.map (some gm)) (.int .i64 sh) false).run Tryz.prog V = .ok (.agg #[.int .u8 ya, .int .i64 yo, .int .i64 yk, .int .i64 yc, .int .i64 ym]) V) := fun V hV => ⟨(HP.out.below hV).c0, (KB.out.below hV).cell 1 _ rfl, (KB.out.below hV).cell 2 _ rfl, (KB.out.below hV).cell 3 _ rfl, (KB.out.below hV).cell 4 _ rfl, (KB.out.below hV).cell 5 _ rfl, (KB.out.below hV).cell 6 _ rfl, (LDk_run (s := ⟨sk, sh, sa, sc, so, sd, sm⟩) (KB.out.below hV)), LKf V hV⟩
  have CR : Hid (∀ V, Below W.heap.size W V → Calls Tryz.prog 79 #[.pointer (some ⟨p, 0, none⟩)] V fun e w' => e = .returned (.int .i64 (ur P)) ∧ w' = V) := fun V hV => unlessRoom_ok p gm gk P V (HP.out.below hV)
  obtain ⟨r, hr⟩ : ∃ r, ur P = r := ⟨_, rfl⟩
  rw [hr] at CR
  have CH := hid (unlessKey_ok p gm gk P ⟨sk, sh, sa, sc, so, sd, sm⟩ W HP.out hs)
  have CH : Hid (Calls Tryz.prog 60 #[.pointer (some ⟨p, 0, none⟩), .agg #[.int .u8 sk, .int .i64 sh, .int .u8 sa, .int .i64 sc, .int .i64 so, .int .i64 sd, .int .i64 sm]] W fun e w' => e = .returned (.int .i64 (uk P sh)) ∧ Below W.heap.size W w') := CH
  obtain ⟨u, hu⟩ : ∃ u, uk P sh = u := ⟨_, rfl⟩
  rw [hu] at CH
  obtain ⟨x0, x1, x2, x3, x4, x5, x6, x7, x8⟩ := SW.out W (Below.refl _ _)
  obtain ⟨R, hR⟩ : ∃ R, rBegin P ⟨sk, sh, sa, sc, so, sd, sm⟩ = R := ⟨_, rfl⟩
  have RE : Hid (rBegin P ⟨sk, sh, sa, sc, so, sd, sm⟩ = R) := hid hR
  rw [hR]
  unfold rBegin at hR
  try simp only [hu] at hR
  try simp only [hr] at hR
  try simp only [hyy] at hR
  clear LKf hy hyy hp hs HP hu hr
  by_cases hu0 : u = 0
  · subst hu0
    have a3 : sa = 3 := a3
    subst a3
    have mm : mos 3 = 16 := rfl
    rw [mm] at hR
    cases hcl : cil yk with
    | false =>
      have kn : yk ≠ 16 ∧ yk ≠ 24 ∧ yk ≠ 32 := by unfold cil at hcl; simpa [and_assoc] using hcl
      have E : Hid (R = 7) := hid (by rw [← hR]; (repeat' split) <;> first | rfl | omega | (exfalso; omega) | (simp_all; done))
      clear hR
      go_enter Tryz.func46, Tryz.ntmps46
      go_wp2_with fail
      clear hW
      refine CH.out.mono ?_
      rintro e W1 ⟨rfl, hb⟩
      have N1 : Hid (Below W.heap.size W W1) := hid hb
      clear hb
      obtain ⟨y0, y1, y2, y3, y4, y5, y6, y7, y8⟩ := SW.out W1 N1.out
      go_wp2_with fail
      refine (aofc_ok _).mono ?_
      rintro e W2 ⟨g, rfl, -, -, hb⟩
      have N2 : Hid (Below W.heap.size W W2) := hid (below_next N1.out hb)
      clear hb
      obtain ⟨U, hU⟩ : ∃ U, W2.alloc (.cells #[.int .i64 0, .bool false, .nilFunc, .nilFunc, .nilFunc, .nilFunc] 113) = U := ⟨_, rfl⟩
      have NU : Hid (Below W2.heap.size W2 U) := by rw [← hU]; exact below_alloc _ _
      have ku : Blk U W2.heap.size [.int .i64 0, .bool false, .nilFunc, .nilFunc, .nilFunc, .nilFunc] 113 := by rw [← hU]; exact Blk.newAt W2 _ _ _ W2.heap.size rfl rfl
      obtain ⟨V, s1, kv, hkv⟩ := SVa_run 16 false 131 132 133 135 #[] #[.pointer (some ⟨g, 0, none⟩)] #[.pointer (some ⟨g, 0, none⟩)] #[.pointer (some ⟨g, 0, none⟩)] ku rfl
      have NV : Hid (Below W.heap.size W V) := hid (below_next N2.out (NU.out.trans (hkv.below NU.out.size (fun k h e => by omega))))
      have NV2 : Hid (Below W.heap.size W V.drew) := hid (below_next NV.out (below_drewN V 1))
      have kv2 := kv.below (below_drewN V 1)
      have q0 : V.drew.cell? ⟨W2.heap.size, 0, none⟩ = _ := kv2.cell 0 _ rfl
      have q1 : V.drew.cell? ⟨W2.heap.size, 1, none⟩ = _ := kv2.cell 1 _ rfl
      have q2 : V.drew.cell? ⟨W2.heap.size, 2, none⟩ = some (.func (.func 131) #[] #[]) := kv2.cell 2 _ rfl
      obtain ⟨v0, v1, v2, v3, v4, v5, v6, v7, v8⟩ := SW.out V.drew NV2.out
      have CK := hid (cipherLength_ok yk)
      rw [hcl] at CK
      clear ku kv kv2 hkv y0 y1 y2 y3 y4 y5 y6 y7 y8
      go_wp2_with fail
      clear hU
      go_region_held3 (fun V => V.cell? ⟨W2.heap.size, 2, none⟩ = some (.func (.func 131) #[] #[]) ∧ V.cell? ⟨p, 0, none⟩ = some (.map (some gm)) ∧ V.cell? ⟨w.heap.size, 1, none⟩ = some (.int .i64 sh) ∧ V.cell? ⟨w.heap.size, 2, none⟩ = some (.int .u8 3) ∧ V.cell? ⟨w.heap.size, 3, none⟩ = some (.int .i64 sc) ∧ V.cell? ⟨w.heap.size, 4, none⟩ = some (.int .i64 so) ∧ V.cell? ⟨w.heap.size, 5, none⟩ = some (.int .i64 sd) ∧ V.cell? ⟨w.heap.size, 6, none⟩ = some (.int .i64 sm) ∧ (LDk ⟨w.heap.size, 0, none⟩).run Tryz.prog V = .ok (.agg #[.int .u8 sk, .int .i64 sh, .int .u8 3, .int .i64 sc, .int .i64 so, .int .i64 sd, .int .i64 sm]) V ∧ (LK (.map (some gm)) (.int .i64 sh) false).run Tryz.prog V = .ok (.agg #[.int .u8 ya, .int .i64 yo, .int .i64 yk, .int .i64 yc, .int .i64 ym]) V) (go_keep) (first
        | (go_at_call 131; with_reducible refine (CK.out _).mono ?_; rintro e W8 ⟨rfl, rfl⟩))
      go_wp2
      go_ret
      exact ⟨by rw [E.out]; rfl, below_next BW.out NV2.out⟩
    | true =>
      have kn : ¬ (yk ≠ 16 ∧ yk ≠ 24 ∧ yk ≠ 32) := fun e => by have e2 : cil yk = false := by { unfold cil; simp [e.1, e.2.1, e.2.2] }; rw [hcl] at e2; cases e2
      by_cases h2 : 0 < sd
      · have E : Hid (R = 2) := hid (by rw [← hR]; (repeat' split) <;> first | rfl | omega | (exfalso; omega) | (simp_all; done))
        clear hR
        go_enter Tryz.func46, Tryz.ntmps46
        go_wp2_with fail
        clear hW
        refine CH.out.mono ?_
        rintro e W1 ⟨rfl, hb⟩
        have N1 : Hid (Below W.heap.size W W1) := hid hb
        clear hb
        obtain ⟨y0, y1, y2, y3, y4, y5, y6, y7, y8⟩ := SW.out W1 N1.out
        go_wp2_with fail
        refine (aofc_ok _).mono ?_
        rintro e W2 ⟨g, rfl, -, -, hb⟩
        have N2 : Hid (Below W.heap.size W W2) := hid (below_next N1.out hb)
        clear hb
        obtain ⟨U, hU⟩ : ∃ U, W2.alloc (.cells #[.int .i64 0, .bool false, .nilFunc, .nilFunc, .nilFunc, .nilFunc] 113) = U := ⟨_, rfl⟩
        have NU : Hid (Below W2.heap.size W2 U) := by rw [← hU]; exact below_alloc _ _
        have ku : Blk U W2.heap.size [.int .i64 0, .bool false, .nilFunc, .nilFunc, .nilFunc, .nilFunc] 113 := by rw [← hU]; exact Blk.newAt W2 _ _ _ W2.heap.size rfl rfl
        obtain ⟨V, s1, kv, hkv⟩ := SVa_run 16 false 131 132 133 135 #[] #[.pointer (some ⟨g, 0, none⟩)] #[.pointer (some ⟨g, 0, none⟩)] #[.pointer (some ⟨g, 0, none⟩)] ku rfl
        have NV : Hid (Below W.heap.size W V) := hid (below_next N2.out (NU.out.trans (hkv.below NU.out.size (fun k h e => by omega))))
        have NV2 : Hid (Below W.heap.size W V.drew) := hid (below_next NV.out (below_drewN V 1))
        have kv2 := kv.below (below_drewN V 1)
        have q0 : V.drew.cell? ⟨W2.heap.size, 0, none⟩ = _ := kv2.cell 0 _ rfl
        have q1 : V.drew.cell? ⟨W2.heap.size, 1, none⟩ = _ := kv2.cell 1 _ rfl
        have q2 : V.drew.cell? ⟨W2.heap.size, 2, none⟩ = some (.func (.func 131) #[] #[]) := kv2.cell 2 _ rfl
        obtain ⟨v0, v1, v2, v3, v4, v5, v6, v7, v8⟩ := SW.out V.drew NV2.out
        have CK := hid (cipherLength_ok yk)
        rw [hcl] at CK
        clear ku kv kv2 hkv y0 y1 y2 y3 y4 y5 y6 y7 y8
        go_wp2_with fail
        clear hU
        go_region_held3 (fun V => V.cell? ⟨W2.heap.size, 2, none⟩ = some (.func (.func 131) #[] #[]) ∧ V.cell? ⟨p, 0, none⟩ = some (.map (some gm)) ∧ V.cell? ⟨w.heap.size, 1, none⟩ = some (.int .i64 sh) ∧ V.cell? ⟨w.heap.size, 2, none⟩ = some (.int .u8 3) ∧ V.cell? ⟨w.heap.size, 3, none⟩ = some (.int .i64 sc) ∧ V.cell? ⟨w.heap.size, 4, none⟩ = some (.int .i64 so) ∧ V.cell? ⟨w.heap.size, 5, none⟩ = some (.int .i64 sd) ∧ V.cell? ⟨w.heap.size, 6, none⟩ = some (.int .i64 sm) ∧ (LDk ⟨w.heap.size, 0, none⟩).run Tryz.prog V = .ok (.agg #[.int .u8 sk, .int .i64 sh, .int .u8 3, .int .i64 sc, .int .i64 so, .int .i64 sd, .int .i64 sm]) V ∧ (LK (.map (some gm)) (.int .i64 sh) false).run Tryz.prog V = .ok (.agg #[.int .u8 ya, .int .i64 yo, .int .i64 yk, .int .i64 yc, .int .i64 ym]) V) (go_keep) (first
          | (go_at_call 131; with_reducible refine (CK.out _).mono ?_; rintro e W8 ⟨rfl, rfl⟩))
        go_wp2
        go_ret
        exact ⟨by rw [E.out]; rfl, below_next BW.out NV2.out⟩

      · by_cases h3 : so < 1
        · have E : Hid (R = 11) := hid (by rw [← hR]; (repeat' split) <;> first | rfl | omega | (exfalso; omega) | (simp_all; done))
          clear hR
          go_enter Tryz.func46, Tryz.ntmps46
          go_wp2_with fail
          clear hW
          refine CH.out.mono ?_
          rintro e W1 ⟨rfl, hb⟩
          have N1 : Hid (Below W.heap.size W W1) := hid hb
          clear hb
          obtain ⟨y0, y1, y2, y3, y4, y5, y6, y7, y8⟩ := SW.out W1 N1.out
          go_wp2_with fail
          refine (aofc_ok _).mono ?_
          rintro e W2 ⟨g, rfl, -, -, hb⟩
          have N2 : Hid (Below W.heap.size W W2) := hid (below_next N1.out hb)
          clear hb
          obtain ⟨U, hU⟩ : ∃ U, W2.alloc (.cells #[.int .i64 0, .bool false, .nilFunc, .nilFunc, .nilFunc, .nilFunc] 113) = U := ⟨_, rfl⟩
          have NU : Hid (Below W2.heap.size W2 U) := by rw [← hU]; exact below_alloc _ _
          have ku : Blk U W2.heap.size [.int .i64 0, .bool false, .nilFunc, .nilFunc, .nilFunc, .nilFunc] 113 := by rw [← hU]; exact Blk.newAt W2 _ _ _ W2.heap.size rfl rfl
          obtain ⟨V, s1, kv, hkv⟩ := SVa_run 16 false 131 132 133 135 #[] #[.pointer (some ⟨g, 0, none⟩)] #[.pointer (some ⟨g, 0, none⟩)] #[.pointer (some ⟨g, 0, none⟩)] ku rfl
          have NV : Hid (Below W.heap.size W V) := hid (below_next N2.out (NU.out.trans (hkv.below NU.out.size (fun k h e => by omega))))
          have NV2 : Hid (Below W.heap.size W V.drew) := hid (below_next NV.out (below_drewN V 1))
          have kv2 := kv.below (below_drewN V 1)
          have q0 : V.drew.cell? ⟨W2.heap.size, 0, none⟩ = _ := kv2.cell 0 _ rfl
          have q1 : V.drew.cell? ⟨W2.heap.size, 1, none⟩ = _ := kv2.cell 1 _ rfl
          have q2 : V.drew.cell? ⟨W2.heap.size, 2, none⟩ = some (.func (.func 131) #[] #[]) := kv2.cell 2 _ rfl
          obtain ⟨v0, v1, v2, v3, v4, v5, v6, v7, v8⟩ := SW.out V.drew NV2.out
          have CK := hid (cipherLength_ok yk)
          rw [hcl] at CK
          clear ku kv kv2 hkv y0 y1 y2 y3 y4 y5 y6 y7 y8
          go_wp2_with fail
          clear hU
          go_region_held3 (fun V => V.cell? ⟨W2.heap.size, 2, none⟩ = some (.func (.func 131) #[] #[]) ∧ V.cell? ⟨p, 0, none⟩ = some (.map (some gm)) ∧ V.cell? ⟨w.heap.size, 1, none⟩ = some (.int .i64 sh) ∧ V.cell? ⟨w.heap.size, 2, none⟩ = some (.int .u8 3) ∧ V.cell? ⟨w.heap.size, 3, none⟩ = some (.int .i64 sc) ∧ V.cell? ⟨w.heap.size, 4, none⟩ = some (.int .i64 so) ∧ V.cell? ⟨w.heap.size, 5, none⟩ = some (.int .i64 sd) ∧ V.cell? ⟨w.heap.size, 6, none⟩ = some (.int .i64 sm) ∧ (LDk ⟨w.heap.size, 0, none⟩).run Tryz.prog V = .ok (.agg #[.int .u8 sk, .int .i64 sh, .int .u8 3, .int .i64 sc, .int .i64 so, .int .i64 sd, .int .i64 sm]) V ∧ (LK (.map (some gm)) (.int .i64 sh) false).run Tryz.prog V = .ok (.agg #[.int .u8 ya, .int .i64 yo, .int .i64 yk, .int .i64 yc, .int .i64 ym]) V) (go_keep) (first
            | (go_at_call 131; with_reducible refine (CK.out _).mono ?_; rintro e W8 ⟨rfl, rfl⟩))
          go_wp2
          go_ret
          exact ⟨by rw [E.out]; rfl, below_next BW.out NV2.out⟩

        · by_cases h5 : 16 < so
          · have E : Hid (R = 11) := hid (by rw [← hR]; (repeat' split) <;> first | rfl | omega | (exfalso; omega) | (simp_all; done))
            clear hR
            go_enter Tryz.func46, Tryz.ntmps46
            go_wp2_with fail
            clear hW
            refine CH.out.mono ?_
            rintro e W1 ⟨rfl, hb⟩
            have N1 : Hid (Below W.heap.size W W1) := hid hb
            clear hb
            obtain ⟨y0, y1, y2, y3, y4, y5, y6, y7, y8⟩ := SW.out W1 N1.out
            go_wp2_with fail
            refine (aofc_ok _).mono ?_
            rintro e W2 ⟨g, rfl, -, -, hb⟩
            have N2 : Hid (Below W.heap.size W W2) := hid (below_next N1.out hb)
            clear hb
            obtain ⟨U, hU⟩ : ∃ U, W2.alloc (.cells #[.int .i64 0, .bool false, .nilFunc, .nilFunc, .nilFunc, .nilFunc] 113) = U := ⟨_, rfl⟩
            have NU : Hid (Below W2.heap.size W2 U) := by rw [← hU]; exact below_alloc _ _
            have ku : Blk U W2.heap.size [.int .i64 0, .bool false, .nilFunc, .nilFunc, .nilFunc, .nilFunc] 113 := by rw [← hU]; exact Blk.newAt W2 _ _ _ W2.heap.size rfl rfl
            obtain ⟨V, s1, kv, hkv⟩ := SVa_run 16 false 131 132 133 135 #[] #[.pointer (some ⟨g, 0, none⟩)] #[.pointer (some ⟨g, 0, none⟩)] #[.pointer (some ⟨g, 0, none⟩)] ku rfl
            have NV : Hid (Below W.heap.size W V) := hid (below_next N2.out (NU.out.trans (hkv.below NU.out.size (fun k h e => by omega))))
            have NV2 : Hid (Below W.heap.size W V.drew) := hid (below_next NV.out (below_drewN V 1))
            have kv2 := kv.below (below_drewN V 1)
            have q0 : V.drew.cell? ⟨W2.heap.size, 0, none⟩ = _ := kv2.cell 0 _ rfl
            have q1 : V.drew.cell? ⟨W2.heap.size, 1, none⟩ = _ := kv2.cell 1 _ rfl
            have q2 : V.drew.cell? ⟨W2.heap.size, 2, none⟩ = some (.func (.func 131) #[] #[]) := kv2.cell 2 _ rfl
            obtain ⟨v0, v1, v2, v3, v4, v5, v6, v7, v8⟩ := SW.out V.drew NV2.out
            have CK := hid (cipherLength_ok yk)
            rw [hcl] at CK
            clear ku kv kv2 hkv y0 y1 y2 y3 y4 y5 y6 y7 y8
            go_wp2_with fail
            clear hU
            go_region_held3 (fun V => V.cell? ⟨W2.heap.size, 2, none⟩ = some (.func (.func 131) #[] #[]) ∧ V.cell? ⟨p, 0, none⟩ = some (.map (some gm)) ∧ V.cell? ⟨w.heap.size, 1, none⟩ = some (.int .i64 sh) ∧ V.cell? ⟨w.heap.size, 2, none⟩ = some (.int .u8 3) ∧ V.cell? ⟨w.heap.size, 3, none⟩ = some (.int .i64 sc) ∧ V.cell? ⟨w.heap.size, 4, none⟩ = some (.int .i64 so) ∧ V.cell? ⟨w.heap.size, 5, none⟩ = some (.int .i64 sd) ∧ V.cell? ⟨w.heap.size, 6, none⟩ = some (.int .i64 sm) ∧ (LDk ⟨w.heap.size, 0, none⟩).run Tryz.prog V = .ok (.agg #[.int .u8 sk, .int .i64 sh, .int .u8 3, .int .i64 sc, .int .i64 so, .int .i64 sd, .int .i64 sm]) V ∧ (LK (.map (some gm)) (.int .i64 sh) false).run Tryz.prog V = .ok (.agg #[.int .u8 ya, .int .i64 yo, .int .i64 yk, .int .i64 yc, .int .i64 ym]) V) (go_keep) (first
              | (go_at_call 131; with_reducible refine (CK.out _).mono ?_; rintro e W8 ⟨rfl, rfl⟩))
            go_wp2
            go_ret
            exact ⟨by rw [E.out]; rfl, below_next BW.out NV2.out⟩

          · have E : Hid (R = r) := hid (by rw [← hR]; (repeat' split) <;> first | rfl | omega | (exfalso; omega) | (simp_all; done))
            clear hR
            go_enter Tryz.func46, Tryz.ntmps46
            go_wp2_with fail
            clear hW
            refine CH.out.mono ?_
            rintro e W1 ⟨rfl, hb⟩
            have N1 : Hid (Below W.heap.size W W1) := hid hb
            clear hb
            obtain ⟨y0, y1, y2, y3, y4, y5, y6, y7, y8⟩ := SW.out W1 N1.out
            go_wp2_with fail
            refine (aofc_ok _).mono ?_
            rintro e W2 ⟨g, rfl, -, -, hb⟩
            have N2 : Hid (Below W.heap.size W W2) := hid (below_next N1.out hb)
            clear hb
            obtain ⟨U, hU⟩ : ∃ U, W2.alloc (.cells #[.int .i64 0, .bool false, .nilFunc, .nilFunc, .nilFunc, .nilFunc] 113) = U := ⟨_, rfl⟩
            have NU : Hid (Below W2.heap.size W2 U) := by rw [← hU]; exact below_alloc _ _
            have ku : Blk U W2.heap.size [.int .i64 0, .bool false, .nilFunc, .nilFunc, .nilFunc, .nilFunc] 113 := by rw [← hU]; exact Blk.newAt W2 _ _ _ W2.heap.size rfl rfl
            obtain ⟨V, s1, kv, hkv⟩ := SVa_run 16 false 131 132 133 135 #[] #[.pointer (some ⟨g, 0, none⟩)] #[.pointer (some ⟨g, 0, none⟩)] #[.pointer (some ⟨g, 0, none⟩)] ku rfl
            have NV : Hid (Below W.heap.size W V) := hid (below_next N2.out (NU.out.trans (hkv.below NU.out.size (fun k h e => by omega))))
            have NV2 : Hid (Below W.heap.size W V.drew) := hid (below_next NV.out (below_drewN V 1))
            have kv2 := kv.below (below_drewN V 1)
            have q0 : V.drew.cell? ⟨W2.heap.size, 0, none⟩ = _ := kv2.cell 0 _ rfl
            have q1 : V.drew.cell? ⟨W2.heap.size, 1, none⟩ = _ := kv2.cell 1 _ rfl
            have q2 : V.drew.cell? ⟨W2.heap.size, 2, none⟩ = some (.func (.func 131) #[] #[]) := kv2.cell 2 _ rfl
            obtain ⟨v0, v1, v2, v3, v4, v5, v6, v7, v8⟩ := SW.out V.drew NV2.out
            have CK := hid (cipherLength_ok yk)
            rw [hcl] at CK
            clear ku kv kv2 hkv y0 y1 y2 y3 y4 y5 y6 y7 y8
            go_wp2_with fail
            clear hU
            go_region_held3 (fun V => V.cell? ⟨W2.heap.size, 2, none⟩ = some (.func (.func 131) #[] #[]) ∧ V.cell? ⟨p, 0, none⟩ = some (.map (some gm)) ∧ V.cell? ⟨w.heap.size, 1, none⟩ = some (.int .i64 sh) ∧ V.cell? ⟨w.heap.size, 2, none⟩ = some (.int .u8 3) ∧ V.cell? ⟨w.heap.size, 3, none⟩ = some (.int .i64 sc) ∧ V.cell? ⟨w.heap.size, 4, none⟩ = some (.int .i64 so) ∧ V.cell? ⟨w.heap.size, 5, none⟩ = some (.int .i64 sd) ∧ V.cell? ⟨w.heap.size, 6, none⟩ = some (.int .i64 sm) ∧ (LDk ⟨w.heap.size, 0, none⟩).run Tryz.prog V = .ok (.agg #[.int .u8 sk, .int .i64 sh, .int .u8 3, .int .i64 sc, .int .i64 so, .int .i64 sd, .int .i64 sm]) V ∧ (LK (.map (some gm)) (.int .i64 sh) false).run Tryz.prog V = .ok (.agg #[.int .u8 ya, .int .i64 yo, .int .i64 yk, .int .i64 yc, .int .i64 ym]) V) (go_keep) (first
              | (go_at_call 131; with_reducible refine (CK.out _).mono ?_; rintro e W8 ⟨rfl, rfl⟩))
            go_wp2_with fail
            refine (CR.out _ NV2.out).mono ?_
            rintro e W8 ⟨rfl, rfl⟩
            go_wp2
            go_ret
            exact ⟨by rw [E.out]; rfl, below_next BW.out NV2.out⟩




  · clear a3
    have hu1 : (u != 0) = true := by simpa using hu0
    have E : Hid (R = u) := hid (by rw [← hR]; (repeat' split) <;> first | rfl | omega | (exfalso; omega) | (simp_all; done))
    clear hR
    go_enter Tryz.func46, Tryz.ntmps46
    go_wp2_with fail
    clear hW
    refine CH.out.mono ?_
    rintro e W1 ⟨rfl, hb⟩
    have N1 : Hid (Below W.heap.size W W1) := hid hb
    clear hb
    go_wp2
    go_ret
    exact ⟨by rw [E.out]; rfl, below_next BW.out N1.out⟩
end Go.Proofs.YtdmacflcjbkkpaaGreat.Co
namespace Go.Proofs.YtdmacflcjbkkpaaGreat.Co
open Go.ChangeShapes Go.WideShapes Go.ChangeAt Go.RowKit
open Go.Proofs.YtdmacflcjbkkpaaGreat (putL)
open Go.Proofs.YtdmacflcjbkkpaaGreat.Ou (Sk sv sL LDk SVk LDk_run SVk_run)
open Go.Proofs.YtdmacflcjbkkpaaGreat.Tb (Blk Blk.newAt put_all Kp.setCells results_cell1 results_cell2)
set_option maxRecDepth 8000 in
set_option maxHeartbeats 16000000 in
theorem refuseBegin_ka (p gm gk : Nat) (P : St) (s : Sk) (w : World) (hp : PU w p gm gk P) (hs : Sk.Fit s) (h4 : 4 ≤ s.a ∧ s.a ≤ 7) (hd0 : 0 < s.d) :
    Calls Tryz.prog 46 #[.pointer (some ⟨p, 0, none⟩), sv s] w fun e w' => e = .returned (.int .i64 (rBegin P s)) ∧ Below w.heap.size w w' := by
  obtain ⟨sk, sh, sa, sc, so, sd, sm⟩ := s
  have bh : -9223372036854775808 ≤ sh ∧ sh ≤ 9223372036854775807 := hs.h
  have bc : -9223372036854775808 ≤ sc ∧ sc ≤ 9223372036854775807 := hs.c
  have bo : -9223372036854775808 ≤ so ∧ so ≤ 9223372036854775807 := hs.o
  have bd' : 0 ≤ sd ∧ sd ≤ 9223372036854775807 := hs.d
  have bm : 0 ≤ sm ∧ sm ≤ 9223372036854775807 := hs.m
  obtain ⟨W, hW⟩ : ∃ W, w.alloc (.cells #[.int .u8 sk, .int .i64 sh, .int .u8 sa, .int .i64 sc, .int .i64 so, .int .i64 sd, .int .i64 sm] 40) = W := ⟨_, rfl⟩
  have BW : Hid (Below w.heap.size w W) := by rw [← hW]; exact below_alloc _ _
  have KB : Hid (Blk W w.heap.size [.int .u8 sk, .int .i64 sh, .int .u8 sa, .int .i64 sc, .int .i64 so, .int .i64 sd, .int .i64 sm] 40) := by rw [← hW]; exact Blk.newAt w _ _ _ w.heap.size rfl rfl
  have HP := hid (hp.below BW.out)
  obtain ⟨y, hy⟩ : ∃ y, (hat P sh).getD h0 = y := ⟨_, rfl⟩
  have hyy : yy P sh = y := hy
  obtain ⟨yk, ya, yo, yc, ym⟩ := y
  have LKf : ∀ V, Below W.heap.size W V → (LK (.map (some gm)) (.int .i64 sh) false).run Tryz.prog V = .ok (.agg #[.int .u8 ya, .int .i64 yo, .int .i64 yk, .int .i64 yc, .int .i64 ym]) V := fun V hV => by
    have := (HP.out.below hV).look bh false
    rw [hy] at this
    exact this
  have SW : Hid (∀ V, Below W.heap.size W V → V.cell? ⟨p, 0, none⟩ = some (.map (some gm)) ∧ V.cell? ⟨w.heap.size, 1, none⟩ = some (.int .i64 sh) ∧ V.cell? ⟨w.heap.size, 2, none⟩ = some (.int .u8 sa) ∧ V.cell? ⟨w.heap.size, 3, none⟩ = some (.int .i64 sc) ∧ V.cell? ⟨w.heap.size, 4, none⟩ = some (.int .i64 so) ∧ V.cell? ⟨w.heap.size, 5, none⟩ = some (.int .i64 sd) ∧ V.cell? ⟨w.heap.size, 6, none⟩ = some (.int .i64 sm) ∧ (LDk ⟨w.heap.size, 0, none⟩).run Tryz.prog V = .ok (.agg #[.int .u8 sk, .int .i64 sh, .int .u8 sa, .int .i64 sc, .int .i64 so, .int .i64 sd, .int .i64 sm]) V ∧ (LK (.map (some gm)) (.int .i64 sh) false).run Tryz.prog V = .ok (.agg #[.int .u8 ya, .int .i64 yo, .int .i64 yk, .int .i64 yc, .int .i64 ym]) V) := fun V hV => ⟨(HP.out.below hV).c0, (KB.out.below hV).cell 1 _ rfl, (KB.out.below hV).cell 2 _ rfl, (KB.out.below hV).cell 3 _ rfl, (KB.out.below hV).cell 4 _ rfl, (KB.out.below hV).cell 5 _ rfl, (KB.out.below hV).cell 6 _ rfl, (LDk_run (s := ⟨sk, sh, sa, sc, so, sd, sm⟩) (KB.out.below hV)), LKf V hV⟩
  have CR : Hid (∀ V, Below W.heap.size W V → Calls Tryz.prog 79 #[.pointer (some ⟨p, 0, none⟩)] V fun e w' => e = .returned (.int .i64 (ur P)) ∧ w' = V) := fun V hV => unlessRoom_ok p gm gk P V (HP.out.below hV)
  obtain ⟨r, hr⟩ : ∃ r, ur P = r := ⟨_, rfl⟩
  rw [hr] at CR
  have CH := hid (unlessKey_ok p gm gk P ⟨sk, sh, sa, sc, so, sd, sm⟩ W HP.out hs)
  have CH : Hid (Calls Tryz.prog 60 #[.pointer (some ⟨p, 0, none⟩), .agg #[.int .u8 sk, .int .i64 sh, .int .u8 sa, .int .i64 sc, .int .i64 so, .int .i64 sd, .int .i64 sm]] W fun e w' => e = .returned (.int .i64 (uk P sh)) ∧ Below W.heap.size W w') := CH
  obtain ⟨u, hu⟩ : ∃ u, uk P sh = u := ⟨_, rfl⟩
  rw [hu] at CH
  obtain ⟨x0, x1, x2, x3, x4, x5, x6, x7, x8⟩ := SW.out W (Below.refl _ _)
  obtain ⟨R, hR⟩ : ∃ R, rBegin P ⟨sk, sh, sa, sc, so, sd, sm⟩ = R := ⟨_, rfl⟩
  have RE : Hid (rBegin P ⟨sk, sh, sa, sc, so, sd, sm⟩ = R) := hid hR
  rw [hR]
  unfold rBegin at hR
  try simp only [hu] at hR
  try simp only [hr] at hR
  try simp only [hyy] at hR
  clear LKf hy hyy hp hs HP hu hr
  by_cases hu0 : u = 0
  · subst hu0
    have hd0 : 0 < sd := hd0
    have h4 : 4 ≤ sa ∧ sa ≤ 7 := h4
    have mm : mos sa = 64 := by unfold mos; rw [if_neg (by omega), if_neg (by omega)]
    rw [mm] at hR
    by_cases h2 : 64 < sd
    · have E : Hid (R = 9) := hid (by rw [← hR]; (repeat' split) <;> first | rfl | omega | (exfalso; omega) | (simp_all; done))
      clear hR
      go_enter Tryz.func46, Tryz.ntmps46
      go_wp2_with fail
      clear hW
      refine CH.out.mono ?_
      rintro e W1 ⟨rfl, hb⟩
      have N1 : Hid (Below W.heap.size W W1) := hid hb
      clear hb
      obtain ⟨y0, y1, y2, y3, y4, y5, y6, y7, y8⟩ := SW.out W1 N1.out
      go_wp2_with fail
      refine (aofk_ok sa h4 _).mono ?_
      rintro e W2 ⟨gp, gr, gx, rfl, -, -, -, -, hb⟩
      have N2 : Hid (Below W.heap.size W W2) := hid (below_next N1.out hb)
      clear hb
      obtain ⟨U, hU⟩ : ∃ U, W2.alloc (.cells #[.int .i64 0, .bool false, .nilFunc, .nilFunc, .nilFunc, .nilFunc] 113) = U := ⟨_, rfl⟩
      have NU : Hid (Below W2.heap.size W2 U) := by rw [← hU]; exact below_alloc _ _
      have ku : Blk U W2.heap.size [.int .i64 0, .bool false, .nilFunc, .nilFunc, .nilFunc, .nilFunc] 113 := by rw [← hU]; exact Blk.newAt W2 _ _ _ W2.heap.size rfl rfl
      obtain ⟨V, s1, kv, hkv⟩ := SVa_run 64 true 125 136 139 140 #[] #[.pointer (some ⟨gp, 0, none⟩), .pointer (some ⟨gr, 0, none⟩)] #[.pointer (some ⟨gp, 0, none⟩), .pointer (some ⟨gr, 0, none⟩)] #[.pointer (some ⟨gp, 0, none⟩), .pointer (some ⟨gr, 0, none⟩), .pointer (some ⟨gx, 0, none⟩)] ku rfl
      have NV : Hid (Below W.heap.size W V) := hid (below_next N2.out (NU.out.trans (hkv.below NU.out.size (fun k h e => by omega))))
      have NV2 : Hid (Below W.heap.size W V.drew) := hid (below_next NV.out (below_drewN V 1))
      have kv2 := kv.below (below_drewN V 1)
      have q0 : V.drew.cell? ⟨W2.heap.size, 0, none⟩ = _ := kv2.cell 0 _ rfl
      have q1 : V.drew.cell? ⟨W2.heap.size, 1, none⟩ = _ := kv2.cell 1 _ rfl
      have q2 : V.drew.cell? ⟨W2.heap.size, 2, none⟩ = some (.func (.func 125) #[] #[]) := kv2.cell 2 _ rfl
      obtain ⟨v0, v1, v2, v3, v4, v5, v6, v7, v8⟩ := SW.out V.drew NV2.out
      have CK := hid (anyLength_ok yk)
      clear ku kv kv2 hkv y0 y1 y2 y3 y4 y5 y6 y7 y8
      go_wp2_with fail
      clear hU
      go_region_held3 (fun V => V.cell? ⟨W2.heap.size, 2, none⟩ = some (.func (.func 125) #[] #[]) ∧ V.cell? ⟨p, 0, none⟩ = some (.map (some gm)) ∧ V.cell? ⟨w.heap.size, 1, none⟩ = some (.int .i64 sh) ∧ V.cell? ⟨w.heap.size, 2, none⟩ = some (.int .u8 sa) ∧ V.cell? ⟨w.heap.size, 3, none⟩ = some (.int .i64 sc) ∧ V.cell? ⟨w.heap.size, 4, none⟩ = some (.int .i64 so) ∧ V.cell? ⟨w.heap.size, 5, none⟩ = some (.int .i64 sd) ∧ V.cell? ⟨w.heap.size, 6, none⟩ = some (.int .i64 sm) ∧ (LDk ⟨w.heap.size, 0, none⟩).run Tryz.prog V = .ok (.agg #[.int .u8 sk, .int .i64 sh, .int .u8 sa, .int .i64 sc, .int .i64 so, .int .i64 sd, .int .i64 sm]) V ∧ (LK (.map (some gm)) (.int .i64 sh) false).run Tryz.prog V = .ok (.agg #[.int .u8 ya, .int .i64 yo, .int .i64 yk, .int .i64 yc, .int .i64 ym]) V) (go_keep) (first
        | (go_at_call 125; with_reducible refine (CK.out _).mono ?_; rintro e W8 ⟨rfl, rfl⟩))
      go_wp2
      go_ret
      exact ⟨by rw [E.out]; rfl, below_next BW.out NV2.out⟩

    · by_cases h3 : so < 1
      · have E : Hid (R = 11) := hid (by rw [← hR]; (repeat' split) <;> first | rfl | omega | (exfalso; omega) | (simp_all; done))
        clear hR
        go_enter Tryz.func46, Tryz.ntmps46
        go_wp2_with fail
        clear hW
        refine CH.out.mono ?_
        rintro e W1 ⟨rfl, hb⟩
        have N1 : Hid (Below W.heap.size W W1) := hid hb
        clear hb
        obtain ⟨y0, y1, y2, y3, y4, y5, y6, y7, y8⟩ := SW.out W1 N1.out
        go_wp2_with fail
        refine (aofk_ok sa h4 _).mono ?_
        rintro e W2 ⟨gp, gr, gx, rfl, -, -, -, -, hb⟩
        have N2 : Hid (Below W.heap.size W W2) := hid (below_next N1.out hb)
        clear hb
        obtain ⟨U, hU⟩ : ∃ U, W2.alloc (.cells #[.int .i64 0, .bool false, .nilFunc, .nilFunc, .nilFunc, .nilFunc] 113) = U := ⟨_, rfl⟩
        have NU : Hid (Below W2.heap.size W2 U) := by rw [← hU]; exact below_alloc _ _
        have ku : Blk U W2.heap.size [.int .i64 0, .bool false, .nilFunc, .nilFunc, .nilFunc, .nilFunc] 113 := by rw [← hU]; exact Blk.newAt W2 _ _ _ W2.heap.size rfl rfl
        obtain ⟨V, s1, kv, hkv⟩ := SVa_run 64 true 125 136 139 140 #[] #[.pointer (some ⟨gp, 0, none⟩), .pointer (some ⟨gr, 0, none⟩)] #[.pointer (some ⟨gp, 0, none⟩), .pointer (some ⟨gr, 0, none⟩)] #[.pointer (some ⟨gp, 0, none⟩), .pointer (some ⟨gr, 0, none⟩), .pointer (some ⟨gx, 0, none⟩)] ku rfl
        have NV : Hid (Below W.heap.size W V) := hid (below_next N2.out (NU.out.trans (hkv.below NU.out.size (fun k h e => by omega))))
        have NV2 : Hid (Below W.heap.size W V.drew) := hid (below_next NV.out (below_drewN V 1))
        have kv2 := kv.below (below_drewN V 1)
        have q0 : V.drew.cell? ⟨W2.heap.size, 0, none⟩ = _ := kv2.cell 0 _ rfl
        have q1 : V.drew.cell? ⟨W2.heap.size, 1, none⟩ = _ := kv2.cell 1 _ rfl
        have q2 : V.drew.cell? ⟨W2.heap.size, 2, none⟩ = some (.func (.func 125) #[] #[]) := kv2.cell 2 _ rfl
        obtain ⟨v0, v1, v2, v3, v4, v5, v6, v7, v8⟩ := SW.out V.drew NV2.out
        have CK := hid (anyLength_ok yk)
        clear ku kv kv2 hkv y0 y1 y2 y3 y4 y5 y6 y7 y8
        go_wp2_with fail
        clear hU
        go_region_held3 (fun V => V.cell? ⟨W2.heap.size, 2, none⟩ = some (.func (.func 125) #[] #[]) ∧ V.cell? ⟨p, 0, none⟩ = some (.map (some gm)) ∧ V.cell? ⟨w.heap.size, 1, none⟩ = some (.int .i64 sh) ∧ V.cell? ⟨w.heap.size, 2, none⟩ = some (.int .u8 sa) ∧ V.cell? ⟨w.heap.size, 3, none⟩ = some (.int .i64 sc) ∧ V.cell? ⟨w.heap.size, 4, none⟩ = some (.int .i64 so) ∧ V.cell? ⟨w.heap.size, 5, none⟩ = some (.int .i64 sd) ∧ V.cell? ⟨w.heap.size, 6, none⟩ = some (.int .i64 sm) ∧ (LDk ⟨w.heap.size, 0, none⟩).run Tryz.prog V = .ok (.agg #[.int .u8 sk, .int .i64 sh, .int .u8 sa, .int .i64 sc, .int .i64 so, .int .i64 sd, .int .i64 sm]) V ∧ (LK (.map (some gm)) (.int .i64 sh) false).run Tryz.prog V = .ok (.agg #[.int .u8 ya, .int .i64 yo, .int .i64 yk, .int .i64 yc, .int .i64 ym]) V) (go_keep) (first
          | (go_at_call 125; with_reducible refine (CK.out _).mono ?_; rintro e W8 ⟨rfl, rfl⟩))
        go_wp2
        go_ret
        exact ⟨by rw [E.out]; rfl, below_next BW.out NV2.out⟩

      · by_cases h5 : 64 < so
        · have E : Hid (R = 11) := hid (by rw [← hR]; (repeat' split) <;> first | rfl | omega | (exfalso; omega) | (simp_all; done))
          clear hR
          go_enter Tryz.func46, Tryz.ntmps46
          go_wp2_with fail
          clear hW
          refine CH.out.mono ?_
          rintro e W1 ⟨rfl, hb⟩
          have N1 : Hid (Below W.heap.size W W1) := hid hb
          clear hb
          obtain ⟨y0, y1, y2, y3, y4, y5, y6, y7, y8⟩ := SW.out W1 N1.out
          go_wp2_with fail
          refine (aofk_ok sa h4 _).mono ?_
          rintro e W2 ⟨gp, gr, gx, rfl, -, -, -, -, hb⟩
          have N2 : Hid (Below W.heap.size W W2) := hid (below_next N1.out hb)
          clear hb
          obtain ⟨U, hU⟩ : ∃ U, W2.alloc (.cells #[.int .i64 0, .bool false, .nilFunc, .nilFunc, .nilFunc, .nilFunc] 113) = U := ⟨_, rfl⟩
          have NU : Hid (Below W2.heap.size W2 U) := by rw [← hU]; exact below_alloc _ _
          have ku : Blk U W2.heap.size [.int .i64 0, .bool false, .nilFunc, .nilFunc, .nilFunc, .nilFunc] 113 := by rw [← hU]; exact Blk.newAt W2 _ _ _ W2.heap.size rfl rfl
          obtain ⟨V, s1, kv, hkv⟩ := SVa_run 64 true 125 136 139 140 #[] #[.pointer (some ⟨gp, 0, none⟩), .pointer (some ⟨gr, 0, none⟩)] #[.pointer (some ⟨gp, 0, none⟩), .pointer (some ⟨gr, 0, none⟩)] #[.pointer (some ⟨gp, 0, none⟩), .pointer (some ⟨gr, 0, none⟩), .pointer (some ⟨gx, 0, none⟩)] ku rfl
          have NV : Hid (Below W.heap.size W V) := hid (below_next N2.out (NU.out.trans (hkv.below NU.out.size (fun k h e => by omega))))
          have NV2 : Hid (Below W.heap.size W V.drew) := hid (below_next NV.out (below_drewN V 1))
          have kv2 := kv.below (below_drewN V 1)
          have q0 : V.drew.cell? ⟨W2.heap.size, 0, none⟩ = _ := kv2.cell 0 _ rfl
          have q1 : V.drew.cell? ⟨W2.heap.size, 1, none⟩ = _ := kv2.cell 1 _ rfl
          have q2 : V.drew.cell? ⟨W2.heap.size, 2, none⟩ = some (.func (.func 125) #[] #[]) := kv2.cell 2 _ rfl
          obtain ⟨v0, v1, v2, v3, v4, v5, v6, v7, v8⟩ := SW.out V.drew NV2.out
          have CK := hid (anyLength_ok yk)
          clear ku kv kv2 hkv y0 y1 y2 y3 y4 y5 y6 y7 y8
          go_wp2_with fail
          clear hU
          go_region_held3 (fun V => V.cell? ⟨W2.heap.size, 2, none⟩ = some (.func (.func 125) #[] #[]) ∧ V.cell? ⟨p, 0, none⟩ = some (.map (some gm)) ∧ V.cell? ⟨w.heap.size, 1, none⟩ = some (.int .i64 sh) ∧ V.cell? ⟨w.heap.size, 2, none⟩ = some (.int .u8 sa) ∧ V.cell? ⟨w.heap.size, 3, none⟩ = some (.int .i64 sc) ∧ V.cell? ⟨w.heap.size, 4, none⟩ = some (.int .i64 so) ∧ V.cell? ⟨w.heap.size, 5, none⟩ = some (.int .i64 sd) ∧ V.cell? ⟨w.heap.size, 6, none⟩ = some (.int .i64 sm) ∧ (LDk ⟨w.heap.size, 0, none⟩).run Tryz.prog V = .ok (.agg #[.int .u8 sk, .int .i64 sh, .int .u8 sa, .int .i64 sc, .int .i64 so, .int .i64 sd, .int .i64 sm]) V ∧ (LK (.map (some gm)) (.int .i64 sh) false).run Tryz.prog V = .ok (.agg #[.int .u8 ya, .int .i64 yo, .int .i64 yk, .int .i64 yc, .int .i64 ym]) V) (go_keep) (first
            | (go_at_call 125; with_reducible refine (CK.out _).mono ?_; rintro e W8 ⟨rfl, rfl⟩))
          go_wp2
          go_ret
          exact ⟨by rw [E.out]; rfl, below_next BW.out NV2.out⟩

        · have E : Hid (R = r) := hid (by rw [← hR]; (repeat' split) <;> first | rfl | omega | (exfalso; omega) | (simp_all; done))
          clear hR
          go_enter Tryz.func46, Tryz.ntmps46
          go_wp2_with fail
          clear hW
          refine CH.out.mono ?_
          rintro e W1 ⟨rfl, hb⟩
          have N1 : Hid (Below W.heap.size W W1) := hid hb
          clear hb
          obtain ⟨y0, y1, y2, y3, y4, y5, y6, y7, y8⟩ := SW.out W1 N1.out
          go_wp2_with fail
          refine (aofk_ok sa h4 _).mono ?_
          rintro e W2 ⟨gp, gr, gx, rfl, -, -, -, -, hb⟩
          have N2 : Hid (Below W.heap.size W W2) := hid (below_next N1.out hb)
          clear hb
          obtain ⟨U, hU⟩ : ∃ U, W2.alloc (.cells #[.int .i64 0, .bool false, .nilFunc, .nilFunc, .nilFunc, .nilFunc] 113) = U := ⟨_, rfl⟩
          have NU : Hid (Below W2.heap.size W2 U) := by rw [← hU]; exact below_alloc _ _
          have ku : Blk U W2.heap.size [.int .i64 0, .bool false, .nilFunc, .nilFunc, .nilFunc, .nilFunc] 113 := by rw [← hU]; exact Blk.newAt W2 _ _ _ W2.heap.size rfl rfl
          obtain ⟨V, s1, kv, hkv⟩ := SVa_run 64 true 125 136 139 140 #[] #[.pointer (some ⟨gp, 0, none⟩), .pointer (some ⟨gr, 0, none⟩)] #[.pointer (some ⟨gp, 0, none⟩), .pointer (some ⟨gr, 0, none⟩)] #[.pointer (some ⟨gp, 0, none⟩), .pointer (some ⟨gr, 0, none⟩), .pointer (some ⟨gx, 0, none⟩)] ku rfl
          have NV : Hid (Below W.heap.size W V) := hid (below_next N2.out (NU.out.trans (hkv.below NU.out.size (fun k h e => by omega))))
          have NV2 : Hid (Below W.heap.size W V.drew) := hid (below_next NV.out (below_drewN V 1))
          have kv2 := kv.below (below_drewN V 1)
          have q0 : V.drew.cell? ⟨W2.heap.size, 0, none⟩ = _ := kv2.cell 0 _ rfl
          have q1 : V.drew.cell? ⟨W2.heap.size, 1, none⟩ = _ := kv2.cell 1 _ rfl
          have q2 : V.drew.cell? ⟨W2.heap.size, 2, none⟩ = some (.func (.func 125) #[] #[]) := kv2.cell 2 _ rfl
          obtain ⟨v0, v1, v2, v3, v4, v5, v6, v7, v8⟩ := SW.out V.drew NV2.out
          have CK := hid (anyLength_ok yk)
          clear ku kv kv2 hkv y0 y1 y2 y3 y4 y5 y6 y7 y8
          go_wp2_with fail
          clear hU
          go_region_held3 (fun V => V.cell? ⟨W2.heap.size, 2, none⟩ = some (.func (.func 125) #[] #[]) ∧ V.cell? ⟨p, 0, none⟩ = some (.map (some gm)) ∧ V.cell? ⟨w.heap.size, 1, none⟩ = some (.int .i64 sh) ∧ V.cell? ⟨w.heap.size, 2, none⟩ = some (.int .u8 sa) ∧ V.cell? ⟨w.heap.size, 3, none⟩ = some (.int .i64 sc) ∧ V.cell? ⟨w.heap.size, 4, none⟩ = some (.int .i64 so) ∧ V.cell? ⟨w.heap.size, 5, none⟩ = some (.int .i64 sd) ∧ V.cell? ⟨w.heap.size, 6, none⟩ = some (.int .i64 sm) ∧ (LDk ⟨w.heap.size, 0, none⟩).run Tryz.prog V = .ok (.agg #[.int .u8 sk, .int .i64 sh, .int .u8 sa, .int .i64 sc, .int .i64 so, .int .i64 sd, .int .i64 sm]) V ∧ (LK (.map (some gm)) (.int .i64 sh) false).run Tryz.prog V = .ok (.agg #[.int .u8 ya, .int .i64 yo, .int .i64 yk, .int .i64 yc, .int .i64 ym]) V) (go_keep) (first
            | (go_at_call 125; with_reducible refine (CK.out _).mono ?_; rintro e W8 ⟨rfl, rfl⟩))
          go_wp2_with fail
          refine (CR.out _ NV2.out).mono ?_
          rintro e W8 ⟨rfl, rfl⟩
          go_wp2
          go_ret
          exact ⟨by rw [E.out]; rfl, below_next BW.out NV2.out⟩




  · have hu1 : (u != 0) = true := by simpa using hu0
    have E : Hid (R = u) := hid (by rw [← hR]; (repeat' split) <;> first | rfl | omega | (exfalso; omega) | (simp_all; done))
    clear hR
    go_enter Tryz.func46, Tryz.ntmps46
    go_wp2_with fail
    clear hW
    refine CH.out.mono ?_
    rintro e W1 ⟨rfl, hb⟩
    have N1 : Hid (Below W.heap.size W W1) := hid hb
    clear hb
    go_wp2
    go_ret
    exact ⟨by rw [E.out]; rfl, below_next BW.out N1.out⟩
end Go.Proofs.YtdmacflcjbkkpaaGreat.Co
namespace Go.Proofs.YtdmacflcjbkkpaaGreat.Co
open Go.ChangeShapes Go.WideShapes Go.ChangeAt Go.RowKit
open Go.Proofs.YtdmacflcjbkkpaaGreat (putL)
open Go.Proofs.YtdmacflcjbkkpaaGreat.Ou (Sk sv sL LDk SVk LDk_run SVk_run)
open Go.Proofs.YtdmacflcjbkkpaaGreat.Tb (Blk Blk.newAt put_all Kp.setCells results_cell1 results_cell2)
set_option maxRecDepth 8000 in
set_option maxHeartbeats 16000000 in
theorem refuseBegin_kb (p gm gk : Nat) (P : St) (s : Sk) (w : World) (hp : PU w p gm gk P) (hs : Sk.Fit s) (h4 : 4 ≤ s.a ∧ s.a ≤ 7) (hd0 : ¬ 0 < s.d) :
    Calls Tryz.prog 46 #[.pointer (some ⟨p, 0, none⟩), sv s] w fun e w' => e = .returned (.int .i64 (rBegin P s)) ∧ Below w.heap.size w w' := by
  obtain ⟨sk, sh, sa, sc, so, sd, sm⟩ := s
  have bh : -9223372036854775808 ≤ sh ∧ sh ≤ 9223372036854775807 := hs.h
  have bc : -9223372036854775808 ≤ sc ∧ sc ≤ 9223372036854775807 := hs.c
  have bo : -9223372036854775808 ≤ so ∧ so ≤ 9223372036854775807 := hs.o
  have bd' : 0 ≤ sd ∧ sd ≤ 9223372036854775807 := hs.d
  have bm : 0 ≤ sm ∧ sm ≤ 9223372036854775807 := hs.m
  obtain ⟨W, hW⟩ : ∃ W, w.alloc (.cells #[.int .u8 sk, .int .i64 sh, .int .u8 sa, .int .i64 sc, .int .i64 so, .int .i64 sd, .int .i64 sm] 40) = W := ⟨_, rfl⟩
  have BW : Hid (Below w.heap.size w W) := by rw [← hW]; exact below_alloc _ _
  have KB : Hid (Blk W w.heap.size [.int .u8 sk, .int .i64 sh, .int .u8 sa, .int .i64 sc, .int .i64 so, .int .i64 sd, .int .i64 sm] 40) := by rw [← hW]; exact Blk.newAt w _ _ _ w.heap.size rfl rfl
  have HP := hid (hp.below BW.out)
  obtain ⟨y, hy⟩ : ∃ y, (hat P sh).getD h0 = y := ⟨_, rfl⟩
  have hyy : yy P sh = y := hy
  obtain ⟨yk, ya, yo, yc, ym⟩ := y
  have LKf : ∀ V, Below W.heap.size W V → (LK (.map (some gm)) (.int .i64 sh) false).run Tryz.prog V = .ok (.agg #[.int .u8 ya, .int .i64 yo, .int .i64 yk, .int .i64 yc, .int .i64 ym]) V := fun V hV => by
    have := (HP.out.below hV).look bh false
    rw [hy] at this
    exact this
  have SW : Hid (∀ V, Below W.heap.size W V → V.cell? ⟨p, 0, none⟩ = some (.map (some gm)) ∧ V.cell? ⟨w.heap.size, 1, none⟩ = some (.int .i64 sh) ∧ V.cell? ⟨w.heap.size, 2, none⟩ = some (.int .u8 sa) ∧ V.cell? ⟨w.heap.size, 3, none⟩ = some (.int .i64 sc) ∧ V.cell? ⟨w.heap.size, 4, none⟩ = some (.int .i64 so) ∧ V.cell? ⟨w.heap.size, 5, none⟩ = some (.int .i64 sd) ∧ V.cell? ⟨w.heap.size, 6, none⟩ = some (.int .i64 sm) ∧ (LDk ⟨w.heap.size, 0, none⟩).run Tryz.prog V = .ok (.agg #[.int .u8 sk, .int .i64 sh, .int .u8 sa, .int .i64 sc, .int .i64 so, .int .i64 sd, .int .i64 sm]) V ∧ (LK (.map (some gm)) (.int .i64 sh) false).run Tryz.prog V = .ok (.agg #[.int .u8 ya, .int .i64 yo, .int .i64 yk, .int .i64 yc, .int .i64 ym]) V) := fun V hV => ⟨(HP.out.below hV).c0, (KB.out.below hV).cell 1 _ rfl, (KB.out.below hV).cell 2 _ rfl, (KB.out.below hV).cell 3 _ rfl, (KB.out.below hV).cell 4 _ rfl, (KB.out.below hV).cell 5 _ rfl, (KB.out.below hV).cell 6 _ rfl, (LDk_run (s := ⟨sk, sh, sa, sc, so, sd, sm⟩) (KB.out.below hV)), LKf V hV⟩
  have CR : Hid (∀ V, Below W.heap.size W V → Calls Tryz.prog 79 #[.pointer (some ⟨p, 0, none⟩)] V fun e w' => e = .returned (.int .i64 (ur P)) ∧ w' = V) := fun V hV => unlessRoom_ok p gm gk P V (HP.out.below hV)
  obtain ⟨r, hr⟩ : ∃ r, ur P = r := ⟨_, rfl⟩
  rw [hr] at CR
  have CH := hid (unlessKey_ok p gm gk P ⟨sk, sh, sa, sc, so, sd, sm⟩ W HP.out hs)
  have CH : Hid (Calls Tryz.prog 60 #[.pointer (some ⟨p, 0, none⟩), .agg #[.int .u8 sk, .int .i64 sh, .int .u8 sa, .int .i64 sc, .int .i64 so, .int .i64 sd, .int .i64 sm]] W fun e w' => e = .returned (.int .i64 (uk P sh)) ∧ Below W.heap.size W w') := CH
  obtain ⟨u, hu⟩ : ∃ u, uk P sh = u := ⟨_, rfl⟩
  rw [hu] at CH
  obtain ⟨x0, x1, x2, x3, x4, x5, x6, x7, x8⟩ := SW.out W (Below.refl _ _)
  obtain ⟨R, hR⟩ : ∃ R, rBegin P ⟨sk, sh, sa, sc, so, sd, sm⟩ = R := ⟨_, rfl⟩
  have RE : Hid (rBegin P ⟨sk, sh, sa, sc, so, sd, sm⟩ = R) := hid hR
  rw [hR]
  unfold rBegin at hR
  try simp only [hu] at hR
  try simp only [hr] at hR
  try simp only [hyy] at hR
  clear LKf hy hyy hp hs HP hu hr
  by_cases hu0 : u = 0
  · subst hu0
    have hd0 : ¬ 0 < sd := hd0
    have h4 : 4 ≤ sa ∧ sa ≤ 7 := h4
    have mm : mos sa = 64 := by unfold mos; rw [if_neg (by omega), if_neg (by omega)]
    rw [mm] at hR
    by_cases h3 : so < 1
    · have E : Hid (R = 11) := hid (by rw [← hR]; (repeat' split) <;> first | rfl | omega | (exfalso; omega) | (simp_all; done))
      clear hR
      go_enter Tryz.func46, Tryz.ntmps46
      go_wp2_with fail
      clear hW
      refine CH.out.mono ?_
      rintro e W1 ⟨rfl, hb⟩
      have N1 : Hid (Below W.heap.size W W1) := hid hb
      clear hb
      obtain ⟨y0, y1, y2, y3, y4, y5, y6, y7, y8⟩ := SW.out W1 N1.out
      go_wp2_with fail
      refine (aofk_ok sa h4 _).mono ?_
      rintro e W2 ⟨gp, gr, gx, rfl, -, -, -, -, hb⟩
      have N2 : Hid (Below W.heap.size W W2) := hid (below_next N1.out hb)
      clear hb
      obtain ⟨U, hU⟩ : ∃ U, W2.alloc (.cells #[.int .i64 0, .bool false, .nilFunc, .nilFunc, .nilFunc, .nilFunc] 113) = U := ⟨_, rfl⟩
      have NU : Hid (Below W2.heap.size W2 U) := by rw [← hU]; exact below_alloc _ _
      have ku : Blk U W2.heap.size [.int .i64 0, .bool false, .nilFunc, .nilFunc, .nilFunc, .nilFunc] 113 := by rw [← hU]; exact Blk.newAt W2 _ _ _ W2.heap.size rfl rfl
      obtain ⟨V, s1, kv, hkv⟩ := SVa_run 64 true 125 136 139 140 #[] #[.pointer (some ⟨gp, 0, none⟩), .pointer (some ⟨gr, 0, none⟩)] #[.pointer (some ⟨gp, 0, none⟩), .pointer (some ⟨gr, 0, none⟩)] #[.pointer (some ⟨gp, 0, none⟩), .pointer (some ⟨gr, 0, none⟩), .pointer (some ⟨gx, 0, none⟩)] ku rfl
      have NV : Hid (Below W.heap.size W V) := hid (below_next N2.out (NU.out.trans (hkv.below NU.out.size (fun k h e => by omega))))
      have NV2 : Hid (Below W.heap.size W V.drew) := hid (below_next NV.out (below_drewN V 1))
      have kv2 := kv.below (below_drewN V 1)
      have q0 : V.drew.cell? ⟨W2.heap.size, 0, none⟩ = _ := kv2.cell 0 _ rfl
      have q1 : V.drew.cell? ⟨W2.heap.size, 1, none⟩ = _ := kv2.cell 1 _ rfl
      have q2 : V.drew.cell? ⟨W2.heap.size, 2, none⟩ = some (.func (.func 125) #[] #[]) := kv2.cell 2 _ rfl
      obtain ⟨v0, v1, v2, v3, v4, v5, v6, v7, v8⟩ := SW.out V.drew NV2.out
      have CK := hid (anyLength_ok yk)
      clear ku kv kv2 hkv y0 y1 y2 y3 y4 y5 y6 y7 y8
      go_wp2_with fail
      clear hU
      go_region_held3 (fun V => V.cell? ⟨W2.heap.size, 2, none⟩ = some (.func (.func 125) #[] #[]) ∧ V.cell? ⟨p, 0, none⟩ = some (.map (some gm)) ∧ V.cell? ⟨w.heap.size, 1, none⟩ = some (.int .i64 sh) ∧ V.cell? ⟨w.heap.size, 2, none⟩ = some (.int .u8 sa) ∧ V.cell? ⟨w.heap.size, 3, none⟩ = some (.int .i64 sc) ∧ V.cell? ⟨w.heap.size, 4, none⟩ = some (.int .i64 so) ∧ V.cell? ⟨w.heap.size, 5, none⟩ = some (.int .i64 sd) ∧ V.cell? ⟨w.heap.size, 6, none⟩ = some (.int .i64 sm) ∧ (LDk ⟨w.heap.size, 0, none⟩).run Tryz.prog V = .ok (.agg #[.int .u8 sk, .int .i64 sh, .int .u8 sa, .int .i64 sc, .int .i64 so, .int .i64 sd, .int .i64 sm]) V ∧ (LK (.map (some gm)) (.int .i64 sh) false).run Tryz.prog V = .ok (.agg #[.int .u8 ya, .int .i64 yo, .int .i64 yk, .int .i64 yc, .int .i64 ym]) V) (go_keep) (first
        | (go_at_call 125; with_reducible refine (CK.out _).mono ?_; rintro e W8 ⟨rfl, rfl⟩))
      go_wp2
      go_ret
      exact ⟨by rw [E.out]; rfl, below_next BW.out NV2.out⟩

    · by_cases h5 : 64 < so
      · have E : Hid (R = 11) := hid (by rw [← hR]; (repeat' split) <;> first | rfl | omega | (exfalso; omega) | (simp_all; done))
        clear hR
        go_enter Tryz.func46, Tryz.ntmps46
        go_wp2_with fail
        clear hW
        refine CH.out.mono ?_
        rintro e W1 ⟨rfl, hb⟩
        have N1 : Hid (Below W.heap.size W W1) := hid hb
        clear hb
        obtain ⟨y0, y1, y2, y3, y4, y5, y6, y7, y8⟩ := SW.out W1 N1.out
        go_wp2_with fail
        refine (aofk_ok sa h4 _).mono ?_
        rintro e W2 ⟨gp, gr, gx, rfl, -, -, -, -, hb⟩
        have N2 : Hid (Below W.heap.size W W2) := hid (below_next N1.out hb)
        clear hb
        obtain ⟨U, hU⟩ : ∃ U, W2.alloc (.cells #[.int .i64 0, .bool false, .nilFunc, .nilFunc, .nilFunc, .nilFunc] 113) = U := ⟨_, rfl⟩
        have NU : Hid (Below W2.heap.size W2 U) := by rw [← hU]; exact below_alloc _ _
        have ku : Blk U W2.heap.size [.int .i64 0, .bool false, .nilFunc, .nilFunc, .nilFunc, .nilFunc] 113 := by rw [← hU]; exact Blk.newAt W2 _ _ _ W2.heap.size rfl rfl
        obtain ⟨V, s1, kv, hkv⟩ := SVa_run 64 true 125 136 139 140 #[] #[.pointer (some ⟨gp, 0, none⟩), .pointer (some ⟨gr, 0, none⟩)] #[.pointer (some ⟨gp, 0, none⟩), .pointer (some ⟨gr, 0, none⟩)] #[.pointer (some ⟨gp, 0, none⟩), .pointer (some ⟨gr, 0, none⟩), .pointer (some ⟨gx, 0, none⟩)] ku rfl
        have NV : Hid (Below W.heap.size W V) := hid (below_next N2.out (NU.out.trans (hkv.below NU.out.size (fun k h e => by omega))))
        have NV2 : Hid (Below W.heap.size W V.drew) := hid (below_next NV.out (below_drewN V 1))
        have kv2 := kv.below (below_drewN V 1)
        have q0 : V.drew.cell? ⟨W2.heap.size, 0, none⟩ = _ := kv2.cell 0 _ rfl
        have q1 : V.drew.cell? ⟨W2.heap.size, 1, none⟩ = _ := kv2.cell 1 _ rfl
        have q2 : V.drew.cell? ⟨W2.heap.size, 2, none⟩ = some (.func (.func 125) #[] #[]) := kv2.cell 2 _ rfl
        obtain ⟨v0, v1, v2, v3, v4, v5, v6, v7, v8⟩ := SW.out V.drew NV2.out
        have CK := hid (anyLength_ok yk)
        clear ku kv kv2 hkv y0 y1 y2 y3 y4 y5 y6 y7 y8
        go_wp2_with fail
        clear hU
        go_region_held3 (fun V => V.cell? ⟨W2.heap.size, 2, none⟩ = some (.func (.func 125) #[] #[]) ∧ V.cell? ⟨p, 0, none⟩ = some (.map (some gm)) ∧ V.cell? ⟨w.heap.size, 1, none⟩ = some (.int .i64 sh) ∧ V.cell? ⟨w.heap.size, 2, none⟩ = some (.int .u8 sa) ∧ V.cell? ⟨w.heap.size, 3, none⟩ = some (.int .i64 sc) ∧ V.cell? ⟨w.heap.size, 4, none⟩ = some (.int .i64 so) ∧ V.cell? ⟨w.heap.size, 5, none⟩ = some (.int .i64 sd) ∧ V.cell? ⟨w.heap.size, 6, none⟩ = some (.int .i64 sm) ∧ (LDk ⟨w.heap.size, 0, none⟩).run Tryz.prog V = .ok (.agg #[.int .u8 sk, .int .i64 sh, .int .u8 sa, .int .i64 sc, .int .i64 so, .int .i64 sd, .int .i64 sm]) V ∧ (LK (.map (some gm)) (.int .i64 sh) false).run Tryz.prog V = .ok (.agg #[.int .u8 ya, .int .i64 yo, .int .i64 yk, .int .i64 yc, .int .i64 ym]) V) (go_keep) (first
          | (go_at_call 125; with_reducible refine (CK.out _).mono ?_; rintro e W8 ⟨rfl, rfl⟩))
        go_wp2
        go_ret
        exact ⟨by rw [E.out]; rfl, below_next BW.out NV2.out⟩

      · have E : Hid (R = r) := hid (by rw [← hR]; (repeat' split) <;> first | rfl | omega | (exfalso; omega) | (simp_all; done))
        clear hR
        go_enter Tryz.func46, Tryz.ntmps46
        go_wp2_with fail
        clear hW
        refine CH.out.mono ?_
        rintro e W1 ⟨rfl, hb⟩
        have N1 : Hid (Below W.heap.size W W1) := hid hb
        clear hb
        obtain ⟨y0, y1, y2, y3, y4, y5, y6, y7, y8⟩ := SW.out W1 N1.out
        go_wp2_with fail
        refine (aofk_ok sa h4 _).mono ?_
        rintro e W2 ⟨gp, gr, gx, rfl, -, -, -, -, hb⟩
        have N2 : Hid (Below W.heap.size W W2) := hid (below_next N1.out hb)
        clear hb
        obtain ⟨U, hU⟩ : ∃ U, W2.alloc (.cells #[.int .i64 0, .bool false, .nilFunc, .nilFunc, .nilFunc, .nilFunc] 113) = U := ⟨_, rfl⟩
        have NU : Hid (Below W2.heap.size W2 U) := by rw [← hU]; exact below_alloc _ _
        have ku : Blk U W2.heap.size [.int .i64 0, .bool false, .nilFunc, .nilFunc, .nilFunc, .nilFunc] 113 := by rw [← hU]; exact Blk.newAt W2 _ _ _ W2.heap.size rfl rfl
        obtain ⟨V, s1, kv, hkv⟩ := SVa_run 64 true 125 136 139 140 #[] #[.pointer (some ⟨gp, 0, none⟩), .pointer (some ⟨gr, 0, none⟩)] #[.pointer (some ⟨gp, 0, none⟩), .pointer (some ⟨gr, 0, none⟩)] #[.pointer (some ⟨gp, 0, none⟩), .pointer (some ⟨gr, 0, none⟩), .pointer (some ⟨gx, 0, none⟩)] ku rfl
        have NV : Hid (Below W.heap.size W V) := hid (below_next N2.out (NU.out.trans (hkv.below NU.out.size (fun k h e => by omega))))
        have NV2 : Hid (Below W.heap.size W V.drew) := hid (below_next NV.out (below_drewN V 1))
        have kv2 := kv.below (below_drewN V 1)
        have q0 : V.drew.cell? ⟨W2.heap.size, 0, none⟩ = _ := kv2.cell 0 _ rfl
        have q1 : V.drew.cell? ⟨W2.heap.size, 1, none⟩ = _ := kv2.cell 1 _ rfl
        have q2 : V.drew.cell? ⟨W2.heap.size, 2, none⟩ = some (.func (.func 125) #[] #[]) := kv2.cell 2 _ rfl
        obtain ⟨v0, v1, v2, v3, v4, v5, v6, v7, v8⟩ := SW.out V.drew NV2.out
        have CK := hid (anyLength_ok yk)
        clear ku kv kv2 hkv y0 y1 y2 y3 y4 y5 y6 y7 y8
        go_wp2_with fail
        clear hU
        go_region_held3 (fun V => V.cell? ⟨W2.heap.size, 2, none⟩ = some (.func (.func 125) #[] #[]) ∧ V.cell? ⟨p, 0, none⟩ = some (.map (some gm)) ∧ V.cell? ⟨w.heap.size, 1, none⟩ = some (.int .i64 sh) ∧ V.cell? ⟨w.heap.size, 2, none⟩ = some (.int .u8 sa) ∧ V.cell? ⟨w.heap.size, 3, none⟩ = some (.int .i64 sc) ∧ V.cell? ⟨w.heap.size, 4, none⟩ = some (.int .i64 so) ∧ V.cell? ⟨w.heap.size, 5, none⟩ = some (.int .i64 sd) ∧ V.cell? ⟨w.heap.size, 6, none⟩ = some (.int .i64 sm) ∧ (LDk ⟨w.heap.size, 0, none⟩).run Tryz.prog V = .ok (.agg #[.int .u8 sk, .int .i64 sh, .int .u8 sa, .int .i64 sc, .int .i64 so, .int .i64 sd, .int .i64 sm]) V ∧ (LK (.map (some gm)) (.int .i64 sh) false).run Tryz.prog V = .ok (.agg #[.int .u8 ya, .int .i64 yo, .int .i64 yk, .int .i64 yc, .int .i64 ym]) V) (go_keep) (first
          | (go_at_call 125; with_reducible refine (CK.out _).mono ?_; rintro e W8 ⟨rfl, rfl⟩))
        go_wp2_with fail
        refine (CR.out _ NV2.out).mono ?_
        rintro e W8 ⟨rfl, rfl⟩
        go_wp2
        go_ret
        exact ⟨by rw [E.out]; rfl, below_next BW.out NV2.out⟩



  · have hu1 : (u != 0) = true := by simpa using hu0
    have E : Hid (R = u) := hid (by rw [← hR]; (repeat' split) <;> first | rfl | omega | (exfalso; omega) | (simp_all; done))
    clear hR
    go_enter Tryz.func46, Tryz.ntmps46
    go_wp2_with fail
    clear hW
    refine CH.out.mono ?_
    rintro e W1 ⟨rfl, hb⟩
    have N1 : Hid (Below W.heap.size W W1) := hid hb
    clear hb
    go_wp2
    go_ret
    exact ⟨by rw [E.out]; rfl, below_next BW.out N1.out⟩
end Go.Proofs.YtdmacflcjbkkpaaGreat.Co
namespace Go.Proofs.YtdmacflcjbkkpaaGreat.Co
open Go.ChangeShapes Go.WideShapes Go.ChangeAt Go.RowKit
open Go.Proofs.YtdmacflcjbkkpaaGreat (putL)
open Go.Proofs.YtdmacflcjbkkpaaGreat.Ou (Sk sv sL LDk SVk LDk_run SVk_run)
open Go.Proofs.YtdmacflcjbkkpaaGreat.Tb (Blk Blk.newAt put_all Kp.setCells results_cell1 results_cell2)
theorem refuseBegin_ok (p gm gk : Nat) (P : St) (s : Sk) (w : World) (hp : PU w p gm gk P) (hs : Sk.Fit s) :
    Calls Tryz.prog 46 #[.pointer (some ⟨p, 0, none⟩), sv s] w fun e w' => e = .returned (.int .i64 (rBegin P s)) ∧ Below w.heap.size w w' := by
  by_cases n0 : 1 ≤ s.a ∧ s.a ≤ 7
  · by_cases a1 : s.a = 1
    · exact refuseBegin_h1 p gm gk P s w hp hs a1
    by_cases a2 : s.a = 2
    · exact refuseBegin_h2 p gm gk P s w hp hs a2
    by_cases a3 : s.a = 3
    · exact refuseBegin_c p gm gk P s w hp hs a3
    by_cases h0 : 0 < s.d
    · exact refuseBegin_ka p gm gk P s w hp hs (by omega) h0
    · exact refuseBegin_kb p gm gk P s w hp hs (by omega) h0
  · exact refuseBegin_no p gm gk P s w hp hs n0
end Go.Proofs.YtdmacflcjbkkpaaGreat.Co
