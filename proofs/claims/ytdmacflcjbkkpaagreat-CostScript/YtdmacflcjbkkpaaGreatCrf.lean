/- What refuses an operation, kind by kind. -/
import Derived.Test.YtdmacflcjbkkpaaGreatCao
namespace Go.Proofs.YtdmacflcjbkkpaaGreat.Co
open Go.ChangeShapes Go.WideShapes Go.ChangeAt Go.RowKit
open Go.Proofs.YtdmacflcjbkkpaaGreat (putL)
open Go.Proofs.YtdmacflcjbkkpaaGreat.Ou (Sk sv sL LDk SVk LDk_run SVk_run)
open Go.Proofs.YtdmacflcjbkkpaaGreat.Tb (Blk Blk.newAt put_all Kp.setCells results_cell1 results_cell2)
def yy (P : St) (x : Int) : He := (hat P x).getD h0
def rPut (P : St) (s : Sk) : Int := if 512 < s.d then 7 else ur P
def rBegin (P : St) (s : Sk) : Int := if uk P s.h ≠ 0 then uk P s.h else if s.a < 1 ∨ 7 < s.a then 4 else if s.a = 3 ∧ (yy P s.h).key ≠ 16 ∧ (yy P s.h).key ≠ 24 ∧ (yy P s.h).key ≠ 32 then 7 else if 0 < s.d ∧ ¬ (4 ≤ s.a ∧ s.a ≤ 7) then 2 else if 64 < s.d then 9 else if s.o < 1 ∨ mos s.a < s.o then 11 else ur P
def rUpdate (P : St) (s : Sk) : Int := if us P s.h ≠ 0 then us P s.h else if 65536 < s.d then 9 else 0
def rVerify (P : St) (s : Sk) : Int := if us P s.h ≠ 0 then us P s.h else if s.d ≠ (yy P s.h).out then 11 else 0
def rClone (P : St) (s : Sk) : Int := if uh P s.h ≠ 0 then uh P s.h else ur P
def rHkdf (P : St) (s : Sk) : Int := if uk P s.h ≠ 0 then uk P s.h else if sz s.a = 0 then 4 else if 65536 < s.d ∨ 65536 < s.m ∨ 255 * sz s.a < s.o then 9 else if s.o < 1 ∨ 512 < s.o then 7 else ur P
def rPbkdf (P : St) (s : Sk) : Int := if uk P s.h ≠ 0 then uk P s.h else if sz s.a = 0 then 4 else if 65536 < s.d ∨ 4294967295 * sz s.a < s.o then 9 else if s.c < 1 ∨ 1048576 < s.c then 10 else if s.o < 1 ∨ 512 < s.o then 7 else ur P
theorem ur_b (P : St) : ur P = 8 ∨ ur P = 0 := by unfold ur; split <;> simp
set_option maxRecDepth 8000 in
set_option maxHeartbeats 1600000 in
theorem refusePut_ok (p gm gk : Nat) (P : St) (s : Sk) (w : World) (hp : PU w p gm gk P) (hs : Sk.Fit s) :
    Calls Tryz.prog 44 #[.pointer (some ⟨p, 0, none⟩), sv s] w fun e w' => e = .returned (.int .i64 (rPut P s)) ∧ Below w.heap.size w w' := by
  obtain ⟨sk, sh, sa, sc, so, sd, sm⟩ := s
  have bh : -9223372036854775808 ≤ sh ∧ sh ≤ 9223372036854775807 := hs.h
  have bc : -9223372036854775808 ≤ sc ∧ sc ≤ 9223372036854775807 := hs.c
  have bo : -9223372036854775808 ≤ so ∧ so ≤ 9223372036854775807 := hs.o
  have bd' : 0 ≤ sd ∧ sd ≤ 9223372036854775807 := hs.d
  have bm : 0 ≤ sm ∧ sm ≤ 9223372036854775807 := hs.m
  obtain ⟨W, hW⟩ : ∃ W, w.alloc (.cells #[.int .u8 sk, .int .i64 sh, .int .u8 sa, .int .i64 sc, .int .i64 so, .int .i64 sd, .int .i64 sm] 40) = W := ⟨_, rfl⟩
  have BW : Hid (Below w.heap.size w W) := by rw [← hW]; exact below_alloc _ _
  have KB : Hid (Blk W w.heap.size [.int .u8 sk, .int .i64 sh, .int .u8 sa, .int .i64 sc, .int .i64 so, .int .i64 sd, .int .i64 sm] 40) := by rw [← hW]; exact Blk.newAt w _ _ _ w.heap.size rfl rfl
  have HP := hid (hp.below BW.out)
  obtain ⟨y, hy⟩ : ∃ y, (hat P sh).getD h0 = y := ⟨_, rfl⟩
  have hyy : yy P sh = y := hy
  obtain ⟨yk, ya, yo, yc, ym⟩ := y
  have LKf : ∀ V, Below W.heap.size W V → (LK (.map (some gm)) (.int .i64 sh) false).run Tryz.prog V = .ok (.agg #[.int .u8 ya, .int .i64 yo, .int .i64 yk, .int .i64 yc, .int .i64 ym]) V := fun V hV => by
    have := (HP.out.below hV).look bh false
    rw [hy] at this
    exact this
  have SW : Hid (∀ V, Below W.heap.size W V → V.cell? ⟨p, 0, none⟩ = some (.map (some gm)) ∧ V.cell? ⟨w.heap.size, 1, none⟩ = some (.int .i64 sh) ∧ V.cell? ⟨w.heap.size, 2, none⟩ = some (.int .u8 sa) ∧ V.cell? ⟨w.heap.size, 3, none⟩ = some (.int .i64 sc) ∧ V.cell? ⟨w.heap.size, 4, none⟩ = some (.int .i64 so) ∧ V.cell? ⟨w.heap.size, 5, none⟩ = some (.int .i64 sd) ∧ V.cell? ⟨w.heap.size, 6, none⟩ = some (.int .i64 sm) ∧ (LDk ⟨w.heap.size, 0, none⟩).run Tryz.prog V = .ok (.agg #[.int .u8 sk, .int .i64 sh, .int .u8 sa, .int .i64 sc, .int .i64 so, .int .i64 sd, .int .i64 sm]) V ∧ (LK (.map (some gm)) (.int .i64 sh) false).run Tryz.prog V = .ok (.agg #[.int .u8 ya, .int .i64 yo, .int .i64 yk, .int .i64 yc, .int .i64 ym]) V) := fun V hV => ⟨(HP.out.below hV).c0, (KB.out.below hV).cell 1 _ rfl, (KB.out.below hV).cell 2 _ rfl, (KB.out.below hV).cell 3 _ rfl, (KB.out.below hV).cell 4 _ rfl, (KB.out.below hV).cell 5 _ rfl, (KB.out.below hV).cell 6 _ rfl, (LDk_run (s := ⟨sk, sh, sa, sc, so, sd, sm⟩) (KB.out.below hV)), LKf V hV⟩
  have CR : Hid (∀ V, Below W.heap.size W V → Calls Tryz.prog 79 #[.pointer (some ⟨p, 0, none⟩)] V fun e w' => e = .returned (.int .i64 (ur P)) ∧ w' = V) := fun V hV => unlessRoom_ok p gm gk P V (HP.out.below hV)
  obtain ⟨r, hr⟩ : ∃ r, ur P = r := ⟨_, rfl⟩
  rw [hr] at CR
  obtain ⟨x0, x1, x2, x3, x4, x5, x6, x7, x8⟩ := SW.out W (Below.refl _ _)
  obtain ⟨R, hR⟩ : ∃ R, rPut P ⟨sk, sh, sa, sc, so, sd, sm⟩ = R := ⟨_, rfl⟩
  have RE : Hid (rPut P ⟨sk, sh, sa, sc, so, sd, sm⟩ = R) := hid hR
  rw [hR]
  unfold rPut at hR
  try simp only [hr] at hR
  try simp only [hyy] at hR
  clear LKf hy hyy hp hs HP  hr
  by_cases h1 : 512 < sd
  · have E : Hid (R = 7) := hid (by rw [← hR]; (repeat' split) <;> first | rfl | omega | (exfalso; omega) | (simp_all; done))
    go_enter Tryz.func44, Tryz.ntmps44
    go_wp2
    go_ret
    exact ⟨by rw [E.out]; rfl, BW.out⟩
  · have E : Hid (R = r) := hid (by rw [← hR]; (repeat' split) <;> first | rfl | omega | (exfalso; omega) | (simp_all; done))
    go_enter Tryz.func44, Tryz.ntmps44
    go_wp2_with fail
    clear hW
    refine (CR.out _ (Below.refl _ _)).mono ?_
    rintro e W8 ⟨rfl, rfl⟩
    go_wp2
    go_ret
    exact ⟨by rw [E.out]; rfl, BW.out⟩
set_option maxRecDepth 8000 in
set_option maxHeartbeats 1600000 in
theorem refuseUpdate_ok (p gm gk : Nat) (P : St) (s : Sk) (w : World) (hp : PU w p gm gk P) (hs : Sk.Fit s) :
    Calls Tryz.prog 48 #[.pointer (some ⟨p, 0, none⟩), sv s] w fun e w' => e = .returned (.int .i64 (rUpdate P s)) ∧ Below w.heap.size w w' := by
  obtain ⟨sk, sh, sa, sc, so, sd, sm⟩ := s
  have bh : -9223372036854775808 ≤ sh ∧ sh ≤ 9223372036854775807 := hs.h
  have bc : -9223372036854775808 ≤ sc ∧ sc ≤ 9223372036854775807 := hs.c
  have bo : -9223372036854775808 ≤ so ∧ so ≤ 9223372036854775807 := hs.o
  have bd' : 0 ≤ sd ∧ sd ≤ 9223372036854775807 := hs.d
  have bm : 0 ≤ sm ∧ sm ≤ 9223372036854775807 := hs.m
  obtain ⟨W, hW⟩ : ∃ W, w.alloc (.cells #[.int .u8 sk, .int .i64 sh, .int .u8 sa, .int .i64 sc, .int .i64 so, .int .i64 sd, .int .i64 sm] 40) = W := ⟨_, rfl⟩
  have BW : Hid (Below w.heap.size w W) := by rw [← hW]; exact below_alloc _ _
  have KB : Hid (Blk W w.heap.size [.int .u8 sk, .int .i64 sh, .int .u8 sa, .int .i64 sc, .int .i64 so, .int .i64 sd, .int .i64 sm] 40) := by rw [← hW]; exact Blk.newAt w _ _ _ w.heap.size rfl rfl
  have HP := hid (hp.below BW.out)
  obtain ⟨y, hy⟩ : ∃ y, (hat P sh).getD h0 = y := ⟨_, rfl⟩
  have hyy : yy P sh = y := hy
  obtain ⟨yk, ya, yo, yc, ym⟩ := y
  have LKf : ∀ V, Below W.heap.size W V → (LK (.map (some gm)) (.int .i64 sh) false).run Tryz.prog V = .ok (.agg #[.int .u8 ya, .int .i64 yo, .int .i64 yk, .int .i64 yc, .int .i64 ym]) V := fun V hV => by
    have := (HP.out.below hV).look bh false
    rw [hy] at this
    exact this
  have SW : Hid (∀ V, Below W.heap.size W V → V.cell? ⟨p, 0, none⟩ = some (.map (some gm)) ∧ V.cell? ⟨w.heap.size, 1, none⟩ = some (.int .i64 sh) ∧ V.cell? ⟨w.heap.size, 2, none⟩ = some (.int .u8 sa) ∧ V.cell? ⟨w.heap.size, 3, none⟩ = some (.int .i64 sc) ∧ V.cell? ⟨w.heap.size, 4, none⟩ = some (.int .i64 so) ∧ V.cell? ⟨w.heap.size, 5, none⟩ = some (.int .i64 sd) ∧ V.cell? ⟨w.heap.size, 6, none⟩ = some (.int .i64 sm) ∧ (LDk ⟨w.heap.size, 0, none⟩).run Tryz.prog V = .ok (.agg #[.int .u8 sk, .int .i64 sh, .int .u8 sa, .int .i64 sc, .int .i64 so, .int .i64 sd, .int .i64 sm]) V ∧ (LK (.map (some gm)) (.int .i64 sh) false).run Tryz.prog V = .ok (.agg #[.int .u8 ya, .int .i64 yo, .int .i64 yk, .int .i64 yc, .int .i64 ym]) V) := fun V hV => ⟨(HP.out.below hV).c0, (KB.out.below hV).cell 1 _ rfl, (KB.out.below hV).cell 2 _ rfl, (KB.out.below hV).cell 3 _ rfl, (KB.out.below hV).cell 4 _ rfl, (KB.out.below hV).cell 5 _ rfl, (KB.out.below hV).cell 6 _ rfl, (LDk_run (s := ⟨sk, sh, sa, sc, so, sd, sm⟩) (KB.out.below hV)), LKf V hV⟩
  have CR : Hid (∀ V, Below W.heap.size W V → Calls Tryz.prog 79 #[.pointer (some ⟨p, 0, none⟩)] V fun e w' => e = .returned (.int .i64 (ur P)) ∧ w' = V) := fun V hV => unlessRoom_ok p gm gk P V (HP.out.below hV)
  obtain ⟨r, hr⟩ : ∃ r, ur P = r := ⟨_, rfl⟩
  rw [hr] at CR
  have CH := hid (unlessSession_ok p gm gk P ⟨sk, sh, sa, sc, so, sd, sm⟩ W HP.out hs)
  have CH : Hid (Calls Tryz.prog 50 #[.pointer (some ⟨p, 0, none⟩), .agg #[.int .u8 sk, .int .i64 sh, .int .u8 sa, .int .i64 sc, .int .i64 so, .int .i64 sd, .int .i64 sm]] W fun e w' => e = .returned (.int .i64 (us P sh)) ∧ Below W.heap.size W w') := CH
  obtain ⟨u, hu⟩ : ∃ u, us P sh = u := ⟨_, rfl⟩
  rw [hu] at CH
  obtain ⟨x0, x1, x2, x3, x4, x5, x6, x7, x8⟩ := SW.out W (Below.refl _ _)
  obtain ⟨R, hR⟩ : ∃ R, rUpdate P ⟨sk, sh, sa, sc, so, sd, sm⟩ = R := ⟨_, rfl⟩
  have RE : Hid (rUpdate P ⟨sk, sh, sa, sc, so, sd, sm⟩ = R) := hid hR
  rw [hR]
  unfold rUpdate at hR
  try simp only [hu] at hR
  try simp only [hr] at hR
  try simp only [hyy] at hR
  clear LKf hy hyy hp hs HP hu hr
  by_cases hu0 : u = 0
  · subst hu0
    by_cases h2 : 65536 < sd
    · have E : Hid (R = 9) := hid (by rw [← hR]; (repeat' split) <;> first | rfl | omega | (exfalso; omega) | (simp_all; done))
      clear hR
      go_enter Tryz.func48, Tryz.ntmps48
      go_wp2_with fail
      clear hW
      refine CH.out.mono ?_
      rintro e W1 ⟨rfl, hb⟩
      have N1 : Hid (Below W.heap.size W W1) := hid hb
      clear hb
      obtain ⟨y0, y1, y2, y3, y4, y5, y6, y7, y8⟩ := SW.out W1 N1.out
      go_wp2
      go_ret
      exact ⟨by rw [E.out]; rfl, below_next BW.out N1.out⟩

    · have E : Hid (R = 0) := hid (by rw [← hR]; (repeat' split) <;> first | rfl | omega | (exfalso; omega) | (simp_all; done))
      clear hR
      go_enter Tryz.func48, Tryz.ntmps48
      go_wp2_with fail
      clear hW
      refine CH.out.mono ?_
      rintro e W1 ⟨rfl, hb⟩
      have N1 : Hid (Below W.heap.size W W1) := hid hb
      clear hb
      obtain ⟨y0, y1, y2, y3, y4, y5, y6, y7, y8⟩ := SW.out W1 N1.out
      go_wp2
      go_ret
      exact ⟨by rw [E.out]; rfl, below_next BW.out N1.out⟩


  · have hu1 : (u != 0) = true := by simpa using hu0
    have E : Hid (R = u) := hid (by rw [← hR]; (repeat' split) <;> first | rfl | omega | (exfalso; omega) | (simp_all; done))
    clear hR
    go_enter Tryz.func48, Tryz.ntmps48
    go_wp2_with fail
    clear hW
    refine CH.out.mono ?_
    rintro e W1 ⟨rfl, hb⟩
    have N1 : Hid (Below W.heap.size W W1) := hid hb
    clear hb
    go_wp2
    go_ret
    exact ⟨by rw [E.out]; rfl, below_next BW.out N1.out⟩
set_option maxRecDepth 8000 in
set_option maxHeartbeats 1600000 in
theorem refuseClone_ok (p gm gk : Nat) (P : St) (s : Sk) (w : World) (hp : PU w p gm gk P) (hs : Sk.Fit s) :
    Calls Tryz.prog 54 #[.pointer (some ⟨p, 0, none⟩), sv s] w fun e w' => e = .returned (.int .i64 (rClone P s)) ∧ Below w.heap.size w w' := by
  obtain ⟨sk, sh, sa, sc, so, sd, sm⟩ := s
  have bh : -9223372036854775808 ≤ sh ∧ sh ≤ 9223372036854775807 := hs.h
  have bc : -9223372036854775808 ≤ sc ∧ sc ≤ 9223372036854775807 := hs.c
  have bo : -9223372036854775808 ≤ so ∧ so ≤ 9223372036854775807 := hs.o
  have bd' : 0 ≤ sd ∧ sd ≤ 9223372036854775807 := hs.d
  have bm : 0 ≤ sm ∧ sm ≤ 9223372036854775807 := hs.m
  obtain ⟨W, hW⟩ : ∃ W, w.alloc (.cells #[.int .u8 sk, .int .i64 sh, .int .u8 sa, .int .i64 sc, .int .i64 so, .int .i64 sd, .int .i64 sm] 40) = W := ⟨_, rfl⟩
  have BW : Hid (Below w.heap.size w W) := by rw [← hW]; exact below_alloc _ _
  have KB : Hid (Blk W w.heap.size [.int .u8 sk, .int .i64 sh, .int .u8 sa, .int .i64 sc, .int .i64 so, .int .i64 sd, .int .i64 sm] 40) := by rw [← hW]; exact Blk.newAt w _ _ _ w.heap.size rfl rfl
  have HP := hid (hp.below BW.out)
  obtain ⟨y, hy⟩ : ∃ y, (hat P sh).getD h0 = y := ⟨_, rfl⟩
  have hyy : yy P sh = y := hy
  obtain ⟨yk, ya, yo, yc, ym⟩ := y
  have LKf : ∀ V, Below W.heap.size W V → (LK (.map (some gm)) (.int .i64 sh) false).run Tryz.prog V = .ok (.agg #[.int .u8 ya, .int .i64 yo, .int .i64 yk, .int .i64 yc, .int .i64 ym]) V := fun V hV => by
    have := (HP.out.below hV).look bh false
    rw [hy] at this
    exact this
  have SW : Hid (∀ V, Below W.heap.size W V → V.cell? ⟨p, 0, none⟩ = some (.map (some gm)) ∧ V.cell? ⟨w.heap.size, 1, none⟩ = some (.int .i64 sh) ∧ V.cell? ⟨w.heap.size, 2, none⟩ = some (.int .u8 sa) ∧ V.cell? ⟨w.heap.size, 3, none⟩ = some (.int .i64 sc) ∧ V.cell? ⟨w.heap.size, 4, none⟩ = some (.int .i64 so) ∧ V.cell? ⟨w.heap.size, 5, none⟩ = some (.int .i64 sd) ∧ V.cell? ⟨w.heap.size, 6, none⟩ = some (.int .i64 sm) ∧ (LDk ⟨w.heap.size, 0, none⟩).run Tryz.prog V = .ok (.agg #[.int .u8 sk, .int .i64 sh, .int .u8 sa, .int .i64 sc, .int .i64 so, .int .i64 sd, .int .i64 sm]) V ∧ (LK (.map (some gm)) (.int .i64 sh) false).run Tryz.prog V = .ok (.agg #[.int .u8 ya, .int .i64 yo, .int .i64 yk, .int .i64 yc, .int .i64 ym]) V) := fun V hV => ⟨(HP.out.below hV).c0, (KB.out.below hV).cell 1 _ rfl, (KB.out.below hV).cell 2 _ rfl, (KB.out.below hV).cell 3 _ rfl, (KB.out.below hV).cell 4 _ rfl, (KB.out.below hV).cell 5 _ rfl, (KB.out.below hV).cell 6 _ rfl, (LDk_run (s := ⟨sk, sh, sa, sc, so, sd, sm⟩) (KB.out.below hV)), LKf V hV⟩
  have CR : Hid (∀ V, Below W.heap.size W V → Calls Tryz.prog 79 #[.pointer (some ⟨p, 0, none⟩)] V fun e w' => e = .returned (.int .i64 (ur P)) ∧ w' = V) := fun V hV => unlessRoom_ok p gm gk P V (HP.out.below hV)
  obtain ⟨r, hr⟩ : ∃ r, ur P = r := ⟨_, rfl⟩
  rw [hr] at CR
  have CH := hid (unlessHeld_ok p gm gk P ⟨sk, sh, sa, sc, so, sd, sm⟩ W HP.out hs)
  have CH : Hid (Calls Tryz.prog 61 #[.pointer (some ⟨p, 0, none⟩), .agg #[.int .u8 sk, .int .i64 sh, .int .u8 sa, .int .i64 sc, .int .i64 so, .int .i64 sd, .int .i64 sm]] W fun e w' => e = .returned (.int .i64 (uh P sh)) ∧ Below W.heap.size W w') := CH
  obtain ⟨u, hu⟩ : ∃ u, uh P sh = u := ⟨_, rfl⟩
  rw [hu] at CH
  obtain ⟨x0, x1, x2, x3, x4, x5, x6, x7, x8⟩ := SW.out W (Below.refl _ _)
  obtain ⟨R, hR⟩ : ∃ R, rClone P ⟨sk, sh, sa, sc, so, sd, sm⟩ = R := ⟨_, rfl⟩
  have RE : Hid (rClone P ⟨sk, sh, sa, sc, so, sd, sm⟩ = R) := hid hR
  rw [hR]
  unfold rClone at hR
  try simp only [hu] at hR
  try simp only [hr] at hR
  try simp only [hyy] at hR
  clear LKf hy hyy hp hs HP hu hr
  by_cases hu0 : u = 0
  · subst hu0
    have E : Hid (R = r) := hid (by rw [← hR]; (repeat' split) <;> first | rfl | omega | (exfalso; omega) | (simp_all; done))
    clear hR
    go_enter Tryz.func54, Tryz.ntmps54
    go_wp2_with fail
    clear hW
    refine CH.out.mono ?_
    rintro e W1 ⟨rfl, hb⟩
    have N1 : Hid (Below W.heap.size W W1) := hid hb
    clear hb
    go_wp2_with fail
    refine (CR.out _ N1.out).mono ?_
    rintro e W8 ⟨rfl, rfl⟩
    go_wp2
    go_ret
    exact ⟨by rw [E.out]; rfl, below_next BW.out N1.out⟩

  · have hu1 : (u != 0) = true := by simpa using hu0
    have E : Hid (R = u) := hid (by rw [← hR]; (repeat' split) <;> first | rfl | omega | (exfalso; omega) | (simp_all; done))
    clear hR
    go_enter Tryz.func54, Tryz.ntmps54
    go_wp2_with fail
    clear hW
    refine CH.out.mono ?_
    rintro e W1 ⟨rfl, hb⟩
    have N1 : Hid (Below W.heap.size W W1) := hid hb
    clear hb
    go_wp2
    go_ret
    exact ⟨by rw [E.out]; rfl, below_next BW.out N1.out⟩
set_option maxRecDepth 8000 in
set_option maxHeartbeats 1600000 in
theorem refuseVerify_ok (p gm gk : Nat) (P : St) (s : Sk) (w : World) (hp : PU w p gm gk P) (hs : Sk.Fit s) :
    Calls Tryz.prog 52 #[.pointer (some ⟨p, 0, none⟩), sv s] w fun e w' => e = .returned (.int .i64 (rVerify P s)) ∧ Below w.heap.size w w' := by
  obtain ⟨sk, sh, sa, sc, so, sd, sm⟩ := s
  have bh : -9223372036854775808 ≤ sh ∧ sh ≤ 9223372036854775807 := hs.h
  have bc : -9223372036854775808 ≤ sc ∧ sc ≤ 9223372036854775807 := hs.c
  have bo : -9223372036854775808 ≤ so ∧ so ≤ 9223372036854775807 := hs.o
  have bd' : 0 ≤ sd ∧ sd ≤ 9223372036854775807 := hs.d
  have bm : 0 ≤ sm ∧ sm ≤ 9223372036854775807 := hs.m
  obtain ⟨W, hW⟩ : ∃ W, w.alloc (.cells #[.int .u8 sk, .int .i64 sh, .int .u8 sa, .int .i64 sc, .int .i64 so, .int .i64 sd, .int .i64 sm] 40) = W := ⟨_, rfl⟩
  have BW : Hid (Below w.heap.size w W) := by rw [← hW]; exact below_alloc _ _
  have KB : Hid (Blk W w.heap.size [.int .u8 sk, .int .i64 sh, .int .u8 sa, .int .i64 sc, .int .i64 so, .int .i64 sd, .int .i64 sm] 40) := by rw [← hW]; exact Blk.newAt w _ _ _ w.heap.size rfl rfl
  have HP := hid (hp.below BW.out)
  obtain ⟨y, hy⟩ : ∃ y, (hat P sh).getD h0 = y := ⟨_, rfl⟩
  have hyy : yy P sh = y := hy
  obtain ⟨yk, ya, yo, yc, ym⟩ := y
  have LKf : ∀ V, Below W.heap.size W V → (LK (.map (some gm)) (.int .i64 sh) false).run Tryz.prog V = .ok (.agg #[.int .u8 ya, .int .i64 yo, .int .i64 yk, .int .i64 yc, .int .i64 ym]) V := fun V hV => by
    have := (HP.out.below hV).look bh false
    rw [hy] at this
    exact this
  have SW : Hid (∀ V, Below W.heap.size W V → V.cell? ⟨p, 0, none⟩ = some (.map (some gm)) ∧ V.cell? ⟨w.heap.size, 1, none⟩ = some (.int .i64 sh) ∧ V.cell? ⟨w.heap.size, 2, none⟩ = some (.int .u8 sa) ∧ V.cell? ⟨w.heap.size, 3, none⟩ = some (.int .i64 sc) ∧ V.cell? ⟨w.heap.size, 4, none⟩ = some (.int .i64 so) ∧ V.cell? ⟨w.heap.size, 5, none⟩ = some (.int .i64 sd) ∧ V.cell? ⟨w.heap.size, 6, none⟩ = some (.int .i64 sm) ∧ (LDk ⟨w.heap.size, 0, none⟩).run Tryz.prog V = .ok (.agg #[.int .u8 sk, .int .i64 sh, .int .u8 sa, .int .i64 sc, .int .i64 so, .int .i64 sd, .int .i64 sm]) V ∧ (LK (.map (some gm)) (.int .i64 sh) false).run Tryz.prog V = .ok (.agg #[.int .u8 ya, .int .i64 yo, .int .i64 yk, .int .i64 yc, .int .i64 ym]) V) := fun V hV => ⟨(HP.out.below hV).c0, (KB.out.below hV).cell 1 _ rfl, (KB.out.below hV).cell 2 _ rfl, (KB.out.below hV).cell 3 _ rfl, (KB.out.below hV).cell 4 _ rfl, (KB.out.below hV).cell 5 _ rfl, (KB.out.below hV).cell 6 _ rfl, (LDk_run (s := ⟨sk, sh, sa, sc, so, sd, sm⟩) (KB.out.below hV)), LKf V hV⟩
  have CR : Hid (∀ V, Below W.heap.size W V → Calls Tryz.prog 79 #[.pointer (some ⟨p, 0, none⟩)] V fun e w' => e = .returned (.int .i64 (ur P)) ∧ w' = V) := fun V hV => unlessRoom_ok p gm gk P V (HP.out.below hV)
  obtain ⟨r, hr⟩ : ∃ r, ur P = r := ⟨_, rfl⟩
  rw [hr] at CR
  have CH := hid (unlessSession_ok p gm gk P ⟨sk, sh, sa, sc, so, sd, sm⟩ W HP.out hs)
  have CH : Hid (Calls Tryz.prog 50 #[.pointer (some ⟨p, 0, none⟩), .agg #[.int .u8 sk, .int .i64 sh, .int .u8 sa, .int .i64 sc, .int .i64 so, .int .i64 sd, .int .i64 sm]] W fun e w' => e = .returned (.int .i64 (us P sh)) ∧ Below W.heap.size W w') := CH
  obtain ⟨u, hu⟩ : ∃ u, us P sh = u := ⟨_, rfl⟩
  rw [hu] at CH
  obtain ⟨x0, x1, x2, x3, x4, x5, x6, x7, x8⟩ := SW.out W (Below.refl _ _)
  obtain ⟨R, hR⟩ : ∃ R, rVerify P ⟨sk, sh, sa, sc, so, sd, sm⟩ = R := ⟨_, rfl⟩
  have RE : Hid (rVerify P ⟨sk, sh, sa, sc, so, sd, sm⟩ = R) := hid hR
  rw [hR]
  unfold rVerify at hR
  try simp only [hu] at hR
  try simp only [hr] at hR
  try simp only [hyy] at hR
  clear LKf hy hyy hp hs HP hu hr
  by_cases hu0 : u = 0
  · subst hu0
    by_cases h2 : sd = yo
    · subst h2
      have E : Hid (R = 0) := hid (by rw [← hR]; (repeat' split) <;> first | rfl | omega | (exfalso; omega) | (simp_all; done))
      clear hR
      go_enter Tryz.func52, Tryz.ntmps52
      go_wp2_with fail
      clear hW
      refine CH.out.mono ?_
      rintro e W1 ⟨rfl, hb⟩
      have N1 : Hid (Below W.heap.size W W1) := hid hb
      clear hb
      have D1 : Hid (Below W.heap.size W W1.drew) := hid (below_next N1.out (below_drewN W1 1))
      obtain ⟨y0, y1, y2, y3, y4, y5, y6, y7, y8⟩ := SW.out W1.drew D1.out
      go_wp2_with fail
      go_region_held3 (fun V => V.cell? ⟨p, 0, none⟩ = some (.map (some gm)) ∧ V.cell? ⟨w.heap.size, 1, none⟩ = some (.int .i64 sh) ∧ V.cell? ⟨w.heap.size, 2, none⟩ = some (.int .u8 sa) ∧ V.cell? ⟨w.heap.size, 3, none⟩ = some (.int .i64 sc) ∧ V.cell? ⟨w.heap.size, 4, none⟩ = some (.int .i64 so) ∧ V.cell? ⟨w.heap.size, 5, none⟩ = some (.int .i64 sd) ∧ V.cell? ⟨w.heap.size, 6, none⟩ = some (.int .i64 sm) ∧ (LDk ⟨w.heap.size, 0, none⟩).run Tryz.prog V = .ok (.agg #[.int .u8 sk, .int .i64 sh, .int .u8 sa, .int .i64 sc, .int .i64 so, .int .i64 sd, .int .i64 sm]) V ∧ (LK (.map (some gm)) (.int .i64 sh) false).run Tryz.prog V = .ok (.agg #[.int .u8 ya, .int .i64 sd, .int .i64 yk, .int .i64 yc, .int .i64 ym]) V) (go_keep) (fail)
      go_wp2
      go_ret
      exact ⟨by rw [E.out]; rfl, below_next BW.out D1.out⟩

    · have h3 : (sd == yo) = false := by simpa using h2
      have h4 : (sd != yo) = true := by simpa using h2
      have E : Hid (R = 11) := hid (by rw [← hR]; (repeat' split) <;> first | rfl | omega | (exfalso; omega) | (simp_all; done))
      clear hR
      go_enter Tryz.func52, Tryz.ntmps52
      go_wp2_with fail
      clear hW
      refine CH.out.mono ?_
      rintro e W1 ⟨rfl, hb⟩
      have N1 : Hid (Below W.heap.size W W1) := hid hb
      clear hb
      have D1 : Hid (Below W.heap.size W W1.drew) := hid (below_next N1.out (below_drewN W1 1))
      obtain ⟨y0, y1, y2, y3, y4, y5, y6, y7, y8⟩ := SW.out W1.drew D1.out
      go_wp2_with fail
      go_region_held3 (fun V => V.cell? ⟨p, 0, none⟩ = some (.map (some gm)) ∧ V.cell? ⟨w.heap.size, 1, none⟩ = some (.int .i64 sh) ∧ V.cell? ⟨w.heap.size, 2, none⟩ = some (.int .u8 sa) ∧ V.cell? ⟨w.heap.size, 3, none⟩ = some (.int .i64 sc) ∧ V.cell? ⟨w.heap.size, 4, none⟩ = some (.int .i64 so) ∧ V.cell? ⟨w.heap.size, 5, none⟩ = some (.int .i64 sd) ∧ V.cell? ⟨w.heap.size, 6, none⟩ = some (.int .i64 sm) ∧ (LDk ⟨w.heap.size, 0, none⟩).run Tryz.prog V = .ok (.agg #[.int .u8 sk, .int .i64 sh, .int .u8 sa, .int .i64 sc, .int .i64 so, .int .i64 sd, .int .i64 sm]) V ∧ (LK (.map (some gm)) (.int .i64 sh) false).run Tryz.prog V = .ok (.agg #[.int .u8 ya, .int .i64 yo, .int .i64 yk, .int .i64 yc, .int .i64 ym]) V) (go_keep) (fail)
      go_wp2
      go_ret
      exact ⟨by rw [E.out]; rfl, below_next BW.out D1.out⟩


  · have hu1 : (u != 0) = true := by simpa using hu0
    have E : Hid (R = u) := hid (by rw [← hR]; (repeat' split) <;> first | rfl | omega | (exfalso; omega) | (simp_all; done))
    clear hR
    go_enter Tryz.func52, Tryz.ntmps52
    go_wp2_with fail
    clear hW
    refine CH.out.mono ?_
    rintro e W1 ⟨rfl, hb⟩
    have N1 : Hid (Below W.heap.size W W1) := hid hb
    clear hb
    go_wp2
    go_ret
    exact ⟨by rw [E.out]; rfl, below_next BW.out N1.out⟩
set_option maxRecDepth 8000 in
set_option maxHeartbeats 1600000 in
theorem refuseHkdf_ok (p gm gk : Nat) (P : St) (s : Sk) (w : World) (hp : PU w p gm gk P) (hs : Sk.Fit s) :
    Calls Tryz.prog 56 #[.pointer (some ⟨p, 0, none⟩), sv s] w fun e w' => e = .returned (.int .i64 (rHkdf P s)) ∧ Below w.heap.size w w' := by
  obtain ⟨sk, sh, sa, sc, so, sd, sm⟩ := s
  have bh : -9223372036854775808 ≤ sh ∧ sh ≤ 9223372036854775807 := hs.h
  have bc : -9223372036854775808 ≤ sc ∧ sc ≤ 9223372036854775807 := hs.c
  have bo : -9223372036854775808 ≤ so ∧ so ≤ 9223372036854775807 := hs.o
  have bd' : 0 ≤ sd ∧ sd ≤ 9223372036854775807 := hs.d
  have bm : 0 ≤ sm ∧ sm ≤ 9223372036854775807 := hs.m
  obtain ⟨W, hW⟩ : ∃ W, w.alloc (.cells #[.int .u8 sk, .int .i64 sh, .int .u8 sa, .int .i64 sc, .int .i64 so, .int .i64 sd, .int .i64 sm] 40) = W := ⟨_, rfl⟩
  have BW : Hid (Below w.heap.size w W) := by rw [← hW]; exact below_alloc _ _
  have KB : Hid (Blk W w.heap.size [.int .u8 sk, .int .i64 sh, .int .u8 sa, .int .i64 sc, .int .i64 so, .int .i64 sd, .int .i64 sm] 40) := by rw [← hW]; exact Blk.newAt w _ _ _ w.heap.size rfl rfl
  have HP := hid (hp.below BW.out)
  obtain ⟨y, hy⟩ : ∃ y, (hat P sh).getD h0 = y := ⟨_, rfl⟩
  have hyy : yy P sh = y := hy
  obtain ⟨yk, ya, yo, yc, ym⟩ := y
  have LKf : ∀ V, Below W.heap.size W V → (LK (.map (some gm)) (.int .i64 sh) false).run Tryz.prog V = .ok (.agg #[.int .u8 ya, .int .i64 yo, .int .i64 yk, .int .i64 yc, .int .i64 ym]) V := fun V hV => by
    have := (HP.out.below hV).look bh false
    rw [hy] at this
    exact this
  have SW : Hid (∀ V, Below W.heap.size W V → V.cell? ⟨p, 0, none⟩ = some (.map (some gm)) ∧ V.cell? ⟨w.heap.size, 1, none⟩ = some (.int .i64 sh) ∧ V.cell? ⟨w.heap.size, 2, none⟩ = some (.int .u8 sa) ∧ V.cell? ⟨w.heap.size, 3, none⟩ = some (.int .i64 sc) ∧ V.cell? ⟨w.heap.size, 4, none⟩ = some (.int .i64 so) ∧ V.cell? ⟨w.heap.size, 5, none⟩ = some (.int .i64 sd) ∧ V.cell? ⟨w.heap.size, 6, none⟩ = some (.int .i64 sm) ∧ (LDk ⟨w.heap.size, 0, none⟩).run Tryz.prog V = .ok (.agg #[.int .u8 sk, .int .i64 sh, .int .u8 sa, .int .i64 sc, .int .i64 so, .int .i64 sd, .int .i64 sm]) V ∧ (LK (.map (some gm)) (.int .i64 sh) false).run Tryz.prog V = .ok (.agg #[.int .u8 ya, .int .i64 yo, .int .i64 yk, .int .i64 yc, .int .i64 ym]) V) := fun V hV => ⟨(HP.out.below hV).c0, (KB.out.below hV).cell 1 _ rfl, (KB.out.below hV).cell 2 _ rfl, (KB.out.below hV).cell 3 _ rfl, (KB.out.below hV).cell 4 _ rfl, (KB.out.below hV).cell 5 _ rfl, (KB.out.below hV).cell 6 _ rfl, (LDk_run (s := ⟨sk, sh, sa, sc, so, sd, sm⟩) (KB.out.below hV)), LKf V hV⟩
  have CR : Hid (∀ V, Below W.heap.size W V → Calls Tryz.prog 79 #[.pointer (some ⟨p, 0, none⟩)] V fun e w' => e = .returned (.int .i64 (ur P)) ∧ w' = V) := fun V hV => unlessRoom_ok p gm gk P V (HP.out.below hV)
  obtain ⟨r, hr⟩ : ∃ r, ur P = r := ⟨_, rfl⟩
  rw [hr] at CR
  have CH := hid (unlessKey_ok p gm gk P ⟨sk, sh, sa, sc, so, sd, sm⟩ W HP.out hs)
  have CH : Hid (Calls Tryz.prog 60 #[.pointer (some ⟨p, 0, none⟩), .agg #[.int .u8 sk, .int .i64 sh, .int .u8 sa, .int .i64 sc, .int .i64 so, .int .i64 sd, .int .i64 sm]] W fun e w' => e = .returned (.int .i64 (uk P sh)) ∧ Below W.heap.size W w') := CH
  obtain ⟨u, hu⟩ : ∃ u, uk P sh = u := ⟨_, rfl⟩
  rw [hu] at CH
  obtain ⟨x0, x1, x2, x3, x4, x5, x6, x7, x8⟩ := SW.out W (Below.refl _ _)
  obtain ⟨R, hR⟩ : ∃ R, rHkdf P ⟨sk, sh, sa, sc, so, sd, sm⟩ = R := ⟨_, rfl⟩
  have RE : Hid (rHkdf P ⟨sk, sh, sa, sc, so, sd, sm⟩ = R) := hid hR
  rw [hR]
  unfold rHkdf at hR
  try simp only [hu] at hR
  try simp only [hr] at hR
  try simp only [hyy] at hR
  clear LKf hy hyy hp hs HP hu hr
  by_cases hu0 : u = 0
  · subst hu0
    by_cases z0 : sz sa = 0
    · have n1 : (sz sa = 0) = True := by simpa using z0
      have E : Hid (R = 4) := hid (by rw [← hR]; (repeat' split) <;> first | rfl | omega | (exfalso; omega) | (simp_all; done))
      clear hR
      go_enter Tryz.func56, Tryz.ntmps56
      go_wp2_with fail
      clear hW
      refine CH.out.mono ?_
      rintro e W1 ⟨rfl, hb⟩
      have N1 : Hid (Below W.heap.size W W1) := hid hb
      clear hb
      obtain ⟨y0, y1, y2, y3, y4, y5, y6, y7, y8⟩ := SW.out W1 N1.out
      go_wp2_with fail
      refine (hashOf_no sa z0 _).mono ?_
      rintro e W2 ⟨rfl, hb⟩
      have N2 : Hid (Below W.heap.size W W2) := hid (below_next N1.out hb)
      clear hb
      obtain ⟨U, hU⟩ : ∃ U, W2.alloc (.cells #[.int .i64 0, .int .i64 0, .int .u8 0, .int .i64 0] 119) = U := ⟨_, rfl⟩
      have NU : Hid (Below W2.heap.size W2 U) := by rw [← hU]; exact below_alloc _ _
      have ku : Blk U W2.heap.size [.int .i64 0, .int .i64 0, .int .u8 0, .int .i64 0] 119 := by rw [← hU]; exact Blk.newAt W2 _ _ _ W2.heap.size rfl rfl
      obtain ⟨V, s1, k1, hk1⟩ := SVh_run 0 0 0 0 ku rfl
      have NV : Hid (Below W.heap.size W V) := hid (below_next N2.out (NU.out.trans (hk1.below NU.out.size (fun k h e => by omega))))
      have q0 := k1.cell 0 _ rfl
      obtain ⟨v0, v1, v2, v3, v4, v5, v6, v7, v8⟩ := SW.out V NV.out
      clear ku k1 hk1 y0 y1 y2 y3 y4 y5 y6 y7 y8
      go_wp2
      go_ret
      exact ⟨by rw [E.out]; rfl, below_next BW.out NV.out⟩

    rcases sz_cases z0 with ⟨rfl, _⟩ | ⟨rfl, _⟩
    · have zz : sz 1 = 32 := rfl
      rw [zz] at hR
      by_cases h2 : 65536 < sd
      · have E : Hid (R = 9) := hid (by rw [← hR]; (repeat' split) <;> first | rfl | omega | (exfalso; omega) | (simp_all; done))
        clear hR
        go_enter Tryz.func56, Tryz.ntmps56
        go_wp2_with fail
        clear hW
        refine CH.out.mono ?_
        rintro e W1 ⟨rfl, hb⟩
        have N1 : Hid (Below W.heap.size W W1) := hid hb
        clear hb
        obtain ⟨y0, y1, y2, y3, y4, y5, y6, y7, y8⟩ := SW.out W1 N1.out
        go_wp2_with fail
        refine (hashOf1_ok _).mono ?_
        rintro e W2 ⟨rfl, hb⟩
        have N2 : Hid (Below W.heap.size W W2) := hid (below_next N1.out hb)
        clear hb
        obtain ⟨U, hU⟩ : ∃ U, W2.alloc (.cells #[.int .i64 0, .int .i64 0, .int .u8 0, .int .i64 0] 119) = U := ⟨_, rfl⟩
        have NU : Hid (Below W2.heap.size W2 U) := by rw [← hU]; exact below_alloc _ _
        have ku : Blk U W2.heap.size [.int .i64 0, .int .i64 0, .int .u8 0, .int .i64 0] 119 := by rw [← hU]; exact Blk.newAt W2 _ _ _ W2.heap.size rfl rfl
        obtain ⟨V, s1, k1, hk1⟩ := SVh_run 32 64 1 64 ku rfl
        have NV : Hid (Below W.heap.size W V) := hid (below_next N2.out (NU.out.trans (hk1.below NU.out.size (fun k h e => by omega))))
        have q0 := k1.cell 0 _ rfl
        obtain ⟨v0, v1, v2, v3, v4, v5, v6, v7, v8⟩ := SW.out V NV.out
        clear ku k1 hk1 y0 y1 y2 y3 y4 y5 y6 y7 y8
        go_wp2
        go_ret
        exact ⟨by rw [E.out]; rfl, below_next BW.out NV.out⟩

      · by_cases h3 : 65536 < sm
        · have E : Hid (R = 9) := hid (by rw [← hR]; (repeat' split) <;> first | rfl | omega | (exfalso; omega) | (simp_all; done))
          clear hR
          go_enter Tryz.func56, Tryz.ntmps56
          go_wp2_with fail
          clear hW
          refine CH.out.mono ?_
          rintro e W1 ⟨rfl, hb⟩
          have N1 : Hid (Below W.heap.size W W1) := hid hb
          clear hb
          obtain ⟨y0, y1, y2, y3, y4, y5, y6, y7, y8⟩ := SW.out W1 N1.out
          go_wp2_with fail
          refine (hashOf1_ok _).mono ?_
          rintro e W2 ⟨rfl, hb⟩
          have N2 : Hid (Below W.heap.size W W2) := hid (below_next N1.out hb)
          clear hb
          obtain ⟨U, hU⟩ : ∃ U, W2.alloc (.cells #[.int .i64 0, .int .i64 0, .int .u8 0, .int .i64 0] 119) = U := ⟨_, rfl⟩
          have NU : Hid (Below W2.heap.size W2 U) := by rw [← hU]; exact below_alloc _ _
          have ku : Blk U W2.heap.size [.int .i64 0, .int .i64 0, .int .u8 0, .int .i64 0] 119 := by rw [← hU]; exact Blk.newAt W2 _ _ _ W2.heap.size rfl rfl
          obtain ⟨V, s1, k1, hk1⟩ := SVh_run 32 64 1 64 ku rfl
          have NV : Hid (Below W.heap.size W V) := hid (below_next N2.out (NU.out.trans (hk1.below NU.out.size (fun k h e => by omega))))
          have q0 := k1.cell 0 _ rfl
          obtain ⟨v0, v1, v2, v3, v4, v5, v6, v7, v8⟩ := SW.out V NV.out
          clear ku k1 hk1 y0 y1 y2 y3 y4 y5 y6 y7 y8
          go_wp2
          go_ret
          exact ⟨by rw [E.out]; rfl, below_next BW.out NV.out⟩

        · by_cases h4 : 8160 < so
          · have E : Hid (R = 9) := hid (by rw [← hR]; (repeat' split) <;> first | rfl | omega | (exfalso; omega) | (simp_all; done))
            clear hR
            go_enter Tryz.func56, Tryz.ntmps56
            go_wp2_with fail
            clear hW
            refine CH.out.mono ?_
            rintro e W1 ⟨rfl, hb⟩
            have N1 : Hid (Below W.heap.size W W1) := hid hb
            clear hb
            obtain ⟨y0, y1, y2, y3, y4, y5, y6, y7, y8⟩ := SW.out W1 N1.out
            go_wp2_with fail
            refine (hashOf1_ok _).mono ?_
            rintro e W2 ⟨rfl, hb⟩
            have N2 : Hid (Below W.heap.size W W2) := hid (below_next N1.out hb)
            clear hb
            obtain ⟨U, hU⟩ : ∃ U, W2.alloc (.cells #[.int .i64 0, .int .i64 0, .int .u8 0, .int .i64 0] 119) = U := ⟨_, rfl⟩
            have NU : Hid (Below W2.heap.size W2 U) := by rw [← hU]; exact below_alloc _ _
            have ku : Blk U W2.heap.size [.int .i64 0, .int .i64 0, .int .u8 0, .int .i64 0] 119 := by rw [← hU]; exact Blk.newAt W2 _ _ _ W2.heap.size rfl rfl
            obtain ⟨V, s1, k1, hk1⟩ := SVh_run 32 64 1 64 ku rfl
            have NV : Hid (Below W.heap.size W V) := hid (below_next N2.out (NU.out.trans (hk1.below NU.out.size (fun k h e => by omega))))
            have q0 := k1.cell 0 _ rfl
            obtain ⟨v0, v1, v2, v3, v4, v5, v6, v7, v8⟩ := SW.out V NV.out
            clear ku k1 hk1 y0 y1 y2 y3 y4 y5 y6 y7 y8
            go_wp2
            go_ret
            exact ⟨by rw [E.out]; rfl, below_next BW.out NV.out⟩

          · by_cases h5 : so < 1
            · have E : Hid (R = 7) := hid (by rw [← hR]; (repeat' split) <;> first | rfl | omega | (exfalso; omega) | (simp_all; done))
              clear hR
              go_enter Tryz.func56, Tryz.ntmps56
              go_wp2_with fail
              clear hW
              refine CH.out.mono ?_
              rintro e W1 ⟨rfl, hb⟩
              have N1 : Hid (Below W.heap.size W W1) := hid hb
              clear hb
              obtain ⟨y0, y1, y2, y3, y4, y5, y6, y7, y8⟩ := SW.out W1 N1.out
              go_wp2_with fail
              refine (hashOf1_ok _).mono ?_
              rintro e W2 ⟨rfl, hb⟩
              have N2 : Hid (Below W.heap.size W W2) := hid (below_next N1.out hb)
              clear hb
              obtain ⟨U, hU⟩ : ∃ U, W2.alloc (.cells #[.int .i64 0, .int .i64 0, .int .u8 0, .int .i64 0] 119) = U := ⟨_, rfl⟩
              have NU : Hid (Below W2.heap.size W2 U) := by rw [← hU]; exact below_alloc _ _
              have ku : Blk U W2.heap.size [.int .i64 0, .int .i64 0, .int .u8 0, .int .i64 0] 119 := by rw [← hU]; exact Blk.newAt W2 _ _ _ W2.heap.size rfl rfl
              obtain ⟨V, s1, k1, hk1⟩ := SVh_run 32 64 1 64 ku rfl
              have NV : Hid (Below W.heap.size W V) := hid (below_next N2.out (NU.out.trans (hk1.below NU.out.size (fun k h e => by omega))))
              have q0 := k1.cell 0 _ rfl
              obtain ⟨v0, v1, v2, v3, v4, v5, v6, v7, v8⟩ := SW.out V NV.out
              clear ku k1 hk1 y0 y1 y2 y3 y4 y5 y6 y7 y8
              go_wp2
              go_ret
              exact ⟨by rw [E.out]; rfl, below_next BW.out NV.out⟩

            · by_cases h6 : 512 < so
              · have E : Hid (R = 7) := hid (by rw [← hR]; (repeat' split) <;> first | rfl | omega | (exfalso; omega) | (simp_all; done))
                clear hR
                go_enter Tryz.func56, Tryz.ntmps56
                go_wp2_with fail
                clear hW
                refine CH.out.mono ?_
                rintro e W1 ⟨rfl, hb⟩
                have N1 : Hid (Below W.heap.size W W1) := hid hb
                clear hb
                obtain ⟨y0, y1, y2, y3, y4, y5, y6, y7, y8⟩ := SW.out W1 N1.out
                go_wp2_with fail
                refine (hashOf1_ok _).mono ?_
                rintro e W2 ⟨rfl, hb⟩
                have N2 : Hid (Below W.heap.size W W2) := hid (below_next N1.out hb)
                clear hb
                obtain ⟨U, hU⟩ : ∃ U, W2.alloc (.cells #[.int .i64 0, .int .i64 0, .int .u8 0, .int .i64 0] 119) = U := ⟨_, rfl⟩
                have NU : Hid (Below W2.heap.size W2 U) := by rw [← hU]; exact below_alloc _ _
                have ku : Blk U W2.heap.size [.int .i64 0, .int .i64 0, .int .u8 0, .int .i64 0] 119 := by rw [← hU]; exact Blk.newAt W2 _ _ _ W2.heap.size rfl rfl
                obtain ⟨V, s1, k1, hk1⟩ := SVh_run 32 64 1 64 ku rfl
                have NV : Hid (Below W.heap.size W V) := hid (below_next N2.out (NU.out.trans (hk1.below NU.out.size (fun k h e => by omega))))
                have q0 := k1.cell 0 _ rfl
                obtain ⟨v0, v1, v2, v3, v4, v5, v6, v7, v8⟩ := SW.out V NV.out
                clear ku k1 hk1 y0 y1 y2 y3 y4 y5 y6 y7 y8
                go_wp2
                go_ret
                exact ⟨by rw [E.out]; rfl, below_next BW.out NV.out⟩

              · have E : Hid (R = r) := hid (by rw [← hR]; (repeat' split) <;> first | rfl | omega | (exfalso; omega) | (simp_all; done))
                clear hR
                go_enter Tryz.func56, Tryz.ntmps56
                go_wp2_with fail
                clear hW
                refine CH.out.mono ?_
                rintro e W1 ⟨rfl, hb⟩
                have N1 : Hid (Below W.heap.size W W1) := hid hb
                clear hb
                obtain ⟨y0, y1, y2, y3, y4, y5, y6, y7, y8⟩ := SW.out W1 N1.out
                go_wp2_with fail
                refine (hashOf1_ok _).mono ?_
                rintro e W2 ⟨rfl, hb⟩
                have N2 : Hid (Below W.heap.size W W2) := hid (below_next N1.out hb)
                clear hb
                obtain ⟨U, hU⟩ : ∃ U, W2.alloc (.cells #[.int .i64 0, .int .i64 0, .int .u8 0, .int .i64 0] 119) = U := ⟨_, rfl⟩
                have NU : Hid (Below W2.heap.size W2 U) := by rw [← hU]; exact below_alloc _ _
                have ku : Blk U W2.heap.size [.int .i64 0, .int .i64 0, .int .u8 0, .int .i64 0] 119 := by rw [← hU]; exact Blk.newAt W2 _ _ _ W2.heap.size rfl rfl
                obtain ⟨V, s1, k1, hk1⟩ := SVh_run 32 64 1 64 ku rfl
                have NV : Hid (Below W.heap.size W V) := hid (below_next N2.out (NU.out.trans (hk1.below NU.out.size (fun k h e => by omega))))
                have q0 := k1.cell 0 _ rfl
                obtain ⟨v0, v1, v2, v3, v4, v5, v6, v7, v8⟩ := SW.out V NV.out
                clear ku k1 hk1 y0 y1 y2 y3 y4 y5 y6 y7 y8
                go_wp2_with fail
                refine (CR.out _ NV.out).mono ?_
                rintro e W8 ⟨rfl, rfl⟩
                go_wp2
                go_ret
                exact ⟨by rw [E.out]; rfl, below_next BW.out NV.out⟩






    · have zz : sz 2 = 64 := rfl
      rw [zz] at hR
      by_cases h2 : 65536 < sd
      · have E : Hid (R = 9) := hid (by rw [← hR]; (repeat' split) <;> first | rfl | omega | (exfalso; omega) | (simp_all; done))
        clear hR
        go_enter Tryz.func56, Tryz.ntmps56
        go_wp2_with fail
        clear hW
        refine CH.out.mono ?_
        rintro e W1 ⟨rfl, hb⟩
        have N1 : Hid (Below W.heap.size W W1) := hid hb
        clear hb
        obtain ⟨y0, y1, y2, y3, y4, y5, y6, y7, y8⟩ := SW.out W1 N1.out
        go_wp2_with fail
        refine (hashOf2_ok _).mono ?_
        rintro e W2 ⟨rfl, hb⟩
        have N2 : Hid (Below W.heap.size W W2) := hid (below_next N1.out hb)
        clear hb
        obtain ⟨U, hU⟩ : ∃ U, W2.alloc (.cells #[.int .i64 0, .int .i64 0, .int .u8 0, .int .i64 0] 119) = U := ⟨_, rfl⟩
        have NU : Hid (Below W2.heap.size W2 U) := by rw [← hU]; exact below_alloc _ _
        have ku : Blk U W2.heap.size [.int .i64 0, .int .i64 0, .int .u8 0, .int .i64 0] 119 := by rw [← hU]; exact Blk.newAt W2 _ _ _ W2.heap.size rfl rfl
        obtain ⟨V, s1, k1, hk1⟩ := SVh_run 64 128 2 128 ku rfl
        have NV : Hid (Below W.heap.size W V) := hid (below_next N2.out (NU.out.trans (hk1.below NU.out.size (fun k h e => by omega))))
        have q0 := k1.cell 0 _ rfl
        obtain ⟨v0, v1, v2, v3, v4, v5, v6, v7, v8⟩ := SW.out V NV.out
        clear ku k1 hk1 y0 y1 y2 y3 y4 y5 y6 y7 y8
        go_wp2
        go_ret
        exact ⟨by rw [E.out]; rfl, below_next BW.out NV.out⟩

      · by_cases h3 : 65536 < sm
        · have E : Hid (R = 9) := hid (by rw [← hR]; (repeat' split) <;> first | rfl | omega | (exfalso; omega) | (simp_all; done))
          clear hR
          go_enter Tryz.func56, Tryz.ntmps56
          go_wp2_with fail
          clear hW
          refine CH.out.mono ?_
          rintro e W1 ⟨rfl, hb⟩
          have N1 : Hid (Below W.heap.size W W1) := hid hb
          clear hb
          obtain ⟨y0, y1, y2, y3, y4, y5, y6, y7, y8⟩ := SW.out W1 N1.out
          go_wp2_with fail
          refine (hashOf2_ok _).mono ?_
          rintro e W2 ⟨rfl, hb⟩
          have N2 : Hid (Below W.heap.size W W2) := hid (below_next N1.out hb)
          clear hb
          obtain ⟨U, hU⟩ : ∃ U, W2.alloc (.cells #[.int .i64 0, .int .i64 0, .int .u8 0, .int .i64 0] 119) = U := ⟨_, rfl⟩
          have NU : Hid (Below W2.heap.size W2 U) := by rw [← hU]; exact below_alloc _ _
          have ku : Blk U W2.heap.size [.int .i64 0, .int .i64 0, .int .u8 0, .int .i64 0] 119 := by rw [← hU]; exact Blk.newAt W2 _ _ _ W2.heap.size rfl rfl
          obtain ⟨V, s1, k1, hk1⟩ := SVh_run 64 128 2 128 ku rfl
          have NV : Hid (Below W.heap.size W V) := hid (below_next N2.out (NU.out.trans (hk1.below NU.out.size (fun k h e => by omega))))
          have q0 := k1.cell 0 _ rfl
          obtain ⟨v0, v1, v2, v3, v4, v5, v6, v7, v8⟩ := SW.out V NV.out
          clear ku k1 hk1 y0 y1 y2 y3 y4 y5 y6 y7 y8
          go_wp2
          go_ret
          exact ⟨by rw [E.out]; rfl, below_next BW.out NV.out⟩

        · by_cases h4 : 16320 < so
          · have E : Hid (R = 9) := hid (by rw [← hR]; (repeat' split) <;> first | rfl | omega | (exfalso; omega) | (simp_all; done))
            clear hR
            go_enter Tryz.func56, Tryz.ntmps56
            go_wp2_with fail
            clear hW
            refine CH.out.mono ?_
            rintro e W1 ⟨rfl, hb⟩
            have N1 : Hid (Below W.heap.size W W1) := hid hb
            clear hb
            obtain ⟨y0, y1, y2, y3, y4, y5, y6, y7, y8⟩ := SW.out W1 N1.out
            go_wp2_with fail
            refine (hashOf2_ok _).mono ?_
            rintro e W2 ⟨rfl, hb⟩
            have N2 : Hid (Below W.heap.size W W2) := hid (below_next N1.out hb)
            clear hb
            obtain ⟨U, hU⟩ : ∃ U, W2.alloc (.cells #[.int .i64 0, .int .i64 0, .int .u8 0, .int .i64 0] 119) = U := ⟨_, rfl⟩
            have NU : Hid (Below W2.heap.size W2 U) := by rw [← hU]; exact below_alloc _ _
            have ku : Blk U W2.heap.size [.int .i64 0, .int .i64 0, .int .u8 0, .int .i64 0] 119 := by rw [← hU]; exact Blk.newAt W2 _ _ _ W2.heap.size rfl rfl
            obtain ⟨V, s1, k1, hk1⟩ := SVh_run 64 128 2 128 ku rfl
            have NV : Hid (Below W.heap.size W V) := hid (below_next N2.out (NU.out.trans (hk1.below NU.out.size (fun k h e => by omega))))
            have q0 := k1.cell 0 _ rfl
            obtain ⟨v0, v1, v2, v3, v4, v5, v6, v7, v8⟩ := SW.out V NV.out
            clear ku k1 hk1 y0 y1 y2 y3 y4 y5 y6 y7 y8
            go_wp2
            go_ret
            exact ⟨by rw [E.out]; rfl, below_next BW.out NV.out⟩

          · by_cases h5 : so < 1
            · have E : Hid (R = 7) := hid (by rw [← hR]; (repeat' split) <;> first | rfl | omega | (exfalso; omega) | (simp_all; done))
              clear hR
              go_enter Tryz.func56, Tryz.ntmps56
              go_wp2_with fail
              clear hW
              refine CH.out.mono ?_
              rintro e W1 ⟨rfl, hb⟩
              have N1 : Hid (Below W.heap.size W W1) := hid hb
              clear hb
              obtain ⟨y0, y1, y2, y3, y4, y5, y6, y7, y8⟩ := SW.out W1 N1.out
              go_wp2_with fail
              refine (hashOf2_ok _).mono ?_
              rintro e W2 ⟨rfl, hb⟩
              have N2 : Hid (Below W.heap.size W W2) := hid (below_next N1.out hb)
              clear hb
              obtain ⟨U, hU⟩ : ∃ U, W2.alloc (.cells #[.int .i64 0, .int .i64 0, .int .u8 0, .int .i64 0] 119) = U := ⟨_, rfl⟩
              have NU : Hid (Below W2.heap.size W2 U) := by rw [← hU]; exact below_alloc _ _
              have ku : Blk U W2.heap.size [.int .i64 0, .int .i64 0, .int .u8 0, .int .i64 0] 119 := by rw [← hU]; exact Blk.newAt W2 _ _ _ W2.heap.size rfl rfl
              obtain ⟨V, s1, k1, hk1⟩ := SVh_run 64 128 2 128 ku rfl
              have NV : Hid (Below W.heap.size W V) := hid (below_next N2.out (NU.out.trans (hk1.below NU.out.size (fun k h e => by omega))))
              have q0 := k1.cell 0 _ rfl
              obtain ⟨v0, v1, v2, v3, v4, v5, v6, v7, v8⟩ := SW.out V NV.out
              clear ku k1 hk1 y0 y1 y2 y3 y4 y5 y6 y7 y8
              go_wp2
              go_ret
              exact ⟨by rw [E.out]; rfl, below_next BW.out NV.out⟩

            · by_cases h6 : 512 < so
              · have E : Hid (R = 7) := hid (by rw [← hR]; (repeat' split) <;> first | rfl | omega | (exfalso; omega) | (simp_all; done))
                clear hR
                go_enter Tryz.func56, Tryz.ntmps56
                go_wp2_with fail
                clear hW
                refine CH.out.mono ?_
                rintro e W1 ⟨rfl, hb⟩
                have N1 : Hid (Below W.heap.size W W1) := hid hb
                clear hb
                obtain ⟨y0, y1, y2, y3, y4, y5, y6, y7, y8⟩ := SW.out W1 N1.out
                go_wp2_with fail
                refine (hashOf2_ok _).mono ?_
                rintro e W2 ⟨rfl, hb⟩
                have N2 : Hid (Below W.heap.size W W2) := hid (below_next N1.out hb)
                clear hb
                obtain ⟨U, hU⟩ : ∃ U, W2.alloc (.cells #[.int .i64 0, .int .i64 0, .int .u8 0, .int .i64 0] 119) = U := ⟨_, rfl⟩
                have NU : Hid (Below W2.heap.size W2 U) := by rw [← hU]; exact below_alloc _ _
                have ku : Blk U W2.heap.size [.int .i64 0, .int .i64 0, .int .u8 0, .int .i64 0] 119 := by rw [← hU]; exact Blk.newAt W2 _ _ _ W2.heap.size rfl rfl
                obtain ⟨V, s1, k1, hk1⟩ := SVh_run 64 128 2 128 ku rfl
                have NV : Hid (Below W.heap.size W V) := hid (below_next N2.out (NU.out.trans (hk1.below NU.out.size (fun k h e => by omega))))
                have q0 := k1.cell 0 _ rfl
                obtain ⟨v0, v1, v2, v3, v4, v5, v6, v7, v8⟩ := SW.out V NV.out
                clear ku k1 hk1 y0 y1 y2 y3 y4 y5 y6 y7 y8
                go_wp2
                go_ret
                exact ⟨by rw [E.out]; rfl, below_next BW.out NV.out⟩

              · have E : Hid (R = r) := hid (by rw [← hR]; (repeat' split) <;> first | rfl | omega | (exfalso; omega) | (simp_all; done))
                clear hR
                go_enter Tryz.func56, Tryz.ntmps56
                go_wp2_with fail
                clear hW
                refine CH.out.mono ?_
                rintro e W1 ⟨rfl, hb⟩
                have N1 : Hid (Below W.heap.size W W1) := hid hb
                clear hb
                obtain ⟨y0, y1, y2, y3, y4, y5, y6, y7, y8⟩ := SW.out W1 N1.out
                go_wp2_with fail
                refine (hashOf2_ok _).mono ?_
                rintro e W2 ⟨rfl, hb⟩
                have N2 : Hid (Below W.heap.size W W2) := hid (below_next N1.out hb)
                clear hb
                obtain ⟨U, hU⟩ : ∃ U, W2.alloc (.cells #[.int .i64 0, .int .i64 0, .int .u8 0, .int .i64 0] 119) = U := ⟨_, rfl⟩
                have NU : Hid (Below W2.heap.size W2 U) := by rw [← hU]; exact below_alloc _ _
                have ku : Blk U W2.heap.size [.int .i64 0, .int .i64 0, .int .u8 0, .int .i64 0] 119 := by rw [← hU]; exact Blk.newAt W2 _ _ _ W2.heap.size rfl rfl
                obtain ⟨V, s1, k1, hk1⟩ := SVh_run 64 128 2 128 ku rfl
                have NV : Hid (Below W.heap.size W V) := hid (below_next N2.out (NU.out.trans (hk1.below NU.out.size (fun k h e => by omega))))
                have q0 := k1.cell 0 _ rfl
                obtain ⟨v0, v1, v2, v3, v4, v5, v6, v7, v8⟩ := SW.out V NV.out
                clear ku k1 hk1 y0 y1 y2 y3 y4 y5 y6 y7 y8
                go_wp2_with fail
                refine (CR.out _ NV.out).mono ?_
                rintro e W8 ⟨rfl, rfl⟩
                go_wp2
                go_ret
                exact ⟨by rw [E.out]; rfl, below_next BW.out NV.out⟩







  · have hu1 : (u != 0) = true := by simpa using hu0
    have E : Hid (R = u) := hid (by rw [← hR]; (repeat' split) <;> first | rfl | omega | (exfalso; omega) | (simp_all; done))
    clear hR
    go_enter Tryz.func56, Tryz.ntmps56
    go_wp2_with fail
    clear hW
    refine CH.out.mono ?_
    rintro e W1 ⟨rfl, hb⟩
    have N1 : Hid (Below W.heap.size W W1) := hid hb
    clear hb
    go_wp2
    go_ret
    exact ⟨by rw [E.out]; rfl, below_next BW.out N1.out⟩
set_option maxRecDepth 8000 in
set_option maxHeartbeats 1600000 in
theorem refusePbkdf_ok (p gm gk : Nat) (P : St) (s : Sk) (w : World) (hp : PU w p gm gk P) (hs : Sk.Fit s) :
    Calls Tryz.prog 58 #[.pointer (some ⟨p, 0, none⟩), sv s] w fun e w' => e = .returned (.int .i64 (rPbkdf P s)) ∧ Below w.heap.size w w' := by
  obtain ⟨sk, sh, sa, sc, so, sd, sm⟩ := s
  have bh : -9223372036854775808 ≤ sh ∧ sh ≤ 9223372036854775807 := hs.h
  have bc : -9223372036854775808 ≤ sc ∧ sc ≤ 9223372036854775807 := hs.c
  have bo : -9223372036854775808 ≤ so ∧ so ≤ 9223372036854775807 := hs.o
  have bd' : 0 ≤ sd ∧ sd ≤ 9223372036854775807 := hs.d
  have bm : 0 ≤ sm ∧ sm ≤ 9223372036854775807 := hs.m
  obtain ⟨W, hW⟩ : ∃ W, w.alloc (.cells #[.int .u8 sk, .int .i64 sh, .int .u8 sa, .int .i64 sc, .int .i64 so, .int .i64 sd, .int .i64 sm] 40) = W := ⟨_, rfl⟩
  have BW : Hid (Below w.heap.size w W) := by rw [← hW]; exact below_alloc _ _
  have KB : Hid (Blk W w.heap.size [.int .u8 sk, .int .i64 sh, .int .u8 sa, .int .i64 sc, .int .i64 so, .int .i64 sd, .int .i64 sm] 40) := by rw [← hW]; exact Blk.newAt w _ _ _ w.heap.size rfl rfl
  have HP := hid (hp.below BW.out)
  obtain ⟨y, hy⟩ : ∃ y, (hat P sh).getD h0 = y := ⟨_, rfl⟩
  have hyy : yy P sh = y := hy
  obtain ⟨yk, ya, yo, yc, ym⟩ := y
  have LKf : ∀ V, Below W.heap.size W V → (LK (.map (some gm)) (.int .i64 sh) false).run Tryz.prog V = .ok (.agg #[.int .u8 ya, .int .i64 yo, .int .i64 yk, .int .i64 yc, .int .i64 ym]) V := fun V hV => by
    have := (HP.out.below hV).look bh false
    rw [hy] at this
    exact this
  have SW : Hid (∀ V, Below W.heap.size W V → V.cell? ⟨p, 0, none⟩ = some (.map (some gm)) ∧ V.cell? ⟨w.heap.size, 1, none⟩ = some (.int .i64 sh) ∧ V.cell? ⟨w.heap.size, 2, none⟩ = some (.int .u8 sa) ∧ V.cell? ⟨w.heap.size, 3, none⟩ = some (.int .i64 sc) ∧ V.cell? ⟨w.heap.size, 4, none⟩ = some (.int .i64 so) ∧ V.cell? ⟨w.heap.size, 5, none⟩ = some (.int .i64 sd) ∧ V.cell? ⟨w.heap.size, 6, none⟩ = some (.int .i64 sm) ∧ (LDk ⟨w.heap.size, 0, none⟩).run Tryz.prog V = .ok (.agg #[.int .u8 sk, .int .i64 sh, .int .u8 sa, .int .i64 sc, .int .i64 so, .int .i64 sd, .int .i64 sm]) V ∧ (LK (.map (some gm)) (.int .i64 sh) false).run Tryz.prog V = .ok (.agg #[.int .u8 ya, .int .i64 yo, .int .i64 yk, .int .i64 yc, .int .i64 ym]) V) := fun V hV => ⟨(HP.out.below hV).c0, (KB.out.below hV).cell 1 _ rfl, (KB.out.below hV).cell 2 _ rfl, (KB.out.below hV).cell 3 _ rfl, (KB.out.below hV).cell 4 _ rfl, (KB.out.below hV).cell 5 _ rfl, (KB.out.below hV).cell 6 _ rfl, (LDk_run (s := ⟨sk, sh, sa, sc, so, sd, sm⟩) (KB.out.below hV)), LKf V hV⟩
  have CR : Hid (∀ V, Below W.heap.size W V → Calls Tryz.prog 79 #[.pointer (some ⟨p, 0, none⟩)] V fun e w' => e = .returned (.int .i64 (ur P)) ∧ w' = V) := fun V hV => unlessRoom_ok p gm gk P V (HP.out.below hV)
  obtain ⟨r, hr⟩ : ∃ r, ur P = r := ⟨_, rfl⟩
  rw [hr] at CR
  have CH := hid (unlessKey_ok p gm gk P ⟨sk, sh, sa, sc, so, sd, sm⟩ W HP.out hs)
  have CH : Hid (Calls Tryz.prog 60 #[.pointer (some ⟨p, 0, none⟩), .agg #[.int .u8 sk, .int .i64 sh, .int .u8 sa, .int .i64 sc, .int .i64 so, .int .i64 sd, .int .i64 sm]] W fun e w' => e = .returned (.int .i64 (uk P sh)) ∧ Below W.heap.size W w') := CH
  obtain ⟨u, hu⟩ : ∃ u, uk P sh = u := ⟨_, rfl⟩
  rw [hu] at CH
  obtain ⟨x0, x1, x2, x3, x4, x5, x6, x7, x8⟩ := SW.out W (Below.refl _ _)
  obtain ⟨R, hR⟩ : ∃ R, rPbkdf P ⟨sk, sh, sa, sc, so, sd, sm⟩ = R := ⟨_, rfl⟩
  have RE : Hid (rPbkdf P ⟨sk, sh, sa, sc, so, sd, sm⟩ = R) := hid hR
  rw [hR]
  unfold rPbkdf at hR
  try simp only [hu] at hR
  try simp only [hr] at hR
  try simp only [hyy] at hR
  clear LKf hy hyy hp hs HP hu hr
  by_cases hu0 : u = 0
  · subst hu0
    by_cases z0 : sz sa = 0
    · have n1 : (sz sa = 0) = True := by simpa using z0
      have E : Hid (R = 4) := hid (by rw [← hR]; (repeat' split) <;> first | rfl | omega | (exfalso; omega) | (simp_all; done))
      clear hR
      go_enter Tryz.func58, Tryz.ntmps58
      go_wp2_with fail
      clear hW
      refine CH.out.mono ?_
      rintro e W1 ⟨rfl, hb⟩
      have N1 : Hid (Below W.heap.size W W1) := hid hb
      clear hb
      obtain ⟨y0, y1, y2, y3, y4, y5, y6, y7, y8⟩ := SW.out W1 N1.out
      go_wp2_with fail
      refine (hashOf_no sa z0 _).mono ?_
      rintro e W2 ⟨rfl, hb⟩
      have N2 : Hid (Below W.heap.size W W2) := hid (below_next N1.out hb)
      clear hb
      obtain ⟨U, hU⟩ : ∃ U, W2.alloc (.cells #[.int .i64 0, .int .i64 0, .int .u8 0, .int .i64 0] 119) = U := ⟨_, rfl⟩
      have NU : Hid (Below W2.heap.size W2 U) := by rw [← hU]; exact below_alloc _ _
      have ku : Blk U W2.heap.size [.int .i64 0, .int .i64 0, .int .u8 0, .int .i64 0] 119 := by rw [← hU]; exact Blk.newAt W2 _ _ _ W2.heap.size rfl rfl
      obtain ⟨V, s1, k1, hk1⟩ := SVh_run 0 0 0 0 ku rfl
      have NV : Hid (Below W.heap.size W V) := hid (below_next N2.out (NU.out.trans (hk1.below NU.out.size (fun k h e => by omega))))
      have q0 := k1.cell 0 _ rfl
      obtain ⟨v0, v1, v2, v3, v4, v5, v6, v7, v8⟩ := SW.out V NV.out
      clear ku k1 hk1 y0 y1 y2 y3 y4 y5 y6 y7 y8
      go_wp2
      go_ret
      exact ⟨by rw [E.out]; rfl, below_next BW.out NV.out⟩

    rcases sz_cases z0 with ⟨rfl, _⟩ | ⟨rfl, _⟩
    · have zz : sz 1 = 32 := rfl
      rw [zz] at hR
      by_cases h2 : 65536 < sd
      · have E : Hid (R = 9) := hid (by rw [← hR]; (repeat' split) <;> first | rfl | omega | (exfalso; omega) | (simp_all; done))
        clear hR
        go_enter Tryz.func58, Tryz.ntmps58
        go_wp2_with fail
        clear hW
        refine CH.out.mono ?_
        rintro e W1 ⟨rfl, hb⟩
        have N1 : Hid (Below W.heap.size W W1) := hid hb
        clear hb
        obtain ⟨y0, y1, y2, y3, y4, y5, y6, y7, y8⟩ := SW.out W1 N1.out
        go_wp2_with fail
        refine (hashOf1_ok _).mono ?_
        rintro e W2 ⟨rfl, hb⟩
        have N2 : Hid (Below W.heap.size W W2) := hid (below_next N1.out hb)
        clear hb
        obtain ⟨U, hU⟩ : ∃ U, W2.alloc (.cells #[.int .i64 0, .int .i64 0, .int .u8 0, .int .i64 0] 119) = U := ⟨_, rfl⟩
        have NU : Hid (Below W2.heap.size W2 U) := by rw [← hU]; exact below_alloc _ _
        have ku : Blk U W2.heap.size [.int .i64 0, .int .i64 0, .int .u8 0, .int .i64 0] 119 := by rw [← hU]; exact Blk.newAt W2 _ _ _ W2.heap.size rfl rfl
        obtain ⟨V, s1, k1, hk1⟩ := SVh_run 32 64 1 64 ku rfl
        have NV : Hid (Below W.heap.size W V) := hid (below_next N2.out (NU.out.trans (hk1.below NU.out.size (fun k h e => by omega))))
        have q0 := k1.cell 0 _ rfl
        obtain ⟨v0, v1, v2, v3, v4, v5, v6, v7, v8⟩ := SW.out V NV.out
        clear ku k1 hk1 y0 y1 y2 y3 y4 y5 y6 y7 y8
        go_wp2
        go_ret
        exact ⟨by rw [E.out]; rfl, below_next BW.out NV.out⟩

      · by_cases h4 : 137438953440 < so
        · have E : Hid (R = 9) := hid (by rw [← hR]; (repeat' split) <;> first | rfl | omega | (exfalso; omega) | (simp_all; done))
          clear hR
          go_enter Tryz.func58, Tryz.ntmps58
          go_wp2_with fail
          clear hW
          refine CH.out.mono ?_
          rintro e W1 ⟨rfl, hb⟩
          have N1 : Hid (Below W.heap.size W W1) := hid hb
          clear hb
          obtain ⟨y0, y1, y2, y3, y4, y5, y6, y7, y8⟩ := SW.out W1 N1.out
          go_wp2_with fail
          refine (hashOf1_ok _).mono ?_
          rintro e W2 ⟨rfl, hb⟩
          have N2 : Hid (Below W.heap.size W W2) := hid (below_next N1.out hb)
          clear hb
          obtain ⟨U, hU⟩ : ∃ U, W2.alloc (.cells #[.int .i64 0, .int .i64 0, .int .u8 0, .int .i64 0] 119) = U := ⟨_, rfl⟩
          have NU : Hid (Below W2.heap.size W2 U) := by rw [← hU]; exact below_alloc _ _
          have ku : Blk U W2.heap.size [.int .i64 0, .int .i64 0, .int .u8 0, .int .i64 0] 119 := by rw [← hU]; exact Blk.newAt W2 _ _ _ W2.heap.size rfl rfl
          obtain ⟨V, s1, k1, hk1⟩ := SVh_run 32 64 1 64 ku rfl
          have NV : Hid (Below W.heap.size W V) := hid (below_next N2.out (NU.out.trans (hk1.below NU.out.size (fun k h e => by omega))))
          have q0 := k1.cell 0 _ rfl
          obtain ⟨v0, v1, v2, v3, v4, v5, v6, v7, v8⟩ := SW.out V NV.out
          clear ku k1 hk1 y0 y1 y2 y3 y4 y5 y6 y7 y8
          go_wp2
          go_ret
          exact ⟨by rw [E.out]; rfl, below_next BW.out NV.out⟩

        · by_cases h7 : sc < 1
          · have E : Hid (R = 10) := hid (by rw [← hR]; (repeat' split) <;> first | rfl | omega | (exfalso; omega) | (simp_all; done))
            clear hR
            go_enter Tryz.func58, Tryz.ntmps58
            go_wp2_with fail
            clear hW
            refine CH.out.mono ?_
            rintro e W1 ⟨rfl, hb⟩
            have N1 : Hid (Below W.heap.size W W1) := hid hb
            clear hb
            obtain ⟨y0, y1, y2, y3, y4, y5, y6, y7, y8⟩ := SW.out W1 N1.out
            go_wp2_with fail
            refine (hashOf1_ok _).mono ?_
            rintro e W2 ⟨rfl, hb⟩
            have N2 : Hid (Below W.heap.size W W2) := hid (below_next N1.out hb)
            clear hb
            obtain ⟨U, hU⟩ : ∃ U, W2.alloc (.cells #[.int .i64 0, .int .i64 0, .int .u8 0, .int .i64 0] 119) = U := ⟨_, rfl⟩
            have NU : Hid (Below W2.heap.size W2 U) := by rw [← hU]; exact below_alloc _ _
            have ku : Blk U W2.heap.size [.int .i64 0, .int .i64 0, .int .u8 0, .int .i64 0] 119 := by rw [← hU]; exact Blk.newAt W2 _ _ _ W2.heap.size rfl rfl
            obtain ⟨V, s1, k1, hk1⟩ := SVh_run 32 64 1 64 ku rfl
            have NV : Hid (Below W.heap.size W V) := hid (below_next N2.out (NU.out.trans (hk1.below NU.out.size (fun k h e => by omega))))
            have q0 := k1.cell 0 _ rfl
            obtain ⟨v0, v1, v2, v3, v4, v5, v6, v7, v8⟩ := SW.out V NV.out
            clear ku k1 hk1 y0 y1 y2 y3 y4 y5 y6 y7 y8
            go_wp2
            go_ret
            exact ⟨by rw [E.out]; rfl, below_next BW.out NV.out⟩

          · by_cases h8 : 1048576 < sc
            · have E : Hid (R = 10) := hid (by rw [← hR]; (repeat' split) <;> first | rfl | omega | (exfalso; omega) | (simp_all; done))
              clear hR
              go_enter Tryz.func58, Tryz.ntmps58
              go_wp2_with fail
              clear hW
              refine CH.out.mono ?_
              rintro e W1 ⟨rfl, hb⟩
              have N1 : Hid (Below W.heap.size W W1) := hid hb
              clear hb
              obtain ⟨y0, y1, y2, y3, y4, y5, y6, y7, y8⟩ := SW.out W1 N1.out
              go_wp2_with fail
              refine (hashOf1_ok _).mono ?_
              rintro e W2 ⟨rfl, hb⟩
              have N2 : Hid (Below W.heap.size W W2) := hid (below_next N1.out hb)
              clear hb
              obtain ⟨U, hU⟩ : ∃ U, W2.alloc (.cells #[.int .i64 0, .int .i64 0, .int .u8 0, .int .i64 0] 119) = U := ⟨_, rfl⟩
              have NU : Hid (Below W2.heap.size W2 U) := by rw [← hU]; exact below_alloc _ _
              have ku : Blk U W2.heap.size [.int .i64 0, .int .i64 0, .int .u8 0, .int .i64 0] 119 := by rw [← hU]; exact Blk.newAt W2 _ _ _ W2.heap.size rfl rfl
              obtain ⟨V, s1, k1, hk1⟩ := SVh_run 32 64 1 64 ku rfl
              have NV : Hid (Below W.heap.size W V) := hid (below_next N2.out (NU.out.trans (hk1.below NU.out.size (fun k h e => by omega))))
              have q0 := k1.cell 0 _ rfl
              obtain ⟨v0, v1, v2, v3, v4, v5, v6, v7, v8⟩ := SW.out V NV.out
              clear ku k1 hk1 y0 y1 y2 y3 y4 y5 y6 y7 y8
              go_wp2
              go_ret
              exact ⟨by rw [E.out]; rfl, below_next BW.out NV.out⟩

            · by_cases h5 : so < 1
              · have E : Hid (R = 7) := hid (by rw [← hR]; (repeat' split) <;> first | rfl | omega | (exfalso; omega) | (simp_all; done))
                clear hR
                go_enter Tryz.func58, Tryz.ntmps58
                go_wp2_with fail
                clear hW
                refine CH.out.mono ?_
                rintro e W1 ⟨rfl, hb⟩
                have N1 : Hid (Below W.heap.size W W1) := hid hb
                clear hb
                obtain ⟨y0, y1, y2, y3, y4, y5, y6, y7, y8⟩ := SW.out W1 N1.out
                go_wp2_with fail
                refine (hashOf1_ok _).mono ?_
                rintro e W2 ⟨rfl, hb⟩
                have N2 : Hid (Below W.heap.size W W2) := hid (below_next N1.out hb)
                clear hb
                obtain ⟨U, hU⟩ : ∃ U, W2.alloc (.cells #[.int .i64 0, .int .i64 0, .int .u8 0, .int .i64 0] 119) = U := ⟨_, rfl⟩
                have NU : Hid (Below W2.heap.size W2 U) := by rw [← hU]; exact below_alloc _ _
                have ku : Blk U W2.heap.size [.int .i64 0, .int .i64 0, .int .u8 0, .int .i64 0] 119 := by rw [← hU]; exact Blk.newAt W2 _ _ _ W2.heap.size rfl rfl
                obtain ⟨V, s1, k1, hk1⟩ := SVh_run 32 64 1 64 ku rfl
                have NV : Hid (Below W.heap.size W V) := hid (below_next N2.out (NU.out.trans (hk1.below NU.out.size (fun k h e => by omega))))
                have q0 := k1.cell 0 _ rfl
                obtain ⟨v0, v1, v2, v3, v4, v5, v6, v7, v8⟩ := SW.out V NV.out
                clear ku k1 hk1 y0 y1 y2 y3 y4 y5 y6 y7 y8
                go_wp2
                go_ret
                exact ⟨by rw [E.out]; rfl, below_next BW.out NV.out⟩

              · by_cases h6 : 512 < so
                · have E : Hid (R = 7) := hid (by rw [← hR]; (repeat' split) <;> first | rfl | omega | (exfalso; omega) | (simp_all; done))
                  clear hR
                  go_enter Tryz.func58, Tryz.ntmps58
                  go_wp2_with fail
                  clear hW
                  refine CH.out.mono ?_
                  rintro e W1 ⟨rfl, hb⟩
                  have N1 : Hid (Below W.heap.size W W1) := hid hb
                  clear hb
                  obtain ⟨y0, y1, y2, y3, y4, y5, y6, y7, y8⟩ := SW.out W1 N1.out
                  go_wp2_with fail
                  refine (hashOf1_ok _).mono ?_
                  rintro e W2 ⟨rfl, hb⟩
                  have N2 : Hid (Below W.heap.size W W2) := hid (below_next N1.out hb)
                  clear hb
                  obtain ⟨U, hU⟩ : ∃ U, W2.alloc (.cells #[.int .i64 0, .int .i64 0, .int .u8 0, .int .i64 0] 119) = U := ⟨_, rfl⟩
                  have NU : Hid (Below W2.heap.size W2 U) := by rw [← hU]; exact below_alloc _ _
                  have ku : Blk U W2.heap.size [.int .i64 0, .int .i64 0, .int .u8 0, .int .i64 0] 119 := by rw [← hU]; exact Blk.newAt W2 _ _ _ W2.heap.size rfl rfl
                  obtain ⟨V, s1, k1, hk1⟩ := SVh_run 32 64 1 64 ku rfl
                  have NV : Hid (Below W.heap.size W V) := hid (below_next N2.out (NU.out.trans (hk1.below NU.out.size (fun k h e => by omega))))
                  have q0 := k1.cell 0 _ rfl
                  obtain ⟨v0, v1, v2, v3, v4, v5, v6, v7, v8⟩ := SW.out V NV.out
                  clear ku k1 hk1 y0 y1 y2 y3 y4 y5 y6 y7 y8
                  go_wp2
                  go_ret
                  exact ⟨by rw [E.out]; rfl, below_next BW.out NV.out⟩

                · have E : Hid (R = r) := hid (by rw [← hR]; (repeat' split) <;> first | rfl | omega | (exfalso; omega) | (simp_all; done))
                  clear hR
                  go_enter Tryz.func58, Tryz.ntmps58
                  go_wp2_with fail
                  clear hW
                  refine CH.out.mono ?_
                  rintro e W1 ⟨rfl, hb⟩
                  have N1 : Hid (Below W.heap.size W W1) := hid hb
                  clear hb
                  obtain ⟨y0, y1, y2, y3, y4, y5, y6, y7, y8⟩ := SW.out W1 N1.out
                  go_wp2_with fail
                  refine (hashOf1_ok _).mono ?_
                  rintro e W2 ⟨rfl, hb⟩
                  have N2 : Hid (Below W.heap.size W W2) := hid (below_next N1.out hb)
                  clear hb
                  obtain ⟨U, hU⟩ : ∃ U, W2.alloc (.cells #[.int .i64 0, .int .i64 0, .int .u8 0, .int .i64 0] 119) = U := ⟨_, rfl⟩
                  have NU : Hid (Below W2.heap.size W2 U) := by rw [← hU]; exact below_alloc _ _
                  have ku : Blk U W2.heap.size [.int .i64 0, .int .i64 0, .int .u8 0, .int .i64 0] 119 := by rw [← hU]; exact Blk.newAt W2 _ _ _ W2.heap.size rfl rfl
                  obtain ⟨V, s1, k1, hk1⟩ := SVh_run 32 64 1 64 ku rfl
                  have NV : Hid (Below W.heap.size W V) := hid (below_next N2.out (NU.out.trans (hk1.below NU.out.size (fun k h e => by omega))))
                  have q0 := k1.cell 0 _ rfl
                  obtain ⟨v0, v1, v2, v3, v4, v5, v6, v7, v8⟩ := SW.out V NV.out
                  clear ku k1 hk1 y0 y1 y2 y3 y4 y5 y6 y7 y8
                  go_wp2_with fail
                  refine (CR.out _ NV.out).mono ?_
                  rintro e W8 ⟨rfl, rfl⟩
                  go_wp2
                  go_ret
                  exact ⟨by rw [E.out]; rfl, below_next BW.out NV.out⟩







    · have zz : sz 2 = 64 := rfl
      rw [zz] at hR
      by_cases h2 : 65536 < sd
      · have E : Hid (R = 9) := hid (by rw [← hR]; (repeat' split) <;> first | rfl | omega | (exfalso; omega) | (simp_all; done))
        clear hR
        go_enter Tryz.func58, Tryz.ntmps58
        go_wp2_with fail
        clear hW
        refine CH.out.mono ?_
        rintro e W1 ⟨rfl, hb⟩
        have N1 : Hid (Below W.heap.size W W1) := hid hb
        clear hb
        obtain ⟨y0, y1, y2, y3, y4, y5, y6, y7, y8⟩ := SW.out W1 N1.out
        go_wp2_with fail
        refine (hashOf2_ok _).mono ?_
        rintro e W2 ⟨rfl, hb⟩
        have N2 : Hid (Below W.heap.size W W2) := hid (below_next N1.out hb)
        clear hb
        obtain ⟨U, hU⟩ : ∃ U, W2.alloc (.cells #[.int .i64 0, .int .i64 0, .int .u8 0, .int .i64 0] 119) = U := ⟨_, rfl⟩
        have NU : Hid (Below W2.heap.size W2 U) := by rw [← hU]; exact below_alloc _ _
        have ku : Blk U W2.heap.size [.int .i64 0, .int .i64 0, .int .u8 0, .int .i64 0] 119 := by rw [← hU]; exact Blk.newAt W2 _ _ _ W2.heap.size rfl rfl
        obtain ⟨V, s1, k1, hk1⟩ := SVh_run 64 128 2 128 ku rfl
        have NV : Hid (Below W.heap.size W V) := hid (below_next N2.out (NU.out.trans (hk1.below NU.out.size (fun k h e => by omega))))
        have q0 := k1.cell 0 _ rfl
        obtain ⟨v0, v1, v2, v3, v4, v5, v6, v7, v8⟩ := SW.out V NV.out
        clear ku k1 hk1 y0 y1 y2 y3 y4 y5 y6 y7 y8
        go_wp2
        go_ret
        exact ⟨by rw [E.out]; rfl, below_next BW.out NV.out⟩

      · by_cases h4 : 274877906880 < so
        · have E : Hid (R = 9) := hid (by rw [← hR]; (repeat' split) <;> first | rfl | omega | (exfalso; omega) | (simp_all; done))
          clear hR
          go_enter Tryz.func58, Tryz.ntmps58
          go_wp2_with fail
          clear hW
          refine CH.out.mono ?_
          rintro e W1 ⟨rfl, hb⟩
          have N1 : Hid (Below W.heap.size W W1) := hid hb
          clear hb
          obtain ⟨y0, y1, y2, y3, y4, y5, y6, y7, y8⟩ := SW.out W1 N1.out
          go_wp2_with fail
          refine (hashOf2_ok _).mono ?_
          rintro e W2 ⟨rfl, hb⟩
          have N2 : Hid (Below W.heap.size W W2) := hid (below_next N1.out hb)
          clear hb
          obtain ⟨U, hU⟩ : ∃ U, W2.alloc (.cells #[.int .i64 0, .int .i64 0, .int .u8 0, .int .i64 0] 119) = U := ⟨_, rfl⟩
          have NU : Hid (Below W2.heap.size W2 U) := by rw [← hU]; exact below_alloc _ _
          have ku : Blk U W2.heap.size [.int .i64 0, .int .i64 0, .int .u8 0, .int .i64 0] 119 := by rw [← hU]; exact Blk.newAt W2 _ _ _ W2.heap.size rfl rfl
          obtain ⟨V, s1, k1, hk1⟩ := SVh_run 64 128 2 128 ku rfl
          have NV : Hid (Below W.heap.size W V) := hid (below_next N2.out (NU.out.trans (hk1.below NU.out.size (fun k h e => by omega))))
          have q0 := k1.cell 0 _ rfl
          obtain ⟨v0, v1, v2, v3, v4, v5, v6, v7, v8⟩ := SW.out V NV.out
          clear ku k1 hk1 y0 y1 y2 y3 y4 y5 y6 y7 y8
          go_wp2
          go_ret
          exact ⟨by rw [E.out]; rfl, below_next BW.out NV.out⟩

        · by_cases h7 : sc < 1
          · have E : Hid (R = 10) := hid (by rw [← hR]; (repeat' split) <;> first | rfl | omega | (exfalso; omega) | (simp_all; done))
            clear hR
            go_enter Tryz.func58, Tryz.ntmps58
            go_wp2_with fail
            clear hW
            refine CH.out.mono ?_
            rintro e W1 ⟨rfl, hb⟩
            have N1 : Hid (Below W.heap.size W W1) := hid hb
            clear hb
            obtain ⟨y0, y1, y2, y3, y4, y5, y6, y7, y8⟩ := SW.out W1 N1.out
            go_wp2_with fail
            refine (hashOf2_ok _).mono ?_
            rintro e W2 ⟨rfl, hb⟩
            have N2 : Hid (Below W.heap.size W W2) := hid (below_next N1.out hb)
            clear hb
            obtain ⟨U, hU⟩ : ∃ U, W2.alloc (.cells #[.int .i64 0, .int .i64 0, .int .u8 0, .int .i64 0] 119) = U := ⟨_, rfl⟩
            have NU : Hid (Below W2.heap.size W2 U) := by rw [← hU]; exact below_alloc _ _
            have ku : Blk U W2.heap.size [.int .i64 0, .int .i64 0, .int .u8 0, .int .i64 0] 119 := by rw [← hU]; exact Blk.newAt W2 _ _ _ W2.heap.size rfl rfl
            obtain ⟨V, s1, k1, hk1⟩ := SVh_run 64 128 2 128 ku rfl
            have NV : Hid (Below W.heap.size W V) := hid (below_next N2.out (NU.out.trans (hk1.below NU.out.size (fun k h e => by omega))))
            have q0 := k1.cell 0 _ rfl
            obtain ⟨v0, v1, v2, v3, v4, v5, v6, v7, v8⟩ := SW.out V NV.out
            clear ku k1 hk1 y0 y1 y2 y3 y4 y5 y6 y7 y8
            go_wp2
            go_ret
            exact ⟨by rw [E.out]; rfl, below_next BW.out NV.out⟩

          · by_cases h8 : 1048576 < sc
            · have E : Hid (R = 10) := hid (by rw [← hR]; (repeat' split) <;> first | rfl | omega | (exfalso; omega) | (simp_all; done))
              clear hR
              go_enter Tryz.func58, Tryz.ntmps58
              go_wp2_with fail
              clear hW
              refine CH.out.mono ?_
              rintro e W1 ⟨rfl, hb⟩
              have N1 : Hid (Below W.heap.size W W1) := hid hb
              clear hb
              obtain ⟨y0, y1, y2, y3, y4, y5, y6, y7, y8⟩ := SW.out W1 N1.out
              go_wp2_with fail
              refine (hashOf2_ok _).mono ?_
              rintro e W2 ⟨rfl, hb⟩
              have N2 : Hid (Below W.heap.size W W2) := hid (below_next N1.out hb)
              clear hb
              obtain ⟨U, hU⟩ : ∃ U, W2.alloc (.cells #[.int .i64 0, .int .i64 0, .int .u8 0, .int .i64 0] 119) = U := ⟨_, rfl⟩
              have NU : Hid (Below W2.heap.size W2 U) := by rw [← hU]; exact below_alloc _ _
              have ku : Blk U W2.heap.size [.int .i64 0, .int .i64 0, .int .u8 0, .int .i64 0] 119 := by rw [← hU]; exact Blk.newAt W2 _ _ _ W2.heap.size rfl rfl
              obtain ⟨V, s1, k1, hk1⟩ := SVh_run 64 128 2 128 ku rfl
              have NV : Hid (Below W.heap.size W V) := hid (below_next N2.out (NU.out.trans (hk1.below NU.out.size (fun k h e => by omega))))
              have q0 := k1.cell 0 _ rfl
              obtain ⟨v0, v1, v2, v3, v4, v5, v6, v7, v8⟩ := SW.out V NV.out
              clear ku k1 hk1 y0 y1 y2 y3 y4 y5 y6 y7 y8
              go_wp2
              go_ret
              exact ⟨by rw [E.out]; rfl, below_next BW.out NV.out⟩

            · by_cases h5 : so < 1
              · have E : Hid (R = 7) := hid (by rw [← hR]; (repeat' split) <;> first | rfl | omega | (exfalso; omega) | (simp_all; done))
                clear hR
                go_enter Tryz.func58, Tryz.ntmps58
                go_wp2_with fail
                clear hW
                refine CH.out.mono ?_
                rintro e W1 ⟨rfl, hb⟩
                have N1 : Hid (Below W.heap.size W W1) := hid hb
                clear hb
                obtain ⟨y0, y1, y2, y3, y4, y5, y6, y7, y8⟩ := SW.out W1 N1.out
                go_wp2_with fail
                refine (hashOf2_ok _).mono ?_
                rintro e W2 ⟨rfl, hb⟩
                have N2 : Hid (Below W.heap.size W W2) := hid (below_next N1.out hb)
                clear hb
                obtain ⟨U, hU⟩ : ∃ U, W2.alloc (.cells #[.int .i64 0, .int .i64 0, .int .u8 0, .int .i64 0] 119) = U := ⟨_, rfl⟩
                have NU : Hid (Below W2.heap.size W2 U) := by rw [← hU]; exact below_alloc _ _
                have ku : Blk U W2.heap.size [.int .i64 0, .int .i64 0, .int .u8 0, .int .i64 0] 119 := by rw [← hU]; exact Blk.newAt W2 _ _ _ W2.heap.size rfl rfl
                obtain ⟨V, s1, k1, hk1⟩ := SVh_run 64 128 2 128 ku rfl
                have NV : Hid (Below W.heap.size W V) := hid (below_next N2.out (NU.out.trans (hk1.below NU.out.size (fun k h e => by omega))))
                have q0 := k1.cell 0 _ rfl
                obtain ⟨v0, v1, v2, v3, v4, v5, v6, v7, v8⟩ := SW.out V NV.out
                clear ku k1 hk1 y0 y1 y2 y3 y4 y5 y6 y7 y8
                go_wp2
                go_ret
                exact ⟨by rw [E.out]; rfl, below_next BW.out NV.out⟩

              · by_cases h6 : 512 < so
                · have E : Hid (R = 7) := hid (by rw [← hR]; (repeat' split) <;> first | rfl | omega | (exfalso; omega) | (simp_all; done))
                  clear hR
                  go_enter Tryz.func58, Tryz.ntmps58
                  go_wp2_with fail
                  clear hW
                  refine CH.out.mono ?_
                  rintro e W1 ⟨rfl, hb⟩
                  have N1 : Hid (Below W.heap.size W W1) := hid hb
                  clear hb
                  obtain ⟨y0, y1, y2, y3, y4, y5, y6, y7, y8⟩ := SW.out W1 N1.out
                  go_wp2_with fail
                  refine (hashOf2_ok _).mono ?_
                  rintro e W2 ⟨rfl, hb⟩
                  have N2 : Hid (Below W.heap.size W W2) := hid (below_next N1.out hb)
                  clear hb
                  obtain ⟨U, hU⟩ : ∃ U, W2.alloc (.cells #[.int .i64 0, .int .i64 0, .int .u8 0, .int .i64 0] 119) = U := ⟨_, rfl⟩
                  have NU : Hid (Below W2.heap.size W2 U) := by rw [← hU]; exact below_alloc _ _
                  have ku : Blk U W2.heap.size [.int .i64 0, .int .i64 0, .int .u8 0, .int .i64 0] 119 := by rw [← hU]; exact Blk.newAt W2 _ _ _ W2.heap.size rfl rfl
                  obtain ⟨V, s1, k1, hk1⟩ := SVh_run 64 128 2 128 ku rfl
                  have NV : Hid (Below W.heap.size W V) := hid (below_next N2.out (NU.out.trans (hk1.below NU.out.size (fun k h e => by omega))))
                  have q0 := k1.cell 0 _ rfl
                  obtain ⟨v0, v1, v2, v3, v4, v5, v6, v7, v8⟩ := SW.out V NV.out
                  clear ku k1 hk1 y0 y1 y2 y3 y4 y5 y6 y7 y8
                  go_wp2
                  go_ret
                  exact ⟨by rw [E.out]; rfl, below_next BW.out NV.out⟩

                · have E : Hid (R = r) := hid (by rw [← hR]; (repeat' split) <;> first | rfl | omega | (exfalso; omega) | (simp_all; done))
                  clear hR
                  go_enter Tryz.func58, Tryz.ntmps58
                  go_wp2_with fail
                  clear hW
                  refine CH.out.mono ?_
                  rintro e W1 ⟨rfl, hb⟩
                  have N1 : Hid (Below W.heap.size W W1) := hid hb
                  clear hb
                  obtain ⟨y0, y1, y2, y3, y4, y5, y6, y7, y8⟩ := SW.out W1 N1.out
                  go_wp2_with fail
                  refine (hashOf2_ok _).mono ?_
                  rintro e W2 ⟨rfl, hb⟩
                  have N2 : Hid (Below W.heap.size W W2) := hid (below_next N1.out hb)
                  clear hb
                  obtain ⟨U, hU⟩ : ∃ U, W2.alloc (.cells #[.int .i64 0, .int .i64 0, .int .u8 0, .int .i64 0] 119) = U := ⟨_, rfl⟩
                  have NU : Hid (Below W2.heap.size W2 U) := by rw [← hU]; exact below_alloc _ _
                  have ku : Blk U W2.heap.size [.int .i64 0, .int .i64 0, .int .u8 0, .int .i64 0] 119 := by rw [← hU]; exact Blk.newAt W2 _ _ _ W2.heap.size rfl rfl
                  obtain ⟨V, s1, k1, hk1⟩ := SVh_run 64 128 2 128 ku rfl
                  have NV : Hid (Below W.heap.size W V) := hid (below_next N2.out (NU.out.trans (hk1.below NU.out.size (fun k h e => by omega))))
                  have q0 := k1.cell 0 _ rfl
                  obtain ⟨v0, v1, v2, v3, v4, v5, v6, v7, v8⟩ := SW.out V NV.out
                  clear ku k1 hk1 y0 y1 y2 y3 y4 y5 y6 y7 y8
                  go_wp2_with fail
                  refine (CR.out _ NV.out).mono ?_
                  rintro e W8 ⟨rfl, rfl⟩
                  go_wp2
                  go_ret
                  exact ⟨by rw [E.out]; rfl, below_next BW.out NV.out⟩








  · have hu1 : (u != 0) = true := by simpa using hu0
    have E : Hid (R = u) := hid (by rw [← hR]; (repeat' split) <;> first | rfl | omega | (exfalso; omega) | (simp_all; done))
    clear hR
    go_enter Tryz.func58, Tryz.ntmps58
    go_wp2_with fail
    clear hW
    refine CH.out.mono ?_
    rintro e W1 ⟨rfl, hb⟩
    have N1 : Hid (Below W.heap.size W W1) := hid hb
    clear hb
    go_wp2
    go_ret
    exact ⟨by rw [E.out]; rfl, below_next BW.out N1.out⟩
end Go.Proofs.YtdmacflcjbkkpaaGreat.Co
