/- NaiveNames, walked: the chapter's examples. -/
import Derived.Test.YtpcnkiapbkmjbaaNwp
namespace Go.Proofs.Ytpcnkiapbkmjbaa.Nv
open Go.ChangeShapes Go.WideShapes Go.ChangeAt Go.RowKit
open Go.Proofs.Ytpcnkiapbkmjbaa Go.Proofs.Ytpcnkiapbkmjbaa.Tb
theorem hidm {p : Prop} (h : p) : Hid p := h
theorem box_run2 (a : Nat) : putL [] (ix a) = [ix a] := rfl
def abc3 : List Int := [97, 98, 99]
def abx3 : List Int := [97, 98, 120]
def ab2 : List Int := [97, 98]
def n312 : List Int := [3, 1, 2]
def n123 : List Int := [1, 2, 3]
theorem nm1 : eqA (By.lst abcd) (By.lst abc3) 4 3 = false ∧ eqL (By.lst abcd) (By.lst abc3) 4 3 = [] := by decide +kernel
theorem nm2 : fiA (By.lst abx3) 120 3 = 2 ∧ fiL (By.lst abx3) 120 3 = [false, false, true] := by decide +kernel
theorem nm3 : fiA (By.lst ab2) 120 2 = -1 := by decide +kernel
theorem nm4 : (srt (By.lst n312) 3).2 = [true, true, false] ∧ (srt (By.lst n312) 3).1 0 = 1 ∧ (srt (By.lst n312) 3).1 1 = 2 ∧ (srt (By.lst n312) 3).1 2 = 3 := by decide +kernel
theorem nm5 : Gf.box 83 = 237 := by decide +kernel
theorem pn1 : 3 ^ 5 % 7 = 5 ∧ 2 ^ 64 % 1 = 0 ∧ 0 ^ 0 % 5 = 1 ∧ 9223372036854775808 ^ 2 % 18446744073709551557 = 13835058055282164538 := by decide +kernel
theorem three : (By.bl 3 (By.lst abc3)).toArray = #[Value.int .u8 97, Value.int .u8 98, Value.int .u8 99] := rfl
theorem threex : (By.bl 3 (By.lst abx3)).toArray = #[Value.int .u8 97, Value.int .u8 98, Value.int .u8 120] := rfl
theorem two2 : (By.bl 2 (By.lst ab2)).toArray = #[Value.int .u8 97, Value.int .u8 98] := rfl
theorem t312 : (By.bl 3 (By.lst n312)).toArray = #[Value.int .u8 3, Value.int .u8 1, Value.int .u8 2] := rfl
theorem t123 : (By.bl 3 (By.lst n123)).toArray = #[Value.int .u8 1, Value.int .u8 2, Value.int .u8 3] := rfl
theorem fi_nil (a : Value) (x : Int) (n : Nat) (f : Nat → Int) (w : World) (hn : n ≤ 200) (ha : By.RB w a n f) :
    Calls Try.prog 19 #[.pointer none, a, .int .u8 x] w fun r w' => r = .returned (.int .i64 (fiA f x n)) ∧ Below w.heap.size w w' := by
  refine (fi_walk (lo := none) (rv0 := .slice none 0 0) a x n f (pl_none w _).st tot0 hn (fun w' hk => rb_kept ha hk (fun b off cap _ => .inr id))).mono ?_
  rintro r w' ⟨rfl, hs⟩
  exact ⟨rfl, st_none hs⟩
theorem p0 (w : World) : Calls Try.prog 17 #[.pointer none, .int .u64 3, .int .u64 5, .int .u64 7] w fun r w' => r = .returned (.tuple #[.int .u64 5, .int .i64 0]) ∧ Below w.heap.size w w' := by
  have h := pow_nil 3 5 7 w (by omega) (by omega) (by omega) (by omega)
  rw [pn1.1] at h; exact h
theorem p1 (w : World) : Calls Try.prog 17 #[.pointer none, .int .u64 2, .int .u64 64, .int .u64 1] w fun r w' => r = .returned (.tuple #[.int .u64 0, .int .i64 0]) ∧ Below w.heap.size w w' := by
  have h := pow_nil 2 64 1 w (by omega) (by omega) (by omega) (by omega)
  rw [pn1.2.1] at h; exact h
theorem p2 (w : World) : Calls Try.prog 17 #[.pointer none, .int .u64 0, .int .u64 0, .int .u64 5] w fun r w' => r = .returned (.tuple #[.int .u64 1, .int .i64 0]) ∧ Below w.heap.size w w' := by
  have h := pow_nil 0 0 5 w (by omega) (by omega) (by omega) (by omega)
  rw [pn1.2.2.1] at h; exact h
theorem p3 (w : World) : Calls Try.prog 17 #[.pointer none, .int .u64 9223372036854775808, .int .u64 2, .int .u64 18446744073709551557] w fun r w' => r = .returned (.tuple #[.int .u64 13835058055282164538, .int .i64 0]) ∧ Below w.heap.size w w' := by
  have h := pow_nil 9223372036854775808 2 18446744073709551557 w (by omega) (by omega) (by omega) (by omega)
  rw [pn1.2.2.2] at h; exact h
set_option maxRecDepth 100000 in
set_option maxHeartbeats 8000000 in
theorem names_walk (w : World) : Calls Try.prog 7 #[] w fun e w' => e = .returned (.bool true) ∧ Below w.heap.size w w' := by
  have G0 := hidm (GX.start w)
  have ab := hidm (By.lst_bound abcd (by decide))
  have a3 := hidm (By.lst_bound abc3 (by decide))
  have ax := hidm (By.lst_bound abx3 (by decide))
  have a2 := hidm (By.lst_bound ab2 (by decide))
  have b3 := hidm (By.lst_bound n312 (by decide))
  have b1 := hidm (By.lst_bound n123 (by decide))
  go_enter Try.func7, Try.ntmps7
  go_wp2_with fail
  refine (gx_new G0.out 0).mono ?_
  rintro e W1 ⟨rfl, t1, hG1, hk1, -⟩
  have G1 := hidm hG1
  have K1 := hidm hk1
  clear hG1 hk1 G0
  generalize hB0 : w.heap.size = B0 at *
  have cv1 := Lib.run_convert_bytes_const (P := Try.prog) W1 22 5 #[Value.int .u8 97, .int .u8 98, .int .u8 99, .int .u8 100] 4 4 Try.underlying22 Try.underlying5
  have cv2 := Go.Joins.run_convert_bytes_const_at (P := Try.prog) (W1.alloc (.cells #[Value.int .u8 97, .int .u8 98, .int .u8 99, .int .u8 100] 5 (4, 5))) 22 5 #[Value.int .u8 97, .int .u8 98, .int .u8 99] 3 3 (W1.heap.size + 1) (by simp) Try.underlying22 Try.underlying5
  go_wp2_with fail
  refine (eq_lits G1.out K1.out tot0 _ _ (4, 5) (3, 4) _ 4 3 (By.lst abcd) (By.lst abc3) rfl ab.out a3.out (by omega) (by omega) four.symm three.symm).mono ?_
  rintro e W2 ⟨rfl, t2, hG2, hk2, -⟩
  rw [nm1.1]
  rw [nm1.2] at hk2
  have G2 := hidm hG2
  have K2 := hidm (show LgP t2 0 B0 [] from hk2)
  clear hG2 hk2 G1 K1 cv1 cv2
  have BX := hidm (gx_bx G2.out K2.out tot0 83 (by omega))
  rw [nm5, box_run2] at BX
  go_wp2_with fail
  refine BX.out.mono ?_
  rintro e W3 ⟨rfl, t3, hG3, hk3, -⟩
  have G3 := hidm hG3
  have K3 := hidm hk3
  clear hG3 hk3 BX G2 K2
  go_wp2_with fail
  refine (gx_runs G3.out K3.out (by simp)).mono ?_
  rintro e W4 ⟨v4, rfl, hr4, hb4⟩
  have R4 := hidm hr4
  have G4 := hidm (G3.out.below hb4)
  clear hr4 hb4 G3
  go_wp2_with fail
  have LT := hidm (own_lit W4 [ix 83] #[.int .u8 10, .int .i64 83, .int .i64 1] (fun r hr => by rw [List.mem_singleton.1 hr]; exact ix_ok 83 (by omega)) rfl (by simp [maxLen]))
  have R4' := hidm (R4.out.below (below_alloc W4 (.cells #[.int .u8 10, .int .i64 83, .int .i64 1] 61)))
  have G4' := hidm (G4.out.below (below_alloc W4 (.cells #[.int .u8 10, .int .i64 83, .int .i64 1] 61)))
  refine (same14 v4 _ _ _ _ R4'.out LT.out.reads (by simp) (by simp)).mono ?_
  rintro e W5 ⟨rfl, d5, rfl⟩
  rw [decide_eq_true rfl]
  have G5 := hidm (G4'.out.drewN d5)
  clear R4 R4' LT G4 G4'
  go_wp2_with fail
  refine (p0 _).mono ?_
  rintro e W6 ⟨rfl, h⟩
  have G6 := hidm (G5.out.below h)
  clear h G5
  go_wp2_with fail
  refine (p1 _).mono ?_
  rintro e W7 ⟨rfl, h⟩
  have G7 := hidm (G6.out.below h)
  clear h G6
  go_wp2_with fail
  refine (p2 _).mono ?_
  rintro e W8 ⟨rfl, h⟩
  have G8 := hidm (G7.out.below h)
  clear h G7
  go_wp2_with fail
  refine (pow_none (lpv (some B0)) 2 3 _).mono ?_
  rintro e W9 ⟨rfl, rfl⟩
  go_wp2_with fail
  refine (p3 _).mono ?_
  rintro e Wa ⟨rfl, h⟩
  have Ga := hidm (G8.out.below h)
  clear h G8
  have LN := hidm (gx_len Ga.out K3.out)
  rw [show tot [ix 83] = 1 from rfl] at LN
  go_wp2_with (go_at_call 29; refine LN.out.mono ?_; rintro e Wb ⟨rfl, rfl⟩; clear LN)
  refine (gx_reset Ga.out K3.out).mono ?_
  rintro e Wc ⟨rfl, tc, hGc, hkc, -⟩
  have Gc := hidm hGc
  have Kc := hidm hkc
  clear hGc hkc Ga K3
  have cv1 := Lib.run_convert_bytes_const (P := Try.prog) Wc 22 5 #[Value.int .u8 97, .int .u8 98, .int .u8 120] 3 3 Try.underlying22 Try.underlying5
  go_wp2_with fail
  have RM := rd_mark Gc.out #[Value.int .u8 97, .int .u8 98, .int .u8 120] (3, 4) Wc.heap.size 3 (By.lst abx3) rfl ax.out (by simp [maxLen]) threex.symm 0
  have FI := hidm (gx_fi RM.1 Kc.out tot0 RM.2 120 (by omega))
  rw [nm2.1, nm2.2] at FI
  refine FI.out.mono ?_
  rintro e Wd ⟨rfl, td, hGd, hkd, -⟩
  have Gd := hidm hGd
  have Kd := hidm hkd
  clear hGd hkd Gc Kc FI RM cv1
  have cv1 := Lib.run_convert_bytes_const (P := Try.prog) Wd 22 5 #[Value.int .u8 97, .int .u8 98] 2 2 Try.underlying22 Try.underlying5
  go_wp2_with fail
  have FN := hidm (fi_nil _ 120 2 (By.lst ab2) _ (by omega) (rb_mark Wd #[Value.int .u8 97, .int .u8 98] (2, 3) Wd.heap.size 2 (By.lst ab2) rfl a2.out (by simp [maxLen]) two2.symm))
  rw [nm3] at FN
  have Gm := hidm (Gd.out.below (below_alloc Wd (.cells #[Value.int .u8 97, .int .u8 98] 5 (2, 3))))
  refine FN.out.mono ?_
  rintro e We ⟨rfl, h⟩
  have Ge := hidm (Gm.out.below h)
  clear h FN Gm Gd cv1
  go_wp2_with fail
  refine (gx_runs Ge.out Kd.out (by decide)).mono ?_
  rintro e Wfa ⟨vf, rfl, hr, hb⟩
  have Rvf := hidm hr
  have Gvf := hidm (Ge.out.below hb)
  clear hr hb Ge
  go_wp2_with fail
  refine (branches_walk [false, false, true] 3 _ _ rfl (by simp) (ints_lit Wfa _ rfl [false, false, true] _ rfl) (by decide)).mono ?_
  rintro e Wfb ⟨vf', rfl, hr, hb⟩
  have Svf := hidm hr
  have Hvf := hidm ((Gvf.out.below (below_alloc _ _)).below hb)
  have Tvf := hidm ((Rvf.out.below (below_alloc _ _)).below hb)
  clear hr hb Gvf Rvf
  go_wp2_with fail
  refine (same14 vf vf' _ _ Wfb Tvf.out Svf.out (by decide) (by decide)).mono ?_
  rintro e Wfc ⟨rfl, dvf, rfl⟩
  rw [decide_eq_true rfl]
  have Gf1 := hidm (Hvf.out.drewN dvf)
  clear Svf Tvf Hvf
  go_wp2_with fail
  refine (gx_reset Gf1.out Kd.out).mono ?_
  rintro e Wg ⟨rfl, tg, hGg, hkg, -⟩
  have Gg := hidm hGg
  have Kg := hidm hkg
  clear hGg hkg Gf1 Kd
  go_wp2_with fail
  have RM := rd_mark Gg.out #[Value.int .u8 3, .int .u8 1, .int .u8 2] (0, 0) Wg.heap.size 3 (By.lst n312) rfl b3.out (by simp [maxLen]) t312.symm 0
  have SO := hidm (gx_so RM.1 Kg.out tot0 RM.2 (by omega) 1 (by decide))
  rw [nm4.1] at SO
  refine SO.out.mono ?_
  rintro e Wh ⟨u, rfl, th, hGh, hkh, hu, -⟩
  have Gh := hidm hGh
  have Kh := hidm hkh
  have Uh := hidm (By.Own.reads (show By.Own Wh 0 u 3 (srt (By.lst n312) 3).1 from by have := hGh.all 1; rw [hu] at this; exact this))
  clear hGh hkh hu SO RM Gg Kg
  go_wp2_with fail
  have L1 := hidm (rb_mark Wh #[Value.int .u8 1, .int .u8 2, .int .u8 3] (0, 0) Wh.heap.size 3 (By.lst n123) rfl b1.out (by simp [maxLen]) t123.symm)
  have U1 := hidm (Uh.out.below (below_alloc Wh (.cells #[Value.int .u8 1, .int .u8 2, .int .u8 3] 5)))
  have Gi := hidm (Gh.out.below (below_alloc Wh (.cells #[Value.int .u8 1, .int .u8 2, .int .u8 3] 5)))
  refine (By.same_true u _ 3 _ _ _ U1.out L1.out (by omega) (fun i hi => ?_)).mono ?_
  · rcases (show i = 0 ∨ i = 1 ∨ i = 2 from by omega) with rfl | rfl | rfl
    · exact nm4.2.1
    · exact nm4.2.2.1
    · exact nm4.2.2.2
  rintro e Wj ⟨rfl, dj, rfl⟩
  have Gj := hidm (Gi.out.drewN dj)
  clear L1 U1 Uh Gh Gi
  go_wp2_with fail
  refine (gx_runs Gj.out Kh.out (by decide)).mono ?_
  rintro e Wka ⟨vk, rfl, hr, hb⟩
  have Rvk := hidm hr
  have Gvk := hidm (Gj.out.below hb)
  clear hr hb Gj
  go_wp2_with fail
  refine (branches_walk [true, true, false] 3 _ _ rfl (by simp) (ints_lit Wka _ rfl [true, true, false] _ rfl) (by decide)).mono ?_
  rintro e Wkb ⟨vk', rfl, hr, hb⟩
  have Svk := hidm hr
  have Hvk := hidm ((Gvk.out.below (below_alloc _ _)).below hb)
  have Tvk := hidm ((Rvk.out.below (below_alloc _ _)).below hb)
  clear hr hb Gvk Rvk
  go_wp2_with fail
  refine (same14 vk vk' _ _ Wkb Tvk.out Svk.out (by decide) (by decide)).mono ?_
  rintro e Wkc ⟨rfl, dvk, rfl⟩
  rw [decide_eq_true rfl]
  have Gk := hidm (Hvk.out.drewN dvk)
  clear Svk Tvk Hvk
  go_wp2_with fail
  refine (lives_walk _).mono ?_
  rintro e Wz ⟨rfl, h⟩
  have Gz := hidm (Gk.out.below h)
  clear h Gk
  go_wp2
  go_ret
  subst hB0
  exact ⟨rfl, Gz.out.bel⟩
end Go.Proofs.Ytpcnkiapbkmjbaa.Nv
