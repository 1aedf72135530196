/- How the deeds of a session are begun. Begin. Begin: a session, or why there is none. -/
import Derived.Test.YtpohogpkfdebdaaGreatDoorOcln
import Derived.Test.YtpohogpkfdebdaaGreatDoorOof
namespace Go.Proofs.YtpohogpkfdebdaaGreatDoor.Oc
open Go.ChangeShapes Go.WideShapes Go.ChangeAt Go.RowKit
open Go.Proofs.YtpohogpkfdebdaaGreatDoor.By
open Go.Proofs.YtpohogpkfdebdaaGreatDoor.Sh (Blk size_alloc)
open Go.Proofs.YtpohogpkfdebdaaGreatDoor.Dg (BB LG lpv Lt Tl IsMk MB)
/-- Deeds just begun. -/
def Begun (w : World) (T : Nat → Prop) (lo : Option Nat) (L : List Rn) (p : PX) (v : Value) (w' : World) : Prop :=
  ∃ b o cc, v = .agg (dd b cc p).toArray ∧ IsX w' b o p ∧ IsC w' b cc p ∧ (∀ j, FX b o j ∨ j ∈ cc → w.heap.size ≤ j) ∧ LG T w w' lo L ∧ Kp T w w'
theorem lg_start {T : Nat → Prop} {w W : World} {lo : Option Nat} {L : List Rn} (h : LG T w w lo L) (hb : Below w.heap.size w W) : LG T W W lo L := Sg.LG.start h hb (fun _ _ e => e)
/-- Behind the call of New and of the deeds' maker the result's variable is written. -/
theorem begun_end {w W w1 w2 : World} {T : Nat → Prop} {lo : Option Nat} {L L0 : List Rn} {p : PX} {b : Nat} {o cc : List Nat} (hl0 : LG T w w lo L0) (D : Blk w2 w.heap.size [.nilFunc, .nilFunc, .nilFunc, .nilFunc, .nilFunc] 82) (hW : Below w.heap.size w W) (hx : IsX w1 b o p) (hn : ∀ j, FX b o j → W.heap.size ≤ j) (hl : LG T W w1 lo L) (hk : Kp T W w1) (hc : IsC w2 b cc p) (hcn : ∀ j, j ∈ cc → w1.heap.size ≤ j) (hb : Below w1.heap.size w1 w2) :
    (SVd ⟨w.heap.size, 0, none⟩ (.agg (dd b cc p).toArray)).run Tryz.prog w2 = .ok () (w2.setCells w.heap.size 0 (dd b cc p)) ∧ (LDd ⟨w.heap.size, 0, none⟩).run Tryz.prog (w2.setCells w.heap.size 0 (dd b cc p)) = .ok (.agg (dd b cc p).toArray) (w2.setCells w.heap.size 0 (dd b cc p)) ∧ Begun w T lo L p (.agg (dd b cc p).toArray) (w2.setCells w.heap.size 0 (dd b cc p)) := by
  have t := D.there 0 5 (by decide)
  have ks : Kp (fun j => j = w.heap.size) w2 (w2.setCells w.heap.size 0 (dd b cc p)) := Sh.Kp.setCells _ _ _
  have z1 := hW.size
  have z2 := hk.size
  have z3 := hb.size
  have K1 : Kp T w w1 := (Kp.of_below T hW).trans hk (fun _ _ e => e)
  have K2 : Kp T w w2 := K1.trans (Kp.of_below T hb) (fun _ _ e => e)
  have K3 : Kp T w (w2.setCells w.heap.size 0 (dd b cc p)) := K2.trans ks (fun j hj e => absurd (show j = w.heap.size from e) (by omega))
  refine ⟨SVd_run t rfl (dd_one _ _ _), LDd_run (World.rangeAt_setCells_same _ _ _ _ t) rfl, b, o, cc, rfl, (hx.below hb).kept ks (fun j hj e => ?_), hc.kept ks (fun j hj e => ?_), fun j hj => ?_, ?_, K3⟩
  · obtain ⟨cs, t', hb', ht⟩ := (hx.below hb).kind hj
    exact Blk.ne hb' D (by rcases ht with rfl | rfl | rfl | rfl | rfl | rfl | rfl <;> decide) e
  · obtain ⟨cs, t', hb', ht⟩ := hc.kind hj
    exact Blk.ne hb' D (by rcases ht with rfl | rfl | rfl | rfl | rfl <;> decide) e
  · rcases hj with hj | hj
    · have := hn j hj; omega
    · have := hcn j hj; omega
  · have l2 : LG T W w2 lo L := hl.below hb
    have l3 : LG T w w2 lo L := Sg.LG.back l2 hl0 z1 (fun _ _ e => e)
    exact l3.kept ks (fun j e => by cases (show j = w.heap.size from e); exact ⟨_, _, D, by decide, by decide⟩)
set_option maxRecDepth 20000 in
set_option maxHeartbeats 2000000 in
theorem bg_h (a : Bool) (n k : Nat) (v : Value) (g : Nat → Int) (lo : Option Nat) (L : List Rn) (T : Nat → Prop) (w : World) (hT : Tl w T) (hk : KA w) (hn : ∀ j, j < 5 → ¬ T j) (hl : LG T w w lo L) (hf : Fit k L) (hk4 : k ≤ 4000000) (hr : ∀ w', Kp T w w' → By.RB w' v n g) (hnn : n ≤ 1000000) :
    Calls Tryz.prog 85 #[lpv lo, .int .u8 (Dg.an a), v] w fun e w' => ∃ u, e = .returned (.tuple #[u, .int .i64 0]) ∧ Begun w T lo (Dg.kev a L n) (.h a (Dg.kb a n g) 0 Dg.nof) u w' := by
  have HC := hid (fun (W : World) (hb : Below w.heap.size w W) => Dg.newM a n v g lo L T W (hk.below hb).d (hn _ (by decide)) (hn _ (by decide)) (lg_start hl hb) hf.pos (fun w' hk' => hr w' ((Kp.of_below T hb).trans hk' (fun _ _ e => e))) (by omega) (hf.tq hk4))
  obtain ⟨-, va, vc, rfl, -⟩ := hr w (Kp.refl _ _)
  have HL := hid hl
  have HNT := hid (show ¬ T w.heap.size from fun e => by
    obtain ⟨cs, t, hb, _⟩ := hT _ e
    exact absurd hb.lt (Nat.lt_irrefl _))
  obtain ⟨lp, hlp⟩ : ∃ lp, lpv lo = .pointer lp := by cases lo; exact ⟨_, rfl⟩; exact ⟨_, rfl⟩
  rw [hlp] at HC ⊢
  clear hk hn hf hr hl hT
  go_enter Tryz.func85, Tryz.ntmps85
  go_wp2_with fail
  have D0 := Blk.new w [.nilFunc, .nilFunc, .nilFunc, .nilFunc, .nilFunc] 82
  have b0' := below_alloc w (.cells #[.nilFunc, .nilFunc, .nilFunc, .nilFunc, .nilFunc] 82)
  obtain ⟨W, hW⟩ : ∃ W, w.alloc (.cells #[.nilFunc, .nilFunc, .nilFunc, .nilFunc, .nilFunc] 82) = W := ⟨_, rfl⟩
  rw [show ([.nilFunc, .nilFunc, .nilFunc, .nilFunc, .nilFunc] : List Value).toArray = #[.nilFunc, .nilFunc, .nilFunc, .nilFunc, .nilFunc] from rfl, hW] at D0
  rw [hW] at b0' ⊢
  have D1 := hid D0
  have BW := hid b0'
  clear D0 b0' hW
  refine (HC.out W BW.out).mono ?_
  rintro e w1 ⟨b, b0, b1, b2, rfl, hx, ⟨z1, z2, z3, z4⟩, hl1, hk1⟩
  have X1 := hid (show IsX w1 b [b0, b1, b2] (.h a (Dg.kb a n g) 0 Dg.nof) from ⟨b0, b1, b2, rfl, hx⟩)
  have NX := hid (show ∀ j, FX b [b0, b1, b2] j → W.heap.size ≤ j from fun j hj => by
    rcases hj with rfl | hj
    · omega
    · simp only [List.mem_cons, List.not_mem_nil, or_false] at hj
      omega)
  have L1 := hid (show LG T W w1 lo (Dg.kev a L n) from hl1)
  have K1 := hid hk1
  clear hx hl1 hk1 HC
  go_wp2_with fail
  refine (of_h b a (Dg.kb a n g) 0 Dg.nof w1).mono ?_
  rintro e w2 ⟨v2, rfl, cc, rfl, hc2, hn2, hb2⟩
  obtain ⟨s1, l1, hB⟩ := begun_end HL.out ((D1.out.kept K1.out HNT.out).below hb2) BW.out X1.out NX.out L1.out K1.out hc2 hn2 hb2
  have B := hid hB
  have LD := hid l1
  clear hB hc2 hn2 hb2 l1
  go_wp2_with fail
  refine bodyPost_ret ?_ rfl ⟨_, rfl, B.out⟩
  exact Ae.results_cell2 Tryz.results85 rfl rfl LD.out
set_option maxRecDepth 20000 in
set_option maxHeartbeats 2000000 in
theorem bg_c (q k : Nat) (hq : q = 4 ∨ q = 6 ∨ q = 8) (v : Value) (g : Nat → Int) (lo : Option Nat) (L : List Rn) (T : Nat → Prop) (w : World) (hT : Tl w T) (hk : KA w) (hn : ∀ j, j < 5 → ¬ T j) (hl : LG T w w lo L) (hf : Fit k L) (hk4 : k ≤ 4000000) (hr : ∀ w', Kp T w w' → By.RB w' v (4 * q) g) :
    Calls Tryz.prog 86 #[lpv lo, v] w fun e w' => ∃ u, e = .returned (.tuple #[u, .int .i64 0]) ∧ Begun w T lo (Vm.evb q (putL L ⟨4, ((4 * q : Nat) : Int), 1⟩) 1) (.c q (Ae.rk q (nt g)) 0 Vm.nought) u w' := by
  have t1 := hf.tot
  have t2 := hf.len
  have hv := hr w (Kp.refl _ _)
  have hg : BB g := hv.1
  obtain ⟨kb, ko, cap, rfl, hcap⟩ := rb_some hv (by omega)
  have hcell : ∀ W', Kp T w W' → ∀ i, i < 4 * q → W'.cell? ⟨kb, ko + i, none⟩ = some (.int .u8 ((nt g i : Nat) : Int)) := fun W' hW' i hi => by
    obtain ⟨_, a, c, e, _, _, h0 | ⟨b', o', rfl, hc⟩⟩ := hr W' hW'
    · omega
    · simp at e
      obtain ⟨⟨rfl, rfl⟩, rfl⟩ := e
      have := hc i hi
      rw [this]
      show _ = some (Value.int .u8 (Ae.cb (nt g) i))
      rw [nt_cb hg]
  have HC := hid (fun (W : World) (hb : Below w.heap.size w W) => by
    have hC := Vm.cnew_ok T W W lo L q hq (nt g) (nt_lt hg) kb ko cap hcap (lgA.1 (lg_start hl hb)) (Kp.refl _ _) ⟨by omega, by omega⟩ hf.pos (hk.below hb).v (hn _ (by decide)) (fun W' hW' _ i hi => hcell W' ((Kp.of_below T hb).trans hW' (fun _ _ e => e)) i hi)
    rw [← lpvA] at hC
    exact hC)
  have HL := hid hl
  have HNT := hid (show ¬ T w.heap.size from fun e => by
    obtain ⟨cs, t, hb, _⟩ := hT _ e
    exact absurd hb.lt (Nat.lt_irrefl _))
  obtain ⟨lp, hlp⟩ : ∃ lp, lpv lo = .pointer lp := by cases lo; exact ⟨_, rfl⟩; exact ⟨_, rfl⟩
  rw [hlp] at HC ⊢
  clear hk hn hf hr hl hv hcell hT
  go_enter Tryz.func86, Tryz.ntmps86
  go_wp2_with fail
  have D0 := Blk.new w [.nilFunc, .nilFunc, .nilFunc, .nilFunc, .nilFunc] 82
  have b0' := below_alloc w (.cells #[.nilFunc, .nilFunc, .nilFunc, .nilFunc, .nilFunc] 82)
  obtain ⟨W, hW⟩ : ∃ W, w.alloc (.cells #[.nilFunc, .nilFunc, .nilFunc, .nilFunc, .nilFunc] 82) = W := ⟨_, rfl⟩
  rw [show ([.nilFunc, .nilFunc, .nilFunc, .nilFunc, .nilFunc] : List Value).toArray = #[.nilFunc, .nilFunc, .nilFunc, .nilFunc, .nilFunc] from rfl, hW] at D0
  rw [hW] at b0' ⊢
  have D1 := hid D0
  have BW := hid b0'
  clear D0 b0' hW
  refine (HC.out W BW.out).mono ?_
  rintro e w1 ⟨b, gc, rfl, hx, z1, z2, hl1, hk1, -⟩
  have X1 := hid (show IsX w1 b [gc] (.c q (Ae.rk q (nt g)) 0 Vm.nought) from ⟨gc, rfl, hx⟩)
  have NX := hid (show ∀ j, FX b [gc] j → W.heap.size ≤ j from fun j hj => by
    rcases hj with rfl | hj
    · omega
    · simp only [List.mem_cons, List.not_mem_nil, or_false] at hj
      omega)
  have L1 := hid (show LG T W w1 lo (Vm.evb q (putL L ⟨4, ((4 * q : Nat) : Int), 1⟩) 1) from (lgA.2 hl1))
  have K1 := hid hk1
  clear hx hl1 hk1 HC
  go_wp2_with fail
  refine (of_c b q (Ae.rk q (nt g)) 0 Vm.nought w1).mono ?_
  rintro e w2 ⟨v2, rfl, cc, rfl, hc2, hn2, hb2⟩
  obtain ⟨s1, l1, hB⟩ := begun_end HL.out ((D1.out.kept K1.out HNT.out).below hb2) BW.out X1.out NX.out L1.out K1.out hc2 hn2 hb2
  have B := hid hB
  have LD := hid l1
  clear hB hc2 hn2 hb2 l1
  go_wp2_with fail
  refine bodyPost_ret ?_ rfl ⟨_, rfl, B.out⟩
  exact Ae.results_cell2 Tryz.results86 rfl rfl LD.out
set_option maxRecDepth 20000 in
set_option maxHeartbeats 2000000 in
theorem bg_u (st : Int) (r n c q k : Nat) (x : Bool) (hst : Kc.Str st r) (v u : Value) (g h : Nat → Int) (lo : Option Nat) (L : List Rn) (T : Nat → Prop) (w : World) (hT : Tl w T) (hk : KA w) (hn : ∀ j, j < 5 → ¬ T j) (hl : LG T w w lo L) (hf : Fit k L) (hk4 : k ≤ 4000000) (hr : ∀ w', Kp T w w' → By.RB w' v n g) (hr2 : ∀ w', Kp T w w' → By.RB w' u c h) (hnn : n ≤ 1000000) (hc : c ≤ 1000000) (hq : q ≤ 64) :
    Calls Tryz.prog 87 #[lpv lo, .int .i64 st, v, u, .int .i64 (q : Int), .bool x] w fun e w' => ∃ u, e = .returned (.tuple #[u, .int .i64 0]) ∧ Begun w T lo (Kc.evk L (Kc.kz r n g c h).c) (.u st r (Kc.kz r n g c h) q x) u w' := by
  have HC := hid (fun (W : World) (hb : Below w.heap.size w W) => by
    have hC := Kc.knew_ok st r n c g h v u lo L T W hst (hk.below hb).u (hn _ (by decide)) (hn _ (by decide)) (lgK.1 (lg_start hl hb)) hf.pos (hf.tiny hk4) (fun w' hk' => hr w' ((Kp.of_below T hb).trans hk' (fun _ _ e => e))) (fun w' hk' => hr2 w' ((Kp.of_below T hb).trans hk' (fun _ _ e => e))) hnn hc
    rw [← lpvK] at hC
    exact hC)
  obtain ⟨-, va, vc, rfl, -⟩ := hr w (Kp.refl _ _)
  obtain ⟨-, ua, uc, rfl, -⟩ := hr2 w (Kp.refl _ _)
  have HQ := hid hq
  have HL := hid hl
  have HNT := hid (show ¬ T w.heap.size from fun e => by
    obtain ⟨cs, t, hb, _⟩ := hT _ e
    exact absurd hb.lt (Nat.lt_irrefl _))
  obtain ⟨lp, hlp⟩ : ∃ lp, lpv lo = .pointer lp := by cases lo; exact ⟨_, rfl⟩; exact ⟨_, rfl⟩
  rw [hlp] at HC ⊢
  clear hk hn hf hr hr2 hl hst hT
  go_enter Tryz.func87, Tryz.ntmps87
  go_wp2_with fail
  have D0 := Blk.new w [.nilFunc, .nilFunc, .nilFunc, .nilFunc, .nilFunc] 82
  have b0' := below_alloc w (.cells #[.nilFunc, .nilFunc, .nilFunc, .nilFunc, .nilFunc] 82)
  obtain ⟨W, hW⟩ : ∃ W, w.alloc (.cells #[.nilFunc, .nilFunc, .nilFunc, .nilFunc, .nilFunc] 82) = W := ⟨_, rfl⟩
  rw [show ([.nilFunc, .nilFunc, .nilFunc, .nilFunc, .nilFunc] : List Value).toArray = #[.nilFunc, .nilFunc, .nilFunc, .nilFunc, .nilFunc] from rfl, hW] at D0
  rw [hW] at b0' ⊢
  have D1 := hid D0
  have BW := hid b0'
  clear D0 b0' hW
  refine (HC.out W BW.out).mono ?_
  rintro e w1 ⟨b, b', rfl, z1, z2, hx, hl1, hk1⟩
  have X1 := hid (show IsX w1 b [b'] (.u st r (Kc.kz r n g c h) q x) from ⟨b', rfl, hx, HQ.out⟩)
  have NX := hid (show ∀ j, FX b [b'] j → W.heap.size ≤ j from fun j hj => by
    rcases hj with rfl | hj
    · omega
    · simp only [List.mem_cons, List.not_mem_nil, or_false] at hj
      omega)
  have L1 := hid (show LG T W w1 lo (Kc.evk L (Kc.kz r n g c h).c) from (lgK.2 hl1))
  have K1 := hid hk1
  clear hx hl1 hk1 HC
  go_wp2_with fail
  refine (of_u b st r (Kc.kz r n g c h) q x w1).mono ?_
  rintro e w2 ⟨v2, rfl, cc, rfl, hc2, hn2, hb2⟩
  obtain ⟨s1, l1, hB⟩ := begun_end HL.out ((D1.out.kept K1.out HNT.out).below hb2) BW.out X1.out NX.out L1.out K1.out hc2 hn2 hb2
  have B := hid hB
  have LD := hid l1
  clear hB hc2 hn2 hb2 l1
  go_wp2_with fail
  refine bodyPost_ret ?_ rfl ⟨_, rfl, B.out⟩
  exact Ae.results_cell2 Tryz.results87 rfl rfl LD.out
end Go.Proofs.YtpohogpkfdebdaaGreatDoor.Oc
namespace Go.Proofs.YtpohogpkfdebdaaGreatDoor.Oc
open Go.ChangeShapes Go.WideShapes Go.ChangeAt Go.RowKit
open Go.Proofs.YtpohogpkfdebdaaGreatDoor.By
open Go.Proofs.YtpohogpkfdebdaaGreatDoor.Sh (Blk size_alloc)
open Go.Proofs.YtpohogpkfdebdaaGreatDoor.Dg (BB LG lpv Lt Tl IsMk MB)
/-- A mac of an algorithm, with the empty message; what is recorded of its beginning. -/
def px0 (a n : Nat) (g : Nat → Int) (c : Nat) (h : Nat → Int) (q : Nat) : PX :=
  if a = 1 then .h false (Dg.kb false n g) 0 Dg.nof
  else if a = 2 then .h true (Dg.kb true n g) 0 Dg.nof
  else if a = 3 then .c (n / 4) (Ae.rk (n / 4) (nt g)) 0 Vm.nought
  else if a = 4 then .u 128 168 (Kc.kz 168 n g c h) q false
  else if a = 5 then .u 256 136 (Kc.kz 136 n g c h) q false
  else if a = 6 then .u 128 168 (Kc.kz 168 n g c h) q true
  else .u 256 136 (Kc.kz 136 n g c h) q true
def eB (a n : Nat) (g : Nat → Int) (c : Nat) (h : Nat → Int) (L : List Rn) : List Rn :=
  if a = 1 then Dg.kev false L n
  else if a = 2 then Dg.kev true L n
  else if a = 3 then Vm.evb (n / 4) (putL L ⟨4, (n : Int), 1⟩) 1
  else if a = 4 ∨ a = 6 then Kc.evk L (Kc.kz 168 n g c h).c
  else Kc.evk L (Kc.kz 136 n g c h).c
theorem begun_slot {w w1 : World} {T : Nat → Prop} {lo : Option Nat} {L L0 : List Rn} {p : PX} {v : Value} (hT : Tl w T) (hl0 : LG T w w lo L0) (hB : Begun (w.alloc (.cells #[.nilFunc, .nilFunc, .nilFunc, .nilFunc, .nilFunc] 82)) T lo L p v w1) :
    ∃ w2, (SVd ⟨w.heap.size, 0, none⟩ v).run Tryz.prog w1 = .ok () w2 ∧ (LDd ⟨w.heap.size, 0, none⟩).run Tryz.prog w2 = .ok v w2 ∧ Begun w T lo L p v w2 := by
  obtain ⟨b, o, cc, rfl, hx, hc, hn, hl, hk⟩ := hB
  have D0 := Blk.new w [.nilFunc, .nilFunc, .nilFunc, .nilFunc, .nilFunc] 82
  have hW := below_alloc w (.cells #[.nilFunc, .nilFunc, .nilFunc, .nilFunc, .nilFunc] 82)
  have z := size_alloc w (.cells #[.nilFunc, .nilFunc, .nilFunc, .nilFunc, .nilFunc] 82)
  have D := D0.kept hk (fun e => by
    obtain ⟨cs, t, hb, _⟩ := hT _ e
    exact absurd hb.lt (Nat.lt_irrefl _))
  have t := D.there 0 5 (by decide)
  have ks : Kp (fun j => j = w.heap.size) w1 (w1.setCells w.heap.size 0 (dd b cc p)) := Sh.Kp.setCells _ _ _
  have K1 : Kp T w w1 := (Kp.of_below T hW).trans hk (fun _ _ e => e)
  have K3 : Kp T w (w1.setCells w.heap.size 0 (dd b cc p)) := K1.trans ks (fun j hj e => absurd (show j = w.heap.size from e) (by omega))
  refine ⟨_, SVd_run t rfl (dd_one _ _ _), LDd_run (World.rangeAt_setCells_same _ _ _ _ t) rfl, b, o, cc, rfl, hx.kept ks (fun j hj e => ?_), hc.kept ks (fun j hj e => ?_), fun j hj => ?_, ?_, K3⟩
  · obtain ⟨cs, t', hb', ht⟩ := hx.kind hj
    exact Blk.ne hb' D (by rcases ht with rfl | rfl | rfl | rfl | rfl | rfl | rfl <;> decide) e
  · obtain ⟨cs, t', hb', ht⟩ := hc.kind hj
    exact Blk.ne hb' D (by rcases ht with rfl | rfl | rfl | rfl | rfl <;> decide) e
  · have := hn j hj; omega
  · have l3 : LG T w w1 lo L := Sg.LG.back hl hl0 (by omega) (fun _ _ e => e)
    exact l3.kept ks (fun j e => by cases (show j = w.heap.size from e); exact ⟨_, _, D, by decide, by decide⟩)
theorem tl_below {T : Nat → Prop} {w W : World} (h : Tl w T) (hb : Below w.heap.size w W) : Tl W T := fun j e => by
  obtain ⟨cs, t, hB, ht⟩ := h j e
  exact ⟨cs, t, hB.below hb, ht⟩
set_option maxRecDepth 20000 in
set_option maxHeartbeats 2000000 in
theorem bn_1 (n c q k : Nat) (v u : Value) (g h : Nat → Int) (lo : Option Nat) (L : List Rn) (T : Nat → Prop) (w : World) (hT : Tl w T) (hk : KA w) (hn : ∀ j, j < 5 → ¬ T j) (hl : LG T w w lo L) (hf : Fit k L) (hk4 : k ≤ 4000000) (hr : ∀ w', Kp T w w' → By.RB w' v n g) (hr2 : ∀ w', Kp T w w' → By.RB w' u c h) (hnn : n ≤ 1000000) (_hcc : c ≤ 1000000) (_hq : q ≤ 64) :
    Calls Tryz.prog 56 #[lpv lo, .int .u8 1, v, u, .int .i64 (q : Int)] w fun e w' => ∃ r, e = .returned (.tuple #[r, .int .i64 0]) ∧ Begun w T lo (eB 1 n g c h L) (px0 1 n g c h q) r w' := by
  have HC := hid (fun (W : World) (hb : Below w.heap.size w W) => show Calls Tryz.prog 85 #[lpv lo, .int .u8 1, v] W (fun e w' => ∃ r, e = .returned (.tuple #[r, .int .i64 0]) ∧ Begun W T lo (eB 1 n g c h L) (px0 1 n g c h q) r w') from bg_h false n k v g lo L T W (tl_below hT hb) (hk.below hb) hn (lg_start hl hb) hf hk4 (fun w' hk' => hr w' ((Kp.of_below T hb).trans hk' (fun _ _ e => e))) hnn)
  have BS := hid (fun (w1 : World) (r : Value) => begun_slot (w1 := w1) (v := r) (L := eB 1 n g c h L) (p := px0 1 n g c h q) hT hl)
  obtain ⟨-, va, vc, rfl, -⟩ := hr w (Kp.refl _ _)
  obtain ⟨-, ua, uc, rfl, -⟩ := hr2 w (Kp.refl _ _)
  obtain ⟨lp, hlp⟩ : ∃ lp, lpv lo = .pointer lp := by cases lo; exact ⟨_, rfl⟩; exact ⟨_, rfl⟩
  rw [hlp] at HC ⊢
  have bw := hid (below_alloc w (.cells #[.nilFunc, .nilFunc, .nilFunc, .nilFunc, .nilFunc] 82))
  clear hk hn hf hr hr2 hl hT
  go_enter Tryz.func56, Tryz.ntmps56
  go_wp2_with fail
  refine (HC.out _ bw.out).mono ?_
  rintro e w1 ⟨r, rfl, hB⟩
  obtain ⟨w2, s1, l1, hB2⟩ := BS.out w1 r hB
  have B := hid hB2
  have LD := hid l1
  obtain ⟨b, o, cc, rfl, -⟩ := hB
  clear hB2 l1 HC BS bw
  go_wp2_with fail
  refine bodyPost_ret ?_ rfl ⟨_, rfl, B.out⟩
  exact Ae.results_cell2 Tryz.results56 rfl rfl LD.out
set_option maxRecDepth 20000 in
set_option maxHeartbeats 2000000 in
theorem bn_2 (n c q k : Nat) (v u : Value) (g h : Nat → Int) (lo : Option Nat) (L : List Rn) (T : Nat → Prop) (w : World) (hT : Tl w T) (hk : KA w) (hn : ∀ j, j < 5 → ¬ T j) (hl : LG T w w lo L) (hf : Fit k L) (hk4 : k ≤ 4000000) (hr : ∀ w', Kp T w w' → By.RB w' v n g) (hr2 : ∀ w', Kp T w w' → By.RB w' u c h) (hnn : n ≤ 1000000) (_hcc : c ≤ 1000000) (_hq : q ≤ 64) :
    Calls Tryz.prog 56 #[lpv lo, .int .u8 2, v, u, .int .i64 (q : Int)] w fun e w' => ∃ r, e = .returned (.tuple #[r, .int .i64 0]) ∧ Begun w T lo (eB 2 n g c h L) (px0 2 n g c h q) r w' := by
  have HC := hid (fun (W : World) (hb : Below w.heap.size w W) => show Calls Tryz.prog 85 #[lpv lo, .int .u8 2, v] W (fun e w' => ∃ r, e = .returned (.tuple #[r, .int .i64 0]) ∧ Begun W T lo (eB 2 n g c h L) (px0 2 n g c h q) r w') from bg_h true n k v g lo L T W (tl_below hT hb) (hk.below hb) hn (lg_start hl hb) hf hk4 (fun w' hk' => hr w' ((Kp.of_below T hb).trans hk' (fun _ _ e => e))) hnn)
  have BS := hid (fun (w1 : World) (r : Value) => begun_slot (w1 := w1) (v := r) (L := eB 2 n g c h L) (p := px0 2 n g c h q) hT hl)
  obtain ⟨-, va, vc, rfl, -⟩ := hr w (Kp.refl _ _)
  obtain ⟨-, ua, uc, rfl, -⟩ := hr2 w (Kp.refl _ _)
  obtain ⟨lp, hlp⟩ : ∃ lp, lpv lo = .pointer lp := by cases lo; exact ⟨_, rfl⟩; exact ⟨_, rfl⟩
  rw [hlp] at HC ⊢
  have bw := hid (below_alloc w (.cells #[.nilFunc, .nilFunc, .nilFunc, .nilFunc, .nilFunc] 82))
  clear hk hn hf hr hr2 hl hT
  go_enter Tryz.func56, Tryz.ntmps56
  go_wp2_with fail
  refine (HC.out _ bw.out).mono ?_
  rintro e w1 ⟨r, rfl, hB⟩
  obtain ⟨w2, s1, l1, hB2⟩ := BS.out w1 r hB
  have B := hid hB2
  have LD := hid l1
  obtain ⟨b, o, cc, rfl, -⟩ := hB
  clear hB2 l1 HC BS bw
  go_wp2_with fail
  refine bodyPost_ret ?_ rfl ⟨_, rfl, B.out⟩
  exact Ae.results_cell2 Tryz.results56 rfl rfl LD.out
set_option maxRecDepth 20000 in
set_option maxHeartbeats 2000000 in
theorem bn_3 (n c q k : Nat) (v u : Value) (g h : Nat → Int) (lo : Option Nat) (L : List Rn) (T : Nat → Prop) (w : World) (hT : Tl w T) (hk : KA w) (hn : ∀ j, j < 5 → ¬ T j) (hl : LG T w w lo L) (hf : Fit k L) (hk4 : k ≤ 4000000) (hr : ∀ w', Kp T w w' → By.RB w' v n g) (hr2 : ∀ w', Kp T w w' → By.RB w' u c h) (hn3 : n = 16 ∨ n = 24 ∨ n = 32) (_hnn : n ≤ 1000000) (_hcc : c ≤ 1000000) (_hq : q ≤ 64) :
    Calls Tryz.prog 56 #[lpv lo, .int .u8 3, v, u, .int .i64 (q : Int)] w fun e w' => ∃ r, e = .returned (.tuple #[r, .int .i64 0]) ∧ Begun w T lo (eB 3 n g c h L) (px0 3 n g c h q) r w' := by
  have hn4 : 4 * (n / 4) = n := by omega
  have hr' : ∀ w', Kp T w w' → By.RB w' v (4 * (n / 4)) g := by rw [hn4]; exact hr
  have HC := hid (fun (W : World) (hb : Below w.heap.size w W) => show Calls Tryz.prog 86 #[lpv lo, v] W (fun e w' => ∃ r, e = .returned (.tuple #[r, .int .i64 0]) ∧ Begun W T lo (eB 3 n g c h L) (px0 3 n g c h q) r w') from (by have e := bg_c (n / 4) k (by omega) v g lo L T W (tl_below hT hb) (hk.below hb) hn (lg_start hl hb) hf hk4 (fun w' hk' => hr' w' ((Kp.of_below T hb).trans hk' (fun _ _ e => e))); rw [hn4] at e; exact e))
  have BS := hid (fun (w1 : World) (r : Value) => begun_slot (w1 := w1) (v := r) (L := eB 3 n g c h L) (p := px0 3 n g c h q) hT hl)
  obtain ⟨-, va, vc, rfl, -⟩ := hr w (Kp.refl _ _)
  obtain ⟨-, ua, uc, rfl, -⟩ := hr2 w (Kp.refl _ _)
  obtain ⟨lp, hlp⟩ : ∃ lp, lpv lo = .pointer lp := by cases lo; exact ⟨_, rfl⟩; exact ⟨_, rfl⟩
  rw [hlp] at HC ⊢
  have bw := hid (below_alloc w (.cells #[.nilFunc, .nilFunc, .nilFunc, .nilFunc, .nilFunc] 82))
  clear hk hn hf hr hr2 hl hT hr'
  go_enter Tryz.func56, Tryz.ntmps56
  go_wp2_with fail
  refine (HC.out _ bw.out).mono ?_
  rintro e w1 ⟨r, rfl, hB⟩
  obtain ⟨w2, s1, l1, hB2⟩ := BS.out w1 r hB
  have B := hid hB2
  have LD := hid l1
  obtain ⟨b, o, cc, rfl, -⟩ := hB
  clear hB2 l1 HC BS bw
  go_wp2_with fail
  refine bodyPost_ret ?_ rfl ⟨_, rfl, B.out⟩
  exact Ae.results_cell2 Tryz.results56 rfl rfl LD.out
set_option maxRecDepth 20000 in
set_option maxHeartbeats 2000000 in
theorem bn_4 (n c q k : Nat) (v u : Value) (g h : Nat → Int) (lo : Option Nat) (L : List Rn) (T : Nat → Prop) (w : World) (hT : Tl w T) (hk : KA w) (hn : ∀ j, j < 5 → ¬ T j) (hl : LG T w w lo L) (hf : Fit k L) (hk4 : k ≤ 4000000) (hr : ∀ w', Kp T w w' → By.RB w' v n g) (hr2 : ∀ w', Kp T w w' → By.RB w' u c h) (hnn : n ≤ 1000000) (hcc : c ≤ 1000000) (hq : q ≤ 64) :
    Calls Tryz.prog 56 #[lpv lo, .int .u8 4, v, u, .int .i64 (q : Int)] w fun e w' => ∃ r, e = .returned (.tuple #[r, .int .i64 0]) ∧ Begun w T lo (eB 4 n g c h L) (px0 4 n g c h q) r w' := by
  have HC := hid (fun (W : World) (hb : Below w.heap.size w W) => show Calls Tryz.prog 87 #[lpv lo, .int .i64 128, v, u, .int .i64 (q : Int), .bool false] W (fun e w' => ∃ r, e = .returned (.tuple #[r, .int .i64 0]) ∧ Begun W T lo (eB 4 n g c h L) (px0 4 n g c h q) r w') from bg_u 128 168 n c q k false (.inl ⟨rfl, rfl⟩) v u g h lo L T W (tl_below hT hb) (hk.below hb) hn (lg_start hl hb) hf hk4 (fun w' hk' => hr w' ((Kp.of_below T hb).trans hk' (fun _ _ e => e))) (fun w' hk' => hr2 w' ((Kp.of_below T hb).trans hk' (fun _ _ e => e))) hnn hcc hq)
  have BS := hid (fun (w1 : World) (r : Value) => begun_slot (w1 := w1) (v := r) (L := eB 4 n g c h L) (p := px0 4 n g c h q) hT hl)
  obtain ⟨-, va, vc, rfl, -⟩ := hr w (Kp.refl _ _)
  obtain ⟨-, ua, uc, rfl, -⟩ := hr2 w (Kp.refl _ _)
  obtain ⟨lp, hlp⟩ : ∃ lp, lpv lo = .pointer lp := by cases lo; exact ⟨_, rfl⟩; exact ⟨_, rfl⟩
  rw [hlp] at HC ⊢
  have bw := hid (below_alloc w (.cells #[.nilFunc, .nilFunc, .nilFunc, .nilFunc, .nilFunc] 82))
  clear hk hn hf hr hr2 hl hT
  go_enter Tryz.func56, Tryz.ntmps56
  go_wp2_with fail
  refine (HC.out _ bw.out).mono ?_
  rintro e w1 ⟨r, rfl, hB⟩
  obtain ⟨w2, s1, l1, hB2⟩ := BS.out w1 r hB
  have B := hid hB2
  have LD := hid l1
  obtain ⟨b, o, cc, rfl, -⟩ := hB
  clear hB2 l1 HC BS bw
  go_wp2_with fail
  refine bodyPost_ret ?_ rfl ⟨_, rfl, B.out⟩
  exact Ae.results_cell2 Tryz.results56 rfl rfl LD.out
set_option maxRecDepth 20000 in
set_option maxHeartbeats 2000000 in
theorem bn_5 (n c q k : Nat) (v u : Value) (g h : Nat → Int) (lo : Option Nat) (L : List Rn) (T : Nat → Prop) (w : World) (hT : Tl w T) (hk : KA w) (hn : ∀ j, j < 5 → ¬ T j) (hl : LG T w w lo L) (hf : Fit k L) (hk4 : k ≤ 4000000) (hr : ∀ w', Kp T w w' → By.RB w' v n g) (hr2 : ∀ w', Kp T w w' → By.RB w' u c h) (hnn : n ≤ 1000000) (hcc : c ≤ 1000000) (hq : q ≤ 64) :
    Calls Tryz.prog 56 #[lpv lo, .int .u8 5, v, u, .int .i64 (q : Int)] w fun e w' => ∃ r, e = .returned (.tuple #[r, .int .i64 0]) ∧ Begun w T lo (eB 5 n g c h L) (px0 5 n g c h q) r w' := by
  have HC := hid (fun (W : World) (hb : Below w.heap.size w W) => show Calls Tryz.prog 87 #[lpv lo, .int .i64 256, v, u, .int .i64 (q : Int), .bool false] W (fun e w' => ∃ r, e = .returned (.tuple #[r, .int .i64 0]) ∧ Begun W T lo (eB 5 n g c h L) (px0 5 n g c h q) r w') from bg_u 256 136 n c q k false (.inr ⟨rfl, rfl⟩) v u g h lo L T W (tl_below hT hb) (hk.below hb) hn (lg_start hl hb) hf hk4 (fun w' hk' => hr w' ((Kp.of_below T hb).trans hk' (fun _ _ e => e))) (fun w' hk' => hr2 w' ((Kp.of_below T hb).trans hk' (fun _ _ e => e))) hnn hcc hq)
  have BS := hid (fun (w1 : World) (r : Value) => begun_slot (w1 := w1) (v := r) (L := eB 5 n g c h L) (p := px0 5 n g c h q) hT hl)
  obtain ⟨-, va, vc, rfl, -⟩ := hr w (Kp.refl _ _)
  obtain ⟨-, ua, uc, rfl, -⟩ := hr2 w (Kp.refl _ _)
  obtain ⟨lp, hlp⟩ : ∃ lp, lpv lo = .pointer lp := by cases lo; exact ⟨_, rfl⟩; exact ⟨_, rfl⟩
  rw [hlp] at HC ⊢
  have bw := hid (below_alloc w (.cells #[.nilFunc, .nilFunc, .nilFunc, .nilFunc, .nilFunc] 82))
  clear hk hn hf hr hr2 hl hT
  go_enter Tryz.func56, Tryz.ntmps56
  go_wp2_with fail
  refine (HC.out _ bw.out).mono ?_
  rintro e w1 ⟨r, rfl, hB⟩
  obtain ⟨w2, s1, l1, hB2⟩ := BS.out w1 r hB
  have B := hid hB2
  have LD := hid l1
  obtain ⟨b, o, cc, rfl, -⟩ := hB
  clear hB2 l1 HC BS bw
  go_wp2_with fail
  refine bodyPost_ret ?_ rfl ⟨_, rfl, B.out⟩
  exact Ae.results_cell2 Tryz.results56 rfl rfl LD.out
set_option maxRecDepth 20000 in
set_option maxHeartbeats 2000000 in
theorem bn_6 (n c q k : Nat) (v u : Value) (g h : Nat → Int) (lo : Option Nat) (L : List Rn) (T : Nat → Prop) (w : World) (hT : Tl w T) (hk : KA w) (hn : ∀ j, j < 5 → ¬ T j) (hl : LG T w w lo L) (hf : Fit k L) (hk4 : k ≤ 4000000) (hr : ∀ w', Kp T w w' → By.RB w' v n g) (hr2 : ∀ w', Kp T w w' → By.RB w' u c h) (hnn : n ≤ 1000000) (hcc : c ≤ 1000000) (hq : q ≤ 64) :
    Calls Tryz.prog 56 #[lpv lo, .int .u8 6, v, u, .int .i64 (q : Int)] w fun e w' => ∃ r, e = .returned (.tuple #[r, .int .i64 0]) ∧ Begun w T lo (eB 6 n g c h L) (px0 6 n g c h q) r w' := by
  have HC := hid (fun (W : World) (hb : Below w.heap.size w W) => show Calls Tryz.prog 87 #[lpv lo, .int .i64 128, v, u, .int .i64 (q : Int), .bool true] W (fun e w' => ∃ r, e = .returned (.tuple #[r, .int .i64 0]) ∧ Begun W T lo (eB 6 n g c h L) (px0 6 n g c h q) r w') from bg_u 128 168 n c q k true (.inl ⟨rfl, rfl⟩) v u g h lo L T W (tl_below hT hb) (hk.below hb) hn (lg_start hl hb) hf hk4 (fun w' hk' => hr w' ((Kp.of_below T hb).trans hk' (fun _ _ e => e))) (fun w' hk' => hr2 w' ((Kp.of_below T hb).trans hk' (fun _ _ e => e))) hnn hcc hq)
  have BS := hid (fun (w1 : World) (r : Value) => begun_slot (w1 := w1) (v := r) (L := eB 6 n g c h L) (p := px0 6 n g c h q) hT hl)
  obtain ⟨-, va, vc, rfl, -⟩ := hr w (Kp.refl _ _)
  obtain ⟨-, ua, uc, rfl, -⟩ := hr2 w (Kp.refl _ _)
  obtain ⟨lp, hlp⟩ : ∃ lp, lpv lo = .pointer lp := by cases lo; exact ⟨_, rfl⟩; exact ⟨_, rfl⟩
  rw [hlp] at HC ⊢
  have bw := hid (below_alloc w (.cells #[.nilFunc, .nilFunc, .nilFunc, .nilFunc, .nilFunc] 82))
  clear hk hn hf hr hr2 hl hT
  go_enter Tryz.func56, Tryz.ntmps56
  go_wp2_with fail
  refine (HC.out _ bw.out).mono ?_
  rintro e w1 ⟨r, rfl, hB⟩
  obtain ⟨w2, s1, l1, hB2⟩ := BS.out w1 r hB
  have B := hid hB2
  have LD := hid l1
  obtain ⟨b, o, cc, rfl, -⟩ := hB
  clear hB2 l1 HC BS bw
  go_wp2_with fail
  refine bodyPost_ret ?_ rfl ⟨_, rfl, B.out⟩
  exact Ae.results_cell2 Tryz.results56 rfl rfl LD.out
set_option maxRecDepth 20000 in
set_option maxHeartbeats 2000000 in
theorem bn_7 (n c q k : Nat) (v u : Value) (g h : Nat → Int) (lo : Option Nat) (L : List Rn) (T : Nat → Prop) (w : World) (hT : Tl w T) (hk : KA w) (hn : ∀ j, j < 5 → ¬ T j) (hl : LG T w w lo L) (hf : Fit k L) (hk4 : k ≤ 4000000) (hr : ∀ w', Kp T w w' → By.RB w' v n g) (hr2 : ∀ w', Kp T w w' → By.RB w' u c h) (hnn : n ≤ 1000000) (hcc : c ≤ 1000000) (hq : q ≤ 64) :
    Calls Tryz.prog 56 #[lpv lo, .int .u8 7, v, u, .int .i64 (q : Int)] w fun e w' => ∃ r, e = .returned (.tuple #[r, .int .i64 0]) ∧ Begun w T lo (eB 7 n g c h L) (px0 7 n g c h q) r w' := by
  have HC := hid (fun (W : World) (hb : Below w.heap.size w W) => show Calls Tryz.prog 87 #[lpv lo, .int .i64 256, v, u, .int .i64 (q : Int), .bool true] W (fun e w' => ∃ r, e = .returned (.tuple #[r, .int .i64 0]) ∧ Begun W T lo (eB 7 n g c h L) (px0 7 n g c h q) r w') from bg_u 256 136 n c q k true (.inr ⟨rfl, rfl⟩) v u g h lo L T W (tl_below hT hb) (hk.below hb) hn (lg_start hl hb) hf hk4 (fun w' hk' => hr w' ((Kp.of_below T hb).trans hk' (fun _ _ e => e))) (fun w' hk' => hr2 w' ((Kp.of_below T hb).trans hk' (fun _ _ e => e))) hnn hcc hq)
  have BS := hid (fun (w1 : World) (r : Value) => begun_slot (w1 := w1) (v := r) (L := eB 7 n g c h L) (p := px0 7 n g c h q) hT hl)
  obtain ⟨-, va, vc, rfl, -⟩ := hr w (Kp.refl _ _)
  obtain ⟨-, ua, uc, rfl, -⟩ := hr2 w (Kp.refl _ _)
  obtain ⟨lp, hlp⟩ : ∃ lp, lpv lo = .pointer lp := by cases lo; exact ⟨_, rfl⟩; exact ⟨_, rfl⟩
  rw [hlp] at HC ⊢
  have bw := hid (below_alloc w (.cells #[.nilFunc, .nilFunc, .nilFunc, .nilFunc, .nilFunc] 82))
  clear hk hn hf hr hr2 hl hT
  go_enter Tryz.func56, Tryz.ntmps56
  go_wp2_with fail
  refine (HC.out _ bw.out).mono ?_
  rintro e w1 ⟨r, rfl, hB⟩
  obtain ⟨w2, s1, l1, hB2⟩ := BS.out w1 r hB
  have B := hid hB2
  have LD := hid l1
  obtain ⟨b, o, cc, rfl, -⟩ := hB
  clear hB2 l1 HC BS bw
  go_wp2_with fail
  refine bodyPost_ret ?_ rfl ⟨_, rfl, B.out⟩
  exact Ae.results_cell2 Tryz.results56 rfl rfl LD.out
theorem code_ok {a : Nat} {n c q : Int} (h : code a n c q = 0) : (1 ≤ a ∧ a ≤ 7) ∧ keyOk a n = true ∧ (0 < c → cust a = true) ∧ c ≤ 64 ∧ 1 ≤ q ∧ q ≤ (most a : Int) := by
  unfold code at h
  by_cases h1 : ¬ (1 ≤ a ∧ a ≤ 7)
  · rw [if_pos h1] at h; omega
  rw [if_neg h1] at h
  by_cases h2 : keyOk a n = false
  · rw [if_pos h2] at h; omega
  rw [if_neg h2] at h
  by_cases h3 : 0 < c ∧ cust a = false
  · rw [if_pos h3] at h; omega
  rw [if_neg h3] at h
  by_cases h4 : 64 < c
  · rw [if_pos h4] at h; omega
  rw [if_neg h4] at h
  by_cases h5 : q < 1 ∨ (most a : Int) < q
  · rw [if_pos h5] at h; omega
  refine ⟨by omega, by cases e : keyOk a n; exact absurd e h2; rfl, fun hc => by cases e : cust a; exact absurd ⟨hc, e⟩ h3; rfl, by omega, by omega, by omega⟩
theorem most_64 (a : Nat) : most a ≤ 64 := by unfold most; split; omega; split <;> omega
theorem bn (a n c q k : Nat) (v u : Value) (g h : Nat → Int) (lo : Option Nat) (L : List Rn) (T : Nat → Prop) (w : World) (hT : Tl w T) (hk : KA w) (hn : ∀ j, j < 5 → ¬ T j) (hl : LG T w w lo L) (hf : Fit k L) (hk4 : k ≤ 4000000) (hr : ∀ w', Kp T w w' → By.RB w' v n g) (hr2 : ∀ w', Kp T w w' → By.RB w' u c h) (hc : code a n c q = 0) (hnn : n ≤ 1000000) :
    Calls Tryz.prog 56 #[lpv lo, .int .u8 (a : Int), v, u, .int .i64 (q : Int)] w fun e w' => ∃ r, e = .returned (.tuple #[r, .int .i64 0]) ∧ Begun w T lo (eB a n g c h L) (px0 a n g c h q) r w' := by
  obtain ⟨h1, h2, -, h4, h5, h6⟩ := code_ok hc
  have hm := most_64 a
  have hq : q ≤ 64 := by omega
  have hcc : c ≤ 1000000 := by omega
  have : a = 1 ∨ a = 2 ∨ a = 3 ∨ a = 4 ∨ a = 5 ∨ a = 6 ∨ a = 7 := by omega
  rcases this with rfl | rfl | rfl | rfl | rfl | rfl | rfl
  · exact bn_1 n c q k v u g h lo L T w hT hk hn hl hf hk4 hr hr2 hnn hcc hq
  · exact bn_2 n c q k v u g h lo L T w hT hk hn hl hf hk4 hr hr2 hnn hcc hq
  · exact bn_3 n c q k v u g h lo L T w hT hk hn hl hf hk4 hr hr2 (by have := of_decide_eq_true (show decide ((n : Int) = 16 ∨ (n : Int) = 24 ∨ (n : Int) = 32) = true from h2); omega) hnn hcc hq
  · exact bn_4 n c q k v u g h lo L T w hT hk hn hl hf hk4 hr hr2 hnn hcc hq
  · exact bn_5 n c q k v u g h lo L T w hT hk hn hl hf hk4 hr hr2 hnn hcc hq
  · exact bn_6 n c q k v u g h lo L T w hT hk hn hl hf hk4 hr hr2 hnn hcc hq
  · exact bn_7 n c q k v u g h lo L T w hT hk hn hl hf hk4 hr hr2 hnn hcc hq
end Go.Proofs.YtpohogpkfdebdaaGreatDoor.Oc
namespace Go.Proofs.YtpohogpkfdebdaaGreatDoor.Oc
open Go.ChangeShapes Go.WideShapes Go.ChangeAt Go.RowKit
open Go.Proofs.YtpohogpkfdebdaaGreatDoor.By
open Go.Proofs.YtpohogpkfdebdaaGreatDoor.Sh (Blk size_alloc)
open Go.Proofs.YtpohogpkfdebdaaGreatDoor.Dg (BB LG lpv Lt Tl IsMk MB)
set_option maxRecDepth 20000 in
theorem bgn_no (a n c : Nat) (q : Int) (ka ca : Option Addr) (kc cc : Nat) (lp : Value) (w : World) (hc : ¬ code a n c q = 0) : Calls Tryz.prog 22 #[lp, .int .u8 (a : Int), .slice ka n kc, .slice ca c cc, .int .i64 q] w fun e w' => e = .returned (.tuple #[.pointer none, .int .i64 (code a n c q)]) ∧ Below w.heap.size w w' := by
  have R := hid (rf a (n : Int) (c : Int) q w)
  have hc2 : (code a n c q == 0) = false := by rw [beq_eq_false_iff_ne]; exact hc
  generalize code a n c q = z at *
  go_enter Tryz.func22, Tryz.ntmps22
  go_wp2_with fail
  refine R.out.mono ?_
  rintro e w1 ⟨rfl, hb⟩
  have B := hid hb
  clear hb R
  go_wp2_with fail
  go_ret2
  exact ⟨rfl, B.out⟩
theorem px0_tl (a n : Nat) (g : Nat → Int) (c : Nat) (h : Nat → Int) (q : Nat) (hq : q ≤ most a) (ha : 1 ≤ a ∧ a ≤ 7) : q ≤ (px0 a n g c h q).tl := by
  obtain ⟨h1, h7⟩ := ha
  have : a = 1 ∨ a = 2 ∨ a = 3 ∨ a = 4 ∨ a = 5 ∨ a = 6 ∨ a = 7 := by omega
  rcases this with rfl | rfl | rfl | rfl | rfl | rfl | rfl
  · exact hq
  · exact hq
  · exact hq
  all_goals exact Nat.le_refl _
set_option maxRecDepth 20000 in
set_option maxHeartbeats 2000000 in
theorem bgn_ok (a n c q k : Nat) (v u : Value) (g h : Nat → Int) (lo : Option Nat) (L : List Rn) (T : Nat → Prop) (w : World) (hT : Tl w T) (hk : KA w) (hn : ∀ j, j < 5 → ¬ T j) (hl : LG T w w lo L) (hf : Fit k L) (hk4 : k ≤ 4000000) (hr : ∀ w', Kp T w w' → By.RB w' v n g) (hr2 : ∀ w', Kp T w w' → By.RB w' u c h) (hc : code a n c q = 0) (hnn : n ≤ 1000000) :
    Calls Tryz.prog 22 #[lpv lo, .int .u8 (a : Int), v, u, .int .i64 (q : Int)] w fun e w' => ∃ x : SX, e = .returned (.tuple #[pt x.s, .int .i64 0]) ∧ IsS w' x ∧ x.al = a ∧ x.out = q ∧ x.p = px0 a n g c h q ∧ (∀ j, FS x j → w.heap.size ≤ j) ∧ LG T w w' lo (eB a n g c h L) ∧ Kp T w w' := by
  have R := hid (rf a (n : Int) (c : Int) q w)
  rw [hc] at R
  obtain ⟨ha, -, -, -, hq1, hqm⟩ := code_ok hc
  have HQ := hid (show 1 ≤ q ∧ q ≤ (px0 a n g c h q).tl from ⟨by omega, px0_tl a n g c h q (by omega) ha⟩)
  have up : ∀ {W}, Below w.heap.size w W → ∀ w', Kp T W w' → Kp T w w' := fun hb w' hk' => (Kp.of_below T hb).trans hk' (fun _ _ e => e)
  have HC := hid (fun (W : World) (hb : Below w.heap.size w W) => bn a n c q k v u g h lo L T W (tl_below hT hb) (hk.below hb) hn (lg_start hl hb) hf hk4 (fun w' hk' => hr w' (up hb w' hk')) (fun w' hk' => hr2 w' (up hb w' hk')) hc hnn)
  obtain ⟨-, va, vc, rfl, -⟩ := hr w (Kp.refl _ _)
  obtain ⟨-, ua, uc, rfl, -⟩ := hr2 w (Kp.refl _ _)
  have HL := hid hl
  obtain ⟨lp, hlp⟩ : ∃ lp, lpv lo = .pointer lp := by cases lo; exact ⟨_, rfl⟩; exact ⟨_, rfl⟩
  rw [hlp] at HC ⊢
  clear hk hn hf hr hr2 hl hT up hc hq1 hqm ha
  generalize px0 a n g c h q = p at *
  generalize eB a n g c h L = L' at *
  go_enter Tryz.func22, Tryz.ntmps22
  go_wp2_with fail
  refine R.out.mono ?_
  rintro e w1 ⟨rfl, hb1⟩
  have B1 := hid hb1
  clear hb1 R
  go_wp2_with fail
  refine (HC.out w1 B1.out).mono ?_
  rintro e w2 ⟨r, rfl, b, o, cc, rfl, hx, hC, hN, hL, hK⟩
  obtain ⟨W, s1, r1, bW⟩ := slot_d w2 b cc p
  have l1 := LDd_run (w := W) r1 rfl
  have X := hid hx
  have C := hid hC
  have N := hid hN
  have LL := hid hL
  have K := hid hK
  have BW := hid bW
  have dl := dd_len b cc p
  have df := dd_fold a q b cc p
  clear hx hC hN hL hK bW HC
  go_wp2_with fail
  go_ret2
  have B4 : Below w2.heap.size w2 (W.alloc (.cells (ses a q b cc p).toArray 84)) := below_next BW.out (below_alloc _ _)
  have K0 : Kp T w w2 := (Kp.of_below T B1.out).trans K.out (fun _ _ e => e)
  have K4 := K0.trans (Kp.of_below T B4) (fun _ _ e => e)
  have z1 := B1.out.size
  have z2 := K.out.size
  have z3 := BW.out.size
  refine ⟨⟨a, q, p, W.heap.size, b, o, cc⟩, rfl, ⟨Blk.new W (ses a q b cc p) 84, X.out.below B4, C.out.below B4, HQ.out.1, HQ.out.2⟩, rfl, rfl, rfl, fun j hj => ?_, (Sg.LG.back LL.out HL.out z1 (fun _ _ e => e)).below B4, K4⟩
  rcases hj with e | e | e
  · have : j = W.heap.size := e; omega
  · have := N.out j (.inl e); omega
  · have := N.out j (.inr e); omega
end Go.Proofs.YtpohogpkfdebdaaGreatDoor.Oc
