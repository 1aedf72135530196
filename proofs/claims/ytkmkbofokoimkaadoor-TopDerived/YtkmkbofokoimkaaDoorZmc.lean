/- The program's New: a mac of either algorithm, and of none. -/
import Derived.Test.YtkmkbofokoimkaaDoorZmb
import Derived.Test.YtkmkbofokoimkaaDoorZma
import Derived.Deep.RegionHeld3
namespace Go.Proofs.YtkmkbofokoimkaaDoor.Dg
open Go.ChangeShapes Go.WideShapes Go.ChangeAt Go.RowKit
open Go.Proofs.YtkmkbofokoimkaaDoor.By
open Go.Proofs.YtkmkbofokoimkaaDoor.Sh (Blk size_alloc)
theorem evsP (a : Bool) {L : List Rn} (h : Pos L) (n : Nat) : Pos (evs a L n) := by
  cases a
  · exact Sh.evs256_pos h n
  · exact Sg.evs512_pos h n
theorem evsT (a : Bool) {L : List Rn} (h : Pos L) (n : Nat) (hb : tq L + n ≤ 5800000000000) : tq (evs a L n) ≤ tq L + n := by
  cases a
  · exact Sh.evs256_tot h n hb
  · exact Sg.evs512_tq h n hb
theorem keP (a : Bool) {L : List Rn} (h : Pos L) (n : Nat) : Pos (ke a L n) := by
  unfold ke; split
  · exact evsP a h _
  · exact h
theorem bk_div (a : Bool) (n : Nat) : n / bk a ≤ n / 64 := by
  cases a
  · exact Nat.le_refl _
  · show n / 128 ≤ n / 64; omega
theorem keT (a : Bool) {L : List Rn} (h : Pos L) (n : Nat) (hn : n ≤ 140737488353328) (hb : tq L ≤ 2200000000000) : tq (ke a L n) ≤ tq L + (n / 64 : Nat) + 2 := by
  have h1 := bk_div a n
  have h2 := (last_le a n).1
  unfold ke; split
  · have := evsT a h (n / bk a + last a n) (by omega); omega
  · omega
theorem own_sl {w : World} {base n : Nat} {v : Value} {f : Nat → Int} (h : By.Own w base v n f) : ∃ a c, v = .slice a n c := by
  obtain ⟨_, a, c, rfl, _⟩ := h.reads
  exact ⟨a, c, rfl⟩
theorem IsD.congr {W : World} {b m : Nat} {a : Bool} {f g : Nat → Int} (h : IsD W b a (some (m, f))) (hg : BB g) (e : ∀ i, i < m → f i = g i) : IsD W b a (some (m, g)) := by
  cases a
  · exact Sh.St.congr h hg e
  · exact Sg.St.congr h hg e
/-- What New holds between its calls. -/
structure NS (a : Bool) (S : Nat → Prop) (w : World) (lo : Option Nat) (L : List Rn) (hb mb : Nat) (cs : List Value) (u : Value) (K : Nat → Int) (W : World) : Prop where
  kp : Kp S w W
  lg : LG S w W lo L
  h : Blk W hb (hc a) 52
  m : Blk W mb cs 60
  u : By.Own W w.heap.size u (bk a) K
  zm : w.heap.size ≤ mb
section
variable {a : Bool} {S : Nat → Prop} {w W W' : World} {lo : Option Nat} {L : List Rn} {hb mb : Nat} {cs : List Value} {u : Value} {K : Nat → Int}
theorem NS.below (h : NS a S w lo L hb mb cs u K W) (hw : Below W.heap.size W W') : NS a S w lo L hb mb cs u K W' :=
  ⟨h.kp.trans (Kp.of_below S hw) (fun _ _ e => e), h.lg.below hw, h.h.below hw, h.m.below hw, own_below h.u hw, h.zm⟩
theorem NS.set (h : NS a S w lo L hb mb cs u K W) (i : Nat) (x : Value) : NS a S w lo L hb mb (cs.set i x) u K (W.setCell ⟨mb, i, none⟩ x) := by
  have hk : Kp (fun k => k = mb) W (W.setCell ⟨mb, i, none⟩ x) := Kp.setCell mb i x
  have hz := h.zm
  refine ⟨h.kp.trans hk (fun j hj e => by have : j = mb := e; omega), Sg.LG.kept h.lg hk (fun j e => ⟨cs, 60, (by rw [show j = mb from e]; exact h.m), by decide, by decide⟩), h.h.kept hk (fun e => Blk.ne h.h h.m (by decide) e), h.m.set i x, Sg.own_kept h.u hk (fun g hg e => ?_), h.zm⟩
  obtain ⟨c, hc⟩ := Sg.own8_type h.u hg
  exact Blk.ne (show Blk W g c.toList 5 from by show W.heap[g]? = _; rw [hc]) h.m (by decide) e
theorem NS.isd (h : NS a S w lo L hb mb cs u K W) {b : Nat} {k : SK} {c : Bool} (hd : IsD W b c k) (i : Nat) (x : Value) : IsD (W.setCell ⟨mb, i, none⟩ x) b c k := by
  obtain ⟨cs', hc⟩ := hd.blk
  exact hd.kept (Kp.setCell mb i x) (fun e => Blk.ne hc h.m (by cases c <;> decide) e)
end
theorem nsBegun256 {S : Nat → Prop} {w W : World} {lo : Option Nat} {L L0 : List Rn} {hb mb : Nat} {cs : List Value} {ua : Option Addr} {uc : Nat} {K : Nat → Int} (h : NS false S w lo L hb mb cs (.slice ua 64 uc) K W) (x : Int) (hk : KT w) (hl0 : LG S w w lo L0) (hS0 : ¬ S 0) (hS1 : ¬ S 1) (hp : Pos L) (hroom : tq L ≤ 4399500000000) :
    Calls Tryd.prog 22 #[lpv lo, .agg #[.int .u8 1, .int .i64 32, .int .i64 64, .int .u8 1, .int .i64 64, .func (.func 29) #[] #[], .func (.func 30) #[] #[]], .slice ua 64 uc, .int .u8 x] W fun e w' => ∃ b, W.heap.size ≤ b ∧ e = .returned (.iface 76 (.agg #[.pointer (some ⟨b, 0, none⟩)])) ∧ IsD w' b false (some (64, msk x K)) ∧ NS false S w lo (evs false L 1) hb mb cs (.slice ua 64 uc) K w' ∧ Kl W w' := by
  obtain ⟨T, l1, hT, hTS⟩ := LG.own h.lg
  have hlt := hk.lt
  refine (begun256 ua uc x K lo L T W (hk.kept h.kp hS0 hS1) (fun e => hS0 (hTS 0 (by omega) e)) (fun e => hS1 (hTS 1 (by omega) e)) l1 hp h.u.reads hroom).mono ?_
  rintro e w' ⟨b, hb, rfl, hd, hl, hk'⟩
  have kl : Kl W w' := ⟨T, hk', hT⟩
  exact ⟨b, hb, rfl, hd, ⟨h.kp.trans hk' hTS, Sg.LG.back hl hl0 h.kp.size hTS, kl.blk h.h (by decide), kl.blk h.m (by decide), kl.own h.u, h.zm⟩, kl⟩
theorem copyC256 (b m : Nat) (f : Nat → Int) (w : World) (h : IsD w b false (some (m, f))) : Calls Tryd.prog 96 #[.agg #[.pointer (some ⟨b, 0, none⟩)]] w fun e w' => ∃ c, w.heap.size ≤ c ∧ e = .returned (.iface 76 (.agg #[.pointer (some ⟨c, 0, none⟩)])) ∧ IsD w' c false (some (m, f)) ∧ Below w.heap.size w w' := dcopy false b m f w h
set_option maxRecDepth 8000 in
set_option maxHeartbeats 4000000 in
theorem new256 (n : Nat) (v : Value) (g : Nat → Int) (lo : Option Nat) (L : List Rn) (S : Nat → Prop) (w : World) (hk : KT w) (hS0 : ¬ S 0) (hS1 : ¬ S 1) (hl : LG S w w lo L) (hp : Pos L)
    (hr : ∀ w', Kp S w w' → By.RB w' v n g) (hn : n ≤ 140737488353328) (hroom : tq L ≤ 2200000000000) :
    Calls Tryd.prog 11 #[lpv lo, .int .u8 1, v] w fun e w' => ∃ b b0 b1 b2, e = .returned (.tuple #[.pointer (some ⟨b, 0, none⟩), .int .i64 0]) ∧ IsMk w' b ⟨false, kb false n g, 0, nof, b0, b1, b2⟩ ∧ (w.heap.size ≤ b ∧ w.heap.size ≤ b0 ∧ w.heap.size ≤ b1 ∧ w.heap.size ≤ b2) ∧ LG S w w' lo (kev false L n) ∧ Kp S w w' := by
  have HR := hid hr
  have HL := hid hl
  have HK := hid hk
  have HP := hid hp
  have KP := hid (keP false hp n)
  have KT1 := keT false hp n hn (by omega)
  have KP1 := hid (evsP false KP.out 1)
  have KT2 := evsT false KP.out 1 (by omega)
  clear hr hl hk hp
  have nS : ∀ j, w.heap.size ≤ j → ¬ (S j ∧ j < w.heap.size) := fun j hj e => by have := e.2; omega
  go_enter Tryd.func11, Tryd.ntmps11
  go_wp2_with fail
  refine (of256 _).mono ?_
  rintro e w1 ⟨rfl, hb⟩
  obtain ⟨W1, hW1⟩ : ∃ x, w1.alloc (.cells #[.int .u8 1, .int .i64 32, .int .i64 64, .int .u8 1, .int .i64 64, .func (.func 29) #[] #[], .func (.func 30) #[] #[]] 52) = x := ⟨_, rfl⟩
  have b1 := hid (show Below w.heap.size w W1 from by rw [← hW1]; exact below_next hb (below_alloc w1 _))
  have h1 := hid (show Blk W1 w1.heap.size [.int .u8 1, .int .i64 32, .int .i64 64, .int .u8 1, .int .i64 64, .func (.func 29) #[] #[], .func (.func 30) #[] #[]] 52 from by rw [← hW1]; exact Sh.Blk.new w1 _ _)
  have z1 := hid hb.size
  have l1 := ldH (range0 h1.out) rfl
  clear hb
  go_wp2_with fail
  refine (blockKey256 n v g lo L (fun j => S j ∧ j < w.heap.size) W1 (HK.out.below b1.out) (fun e => hS0 e.1) (fun e => hS1 e.1) (HL.out.start b1.out (fun _ hi h => ⟨h, hi⟩)) HP.out (fun w' h' => HR.out w' ((Kp.of_below S b1.out).trans h' (fun _ _ e => e.1))) hn (by omega)).mono ?_
  rintro e w2 ⟨u, rfl, hu, hl2, hk2⟩
  have h2 := hid (h1.out.kept hk2 (nS _ z1.out))
  have c2 := h2.out.cell 1 _ rfl
  have N2 := hid (show Kp S w w2 ∧ LG S w w2 lo (ke false L n) ∧ By.Own w2 w.heap.size u 64 (kb false n g) from ⟨(Kp.of_below S b1.out).trans hk2 (fun _ _ e => e.1), Sg.LG.back hl2 HL.out b1.out.size (fun _ _ h => h.1), Sg.own_mono hu b1.out.size⟩)
  clear hu hl2 hk2 h1 l1 HR hW1
  obtain ⟨W3, hW3⟩ : ∃ x, w2.alloc (.cells #[.int .i64 32, .nilIface, .nilIface, .nilIface] 60) = x := ⟨_, rfl⟩
  have b3 : Below w2.heap.size w2 W3 := by rw [← hW3]; exact below_alloc w2 _
  have N3 := hid (show NS false S w lo (ke false L n) w1.heap.size w2.heap.size [.int .i64 32, .nilIface, .nilIface, .nilIface] u (kb false n g) W3 from ⟨N2.out.1.trans (Kp.of_below S b3) (fun _ _ e => e), N2.out.2.1.below b3, h2.out.below b3, (by rw [← hW3]; exact Sh.Blk.new w2 _ _), own_below N2.out.2.2 b3, N2.out.1.size⟩)
  clear N2 b3 h2
  obtain ⟨ua, uc, rfl⟩ := own_sl N3.out.u
  have l3 := ldH (range0 (show Blk W3.drew w1.heap.size [.int .u8 1, .int .i64 32, .int .i64 64, .int .u8 1, .int .i64 64, .func (.func 29) #[] #[], .func (.func 30) #[] #[]] 52 from N3.out.h)) rfl
  have cm := N3.out.m.cell 1 _ rfl
  have fm := N3.out.m.frozen 1
  go_upto_region 6 with fail
  go_region_held3 (fun W => (LDH ⟨w1.heap.size, 0, none⟩).run Tryd.prog W = .ok (.agg #[.int .u8 1, .int .i64 32, .int .i64 64, .int .u8 1, .int .i64 64, .func (.func 29) #[] #[], .func (.func 30) #[] #[]]) W) (assumption) (first
    | (go_at_call 22; go_must (refine (nsBegun256 (N3.out.below (below_drewN W3 1)) 54 HK.out HL.out hS0 hS1 KP.out (by omega)).mono ?_; rintro e w4 ⟨b0, hb0, rfl, hd0, hn4, hkl⟩; have Z0 := hid (show W3.heap.size ≤ b0 from hb0); have N5 := hid (hn4.set 1 (.iface 76 (.agg #[.pointer (some ⟨b0, 0, none⟩)]))); have D5 := hid (hn4.isd hd0 1 (.iface 76 (.agg #[.pointer (some ⟨b0, 0, none⟩)]))); have y0 : (LDH ⟨w1.heap.size, 0, none⟩).run Tryd.prog w4 = .ok (.agg #[.int .u8 1, .int .i64 32, .int .i64 64, .int .u8 1, .int .i64 64, .func (.func 29) #[] #[], .func (.func 30) #[] #[]]) w4 := ldH (range0 hn4.h) rfl; have y3 : (LDH ⟨w1.heap.size, 0, none⟩).run Tryd.prog (w4.setCell ⟨w2.heap.size, 1, none⟩ (.iface 76 (.agg #[.pointer (some ⟨b0, 0, none⟩)]))) = .ok (.agg #[.int .u8 1, .int .i64 32, .int .i64 64, .int .u8 1, .int .i64 64, .func (.func 29) #[] #[], .func (.func 30) #[] #[]]) (w4.setCell ⟨w2.heap.size, 1, none⟩ (.iface 76 (.agg #[.pointer (some ⟨b0, 0, none⟩)]))) := ldH (range0 N5.out.h) rfl; have y1 := hn4.m.cell 1 _ rfl; have y2 := hn4.m.frozen 1; clear hd0 hn4 hkl hb0)))
  have z3 := hid (show w.heap.size ≤ W3.heap.size from N3.out.kp.size)
  clear y0 y1 y2 y3 l3 cm fm N3
  obtain ⟨W5, hW5⟩ : ∃ x, w4.setCell ⟨w2.heap.size, 1, none⟩ (.iface 76 (.agg #[.pointer (some ⟨b0, 0, none⟩)])) = x := ⟨_, rfl⟩
  rw [hW5] at N5 D5
  have l5 : (LDH ⟨w1.heap.size, 0, none⟩).run Tryd.prog W5.drew = .ok (.agg #[.int .u8 1, .int .i64 32, .int .i64 64, .int .u8 1, .int .i64 64, .func (.func 29) #[] #[], .func (.func 30) #[] #[]]) W5.drew := ldH (range0 (show Blk W5.drew w1.heap.size [.int .u8 1, .int .i64 32, .int .i64 64, .int .u8 1, .int .i64 64, .func (.func 29) #[] #[], .func (.func 30) #[] #[]] 52 from N5.out.h)) rfl
  rw [hW5]
  clear hW5
  go_upto_region 7 with fail
  go_region_held3 (fun W => (LDH ⟨w1.heap.size, 0, none⟩).run Tryd.prog W = .ok (.agg #[.int .u8 1, .int .i64 32, .int .i64 64, .int .u8 1, .int .i64 64, .func (.func 29) #[] #[], .func (.func 30) #[] #[]]) W) (assumption) (first
    | (go_at_call 22; go_must (refine (nsBegun256 (N5.out.below (below_drewN W5 1)) 92 HK.out HL.out hS0 hS1 KP1.out (by omega)).mono ?_; rintro e w6 ⟨b1, hb1, rfl, hd1, hn6, hkl⟩; have Z1 := hid (show W5.heap.size ≤ b1 from hb1); have N7 := hid (hn6.set 2 (.iface 76 (.agg #[.pointer (some ⟨b1, 0, none⟩)]))); have D7 := hid (hn6.isd hd1 2 (.iface 76 (.agg #[.pointer (some ⟨b1, 0, none⟩)]))); have D6 := hid (hn6.isd (hkl.isd (D5.out.below (below_drewN W5 1))) 2 (.iface 76 (.agg #[.pointer (some ⟨b1, 0, none⟩)]))); have y0 : (LDH ⟨w1.heap.size, 0, none⟩).run Tryd.prog w6 = .ok (.agg #[.int .u8 1, .int .i64 32, .int .i64 64, .int .u8 1, .int .i64 64, .func (.func 29) #[] #[], .func (.func 30) #[] #[]]) w6 := ldH (range0 hn6.h) rfl; have y3 : (LDH ⟨w1.heap.size, 0, none⟩).run Tryd.prog (w6.setCell ⟨w2.heap.size, 2, none⟩ (.iface 76 (.agg #[.pointer (some ⟨b1, 0, none⟩)]))) = .ok (.agg #[.int .u8 1, .int .i64 32, .int .i64 64, .int .u8 1, .int .i64 64, .func (.func 29) #[] #[], .func (.func 30) #[] #[]]) (w6.setCell ⟨w2.heap.size, 2, none⟩ (.iface 76 (.agg #[.pointer (some ⟨b1, 0, none⟩)]))) := ldH (range0 N7.out.h) rfl; have y1 := hn6.m.cell 2 _ rfl; have y2 := hn6.m.frozen 2; clear hd1 hn6 hkl hb1)))
  have z5 := hid (show w.heap.size ≤ W5.heap.size from N5.out.kp.size)
  clear y0 y1 y2 y3 l5 N5
  have lt0 := hid (show b0 < W5.heap.size by obtain ⟨cs, hc⟩ := D5.out.blk; exact hc.lt)
  clear D5
  obtain ⟨W7, hW7⟩ : ∃ x, w6.setCell ⟨w2.heap.size, 2, none⟩ (.iface 76 (.agg #[.pointer (some ⟨b1, 0, none⟩)])) = x := ⟨_, rfl⟩
  rw [hW7] at N7 D7 D6
  rw [hW7]
  clear hW7
  go_upto_region 8 with fail
  have x1 : W7.cell? ⟨w2.heap.size, 1, none⟩ = some (.iface 76 (.agg #[.pointer (some ⟨b0, 0, none⟩)])) := N7.out.m.cell 1 _ rfl
  go_region_held3 (fun W => W.cell? ⟨w2.heap.size, 1, none⟩ = some (.iface 76 (.agg #[.pointer (some ⟨b0, 0, none⟩)]))) (first | assumption | go_keep) (first
    | (go_at_call 96; go_must (refine (copyC256 b0 _ _ _ (D6.out.below (below_drewN W7 1))).mono ?_; rintro e w8 ⟨b2, hb2, rfl, hd2, hb8⟩; have Z2 := hid (show W7.heap.size ≤ b2 from hb2); have n8 := (N7.out.below (below_drewN W7 1)).below hb8; have d0 := (D6.out.below (below_drewN W7 1)).below hb8; have d1 := (D7.out.below (below_drewN W7 1)).below hb8; have N9 := hid (n8.set 3 (.iface 76 (.agg #[.pointer (some ⟨b2, 0, none⟩)]))); have E0 := hid (n8.isd d0 3 (.iface 76 (.agg #[.pointer (some ⟨b2, 0, none⟩)]))); have E1 := hid (n8.isd d1 3 (.iface 76 (.agg #[.pointer (some ⟨b2, 0, none⟩)]))); have E2 := hid (n8.isd hd2 3 (.iface 76 (.agg #[.pointer (some ⟨b2, 0, none⟩)]))); have y1 : w8.cell? ⟨w2.heap.size, 1, none⟩ = some (.iface 76 (.agg #[.pointer (some ⟨b0, 0, none⟩)])) := n8.m.cell 1 _ rfl; have y4 : (w8.setCell ⟨w2.heap.size, 3, none⟩ (.iface 76 (.agg #[.pointer (some ⟨b2, 0, none⟩)]))).cell? ⟨w2.heap.size, 1, none⟩ = some (.iface 76 (.agg #[.pointer (some ⟨b0, 0, none⟩)])) := N9.out.m.cell 1 _ rfl; have y2 := n8.m.cell 3 _ rfl; have y3 := n8.m.frozen 3; clear n8 d0 d1 hd2 hb8 hb2)))
  have lt1 := hid (show b1 < W7.heap.size by obtain ⟨cs, hc⟩ := D7.out.blk; exact hc.lt)
  have lt2 := hid (show b0 < W7.heap.size by obtain ⟨cs, hc⟩ := D6.out.blk; exact hc.lt)
  have z7 := hid (show w.heap.size ≤ W7.heap.size from N7.out.kp.size)
  clear y1 y2 y3 y4 x1 N7 D7 D6
  go_wp2
  go_ret2
  exact ⟨_, b0, b1, b2, rfl, ⟨N9.out.m, E0.out.congr (inr_b nof_b) (fun i hi => (if_pos hi).symm), E1.out, E2.out, by have := lt0.out; have := Z1.out; show b0 ≠ b1; omega, by have := lt2.out; have := Z2.out; show b0 ≠ b2; omega, by have := lt1.out; have := Z2.out; show b1 ≠ b2; omega, nof_b⟩, ⟨N9.out.zm, by have := z3.out; have := Z0.out; omega, by have := z5.out; have := Z1.out; omega, by have := z7.out; have := Z2.out; omega⟩, by have := N9.out.lg; rw [evs_add] at this; exact this, N9.out.kp⟩
theorem nsBegun512 {S : Nat → Prop} {w W : World} {lo : Option Nat} {L L0 : List Rn} {hb mb : Nat} {cs : List Value} {ua : Option Addr} {uc : Nat} {K : Nat → Int} (h : NS true S w lo L hb mb cs (.slice ua 128 uc) K W) (x : Int) (hk : KT w) (hl0 : LG S w w lo L0) (hS0 : ¬ S 0) (hS1 : ¬ S 1) (hp : Pos L) (hroom : tq L ≤ 4399500000000) :
    Calls Tryd.prog 22 #[lpv lo, .agg #[.int .u8 2, .int .i64 64, .int .i64 128, .int .u8 2, .int .i64 128, .func (.func 31) #[] #[], .func (.func 32) #[] #[]], .slice ua 128 uc, .int .u8 x] W fun e w' => ∃ b, W.heap.size ≤ b ∧ e = .returned (.iface 81 (.agg #[.pointer (some ⟨b, 0, none⟩)])) ∧ IsD w' b true (some (128, msk x K)) ∧ NS true S w lo (evs true L 1) hb mb cs (.slice ua 128 uc) K w' ∧ Kl W w' := by
  obtain ⟨T, l1, hT, hTS⟩ := LG.own h.lg
  have hlt := hk.lt
  refine (begun512 ua uc x K lo L T W (hk.kept h.kp hS0 hS1) (fun e => hS0 (hTS 0 (by omega) e)) (fun e => hS1 (hTS 1 (by omega) e)) l1 hp h.u.reads hroom).mono ?_
  rintro e w' ⟨b, hb, rfl, hd, hl, hk'⟩
  have kl : Kl W w' := ⟨T, hk', hT⟩
  exact ⟨b, hb, rfl, hd, ⟨h.kp.trans hk' hTS, Sg.LG.back hl hl0 h.kp.size hTS, kl.blk h.h (by decide), kl.blk h.m (by decide), kl.own h.u, h.zm⟩, kl⟩
theorem copyC512 (b m : Nat) (f : Nat → Int) (w : World) (h : IsD w b true (some (m, f))) : Calls Tryd.prog 102 #[.agg #[.pointer (some ⟨b, 0, none⟩)]] w fun e w' => ∃ c, w.heap.size ≤ c ∧ e = .returned (.iface 81 (.agg #[.pointer (some ⟨c, 0, none⟩)])) ∧ IsD w' c true (some (m, f)) ∧ Below w.heap.size w w' := dcopy true b m f w h
set_option maxRecDepth 8000 in
set_option maxHeartbeats 4000000 in
theorem new512 (n : Nat) (v : Value) (g : Nat → Int) (lo : Option Nat) (L : List Rn) (S : Nat → Prop) (w : World) (hk : KT w) (hS0 : ¬ S 0) (hS1 : ¬ S 1) (hl : LG S w w lo L) (hp : Pos L)
    (hr : ∀ w', Kp S w w' → By.RB w' v n g) (hn : n ≤ 140737488353328) (hroom : tq L ≤ 2200000000000) :
    Calls Tryd.prog 11 #[lpv lo, .int .u8 2, v] w fun e w' => ∃ b b0 b1 b2, e = .returned (.tuple #[.pointer (some ⟨b, 0, none⟩), .int .i64 0]) ∧ IsMk w' b ⟨true, kb true n g, 0, nof, b0, b1, b2⟩ ∧ (w.heap.size ≤ b ∧ w.heap.size ≤ b0 ∧ w.heap.size ≤ b1 ∧ w.heap.size ≤ b2) ∧ LG S w w' lo (kev true L n) ∧ Kp S w w' := by
  have HR := hid hr
  have HL := hid hl
  have HK := hid hk
  have HP := hid hp
  have KP := hid (keP true hp n)
  have KT1 := keT true hp n hn (by omega)
  have KP1 := hid (evsP true KP.out 1)
  have KT2 := evsT true KP.out 1 (by omega)
  clear hr hl hk hp
  have nS : ∀ j, w.heap.size ≤ j → ¬ (S j ∧ j < w.heap.size) := fun j hj e => by have := e.2; omega
  go_enter Tryd.func11, Tryd.ntmps11
  go_wp2_with fail
  refine (of512 _).mono ?_
  rintro e w1 ⟨rfl, hb⟩
  obtain ⟨W1, hW1⟩ : ∃ x, w1.alloc (.cells #[.int .u8 2, .int .i64 64, .int .i64 128, .int .u8 2, .int .i64 128, .func (.func 31) #[] #[], .func (.func 32) #[] #[]] 52) = x := ⟨_, rfl⟩
  have b1 := hid (show Below w.heap.size w W1 from by rw [← hW1]; exact below_next hb (below_alloc w1 _))
  have h1 := hid (show Blk W1 w1.heap.size [.int .u8 2, .int .i64 64, .int .i64 128, .int .u8 2, .int .i64 128, .func (.func 31) #[] #[], .func (.func 32) #[] #[]] 52 from by rw [← hW1]; exact Sh.Blk.new w1 _ _)
  have z1 := hid hb.size
  have l1 := ldH (range0 h1.out) rfl
  clear hb
  go_wp2_with fail
  refine (blockKey512 n v g lo L (fun j => S j ∧ j < w.heap.size) W1 (HK.out.below b1.out) (fun e => hS0 e.1) (fun e => hS1 e.1) (HL.out.start b1.out (fun _ hi h => ⟨h, hi⟩)) HP.out (fun w' h' => HR.out w' ((Kp.of_below S b1.out).trans h' (fun _ _ e => e.1))) hn (by omega)).mono ?_
  rintro e w2 ⟨u, rfl, hu, hl2, hk2⟩
  have h2 := hid (h1.out.kept hk2 (nS _ z1.out))
  have c2 := h2.out.cell 1 _ rfl
  have N2 := hid (show Kp S w w2 ∧ LG S w w2 lo (ke true L n) ∧ By.Own w2 w.heap.size u 128 (kb true n g) from ⟨(Kp.of_below S b1.out).trans hk2 (fun _ _ e => e.1), Sg.LG.back hl2 HL.out b1.out.size (fun _ _ h => h.1), Sg.own_mono hu b1.out.size⟩)
  clear hu hl2 hk2 h1 l1 HR hW1
  obtain ⟨W3, hW3⟩ : ∃ x, w2.alloc (.cells #[.int .i64 64, .nilIface, .nilIface, .nilIface] 60) = x := ⟨_, rfl⟩
  have b3 : Below w2.heap.size w2 W3 := by rw [← hW3]; exact below_alloc w2 _
  have N3 := hid (show NS true S w lo (ke true L n) w1.heap.size w2.heap.size [.int .i64 64, .nilIface, .nilIface, .nilIface] u (kb true n g) W3 from ⟨N2.out.1.trans (Kp.of_below S b3) (fun _ _ e => e), N2.out.2.1.below b3, h2.out.below b3, (by rw [← hW3]; exact Sh.Blk.new w2 _ _), own_below N2.out.2.2 b3, N2.out.1.size⟩)
  clear N2 b3 h2
  obtain ⟨ua, uc, rfl⟩ := own_sl N3.out.u
  have l3 := ldH (range0 (show Blk W3.drew w1.heap.size [.int .u8 2, .int .i64 64, .int .i64 128, .int .u8 2, .int .i64 128, .func (.func 31) #[] #[], .func (.func 32) #[] #[]] 52 from N3.out.h)) rfl
  have cm := N3.out.m.cell 1 _ rfl
  have fm := N3.out.m.frozen 1
  go_upto_region 6 with fail
  go_region_held3 (fun W => (LDH ⟨w1.heap.size, 0, none⟩).run Tryd.prog W = .ok (.agg #[.int .u8 2, .int .i64 64, .int .i64 128, .int .u8 2, .int .i64 128, .func (.func 31) #[] #[], .func (.func 32) #[] #[]]) W) (assumption) (first
    | (go_at_call 22; go_must (refine (nsBegun512 (N3.out.below (below_drewN W3 1)) 54 HK.out HL.out hS0 hS1 KP.out (by omega)).mono ?_; rintro e w4 ⟨b0, hb0, rfl, hd0, hn4, hkl⟩; have Z0 := hid (show W3.heap.size ≤ b0 from hb0); have N5 := hid (hn4.set 1 (.iface 81 (.agg #[.pointer (some ⟨b0, 0, none⟩)]))); have D5 := hid (hn4.isd hd0 1 (.iface 81 (.agg #[.pointer (some ⟨b0, 0, none⟩)]))); have y0 : (LDH ⟨w1.heap.size, 0, none⟩).run Tryd.prog w4 = .ok (.agg #[.int .u8 2, .int .i64 64, .int .i64 128, .int .u8 2, .int .i64 128, .func (.func 31) #[] #[], .func (.func 32) #[] #[]]) w4 := ldH (range0 hn4.h) rfl; have y3 : (LDH ⟨w1.heap.size, 0, none⟩).run Tryd.prog (w4.setCell ⟨w2.heap.size, 1, none⟩ (.iface 81 (.agg #[.pointer (some ⟨b0, 0, none⟩)]))) = .ok (.agg #[.int .u8 2, .int .i64 64, .int .i64 128, .int .u8 2, .int .i64 128, .func (.func 31) #[] #[], .func (.func 32) #[] #[]]) (w4.setCell ⟨w2.heap.size, 1, none⟩ (.iface 81 (.agg #[.pointer (some ⟨b0, 0, none⟩)]))) := ldH (range0 N5.out.h) rfl; have y1 := hn4.m.cell 1 _ rfl; have y2 := hn4.m.frozen 1; clear hd0 hn4 hkl hb0)))
  have z3 := hid (show w.heap.size ≤ W3.heap.size from N3.out.kp.size)
  clear y0 y1 y2 y3 l3 cm fm N3
  obtain ⟨W5, hW5⟩ : ∃ x, w4.setCell ⟨w2.heap.size, 1, none⟩ (.iface 81 (.agg #[.pointer (some ⟨b0, 0, none⟩)])) = x := ⟨_, rfl⟩
  rw [hW5] at N5 D5
  have l5 : (LDH ⟨w1.heap.size, 0, none⟩).run Tryd.prog W5.drew = .ok (.agg #[.int .u8 2, .int .i64 64, .int .i64 128, .int .u8 2, .int .i64 128, .func (.func 31) #[] #[], .func (.func 32) #[] #[]]) W5.drew := ldH (range0 (show Blk W5.drew w1.heap.size [.int .u8 2, .int .i64 64, .int .i64 128, .int .u8 2, .int .i64 128, .func (.func 31) #[] #[], .func (.func 32) #[] #[]] 52 from N5.out.h)) rfl
  rw [hW5]
  clear hW5
  go_upto_region 7 with fail
  go_region_held3 (fun W => (LDH ⟨w1.heap.size, 0, none⟩).run Tryd.prog W = .ok (.agg #[.int .u8 2, .int .i64 64, .int .i64 128, .int .u8 2, .int .i64 128, .func (.func 31) #[] #[], .func (.func 32) #[] #[]]) W) (assumption) (first
    | (go_at_call 22; go_must (refine (nsBegun512 (N5.out.below (below_drewN W5 1)) 92 HK.out HL.out hS0 hS1 KP1.out (by omega)).mono ?_; rintro e w6 ⟨b1, hb1, rfl, hd1, hn6, hkl⟩; have Z1 := hid (show W5.heap.size ≤ b1 from hb1); have N7 := hid (hn6.set 2 (.iface 81 (.agg #[.pointer (some ⟨b1, 0, none⟩)]))); have D7 := hid (hn6.isd hd1 2 (.iface 81 (.agg #[.pointer (some ⟨b1, 0, none⟩)]))); have D6 := hid (hn6.isd (hkl.isd (D5.out.below (below_drewN W5 1))) 2 (.iface 81 (.agg #[.pointer (some ⟨b1, 0, none⟩)]))); have y0 : (LDH ⟨w1.heap.size, 0, none⟩).run Tryd.prog w6 = .ok (.agg #[.int .u8 2, .int .i64 64, .int .i64 128, .int .u8 2, .int .i64 128, .func (.func 31) #[] #[], .func (.func 32) #[] #[]]) w6 := ldH (range0 hn6.h) rfl; have y3 : (LDH ⟨w1.heap.size, 0, none⟩).run Tryd.prog (w6.setCell ⟨w2.heap.size, 2, none⟩ (.iface 81 (.agg #[.pointer (some ⟨b1, 0, none⟩)]))) = .ok (.agg #[.int .u8 2, .int .i64 64, .int .i64 128, .int .u8 2, .int .i64 128, .func (.func 31) #[] #[], .func (.func 32) #[] #[]]) (w6.setCell ⟨w2.heap.size, 2, none⟩ (.iface 81 (.agg #[.pointer (some ⟨b1, 0, none⟩)]))) := ldH (range0 N7.out.h) rfl; have y1 := hn6.m.cell 2 _ rfl; have y2 := hn6.m.frozen 2; clear hd1 hn6 hkl hb1)))
  have z5 := hid (show w.heap.size ≤ W5.heap.size from N5.out.kp.size)
  clear y0 y1 y2 y3 l5 N5
  have lt0 := hid (show b0 < W5.heap.size by obtain ⟨cs, hc⟩ := D5.out.blk; exact hc.lt)
  clear D5
  obtain ⟨W7, hW7⟩ : ∃ x, w6.setCell ⟨w2.heap.size, 2, none⟩ (.iface 81 (.agg #[.pointer (some ⟨b1, 0, none⟩)])) = x := ⟨_, rfl⟩
  rw [hW7] at N7 D7 D6
  rw [hW7]
  clear hW7
  go_upto_region 8 with fail
  have x1 : W7.cell? ⟨w2.heap.size, 1, none⟩ = some (.iface 81 (.agg #[.pointer (some ⟨b0, 0, none⟩)])) := N7.out.m.cell 1 _ rfl
  go_region_held3 (fun W => W.cell? ⟨w2.heap.size, 1, none⟩ = some (.iface 81 (.agg #[.pointer (some ⟨b0, 0, none⟩)]))) (first | assumption | go_keep) (first
    | (go_at_call 102; go_must (refine (copyC512 b0 _ _ _ (D6.out.below (below_drewN W7 1))).mono ?_; rintro e w8 ⟨b2, hb2, rfl, hd2, hb8⟩; have Z2 := hid (show W7.heap.size ≤ b2 from hb2); have n8 := (N7.out.below (below_drewN W7 1)).below hb8; have d0 := (D6.out.below (below_drewN W7 1)).below hb8; have d1 := (D7.out.below (below_drewN W7 1)).below hb8; have N9 := hid (n8.set 3 (.iface 81 (.agg #[.pointer (some ⟨b2, 0, none⟩)]))); have E0 := hid (n8.isd d0 3 (.iface 81 (.agg #[.pointer (some ⟨b2, 0, none⟩)]))); have E1 := hid (n8.isd d1 3 (.iface 81 (.agg #[.pointer (some ⟨b2, 0, none⟩)]))); have E2 := hid (n8.isd hd2 3 (.iface 81 (.agg #[.pointer (some ⟨b2, 0, none⟩)]))); have y1 : w8.cell? ⟨w2.heap.size, 1, none⟩ = some (.iface 81 (.agg #[.pointer (some ⟨b0, 0, none⟩)])) := n8.m.cell 1 _ rfl; have y4 : (w8.setCell ⟨w2.heap.size, 3, none⟩ (.iface 81 (.agg #[.pointer (some ⟨b2, 0, none⟩)]))).cell? ⟨w2.heap.size, 1, none⟩ = some (.iface 81 (.agg #[.pointer (some ⟨b0, 0, none⟩)])) := N9.out.m.cell 1 _ rfl; have y2 := n8.m.cell 3 _ rfl; have y3 := n8.m.frozen 3; clear n8 d0 d1 hd2 hb8 hb2)))
  have lt1 := hid (show b1 < W7.heap.size by obtain ⟨cs, hc⟩ := D7.out.blk; exact hc.lt)
  have lt2 := hid (show b0 < W7.heap.size by obtain ⟨cs, hc⟩ := D6.out.blk; exact hc.lt)
  have z7 := hid (show w.heap.size ≤ W7.heap.size from N7.out.kp.size)
  clear y1 y2 y3 y4 x1 N7 D7 D6
  go_wp2
  go_ret2
  exact ⟨_, b0, b1, b2, rfl, ⟨N9.out.m, E0.out.congr (inr_b nof_b) (fun i hi => (if_pos hi).symm), E1.out, E2.out, by have := lt0.out; have := Z1.out; show b0 ≠ b1; omega, by have := lt2.out; have := Z2.out; show b0 ≠ b2; omega, by have := lt1.out; have := Z2.out; show b1 ≠ b2; omega, nof_b⟩, ⟨N9.out.zm, by have := z3.out; have := Z0.out; omega, by have := z5.out; have := Z1.out; omega, by have := z7.out; have := Z2.out; omega⟩, by have := N9.out.lg; rw [evs_add] at this; exact this, N9.out.kp⟩
end Go.Proofs.YtkmkbofokoimkaaDoor.Dg
