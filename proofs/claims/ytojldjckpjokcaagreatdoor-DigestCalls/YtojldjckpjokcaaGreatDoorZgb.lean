/- The program's function Sum, of either algorithm and of none; lives. -/
import Derived.Test.YtojldjckpjokcaaGreatDoorZga
import Derived.Test.YtojldjckpjokcaaGreatDoorZhe
import Derived.Test.YtojldjckpjokcaaGreatDoorZje
import Derived.Lib.SlBytesConst
namespace Go.Proofs.YtojldjckpjokcaaGreatDoor.Dg
open Go.ChangeShapes Go.WideShapes Go.ChangeAt Go.RowKit
open Go.Proofs.YtojldjckpjokcaaGreatDoor.By
open Go.Proofs.YtojldjckpjokcaaGreatDoor.Sh (Blk size_alloc)
set_option maxRecDepth 4000 in
theorem sumf256 (n : Nat) (v : Value) (g : Nat → Int) (lo : Option Nat) (L : List Rn) (S : Nat → Prop) (w : World) (hk : KT w) (hS0 : ¬ S 0) (hS1 : ¬ S 1) (hl : LG S w w lo L) (hp : Pos L)
    (hr : ∀ w', Kp S w w' → By.RB w' v n g) (hn : n ≤ 900000) (hroom : tot L ≤ 50000) :
    Calls Tryz.prog 19 #[lpv lo, .int .u8 1, v] w fun e w' => ∃ u, e = .returned (.tuple #[u, .int .i64 0]) ∧ By.Own w' w.heap.size u 32 (Sh.dig n g) ∧ LG S w w' lo (Sh.evs256 L (n / 64 + Sh.last n)) ∧ Kp S w w' := by
  have HC := hid (fun w1 (hb : Below w.heap.size w w1) => show Calls Tryz.prog 38 #[lpv lo, v] w1 (fun e w' => ∃ u, e = .returned u ∧ By.Own w' w.heap.size u (sz false) (dig false n g) ∧ LG S w w' lo (evs false L (n / bk false + last false n)) ∧ Kp S w w') from by
    refine (dsumF false n v g lo L S w1 (hk.below hb) hS0 hS1 (hl.start hb (fun _ _ h => h)) hp (fun w' h' => hr w' ((Kp.of_below S hb).trans h' (fun _ _ e => e))) hn hroom).mono ?_
    rintro e w' ⟨u, rfl, h1, h2, h3⟩
    exact ⟨u, rfl, Sg.own_mono h1 hb.size, Sg.LG.back h2 hl hb.size (fun _ _ h => h), (Kp.of_below S hb).trans h3 (fun _ _ e => e)⟩)
  clear hk hS0 hS1 hl hp hr hn hroom
  show Calls Tryz.prog 19 #[lpv lo, .int .u8 1, v] w _
  go_enter Tryz.func19, Tryz.ntmps19
  go_wp2_with (first | (go_at_call 22; refine (of256 _).mono ?_; rintro e w1 ⟨rfl, hb1⟩; have B1 := hid hb1; clear hb1) | (go_at_call 38; refine (HC.out _ (below_next B1.out (below_alloc w1 _))).mono ?_; rintro e w2 ⟨u, rfl, h1, h2, h3⟩))
  go_ret2
  exact ⟨u, rfl, h1, h2, h3⟩
set_option maxRecDepth 4000 in
theorem sumf512 (n : Nat) (v : Value) (g : Nat → Int) (lo : Option Nat) (L : List Rn) (S : Nat → Prop) (w : World) (hk : KT w) (hS0 : ¬ S 0) (hS1 : ¬ S 1) (hl : LG S w w lo L) (hp : Pos L)
    (hr : ∀ w', Kp S w w' → By.RB w' v n g) (hn : n ≤ 900000) (hroom : tot L ≤ 50000) :
    Calls Tryz.prog 19 #[lpv lo, .int .u8 2, v] w fun e w' => ∃ u, e = .returned (.tuple #[u, .int .i64 0]) ∧ By.Own w' w.heap.size u 64 (Sg.dig n g) ∧ LG S w w' lo (Sg.evs512 L (n / 128 + Sg.last n)) ∧ Kp S w w' := by
  have HC := hid (fun w1 (hb : Below w.heap.size w w1) => show Calls Tryz.prog 40 #[lpv lo, v] w1 (fun e w' => ∃ u, e = .returned u ∧ By.Own w' w.heap.size u (sz true) (dig true n g) ∧ LG S w w' lo (evs true L (n / bk true + last true n)) ∧ Kp S w w') from by
    refine (dsumF true n v g lo L S w1 (hk.below hb) hS0 hS1 (hl.start hb (fun _ _ h => h)) hp (fun w' h' => hr w' ((Kp.of_below S hb).trans h' (fun _ _ e => e))) hn hroom).mono ?_
    rintro e w' ⟨u, rfl, h1, h2, h3⟩
    exact ⟨u, rfl, Sg.own_mono h1 hb.size, Sg.LG.back h2 hl hb.size (fun _ _ h => h), (Kp.of_below S hb).trans h3 (fun _ _ e => e)⟩)
  clear hk hS0 hS1 hl hp hr hn hroom
  show Calls Tryz.prog 19 #[lpv lo, .int .u8 2, v] w _
  go_enter Tryz.func19, Tryz.ntmps19
  go_wp2_with (first | (go_at_call 22; refine (of512 _).mono ?_; rintro e w1 ⟨rfl, hb1⟩; have B1 := hid hb1; clear hb1) | (go_at_call 40; refine (HC.out _ (below_next B1.out (below_alloc w1 _))).mono ?_; rintro e w2 ⟨u, rfl, h1, h2, h3⟩))
  go_ret2
  exact ⟨u, rfl, h1, h2, h3⟩
/-- Eight words out of a list. -/
def wof (l : List Int) (i : Nat) : Int := l.getD i 0
theorem lf_l8256 (h h' : Nat → Int) (e : Sh.l8 h = Sh.l8 h') (i : Nat) (hi : i < 32) : Sh.lf h i = Sh.lf h' i := by
  simp only [Sh.l8, List.cons.injEq, and_true] at e
  obtain ⟨e0, e1, e2, e3, e4, e5, e6, e7⟩ := e
  unfold Sh.lf
  have : i / 4 < 8 := by omega
  have hh : h (i / 4) = h' (i / 4) := by
    generalize i / 4 = q at this
    match q, this with
    | 0, _ => exact e0
    | 1, _ => exact e1
    | 2, _ => exact e2
    | 3, _ => exact e3
    | 4, _ => exact e4
    | 5, _ => exact e5
    | 6, _ => exact e6
    | 7, _ => exact e7
  rw [hh]
theorem dig_abc256 (i : Nat) (hi : i < 32) : Sh.dig 3 Sh.abc i = Sh.lf (wof Sh.wabc) i := lf_l8256 _ _ (Sh.abc_words.trans (by rfl)) i hi
theorem first256 : ∀ i, i < 4 → Sh.lf (wof Sh.wabc) i = lst [186, 120, 22, 191] i := by decide +kernel
theorem lf_l8512 (h h' : Nat → Int) (e : Sg.l8 h = Sg.l8 h') (i : Nat) (hi : i < 64) : Sg.lf h i = Sg.lf h' i := by
  simp only [Sg.l8, List.cons.injEq, and_true] at e
  obtain ⟨e0, e1, e2, e3, e4, e5, e6, e7⟩ := e
  unfold Sg.lf
  have : i / 8 < 8 := by omega
  have hh : h (i / 8) = h' (i / 8) := by
    generalize i / 8 = q at this
    match q, this with
    | 0, _ => exact e0
    | 1, _ => exact e1
    | 2, _ => exact e2
    | 3, _ => exact e3
    | 4, _ => exact e4
    | 5, _ => exact e5
    | 6, _ => exact e6
    | 7, _ => exact e7
  rw [hh]
theorem dig_abc512 (i : Nat) (hi : i < 64) : Sg.dig 3 Sg.abc i = Sg.lf (wof Sg.wabc) i := lf_l8512 _ _ (Sg.abc_words.trans (by rfl)) i hi
theorem first512 : ∀ i, i < 4 → Sg.lf (wof Sg.wabc) i = lst [221, 175, 53, 161] i := by decide +kernel
theorem abc_bound (i : Nat) : 0 ≤ Sh.abc i ∧ Sh.abc i < 256 := lst_bound _ (by decide) i
theorem abcE : Sg.abc = Sh.abc := rfl
theorem rb_first {w : World} {base n cap g : Nat} {f : Nat → Int} (h : By.Own w base (.slice (some ⟨g, 0, none⟩) n cap) n f) (h4 : 4 ≤ n) : By.RB w (.slice (some ⟨g, 0, none⟩) 4 cap) 4 f := h.reads.first 4 h4
set_option maxRecDepth 4000 in
set_option maxHeartbeats 1200000 in
theorem lives1 (w : World) (hk : KT w) : Calls Tryz.prog 5 #[] w fun e w' => e = .returned (.bool true) ∧ Below w.heap.size w w' := by
  have HK := hid hk
  have hcv := fun w => Lib.run_convert_bytes_const (P := Tryz.prog) w 41 5 #[Value.int .u8 97, .int .u8 98, .int .u8 99] 3 3 Tryz.underlying41 Tryz.underlying5
  clear hk
  go_enter Tryz.func5, Tryz.ntmps5
  go_wp2_with fail
  have B0 := hid (Sg.rb_marked w 3 Sh.abc (3, 4) abc_bound (by decide))
  have b0 := hid (below_alloc w (.cells (bl 3 Sh.abc).toArray 5 (3, 4)))
  have e3 : (bl 3 Sh.abc).toArray = #[Value.int .u8 97, .int .u8 98, .int .u8 99] := rfl
  rw [e3] at B0 b0
  clear e3
  refine (sumf256 3 _ Sh.abc none [] (fun _ => False) _ (HK.out.below b0.out) id id trivial Sg.pos_nil' (fun w' h' => B0.out.below (Sg.below_kp h')) (by omega) (by decide)).mono ?_
  rintro e w1 ⟨u, rfl, hu, -, hk1⟩
  have U1 := hid hu
  have b1 := hid (below_next b0.out (Sg.below_kp hk1))
  clear hu hk1 B0 b0
  go_wp2_with fail
  have B0 := hid (Sg.rb_marked w1 3 Sh.abc (3, 4) abc_bound (by decide))
  have b0 := hid (below_alloc w1 (.cells (bl 3 Sh.abc).toArray 5 (3, 4)))
  have e3 : (bl 3 Sh.abc).toArray = #[Value.int .u8 97, .int .u8 98, .int .u8 99] := rfl
  rw [e3] at B0 b0
  clear e3
  refine (sumf512 3 _ Sh.abc none [] (fun _ => False) _ (HK.out.below (below_next b1.out b0.out)) id id trivial Sg.pos_nil' (fun w' h' => B0.out.below (Sg.below_kp h')) (by omega) (by decide)).mono ?_
  rintro e w2 ⟨u', rfl, hu, -, hk1⟩
  have U2 := hid hu
  have V1 := hid (own_below (own_below U1.out b0.out) (Sg.below_kp hk1))
  have b2 := hid (below_next (below_next b1.out b0.out) (Sg.below_kp hk1))
  clear hu hk1 B0 b0 hcv U1 b1
  obtain ⟨g1, c1, rfl, -⟩ := own_cells V1.out (by decide)
  obtain ⟨g2, c2, rfl, -⟩ := own_cells U2.out (by decide)
  have hc1 := rb_cap V1.out.reads
  have hc2 := rb_cap U2.out.reads
  have hc1' : (32 : Int) ≤ c1 := by have : 32 ≤ c1 := hc1; omega
  have hc2' : (64 : Int) ≤ c2 := by have : 64 ≤ c2 := hc2; omega
  clear hc1 hc2

  have hl1 := hid (fun (W : World) => rb_lit W #[Value.int .u8 186, .int .u8 120, .int .u8 22, .int .u8 191] 4 (lst [186, 120, 22, 191]) (lst_bound _ (by decide)) (by decide) rfl rfl)
  have hl2 := hid (fun (W : World) => rb_lit W #[Value.int .u8 221, .int .u8 175, .int .u8 53, .int .u8 161] 4 (lst [221, 175, 53, 161]) (lst_bound _ (by decide)) (by decide) rfl rfl)
  go_wp2_with fail
  refine (same_true _ _ 4 _ _ _ ((rb_first V1.out (by decide)).alloc _) (hl1.out _) (by decide) (fun i hi => (dig_abc256 i (by omega)).trans (first256 i hi))).mono ?_
  rintro e w3 ⟨rfl, d3, rfl⟩
  obtain ⟨X, hX⟩ : ∃ x, (w2.alloc (.cells #[Value.int .u8 186, .int .u8 120, .int .u8 22, .int .u8 191] 5)).drewN d3 = x := ⟨_, rfl⟩
  have hbx : Below w2.heap.size w2 X := by rw [← hX]; exact below_drew' (below_alloc w2 _) d3
  rw [hX]
  have U3 := hid (own_below U2.out hbx)
  have b3 := hid (below_next b2.out hbx)
  clear hX hbx U2 V1 b2
  go_wp2_with fail
  refine (same_true _ _ 4 _ _ _ ((rb_first U3.out (by decide)).alloc _) (hl2.out _) (by decide) (fun i hi => (dig_abc512 i (by omega)).trans (first512 i hi))).mono ?_
  rintro e w4 ⟨rfl, d4, rfl⟩
  go_wp2
  go_ret
  exact ⟨rfl, below_drew' (below_next b3.out (below_alloc X _)) d4⟩
end Go.Proofs.YtojldjckpjokcaaGreatDoor.Dg
