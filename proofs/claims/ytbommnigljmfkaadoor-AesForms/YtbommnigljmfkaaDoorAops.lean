/- What the program's New, Clone, Wipe and Form answer. -/
import Derived.Test.YtbommnigljmfkaaDoorAenc
import Derived.Test.YtbommnigljmfkaaDoorAexp
namespace Go.Proofs.YtbommnigljmfkaaDoor.Ae
open Go.ChangeShapes Go.WideShapes Go.ChangeAt Go.RowKit
open Go.Proofs.YtbommnigljmfkaaDoor.By Go.Proofs.YtbommnigljmfkaaDoor.Gf
theorem new_bad (lv : Value) (a : Option Addr) (n cap : Nat) (w : World) (h1 : n ≠ 16) (h2 : n ≠ 24) (h3 : n ≠ 32) : Calls Tryd.prog 18 #[lv, .slice a n cap] w fun e w' => e = .returned (.tuple #[.pointer none, .int .i64 7]) ∧ w' = w := by
  have e1 : ((n : Int) == 16) = false := by rw [beq_eq_false_iff_ne]; omega
  have e2 : ((n : Int) == 24) = false := by rw [beq_eq_false_iff_ne]; omega
  have e3 : ((n : Int) == 32) = false := by rw [beq_eq_false_iff_ne]; omega
  have f1 : ¬ (n : Int) = 16 := by omega
  have f2 : ¬ (n : Int) = 24 := by omega
  have f3 : ¬ (n : Int) = 32 := by omega
  go_enter Tryd.func18, Tryd.ntmps18
  go_wp2
  go_ret2
  exact ⟨rfl, rfl⟩
theorem rk_lt (k : Nat) (key : Nat → Nat) (h : ∀ i, key i < 256) (i : Nat) : rk k key i < 256 := by
  unfold rk upto
  split
  · exact wds_lt _ _ h _ _
  · decide
theorem foldl_put (vs : List Value) (cs : List Value) (o n : Nat) : List.foldl (fun (a : Array Value) (x : Value × Nat) => a.setIfInBounds (o + x.2) x.1) cs.toArray (vs.zipIdx n) = (put cs (o + n) vs).toArray := by
  induction vs generalizing cs n with
  | nil => rfl
  | cons v r ih =>
    simp only [List.zipIdx_cons, List.foldl_cons]
    rw [List.setIfInBounds_toArray, ih]
    rfl
theorem put_cons (v : Value) (l vs : List Value) (o : Nat) : put (v :: l) (o + 1) vs = v :: put l o vs := by
  induction vs generalizing l o with
  | nil => rfl
  | cons u r ih => exact ih (l.set o u) (o + 1)
theorem zero_ci : Tryd.zeroCells50 = (cic 0 (fun _ => 0)).toArray := by kernel_rfl
theorem new_cells (k : Nat) (ws : Nat → Nat) : List.foldl (fun (a : Array Value) (x : Value × Nat) => a.setIfInBounds (1 + x.2) x.1) (Tryd.zeroCells50.setIfInBounds 0 (Value.int IntKind.i64 (k : Int))) (bl 240 (cb ws)).zipIdx = (cic k ws).toArray := by
  rw [zero_ci, List.setIfInBounds_toArray, foldl_put]
  show (put (cic k (fun _ => 0)) (0 + 1) (bl 240 (cb ws))).toArray = _
  unfold cic
  rw [put_cons, put_all _ _ (by rw [bl_length, bl_length])]
set_option maxRecDepth 8000 in
set_option maxHeartbeats 4000000 in
theorem new_ok16 (S : Nat → Prop) (w0 w : World) (lo : Option Nat) (L : List Rn) (key : Nat → Nat) (hkey : ∀ i, key i < 256) (kb ko cap : Nat) (hc : 4 * 4 ≤ cap) (h : LG S w0 w lo L) (h0 : Kp S w0 w) (hr : Room L)
    (hcell : ∀ W, Kp S w0 W → Kt w W → ∀ i, i < 4 * 4 → W.cell? ⟨kb, ko + i, none⟩ = some (.int .u8 (key i : Nat))) :
    Calls Tryd.prog 18 #[lpv lo, .slice (some ⟨kb, ko, none⟩) 16 cap] w fun e w' => ∃ g, e = .returned (.tuple #[.pointer (some ⟨g, 0, none⟩), .int .i64 0]) ∧ Ci w' g 4 (rk 4 key) ∧ w.heap.size ≤ g ∧ LG S w0 w' lo (putL L ⟨4, 16, 1⟩) ∧ Kp S w0 w' ∧ Kt w w' := by
  have HC := hid hcell
  have HL := hid h
  have H0 := hid h0
  have HR := hid hr
  have HK := hid hkey
  clear hcell h h0 hr hkey
  go_enter Tryd.func18, Tryd.ntmps18
  go_wp2_with fail
  refine (note_lg S w0 _ lo L 4 16 (by omega) (by omega) HL.out H0.out HR.out).mono ?_
  rintro e W3 ⟨rfl, l3, k3, t3⟩
  have L3 := hid l3
  have K3 := hid k3
  have T3 := hid t3
  have EX := hid (expanded1 4 (.inl rfl) key HK.out kb ko cap W3 hc (HC.out W3 k3 t3))
  clear l3 k3 t3
  go_wp2_with fail
  refine EX.out.mono ?_
  rintro e W4 ⟨rfl, hb4⟩
  have HB := hid hb4
  have hlen := bl_length 240 (cb (rk 4 key))
  clear hb4
  go_wp2_with fail
  go_ret2
  have nc := new_cells 4 (rk 4 key)
  have k4 := below_next HB.out (below_alloc W4 (.cells (cic 4 (rk 4 key)).toArray 50))
  refine ⟨W4.heap.size, rfl, ⟨Blk.newAt _ _ _ _ _ rfl nc, .inl rfl, rk_lt 4 key HK.out⟩, Nat.le_trans T3.out.1 HB.out.size, ?_, ?_, ?_⟩
  · erw [nc]
    exact L3.out.below k4
  · erw [nc]
    exact K3.out.trans (Kp.of_below _ k4) (fun _ _ e => e)
  · erw [nc]
    exact T3.out.trans (Kt.of_below k4)
set_option maxRecDepth 8000 in
set_option maxHeartbeats 4000000 in
theorem new_ok24 (S : Nat → Prop) (w0 w : World) (lo : Option Nat) (L : List Rn) (key : Nat → Nat) (hkey : ∀ i, key i < 256) (kb ko cap : Nat) (hc : 4 * 6 ≤ cap) (h : LG S w0 w lo L) (h0 : Kp S w0 w) (hr : Room L)
    (hcell : ∀ W, Kp S w0 W → Kt w W → ∀ i, i < 4 * 6 → W.cell? ⟨kb, ko + i, none⟩ = some (.int .u8 (key i : Nat))) :
    Calls Tryd.prog 18 #[lpv lo, .slice (some ⟨kb, ko, none⟩) 24 cap] w fun e w' => ∃ g, e = .returned (.tuple #[.pointer (some ⟨g, 0, none⟩), .int .i64 0]) ∧ Ci w' g 6 (rk 6 key) ∧ w.heap.size ≤ g ∧ LG S w0 w' lo (putL L ⟨4, 24, 1⟩) ∧ Kp S w0 w' ∧ Kt w w' := by
  have HC := hid hcell
  have HL := hid h
  have H0 := hid h0
  have HR := hid hr
  have HK := hid hkey
  clear hcell h h0 hr hkey
  go_enter Tryd.func18, Tryd.ntmps18
  go_wp2_with fail
  refine (note_lg S w0 _ lo L 4 24 (by omega) (by omega) HL.out H0.out HR.out).mono ?_
  rintro e W3 ⟨rfl, l3, k3, t3⟩
  have L3 := hid l3
  have K3 := hid k3
  have T3 := hid t3
  have EX := hid (expanded1 6 (.inr (.inl rfl)) key HK.out kb ko cap W3 hc (HC.out W3 k3 t3))
  clear l3 k3 t3
  go_wp2_with fail
  refine EX.out.mono ?_
  rintro e W4 ⟨rfl, hb4⟩
  have HB := hid hb4
  have hlen := bl_length 240 (cb (rk 6 key))
  clear hb4
  go_wp2_with fail
  go_ret2
  have nc := new_cells 6 (rk 6 key)
  have k4 := below_next HB.out (below_alloc W4 (.cells (cic 6 (rk 6 key)).toArray 50))
  refine ⟨W4.heap.size, rfl, ⟨Blk.newAt _ _ _ _ _ rfl nc, .inr (.inl rfl), rk_lt 6 key HK.out⟩, Nat.le_trans T3.out.1 HB.out.size, ?_, ?_, ?_⟩
  · erw [nc]
    exact L3.out.below k4
  · erw [nc]
    exact K3.out.trans (Kp.of_below _ k4) (fun _ _ e => e)
  · erw [nc]
    exact T3.out.trans (Kt.of_below k4)
set_option maxRecDepth 8000 in
set_option maxHeartbeats 4000000 in
theorem new_ok32 (S : Nat → Prop) (w0 w : World) (lo : Option Nat) (L : List Rn) (key : Nat → Nat) (hkey : ∀ i, key i < 256) (kb ko cap : Nat) (hc : 4 * 8 ≤ cap) (h : LG S w0 w lo L) (h0 : Kp S w0 w) (hr : Room L)
    (hcell : ∀ W, Kp S w0 W → Kt w W → ∀ i, i < 4 * 8 → W.cell? ⟨kb, ko + i, none⟩ = some (.int .u8 (key i : Nat))) :
    Calls Tryd.prog 18 #[lpv lo, .slice (some ⟨kb, ko, none⟩) 32 cap] w fun e w' => ∃ g, e = .returned (.tuple #[.pointer (some ⟨g, 0, none⟩), .int .i64 0]) ∧ Ci w' g 8 (rk 8 key) ∧ w.heap.size ≤ g ∧ LG S w0 w' lo (putL L ⟨4, 32, 1⟩) ∧ Kp S w0 w' ∧ Kt w w' := by
  have HC := hid hcell
  have HL := hid h
  have H0 := hid h0
  have HR := hid hr
  have HK := hid hkey
  clear hcell h h0 hr hkey
  go_enter Tryd.func18, Tryd.ntmps18
  go_wp2_with fail
  refine (note_lg S w0 _ lo L 4 32 (by omega) (by omega) HL.out H0.out HR.out).mono ?_
  rintro e W3 ⟨rfl, l3, k3, t3⟩
  have L3 := hid l3
  have K3 := hid k3
  have T3 := hid t3
  have EX := hid (expanded1 8 (.inr (.inr rfl)) key HK.out kb ko cap W3 hc (HC.out W3 k3 t3))
  clear l3 k3 t3
  go_wp2_with fail
  refine EX.out.mono ?_
  rintro e W4 ⟨rfl, hb4⟩
  have HB := hid hb4
  have hlen := bl_length 240 (cb (rk 8 key))
  clear hb4
  go_wp2_with fail
  go_ret2
  have nc := new_cells 8 (rk 8 key)
  have k4 := below_next HB.out (below_alloc W4 (.cells (cic 8 (rk 8 key)).toArray 50))
  refine ⟨W4.heap.size, rfl, ⟨Blk.newAt _ _ _ _ _ rfl nc, .inr (.inr rfl), rk_lt 8 key HK.out⟩, Nat.le_trans T3.out.1 HB.out.size, ?_, ?_, ?_⟩
  · erw [nc]
    exact L3.out.below k4
  · erw [nc]
    exact K3.out.trans (Kp.of_below _ k4) (fun _ _ e => e)
  · erw [nc]
    exact T3.out.trans (Kt.of_below k4)
end Go.Proofs.YtbommnigljmfkaaDoor.Ae
