/- What the program's New, Clone, Wipe and Form answer. What the program's Clone, Wipe and Form answer; what a cipher that is none answers. What a cipher that is none answers; blocks held against each other; the statements' helpers 'block', 'rising' and 'runs'. -/
import Derived.Test.YtbgdjjfonmoemaaDoorYj
import Derived.Test.YtbgdjjfonmoemaaDoorYn
import Derived.Test.YtbgdjjfonmoemaaDoorYa
import Derived.Test.YtbgdjjfonmoemaaDoorYh
import Derived.ChangeKeysEq
namespace Go.Proofs.YtbgdjjfonmoemaaDoor.Ae
open Go.ChangeShapes Go.WideShapes Go.ChangeAt Go.RowKit
open Go.Proofs.YtbgdjjfonmoemaaDoor.By Go.Proofs.YtbgdjjfonmoemaaDoor.Gf
theorem new_bad (lv : Value) (a : Option Addr) (n cap : Nat) (w : World) (h1 : n ≠ 16) (h2 : n ≠ 24) (h3 : n ≠ 32) : Calls Tryd.prog 38 #[lv, .slice a n cap] w fun e w' => e = .returned (.tuple #[.pointer none, .int .i64 7]) ∧ w' = w := by
  have e1 : ((n : Int) == 16) = false := by rw [beq_eq_false_iff_ne]; omega
  have e2 : ((n : Int) == 24) = false := by rw [beq_eq_false_iff_ne]; omega
  have e3 : ((n : Int) == 32) = false := by rw [beq_eq_false_iff_ne]; omega
  have f1 : ¬ (n : Int) = 16 := by omega
  have f2 : ¬ (n : Int) = 24 := by omega
  have f3 : ¬ (n : Int) = 32 := by omega
  go_enter Tryd.func38, Tryd.ntmps38
  go_wp2
  go_ret2
  exact ⟨rfl, rfl⟩
theorem rk_lt (k : Nat) (key : Nat → Nat) (h : ∀ i, key i < 256) (i : Nat) : rk k key i < 256 := by
  unfold rk upto
  split
  · exact wds_lt _ _ h _ _
  · decide
theorem foldl_put (vs : List Value) (cs : List Value) (o n : Nat) : List.foldl (fun (a : Array Value) (x : Value × Nat) => a.setIfInBounds (o + x.2) x.1) cs.toArray (vs.zipIdx n) = (put cs (o + n) vs).toArray := by
  induction vs generalizing cs n with
  | nil => rfl
  | cons v r ih =>
    simp only [List.zipIdx_cons, List.foldl_cons]
    rw [List.setIfInBounds_toArray, ih]
    rfl
theorem put_cons (v : Value) (l vs : List Value) (o : Nat) : put (v :: l) (o + 1) vs = v :: put l o vs := by
  induction vs generalizing l o with
  | nil => rfl
  | cons u r ih => exact ih (l.set o u) (o + 1)
theorem zero_ci : Tryd.zeroCells104 = (cic 0 (fun _ => 0)).toArray := by kernel_rfl
theorem new_cells (k : Nat) (ws : Nat → Nat) : List.foldl (fun (a : Array Value) (x : Value × Nat) => a.setIfInBounds (1 + x.2) x.1) (Tryd.zeroCells104.setIfInBounds 0 (Value.int IntKind.i64 (k : Int))) (bl 240 (cb ws)).zipIdx = (cic k ws).toArray := by
  rw [zero_ci, List.setIfInBounds_toArray, foldl_put]
  show (put (cic k (fun _ => 0)) (0 + 1) (bl 240 (cb ws))).toArray = _
  unfold cic
  rw [put_cons, put_all _ _ (by rw [bl_length, bl_length])]
set_option maxRecDepth 8000 in
set_option maxHeartbeats 4000000 in
theorem new_ok16 (S : Nat → Prop) (w0 w : World) (lo : Option Nat) (L : List Rn) (key : Nat → Nat) (hkey : ∀ i, key i < 256) (kb ko cap : Nat) (hc : 4 * 4 ≤ cap) (h : LG S w0 w lo L) (h0 : Kp S w0 w) (hr : Room L)
    (hcell : ∀ W, Kp S w0 W → Kt w W → ∀ i, i < 4 * 4 → W.cell? ⟨kb, ko + i, none⟩ = some (.int .u8 (key i : Nat))) :
    Calls Tryd.prog 38 #[lpv lo, .slice (some ⟨kb, ko, none⟩) 16 cap] w fun e w' => ∃ g, e = .returned (.tuple #[.pointer (some ⟨g, 0, none⟩), .int .i64 0]) ∧ Ci w' g 4 (rk 4 key) ∧ w.heap.size ≤ g ∧ LG S w0 w' lo (putL L ⟨4, 16, 1⟩) ∧ Kp S w0 w' ∧ Kt w w' := by
  have HC := hid hcell
  have HL := hid h
  have H0 := hid h0
  have HR := hid hr
  have HK := hid hkey
  clear hcell h h0 hr hkey
  go_enter Tryd.func38, Tryd.ntmps38
  go_wp2_with fail
  refine (note_lg S w0 _ lo L 4 16 (by omega) (by omega) HL.out H0.out HR.out).mono ?_
  rintro e W3 ⟨rfl, l3, k3, t3⟩
  have L3 := hid l3
  have K3 := hid k3
  have T3 := hid t3
  have EX := hid (expanded1 4 (.inl rfl) key HK.out kb ko cap W3 hc (HC.out W3 k3 t3))
  clear l3 k3 t3
  go_wp2_with fail
  refine EX.out.mono ?_
  rintro e W4 ⟨rfl, hb4⟩
  have HB := hid hb4
  have hlen := bl_length 240 (cb (rk 4 key))
  clear hb4
  go_wp2_with fail
  go_ret2
  have nc := new_cells 4 (rk 4 key)
  have k4 := below_next HB.out (below_alloc W4 (.cells (cic 4 (rk 4 key)).toArray 104))
  refine ⟨W4.heap.size, rfl, ⟨Blk.newAt _ _ _ _ _ rfl nc, .inl rfl, rk_lt 4 key HK.out⟩, Nat.le_trans T3.out.1 HB.out.size, ?_, ?_, ?_⟩
  · erw [nc]
    exact L3.out.below k4
  · erw [nc]
    exact K3.out.trans (Kp.of_below _ k4) (fun _ _ e => e)
  · erw [nc]
    exact T3.out.trans (Kt.of_below k4)
set_option maxRecDepth 8000 in
set_option maxHeartbeats 4000000 in
theorem new_ok24 (S : Nat → Prop) (w0 w : World) (lo : Option Nat) (L : List Rn) (key : Nat → Nat) (hkey : ∀ i, key i < 256) (kb ko cap : Nat) (hc : 4 * 6 ≤ cap) (h : LG S w0 w lo L) (h0 : Kp S w0 w) (hr : Room L)
    (hcell : ∀ W, Kp S w0 W → Kt w W → ∀ i, i < 4 * 6 → W.cell? ⟨kb, ko + i, none⟩ = some (.int .u8 (key i : Nat))) :
    Calls Tryd.prog 38 #[lpv lo, .slice (some ⟨kb, ko, none⟩) 24 cap] w fun e w' => ∃ g, e = .returned (.tuple #[.pointer (some ⟨g, 0, none⟩), .int .i64 0]) ∧ Ci w' g 6 (rk 6 key) ∧ w.heap.size ≤ g ∧ LG S w0 w' lo (putL L ⟨4, 24, 1⟩) ∧ Kp S w0 w' ∧ Kt w w' := by
  have HC := hid hcell
  have HL := hid h
  have H0 := hid h0
  have HR := hid hr
  have HK := hid hkey
  clear hcell h h0 hr hkey
  go_enter Tryd.func38, Tryd.ntmps38
  go_wp2_with fail
  refine (note_lg S w0 _ lo L 4 24 (by omega) (by omega) HL.out H0.out HR.out).mono ?_
  rintro e W3 ⟨rfl, l3, k3, t3⟩
  have L3 := hid l3
  have K3 := hid k3
  have T3 := hid t3
  have EX := hid (expanded1 6 (.inr (.inl rfl)) key HK.out kb ko cap W3 hc (HC.out W3 k3 t3))
  clear l3 k3 t3
  go_wp2_with fail
  refine EX.out.mono ?_
  rintro e W4 ⟨rfl, hb4⟩
  have HB := hid hb4
  have hlen := bl_length 240 (cb (rk 6 key))
  clear hb4
  go_wp2_with fail
  go_ret2
  have nc := new_cells 6 (rk 6 key)
  have k4 := below_next HB.out (below_alloc W4 (.cells (cic 6 (rk 6 key)).toArray 104))
  refine ⟨W4.heap.size, rfl, ⟨Blk.newAt _ _ _ _ _ rfl nc, .inr (.inl rfl), rk_lt 6 key HK.out⟩, Nat.le_trans T3.out.1 HB.out.size, ?_, ?_, ?_⟩
  · erw [nc]
    exact L3.out.below k4
  · erw [nc]
    exact K3.out.trans (Kp.of_below _ k4) (fun _ _ e => e)
  · erw [nc]
    exact T3.out.trans (Kt.of_below k4)
set_option maxRecDepth 8000 in
set_option maxHeartbeats 4000000 in
theorem new_ok32 (S : Nat → Prop) (w0 w : World) (lo : Option Nat) (L : List Rn) (key : Nat → Nat) (hkey : ∀ i, key i < 256) (kb ko cap : Nat) (hc : 4 * 8 ≤ cap) (h : LG S w0 w lo L) (h0 : Kp S w0 w) (hr : Room L)
    (hcell : ∀ W, Kp S w0 W → Kt w W → ∀ i, i < 4 * 8 → W.cell? ⟨kb, ko + i, none⟩ = some (.int .u8 (key i : Nat))) :
    Calls Tryd.prog 38 #[lpv lo, .slice (some ⟨kb, ko, none⟩) 32 cap] w fun e w' => ∃ g, e = .returned (.tuple #[.pointer (some ⟨g, 0, none⟩), .int .i64 0]) ∧ Ci w' g 8 (rk 8 key) ∧ w.heap.size ≤ g ∧ LG S w0 w' lo (putL L ⟨4, 32, 1⟩) ∧ Kp S w0 w' ∧ Kt w w' := by
  have HC := hid hcell
  have HL := hid h
  have H0 := hid h0
  have HR := hid hr
  have HK := hid hkey
  clear hcell h h0 hr hkey
  go_enter Tryd.func38, Tryd.ntmps38
  go_wp2_with fail
  refine (note_lg S w0 _ lo L 4 32 (by omega) (by omega) HL.out H0.out HR.out).mono ?_
  rintro e W3 ⟨rfl, l3, k3, t3⟩
  have L3 := hid l3
  have K3 := hid k3
  have T3 := hid t3
  have EX := hid (expanded1 8 (.inr (.inr rfl)) key HK.out kb ko cap W3 hc (HC.out W3 k3 t3))
  clear l3 k3 t3
  go_wp2_with fail
  refine EX.out.mono ?_
  rintro e W4 ⟨rfl, hb4⟩
  have HB := hid hb4
  have hlen := bl_length 240 (cb (rk 8 key))
  clear hb4
  go_wp2_with fail
  go_ret2
  have nc := new_cells 8 (rk 8 key)
  have k4 := below_next HB.out (below_alloc W4 (.cells (cic 8 (rk 8 key)).toArray 104))
  refine ⟨W4.heap.size, rfl, ⟨Blk.newAt _ _ _ _ _ rfl nc, .inr (.inr rfl), rk_lt 8 key HK.out⟩, Nat.le_trans T3.out.1 HB.out.size, ?_, ?_, ?_⟩
  · erw [nc]
    exact L3.out.below k4
  · erw [nc]
    exact K3.out.trans (Kp.of_below _ k4) (fun _ _ e => e)
  · erw [nc]
    exact T3.out.trans (Kt.of_below k4)
end Go.Proofs.YtbgdjjfonmoemaaDoor.Ae
namespace Go.Proofs.YtbgdjjfonmoemaaDoor.Ae
open Go.ChangeShapes Go.WideShapes Go.ChangeAt Go.RowKit
open Go.Proofs.YtbgdjjfonmoemaaDoor.By Go.Proofs.YtbgdjjfonmoemaaDoor.Gf
open Go.Proofs.YtbgdjjfonmoemaaDoor.Kc (own_kept own_mono own8_type cat cat_bound wpList_cat below_grow)
theorem bl_take (n c : Nat) (f : Nat → Int) (h : n ≤ c) : (bl c f).take n = bl n f := by
  apply List.ext_getElem?
  intro i
  rw [List.getElem?_take]
  by_cases hi : i < n
  · rw [if_pos hi, bl_get _ _ _ (by omega), bl_get _ _ _ hi]
  · rw [if_neg hi, List.getElem?_eq_none (by rw [bl_length]; omega)]
theorem own_made (w : World) (n c B : Nat) (f : Nat → Int) (hf : ∀ i, 0 ≤ f i ∧ f i < 256) (hn : n ≤ c) (hc : c ≤ maxLen) (hB : B ≤ w.heap.size) : By.Own (w.alloc (.cells (bl c f).toArray 5)) B (.slice (some ⟨w.heap.size, 0, none⟩) n c) n f :=
  ⟨hf, by rw [bl_length]; omega, .inr ⟨_, c, _, rfl, hB, heap_alloc_last w _, hn, hc, by simp [bl_length], by simp [bl_take n c f hn]⟩⟩

/-- Nothing but the ledger's blocks and block x has turned. -/
def Kx (x : Nat) (w w' : World) : Prop := w.heap.size ≤ w'.heap.size ∧ ∀ g cs t, g ≠ x → Blk w g cs t → t ≠ 48 → t ≠ 77 → Blk w' g cs t
set_option maxRecDepth 8000 in
set_option maxHeartbeats 4000000 in
theorem clone_ci (g k : Nat) (ws : Nat → Nat) (w : World) (hc : Ci w g k ws) : Calls Tryd.prog 50 #[.pointer (some ⟨g, 0, none⟩)] w fun e w' => e = .returned (.tuple #[.pointer (some ⟨w.heap.size, 0, none⟩), .int .i64 0]) ∧ Ci w' w.heap.size k ws ∧ Below w.heap.size w w' := by
  have hk4 : 1 ≤ k := by have := hc.kk; omega
  have c0 := hid hc.c0
  have HC := hid hc
  have l1 := LDc_run (range0 hc.here) (cic_length _ _)
  have N0 := hid (Blk.newAt w _ _ 104 _ rfl zero_ci)
  have s1 := SVc_run (cs := cic k ws) (N0.out.there 0 241 (by rw [cic_length]; omega)) (cic_length _ _) (cic_one _ _)
  have b1 := N0.out.put 0 (cic k ws)
  rw [put_all _ _ (by rw [cic_length, cic_length])] at b1
  have B1 := hid b1
  clear b1 hc
  go_enter Tryd.func50, Tryd.ntmps50
  go_wp2_with (go_at_call 56; refine (isNone_ci g k _ c0.out hk4).mono ?_; rintro e w' ⟨rfl, hw'⟩; subst w')
  go_ret2
  exact ⟨rfl, ⟨B1.out, HC.out.kk, HC.out.lt⟩, below_cells (below_alloc w _) _ _ _ (Nat.le_refl _) (by simp)⟩
set_option maxRecDepth 8000 in
set_option maxHeartbeats 4000000 in
theorem wipe_ci (S : Nat → Prop) (w0 w : World) (lo : Option Nat) (L : List Rn) (g k : Nat) (ws : Nat → Nat) (hc : Ci w g k ws) (h : LG S w0 w lo L) (h0 : Kp S w0 w) (hr : Room L) (hS : g < w0.heap.size → S g) :
    Calls Tryd.prog 51 #[.pointer (some ⟨g, 0, none⟩), lpv lo] w fun e w' => e = .returned (.int .i64 0) ∧ NoCi w' g ∧ LG S w0 w' lo (putL L ⟨8, ((16 * (k + 7) : Nat) : Int), 1⟩) ∧ Kp S w0 w' ∧ Kx g w w' := by
  have hk4 : 1 ≤ k := by have := hc.kk; omega
  have hk8 : k ≤ 8 := by have := hc.kk; omega
  have c0 := hid hc.c0
  have HC := hid hc
  have HL := hid h
  have H0 := hid h0
  have HR := hid hr
  have HS := hid hS
  clear hc h h0 hr hS
  go_enter Tryd.func51, Tryd.ntmps51
  go_wp2_with (first | (go_at_call 56; refine (isNone_ci g k _ c0.out hk4).mono ?_; rintro e w' ⟨rfl, hw'⟩; subst w') | (go_at_call 71; refine (formSize_ci g k _ c0.out hk8).mono ?_; rintro e w' ⟨rfl, hw'⟩; subst w'))
  refine (note_lg S w0 _ lo L 8 ((16 * (k + 7) : Nat) : Int) (by omega) (by omega) HL.out H0.out HR.out).mono ?_
  rintro e W3 ⟨rfl, l3, k3, t3⟩
  have L3 := hid l3
  have K3 := hid k3
  have T3 := hid t3
  have B3 := hid (t3.2 _ _ _ HC.out.here (by decide) (by decide))
  have s1 := SVc_run (cs := cic 0 (fun _ => 0)) (B3.out.there 0 241 (by rw [cic_length]; omega)) (cic_length _ _) (cic_one _ _)
  rw [← zero_ci] at s1
  clear l3 k3 t3
  go_wp2_with fail
  go_ret
  have b4 := B3.out.put 0 (cic 0 (fun _ => 0))
  rw [put_all _ _ (by rw [cic_length, cic_length])] at b4
  have k4 := Kp.setCells (w := W3) g 0 (cic 0 (fun _ => 0))
  refine ⟨rfl, ⟨_, b4⟩, L3.out.kept k4 (fun x e => ?_), K3.out.trans k4 (fun i hi e => by subst e; exact HS.out hi), Nat.le_trans T3.out.1 k4.size, fun x cs t hx hb h1 h2 => (T3.out.2 x cs t hb h1 h2).kept k4 hx⟩
  subst e
  exact ⟨_, _, B3.out, by decide, by decide⟩
set_option maxRecDepth 4000 in
theorem sliceF (W : World) (g n : Nat) (hn : n ≤ 14) : (Instr.sliceAt 101 (.pointer (some ⟨g, 1, none⟩)) none (some (.int .i64 (4 * ((n : Int) + 1)))) none).run Tryd.prog W = .ok (.slice (some ⟨g, 1, none⟩) (4 * (n + 1)) 60) W := by
  have hl : Tryd.prog.arrayLen 101 = 60 := by kernel_rfl
  have hs : (sizeOf (Tryd.prog.elem 101)).run Tryd.prog W = .ok 4 W := by kernel_rfl
  have h := run_sliceAt_array_h (P := Tryd.prog) W 101 ⟨g, 1, none⟩ Tryd.underlying101 .i64 (4 * ((n : Int) + 1)) (by omega) (by rw [hl]; omega)
  rw [h, hs, hl, Result.andThen_ok, slicedAt, if_neg (by omega), By.add_plain]
  simp only [Result.ok.injEq, Value.slice.injEq, and_true, true_and]
  omega
theorem make_c (c : Nat) (hc : c ≤ 1000) (w : World) : (Instr.makeSlice 22 (.int .i64 0) (.int .i64 c)).run Tryd.prog w = .ok (.slice (some ⟨w.heap.size, 0, none⟩) 0 c) (w.alloc (.cells (bl c (fun _ => 0)).toArray 5)) := by
  obtain ⟨i0, hi, hz0, hz1, hz2⟩ := info_parts info5
  have hr := run_make (P := Tryd.prog) w 22 5 i0 (.int .u8 0) Tryd.underlying22 hi hz0 .i64 .i64 0 c (by omega) (by omega) (by rw [hz2]; omega) (by omega)
  have e : madeCells #[Value.int .u8 0] c = (bl c (fun _ => 0)).toArray := by rw [← bl_zero]
  simp only [Int.toNat_natCast, hz1, Nat.mul_one, Value.cells, e] at hr
  exact hr
set_option maxRecDepth 8000 in
set_option maxHeartbeats 4000000 in
theorem form_ci (g k : Nat) (ws : Nat → Nat) (w : World) (hc : Ci w g k ws) : Calls Tryd.prog 53 #[.pointer (some ⟨g, 0, none⟩)] w fun e w' => ∃ v, e = .returned v ∧ By.Own w' w.heap.size v (16 * (k + 7)) (cb ws) ∧ Below w.heap.size w w' := by
  have hk4 : 1 ≤ k := by have := hc.kk; omega
  have hk8 : k ≤ 8 := by have := hc.kk; omega
  have c0 := hid hc.c0
  have HC := hid hc
  obtain ⟨n, en⟩ : ∃ n, k + 6 = n := ⟨_, rfl⟩
  have hn : n ≤ 14 := by omega
  have hmk : ∀ w, (Instr.makeSlice 22 (.int .i64 0) (.int .i64 (16 * ((k : Int) + 7)))).run Tryd.prog w = .ok (.slice (some ⟨w.heap.size, 0, none⟩) 0 (16 * (k + 7))) (w.alloc (.cells (bl (16 * (k + 7)) (fun _ => 0)).toArray 5)) := fun w => by
    have h := make_c (16 * (k + 7)) (by omega) w
    rwa [show ((16 * (k + 7) : Nat) : Int) = 16 * ((k : Int) + 7) from by omega] at h
  have hsf := fun W => sliceF W g n (by omega)
  have w1 : IntKind.i64.wrap ((n : Int) + 1) = (n : Int) + 1 := by rw [IntKind.wrap_i64]; omega
  have w2 : IntKind.i64.wrap (4 * ((n : Int) + 1)) = 4 * ((n : Int) + 1) := by rw [IntKind.wrap_i64]; omega
  have ow := hid (own_made w 0 (16 * (k + 7)) w.heap.size (fun _ => 0) (fun _ => by decide) (by omega) (by simp [maxLen]; omega) (Nat.le_refl _))
  have C1 := hid (hc.below (below_alloc w (.cells (bl (16 * (k + 7)) (fun _ => 0)).toArray 5)))
  have BW := hid (below_alloc w (.cells (bl (16 * (k + 7)) (fun _ => 0)).toArray 5))
  have c1 := hid C1.out.c0
  clear hc
  go_enter Tryd.func53, Tryd.ntmps53
  go_wp2_with (first | (go_at_call 56; refine (isNone_ci g k _ c0.out hk4).mono ?_; rintro e w' ⟨rfl, hw'⟩; subst w') | (go_at_call 71; refine (formSize_ci g k _ c0.out hk8).mono ?_; rintro e w' ⟨rfl, hw'⟩; subst w'))
  have RC := hid (rounds_ci g k (w.alloc (.cells (bl (16 * (k + 7)) (fun _ => 0)).toArray 5)).drew c1.out hk8)
  rw [en] at RC
  have EN := hid en
  clear en
  go_region_law (go_simp; go_at_call 58; refine RC.out.mono ?_; rintro e w' ⟨rfl, hw'⟩; subst w')
  all_goals
    go_simp
    go_wp2_with fail
    go_loopw [3, 20] (fun v i wr => ∃ j : Nat, j ≤ 4 * (n + 1) ∧ i = .int .i64 j ∧ By.Own wr w.heap.size v (4 * j) (cb ws) ∧ Below w.heap.size w wr) (fun _ i _ => 4 * (n + 1) - (intOf i).toNat)
    case atStart =>
      refine ⟨0, by omega, rfl, own_congr ow.out (fun i => ⟨Int.natCast_nonneg _, Int.ofNat_lt.2 (HC.out.lt i)⟩) (fun i hi => by omega), below_dr BW.out⟩
    case round =>
      obtain ⟨j, hj, rfl, o1, hbel⟩ := hrel
      have O1 := hid o1
      have HB := hid hbel
      have CJ := hid (HC.out.below hbel)
      clear o1 hbel
      by_cases hlt : j < 4 * (n + 1)
      · have hd : decide ((j : Int) < 4 * ((n : Int) + 1)) = true := decide_eq_true (by omega)
        have hje : j < 4 * (n + 1) := hlt
        have en := EN.out
        have l1 := LDq_run (CJ.out.here.range (1 + j * 4) (bl 4 (cb (fun i => ws (4 * j + i)))) (fun i v hv => by obtain ⟨hi, rfl⟩ := bl_get_inv _ _ _ _ hv; rw [show 1 + j * 4 + i = 1 + (4 * j + i) from by omega]; exact cic_at _ _ _ (by omega))) (bl_length _ _)
        have N0 := hid (Blk.newAt wr _ _ 100 _ rfl zero4)
        have s1 := SVq_run (cs := bl 4 (cb (fun i => ws (4 * j + i)))) (N0.out.there 0 4 (by rw [bl_length]; omega)) (bl_length _ _) (bl_one _ _)
        have N1 := hid (show Blk _ wr.heap.size (bl 4 (cb (fun i => ws (4 * j + i)))) 100 from by rw [← put_all (bl 4 (cb (fun _ => 0))) (bl 4 (cb (fun i => ws (4 * j + i)))) (by rw [bl_length, bl_length])]; exact N0.out.put 0 (bl 4 (cb (fun i => ws (4 * j + i)))))
        have K1 := hid ((below_alloc wr (.cells (bl 4 (cb (fun _ => 0))).toArray 100)).trans ((Kp.setCells wr.heap.size 0 (bl 4 (cb (fun i => ws (4 * j + i))))).below (by simp) (fun k hk e => by omega)))
        rw [← zero4] at K1
        have O2 := hid (own_below O1.out K1.out)
        have R1 := hid (rb_blk N1.out (fun i => ⟨Int.natCast_nonneg _, Int.ofNat_lt.2 (HC.out.lt (4 * j + i))⟩) (by simp [maxLen]))
        have HB2 := hid (below_next HB.out K1.out)
        have hsq := fun W => sliceQ W wr.heap.size 0
        generalize ((wr.alloc (Obj.cells #[Value.int IntKind.u8 0, Value.int IntKind.u8 0, Value.int IntKind.u8 0, Value.int IntKind.u8 0] 100)).setCells wr.heap.size 0 (bl 4 (cb fun i => ws (4 * j + i)))) = W2 at *
        clear K1 N0 N1 en
        go_wp2_with (at_builtin; go_must (refine wpList_cat rfl _ _ rfl w.heap.size (4 * j) 4 _ _ (cb ws) (cb fun i => ws (4 * j + i)) rfl O2.out rfl R1.out (by omega) HB2.out.size ?_))
        intro v' w' hown hgrow
        have O3 := hid (own_congr hown (g := cb ws) (fun i => ⟨Int.natCast_nonneg _, Int.ofNat_lt.2 (HC.out.lt i)⟩) (fun i hi => by
          unfold cat
          split
          · rfl
          · show ((ws (4 * j + (i - 4 * j)) : Nat) : Int) = ((ws i : Nat) : Int)
            rw [show 4 * j + (i - 4 * j) = i from by omega]))
        have B3 := hid (below_grow HB2.out HB2.out.size O2.out hgrow)
        clear hown hgrow
        go_wp2_with fail
        exact ⟨⟨j + 1, by omega, by go_num, by rw [show 4 * (j + 1) = 4 * j + 4 from by omega]; exact O3.out, B3.out⟩, by simp [intOf]; omega⟩
      · have ej : j = 4 * (n + 1) := by omega
        have hd : decide ((j : Int) < 4 * ((n : Int) + 1)) = false := decide_eq_false (by omega)
        have hd2 : ¬ (j : Int) < 4 * ((n : Int) + 1) := by omega
        have EJ := hid (show 4 * j = 16 * (k + 7) from by have := EN.out; omega)
        clear ej
        go_wp2_with fail
        go_ret
        exact ⟨_, rfl, by rw [← EJ.out]; exact O1.out, HB.out⟩
end Go.Proofs.YtbgdjjfonmoemaaDoor.Ae
namespace Go.Proofs.YtbgdjjfonmoemaaDoor.Ae
open Go.ChangeShapes Go.WideShapes Go.ChangeAt Go.RowKit
open Go.Proofs.YtbgdjjfonmoemaaDoor.By Go.Proofs.YtbgdjjfonmoemaaDoor.Gf
open Go.Proofs.YtbgdjjfonmoemaaDoor.Kc (own_kept own_mono own8_type cat cat_bound wpList_cat below_grow)
/-- The value is no cipher's. -/
def Nn (w : World) (v : Value) : Prop := v = .pointer none ∨ ∃ g, v = .pointer (some ⟨g, 0, none⟩) ∧ NoCi w g
theorem Nn.below {w w' : World} {v : Value} (h : Nn w v) (hb : Below w.heap.size w w') : Nn w' v := by
  rcases h with h | ⟨g, h, hn⟩
  · exact .inl h
  · exact .inr ⟨g, h, hn.below hb⟩
theorem isNone_nn (v : Value) (w : World) (h : Nn w v) : Calls Tryd.prog 56 #[v] w fun e w' => e = .returned (.bool true) ∧ w' = w := by
  rcases h with rfl | ⟨g, rfl, hn⟩
  · exact isNone_nil w
  · exact isNone_no g w hn.c0
theorem keyLen_nn (v : Value) (w : World) (h : Nn w v) : Calls Tryd.prog 57 #[v] w fun e w' => e = .returned (.int .i64 0) ∧ w' = w := by
  rcases h with rfl | ⟨g, rfl, hn⟩
  · exact keyLen_nil w
  · exact keyLen_no g w hn.c0
theorem form_nn (v : Value) (w : World) (h : Nn w v) : Calls Tryd.prog 53 #[v] w fun e w' => e = .returned (.slice none 0 0) ∧ w' = w := by
  have H := hid h
  clear h
  go_enter Tryd.func53, Tryd.ntmps53
  go_wp2_with (go_at_call 56; refine (isNone_nn v _ H.out).mono ?_; rintro e w' ⟨rfl, hw'⟩; subst w')
  go_ret
  exact ⟨rfl, rfl⟩
theorem clone_nn (v : Value) (w : World) (h : Nn w v) : Calls Tryd.prog 50 #[v] w fun e w' => e = .returned (.tuple #[.pointer none, .int .i64 1]) ∧ w' = w := by
  have H := hid h
  clear h
  go_enter Tryd.func50, Tryd.ntmps50
  go_wp2_with (go_at_call 56; refine (isNone_nn v _ H.out).mono ?_; rintro e w' ⟨rfl, hw'⟩; subst w')
  go_ret2
  exact ⟨rfl, rfl⟩
theorem wipe_nn (v lv : Value) (w : World) (h : Nn w v) : Calls Tryd.prog 51 #[v, lv] w fun e w' => e = .returned (.int .i64 1) ∧ w' = w := by
  have H := hid h
  clear h
  go_enter Tryd.func51, Tryd.ntmps51
  go_wp2_with (go_at_call 56; refine (isNone_nn v _ H.out).mono ?_; rintro e w' ⟨rfl, hw'⟩; subst w')
  go_ret
  exact ⟨rfl, rfl⟩
def nul (_ : Nat) : Nat := 0
theorem zeroN : #[Value.int IntKind.u8 0, Value.int IntKind.u8 0, Value.int IntKind.u8 0, Value.int IntKind.u8 0, Value.int IntKind.u8 0, Value.int IntKind.u8 0, Value.int IntKind.u8 0, Value.int IntKind.u8 0, Value.int IntKind.u8 0, Value.int IntKind.u8 0, Value.int IntKind.u8 0, Value.int IntKind.u8 0, Value.int IntKind.u8 0, Value.int IntKind.u8 0, Value.int IntKind.u8 0, Value.int IntKind.u8 0] = (bl 16 (cb nul)).toArray := rfl
set_option maxRecDepth 8000 in
set_option maxHeartbeats 4000000 in
theorem enc_nn (v lv : Value) (b : Nat → Nat) (w : World) (h : Nn w v) : Calls Tryd.prog 39 #[v, lv, bv b] w fun e w' => e = .returned (.tuple #[bv nul, .int .i64 1]) ∧ Below w.heap.size w w' := by
  have bel := hid ((below_alloc w (.cells (bl 16 (cb b)).toArray 82)).alloc (by simp) (.cells (bl 16 (cb nul)).toArray 82))
  have A1 := hid (Blk.newAt (w.alloc (.cells (bl 16 (cb b)).toArray 82)) _ (bl 16 (cb nul)) 82 (w.heap.size + 1) (by simp) rfl)
  have H := hid (h.below bel.out)
  rw [← zeroN] at bel A1 H
  clear h
  unfold bv
  go_enter Tryd.func39, Tryd.ntmps39
  go_wp2_with fail
  generalize ((w.alloc (Obj.cells (bl 16 (cb b)).toArray 82)).alloc (Obj.cells #[Value.int IntKind.u8 0, Value.int IntKind.u8 0, Value.int IntKind.u8 0, Value.int IntKind.u8 0, Value.int IntKind.u8 0, Value.int IntKind.u8 0, Value.int IntKind.u8 0, Value.int IntKind.u8 0, Value.int IntKind.u8 0, Value.int IntKind.u8 0, Value.int IntKind.u8 0, Value.int IntKind.u8 0, Value.int IntKind.u8 0, Value.int IntKind.u8 0, Value.int IntKind.u8 0, Value.int IntKind.u8 0] 82)) = W2 at *
  refine (isNone_nn v _ H.out).mono ?_
  rintro e w' ⟨rfl, hw'⟩
  subst w'
  have s1 := SVb_run (cs := bl 16 (cb nul)) (A1.out.there 0 16 (by rw [bl_length]; omega)) (bl_length _ _) (bl_one _ _)
  have b1 := A1.out.put 0 (bl 16 (cb nul))
  rw [put_all _ _ rfl] at b1
  have l1 := hid (LDb_run (range0 b1) (bl_length _ _))
  rw [← zeroN] at s1
  clear b1
  go_wp2_with fail
  have hz := A1.out.lt
  refine bodyPost_ret ?_ rfl ⟨rfl, below_cells bel.out _ _ _ (by omega) bel.out.size⟩
  exact results_cell2 Tryd.results39 rfl rfl l1.out
theorem eqItems_run {P : Program} (w : World) (d : Nat) (e : TypeId) (k k' : IntKind) (hu : P.underlying e = some (.int k')) (xs ys : Array Value) (f g : Nat → Int) : ∀ (is : List Nat), (∀ i ∈ is, xs[i]? = some (.int k (f i)) ∧ ys[i]? = some (.int k (g i))) →
    (Op.eqItems (d + 1) e 1 xs ys is).run P w = .ok (is.all fun i => f i == g i) w
  | [], _ => by simp [Op.eqItems]
  | i :: is, h => by
    have h1 := (h i (by simp)).1
    have h2 := (h i (by simp)).2
    have ih := eqItems_run w d e k k' hu xs ys f g is (fun j hj => h j (by simp [hj]))
    have hp : ∀ (cs : Array Value) (v : Value), cs[i]? = some v → (Go.part e cs (i * 1)).run P w = .ok v w := fun cs v hv => by
      simp [Go.part, isAgg, run_underlying hu, hv]
    simp only [Op.eqItems, Sem.run_bind, hp _ _ h1, hp _ _ h2, Result.andThen_ok, run_equalIn_int w d e k k' (f i) (g i) hu]
    by_cases c : f i = g i
    · simp [c, ih]
    · simp [c]
/-- Are two blocks alike? -/
def eqb (f g : Nat → Nat) : Bool := (List.range 16).all fun i => cb f i == cb g i
theorem eqb_iff (f g : Nat → Nat) : eqb f g = true ↔ E16 f g := by
  unfold eqb E16
  rw [List.all_eq_true]
  refine ⟨fun h i hi => ?_, fun h i hi => ?_⟩
  · have := h i (List.mem_range.2 hi)
    rw [beq_iff_eq] at this
    exact Int.ofNat_inj.1 this
  · rw [beq_iff_eq]
    exact congrArg Nat.cast (h i (List.mem_range.1 hi))
theorem eqb_true {f g : Nat → Nat} (h : E16 f g) : eqb f g = true := (eqb_iff f g).2 h
theorem bl_arr (n : Nat) (f : Nat → Int) : ∀ i ∈ List.range n, (bl n f).toArray[i]? = some (.int .u8 (f i)) := fun i hi => by
  rw [List.getElem?_toArray]
  exact bl_get n f i (List.mem_range.1 hi)
theorem cof8 : Tryd.prog.cellsOf 5 = 1 := by kernel_rfl
@[go_sem high] theorem sameB (f g : Nat → Nat) (w : World) : (Op.equalIn 10000 82 (bv f) (bv g)).run Tryd.prog w = .ok (eqb f g) w := by
  obtain ⟨i, hi⟩ : ∃ i, Tryd.prog.info? 5 = some i := Option.isSome_iff_exists.1 (by kernel_rfl)
  have h := run_equalIn_array (P := Tryd.prog) w 9999 (bl 16 (cb f)).toArray (bl 16 (cb g)).toArray Tryd.underlying82 hi
  rw [cof8] at h
  show (Op.equalIn 10000 82 (.agg (bl 16 (cb f)).toArray) (.agg (bl 16 (cb g)).toArray)).run Tryd.prog w = _
  rw [h]
  exact eqItems_run w 9998 5 .u8 .u8 Tryd.underlying5 _ _ (cb f) (cb g) _ (fun i hi => ⟨bl_arr 16 (cb f) i hi, bl_arr 16 (cb g) i hi⟩)
@[go_sem high] theorem guardEq (a b : Operand) (f g : Nat → Nat) (w : World) : (eqGuard .eql 82 a b (bv f) (bv g)).run Tryd.prog w = .ok () w := by
  unfold bv
  simp [go_sem]
@[go_sem high] theorem guardNe (a b : Operand) (f g : Nat → Nat) (w : World) : (eqGuard .neq 82 a b (bv f) (bv g)).run Tryd.prog w = .ok () w := by
  unfold bv
  simp [go_sem]
@[go_sem high] theorem binEq (f g : Nat → Nat) (w : World) : (binOp .eql 82 (bv f) (bv g)).run Tryd.prog w = .ok (.bool (eqb f g)) w := by
  have h := sameB f g w
  unfold bv at h ⊢
  simp [go_sem, h]
@[go_sem high] theorem binNe (f g : Nat → Nat) (w : World) : (binOp .neq 82 (bv f) (bv g)).run Tryd.prog w = .ok (.bool (!eqb f g)) w := by
  have h := sameB f g w
  unfold bv at h ⊢
  simp [go_sem, h]
/-- Sixteen bytes that begin with these. -/
def blk (n : Nat) (f : Nat → Nat) (i : Nat) : Nat := if i < n then f i else 0
theorem blk_b (n : Nat) (f : Nat → Nat) (h : ∀ i, f i < 256) : B16 (blk n f) := fun i _ => by
  unfold blk
  split
  · exact h i
  · decide
end Go.Proofs.YtbgdjjfonmoemaaDoor.Ae
