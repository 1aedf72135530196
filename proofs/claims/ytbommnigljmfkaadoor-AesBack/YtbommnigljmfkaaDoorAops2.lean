/- What the program's Clone, Wipe and Form answer; what a cipher that is none answers. -/
import Derived.Test.YtbommnigljmfkaaDoorAops
import Derived.Test.YtbommnigljmfkaaDoorXcat
namespace Go.Proofs.YtbommnigljmfkaaDoor.Ae
open Go.ChangeShapes Go.WideShapes Go.ChangeAt Go.RowKit
open Go.Proofs.YtbommnigljmfkaaDoor.By Go.Proofs.YtbommnigljmfkaaDoor.Gf
open Go.Proofs.YtbommnigljmfkaaDoor.Kc (own_kept own_mono own8_type cat cat_bound wpList_cat below_grow)
theorem bl_take (n c : Nat) (f : Nat → Int) (h : n ≤ c) : (bl c f).take n = bl n f := by
  apply List.ext_getElem?
  intro i
  rw [List.getElem?_take]
  by_cases hi : i < n
  · rw [if_pos hi, bl_get _ _ _ (by omega), bl_get _ _ _ hi]
  · rw [if_neg hi, List.getElem?_eq_none (by rw [bl_length]; omega)]
theorem own_made (w : World) (n c B : Nat) (f : Nat → Int) (hf : ∀ i, 0 ≤ f i ∧ f i < 256) (hn : n ≤ c) (hc : c ≤ maxLen) (hB : B ≤ w.heap.size) : By.Own (w.alloc (.cells (bl c f).toArray 5)) B (.slice (some ⟨w.heap.size, 0, none⟩) n c) n f :=
  ⟨hf, by rw [bl_length]; omega, .inr ⟨_, c, _, rfl, hB, heap_alloc_last w _, hn, hc, by simp [bl_length], by simp [bl_take n c f hn]⟩⟩

/-- Nothing but the ledger's blocks and block x has turned. -/
def Kx (x : Nat) (w w' : World) : Prop := w.heap.size ≤ w'.heap.size ∧ ∀ g cs t, g ≠ x → Blk w g cs t → t ≠ 73 → t ≠ 70 → Blk w' g cs t
set_option maxRecDepth 8000 in
set_option maxHeartbeats 4000000 in
theorem clone_ci (g k : Nat) (ws : Nat → Nat) (w : World) (hc : Ci w g k ws) : Calls Tryd.prog 28 #[.pointer (some ⟨g, 0, none⟩)] w fun e w' => e = .returned (.tuple #[.pointer (some ⟨w.heap.size, 0, none⟩), .int .i64 0]) ∧ Ci w' w.heap.size k ws ∧ Below w.heap.size w w' := by
  have hk4 : 1 ≤ k := by have := hc.kk; omega
  have c0 := hid hc.c0
  have HC := hid hc
  have l1 := LDc_run (range0 hc.here) (cic_length _ _)
  have N0 := hid (Blk.newAt w _ _ 50 _ rfl zero_ci)
  have s1 := SVc_run (cs := cic k ws) (N0.out.there 0 241 (by rw [cic_length]; omega)) (cic_length _ _) (cic_one _ _)
  have b1 := N0.out.put 0 (cic k ws)
  rw [put_all _ _ (by rw [cic_length, cic_length])] at b1
  have B1 := hid b1
  clear b1 hc
  go_enter Tryd.func28, Tryd.ntmps28
  go_wp2_with (go_at_call 45; refine (isNone_ci g k _ c0.out hk4).mono ?_; rintro e w' ⟨rfl, hw'⟩; subst w')
  go_ret2
  exact ⟨rfl, ⟨B1.out, HC.out.kk, HC.out.lt⟩, below_cells (below_alloc w _) _ _ _ (Nat.le_refl _) (by simp)⟩
set_option maxRecDepth 8000 in
set_option maxHeartbeats 4000000 in
theorem wipe_ci (S : Nat → Prop) (w0 w : World) (lo : Option Nat) (L : List Rn) (g k : Nat) (ws : Nat → Nat) (hc : Ci w g k ws) (h : LG S w0 w lo L) (h0 : Kp S w0 w) (hr : Room L) (hS : g < w0.heap.size → S g) :
    Calls Tryd.prog 19 #[.pointer (some ⟨g, 0, none⟩), lpv lo] w fun e w' => e = .returned (.int .i64 0) ∧ NoCi w' g ∧ LG S w0 w' lo (putL L ⟨8, ((16 * (k + 7) : Nat) : Int), 1⟩) ∧ Kp S w0 w' ∧ Kx g w w' := by
  have hk4 : 1 ≤ k := by have := hc.kk; omega
  have hk8 : k ≤ 8 := by have := hc.kk; omega
  have c0 := hid hc.c0
  have HC := hid hc
  have HL := hid h
  have H0 := hid h0
  have HR := hid hr
  have HS := hid hS
  clear hc h h0 hr hS
  go_enter Tryd.func19, Tryd.ntmps19
  go_wp2_with (first | (go_at_call 45; refine (isNone_ci g k _ c0.out hk4).mono ?_; rintro e w' ⟨rfl, hw'⟩; subst w') | (go_at_call 46; refine (formSize_ci g k _ c0.out hk8).mono ?_; rintro e w' ⟨rfl, hw'⟩; subst w'))
  refine (note_lg S w0 _ lo L 8 ((16 * (k + 7) : Nat) : Int) (by omega) (by omega) HL.out H0.out HR.out).mono ?_
  rintro e W3 ⟨rfl, l3, k3, t3⟩
  have L3 := hid l3
  have K3 := hid k3
  have T3 := hid t3
  have B3 := hid (t3.2 _ _ _ HC.out.here (by decide) (by decide))
  have s1 := SVc_run (cs := cic 0 (fun _ => 0)) (B3.out.there 0 241 (by rw [cic_length]; omega)) (cic_length _ _) (cic_one _ _)
  rw [← zero_ci] at s1
  clear l3 k3 t3
  go_wp2_with fail
  go_ret
  have b4 := B3.out.put 0 (cic 0 (fun _ => 0))
  rw [put_all _ _ (by rw [cic_length, cic_length])] at b4
  have k4 := Kp.setCells (w := W3) g 0 (cic 0 (fun _ => 0))
  refine ⟨rfl, ⟨_, b4⟩, L3.out.kept k4 (fun x e => ?_), K3.out.trans k4 (fun i hi e => by subst e; exact HS.out hi), Nat.le_trans T3.out.1 k4.size, fun x cs t hx hb h1 h2 => (T3.out.2 x cs t hb h1 h2).kept k4 hx⟩
  subst e
  exact ⟨_, _, B3.out, by decide, by decide⟩
set_option maxRecDepth 4000 in
theorem sliceF (W : World) (g n : Nat) (hn : n ≤ 14) : (Instr.sliceAt 48 (.pointer (some ⟨g, 1, none⟩)) none (some (.int .i64 (4 * ((n : Int) + 1)))) none).run Tryd.prog W = .ok (.slice (some ⟨g, 1, none⟩) (4 * (n + 1)) 60) W := by
  have hl : Tryd.prog.arrayLen 48 = 60 := by kernel_rfl
  have hs : (sizeOf (Tryd.prog.elem 48)).run Tryd.prog W = .ok 4 W := by kernel_rfl
  have h := run_sliceAt_array_h (P := Tryd.prog) W 48 ⟨g, 1, none⟩ Tryd.underlying48 .i64 (4 * ((n : Int) + 1)) (by omega) (by rw [hl]; omega)
  rw [h, hs, hl, Result.andThen_ok, slicedAt, if_neg (by omega), By.add_plain]
  simp only [Result.ok.injEq, Value.slice.injEq, and_true, true_and]
  omega
theorem make_c (c : Nat) (hc : c ≤ 1000) (w : World) : (Instr.makeSlice 22 (.int .i64 0) (.int .i64 c)).run Tryd.prog w = .ok (.slice (some ⟨w.heap.size, 0, none⟩) 0 c) (w.alloc (.cells (bl c (fun _ => 0)).toArray 5)) := by
  obtain ⟨i0, hi, hz0, hz1, hz2⟩ := info_parts info5
  have hr := run_make (P := Tryd.prog) w 22 5 i0 (.int .u8 0) Tryd.underlying22 hi hz0 .i64 .i64 0 c (by omega) (by omega) (by rw [hz2]; omega) (by omega)
  have e : madeCells #[Value.int .u8 0] c = (bl c (fun _ => 0)).toArray := by rw [← bl_zero]
  simp only [Int.toNat_natCast, hz1, Nat.mul_one, Value.cells, e] at hr
  exact hr
set_option maxRecDepth 8000 in
set_option maxHeartbeats 4000000 in
theorem form_ci (g k : Nat) (ws : Nat → Nat) (w : World) (hc : Ci w g k ws) : Calls Tryd.prog 27 #[.pointer (some ⟨g, 0, none⟩)] w fun e w' => ∃ v, e = .returned v ∧ By.Own w' w.heap.size v (16 * (k + 7)) (cb ws) ∧ Below w.heap.size w w' := by
  have hk4 : 1 ≤ k := by have := hc.kk; omega
  have hk8 : k ≤ 8 := by have := hc.kk; omega
  have c0 := hid hc.c0
  have HC := hid hc
  obtain ⟨n, en⟩ : ∃ n, k + 6 = n := ⟨_, rfl⟩
  have hn : n ≤ 14 := by omega
  have hmk : ∀ w, (Instr.makeSlice 22 (.int .i64 0) (.int .i64 (16 * ((k : Int) + 7)))).run Tryd.prog w = .ok (.slice (some ⟨w.heap.size, 0, none⟩) 0 (16 * (k + 7))) (w.alloc (.cells (bl (16 * (k + 7)) (fun _ => 0)).toArray 5)) := fun w => by
    have h := make_c (16 * (k + 7)) (by omega) w
    rwa [show ((16 * (k + 7) : Nat) : Int) = 16 * ((k : Int) + 7) from by omega] at h
  have hsf := fun W => sliceF W g n (by omega)
  have w1 : IntKind.i64.wrap ((n : Int) + 1) = (n : Int) + 1 := by rw [IntKind.wrap_i64]; omega
  have w2 : IntKind.i64.wrap (4 * ((n : Int) + 1)) = 4 * ((n : Int) + 1) := by rw [IntKind.wrap_i64]; omega
  have ow := hid (own_made w 0 (16 * (k + 7)) w.heap.size (fun _ => 0) (fun _ => by decide) (by omega) (by simp [maxLen]; omega) (Nat.le_refl _))
  have C1 := hid (hc.below (below_alloc w (.cells (bl (16 * (k + 7)) (fun _ => 0)).toArray 5)))
  have BW := hid (below_alloc w (.cells (bl (16 * (k + 7)) (fun _ => 0)).toArray 5))
  have c1 := hid C1.out.c0
  clear hc
  go_enter Tryd.func27, Tryd.ntmps27
  go_wp2_with (first | (go_at_call 45; refine (isNone_ci g k _ c0.out hk4).mono ?_; rintro e w' ⟨rfl, hw'⟩; subst w') | (go_at_call 46; refine (formSize_ci g k _ c0.out hk8).mono ?_; rintro e w' ⟨rfl, hw'⟩; subst w'))
  have RC := hid (rounds_ci g k (w.alloc (.cells (bl (16 * (k + 7)) (fun _ => 0)).toArray 5)).drew c1.out hk8)
  rw [en] at RC
  have EN := hid en
  clear en
  go_region_law (go_simp; go_at_call 47; refine RC.out.mono ?_; rintro e w' ⟨rfl, hw'⟩; subst w')
  all_goals
    go_simp
    go_wp2_with fail
    go_loopw [3, 20] (fun v i wr => ∃ j : Nat, j ≤ 4 * (n + 1) ∧ i = .int .i64 j ∧ By.Own wr w.heap.size v (4 * j) (cb ws) ∧ Below w.heap.size w wr) (fun _ i _ => 4 * (n + 1) - (intOf i).toNat)
    case atStart =>
      refine ⟨0, by omega, rfl, own_congr ow.out (fun i => ⟨Int.natCast_nonneg _, Int.ofNat_lt.2 (HC.out.lt i)⟩) (fun i hi => by omega), below_dr BW.out⟩
    case round =>
      obtain ⟨j, hj, rfl, o1, hbel⟩ := hrel
      have O1 := hid o1
      have HB := hid hbel
      have CJ := hid (HC.out.below hbel)
      clear o1 hbel
      by_cases hlt : j < 4 * (n + 1)
      · have hd : decide ((j : Int) < 4 * ((n : Int) + 1)) = true := decide_eq_true (by omega)
        have hje : j < 4 * (n + 1) := hlt
        have en := EN.out
        have l1 := LDq_run (CJ.out.here.range (1 + j * 4) (bl 4 (cb (fun i => ws (4 * j + i)))) (fun i v hv => by obtain ⟨hi, rfl⟩ := bl_get_inv _ _ _ _ hv; rw [show 1 + j * 4 + i = 1 + (4 * j + i) from by omega]; exact cic_at _ _ _ (by omega))) (bl_length _ _)
        have N0 := hid (Blk.newAt wr _ _ 47 _ rfl zero4)
        have s1 := SVq_run (cs := bl 4 (cb (fun i => ws (4 * j + i)))) (N0.out.there 0 4 (by rw [bl_length]; omega)) (bl_length _ _) (bl_one _ _)
        have N1 := hid (show Blk _ wr.heap.size (bl 4 (cb (fun i => ws (4 * j + i)))) 47 from by rw [← put_all (bl 4 (cb (fun _ => 0))) (bl 4 (cb (fun i => ws (4 * j + i)))) (by rw [bl_length, bl_length])]; exact N0.out.put 0 (bl 4 (cb (fun i => ws (4 * j + i)))))
        have K1 := hid ((below_alloc wr (.cells (bl 4 (cb (fun _ => 0))).toArray 47)).trans ((Kp.setCells wr.heap.size 0 (bl 4 (cb (fun i => ws (4 * j + i))))).below (by simp) (fun k hk e => by omega)))
        rw [← zero4] at K1
        have O2 := hid (own_below O1.out K1.out)
        have R1 := hid (rb_blk N1.out (fun i => ⟨Int.natCast_nonneg _, Int.ofNat_lt.2 (HC.out.lt (4 * j + i))⟩) (by simp [maxLen]))
        have HB2 := hid (below_next HB.out K1.out)
        have hsq := fun W => sliceQ W wr.heap.size 0
        generalize ((wr.alloc (Obj.cells #[Value.int IntKind.u8 0, Value.int IntKind.u8 0, Value.int IntKind.u8 0, Value.int IntKind.u8 0] 47)).setCells wr.heap.size 0 (bl 4 (cb fun i => ws (4 * j + i)))) = W2 at *
        clear K1 N0 N1 en
        go_wp2_with (at_builtin; go_must (refine wpList_cat rfl _ _ rfl w.heap.size (4 * j) 4 _ _ (cb ws) (cb fun i => ws (4 * j + i)) rfl O2.out rfl R1.out (by omega) HB2.out.size ?_))
        intro v' w' hown hgrow
        have O3 := hid (own_congr hown (g := cb ws) (fun i => ⟨Int.natCast_nonneg _, Int.ofNat_lt.2 (HC.out.lt i)⟩) (fun i hi => by
          unfold cat
          split
          · rfl
          · show ((ws (4 * j + (i - 4 * j)) : Nat) : Int) = ((ws i : Nat) : Int)
            rw [show 4 * j + (i - 4 * j) = i from by omega]))
        have B3 := hid (below_grow HB2.out HB2.out.size O2.out hgrow)
        clear hown hgrow
        go_wp2_with fail
        exact ⟨⟨j + 1, by omega, by go_num, by rw [show 4 * (j + 1) = 4 * j + 4 from by omega]; exact O3.out, B3.out⟩, by simp [intOf]; omega⟩
      · have ej : j = 4 * (n + 1) := by omega
        have hd : decide ((j : Int) < 4 * ((n : Int) + 1)) = false := decide_eq_false (by omega)
        have hd2 : ¬ (j : Int) < 4 * ((n : Int) + 1) := by omega
        have EJ := hid (show 4 * j = 16 * (k + 7) from by have := EN.out; omega)
        clear ej
        go_wp2_with fail
        go_ret
        exact ⟨_, rfl, by rw [← EJ.out]; exact O1.out, HB.out⟩
end Go.Proofs.YtbommnigljmfkaaDoor.Ae
