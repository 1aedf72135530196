/- A cipher's cells; a round key added to a block. -/
import Derived.Test.YtbommnigljmfkaaDoorAxor
namespace Go.Proofs.YtbommnigljmfkaaDoor.Ae
open Go.ChangeShapes Go.WideShapes Go.ChangeAt Go.RowKit
open Go.Proofs.YtbommnigljmfkaaDoor.By Go.Proofs.YtbommnigljmfkaaDoor.Gf
/-- A cipher's cells: the key's words, the round keys' bytes. -/
def cic (k : Nat) (ws : Nat → Nat) : List Value := .int .i64 k :: bl 240 (cb ws)
theorem cic_length (k : Nat) (ws : Nat → Nat) : (cic k ws).length = 241 := by simp [cic, bl_length]
theorem cic_at (k : Nat) (ws : Nat → Nat) (i : Nat) (h : i < 240) : (cic k ws)[1 + i]? = some (.int .u8 (ws i : Nat)) := by
  rw [show 1 + i = i + 1 from by omega]
  show (Value.int .i64 k :: bl 240 (cb ws))[i + 1]? = _
  rw [List.getElem?_cons_succ]
  exact bl_get 240 _ i h
theorem cic_one (k : Nat) (ws : Nat → Nat) : ∀ u ∈ cic k ws, u.oneCell' = true := by
  intro u hu
  simp only [cic, List.mem_cons] at hu
  rcases hu with rfl | hu
  · rfl
  · exact bl_one _ _ u hu
set_option maxRecDepth 4000 in
theorem sliceK (W : World) (g r : Nat) (hr : r ≤ 14) : (Instr.sliceAt 48 (.pointer (some ⟨g, 1, none⟩)) (some (.int .i64 (4 * (r : Int)))) (some (.int .i64 (4 * ((r : Int) + 1)))) none).run Tryd.prog W = .ok (.slice (some ⟨g, 1 + 16 * r, none⟩) 4 (60 - 4 * r)) W := by
  have hl : Tryd.prog.arrayLen 48 = 60 := by kernel_rfl
  have hs : (sizeOf (Tryd.prog.elem 48)).run Tryd.prog W = .ok 4 W := by kernel_rfl
  have h := run_sliceAt_array_lh (P := Tryd.prog) W 48 ⟨g, 1, none⟩ Tryd.underlying48 .i64 .i64 (4 * (r : Int)) (4 * ((r : Int) + 1)) (by omega) (by omega) (by rw [hl]; omega)
  rw [h, hs, hl, Result.andThen_ok, slicedAt, if_neg (by omega), By.add_plain]
  simp only [Result.ok.injEq, Value.slice.injEq, Option.some.injEq, Addr.mk.injEq, and_true, true_and]
  omega
set_option maxRecDepth 4000 in
theorem sliceQ (W : World) (g o : Nat) : (Instr.sliceAt 47 (.pointer (some ⟨g, o, none⟩)) none none none).run Tryd.prog W = .ok (.slice (some ⟨g, o, none⟩) 4 4) W := by
  have hl : Tryd.prog.arrayLen 47 = 4 := by kernel_rfl
  have hs : (sizeOf (Tryd.prog.elem 47)).run Tryd.prog W = .ok 1 W := by kernel_rfl
  have h := run_sliceAt_array_all (P := Tryd.prog) W 47 ⟨g, o, none⟩ Tryd.underlying47
  rw [h, hs, hl, Result.andThen_ok, slicedAt]
  rfl
theorem copy4 (W : World) (g o cd gs os m c : Nat) (ty t : TypeId) (cells : List Value) (f : Nat → Nat) (hb : Blk W g cells t) (hl : o + 4 ≤ cells.length) (hm : 4 ≤ m) (hs : ∀ i, i < 4 → W.cell? ⟨gs, os + i, none⟩ = some (.int .u8 (f i : Nat))) :
    (Builtin.copy_ #[22, 22] ty #[.slice (some ⟨g, o, none⟩) 4 cd, .slice (some ⟨gs, os, none⟩) m c]).run Tryd.prog W = .ok (.int .i64 4) (W.setCells g o (bl 4 (cb f))) := by
  have h := run_copy_cells (P := Tryd.prog) W 22 22 ty 5 g o 4 cd ⟨gs, os, none⟩ m c (bl 4 (cb f)) Tryd.underlying22 (by kernel_rfl) (by rw [bl_length]; exact (Nat.min_eq_right hm).symm)
    (fun j v hj => by obtain ⟨hj1, rfl⟩ := bl_get_inv _ _ _ _ hj; rw [By.add_plain]; exact hs j hj1)
    (fun j hj => (hb.there o 4 hl j (by rwa [bl_length] at hj)).1) (fun j hj => hb.frozen _) (bl_one 4 (cb f))
  rw [bl_length] at h
  exact h
/-- The first 4 k bytes have the round key. -/
def adkTo (ws : Nat → Nat) (r : Nat) (b : Nat → Nat) (k i : Nat) : Nat := if i < 4 * k then b i ^^^ ws (16 * r + i) else b i
theorem adkTo_zero (ws : Nat → Nat) (r : Nat) (b : Nat → Nat) : bl 16 (cb (adkTo ws r b 0)) = bl 16 (cb b) := bl_congr _ _ _ (fun i _ => by show ((adkTo ws r b 0 i : Nat) : Int) = _; unfold adkTo; rw [if_neg (by omega)])
theorem adkTo_all (ws : Nat → Nat) (r : Nat) (b : Nat → Nat) : bl 16 (cb (adkTo ws r b 4)) = bl 16 (cb (adk ws r b)) := bl_congr _ _ _ (fun i hi => by show ((adkTo ws r b 4 i : Nat) : Int) = ((adk ws r b i : Nat) : Int); unfold adkTo adk; rw [if_pos (by omega)])
theorem adkTo_put (ws : Nat → Nat) (r : Nat) (b : Nat → Nat) (k : Nat) (hk : k < 4) : put (bl 16 (cb (adkTo ws r b k))) (4 * k) (bl 4 (cb (xr (fun i => b (4 * k + i)) (fun i => ws (16 * r + 4 * k + i))))) = bl 16 (cb (adkTo ws r b (k + 1))) := by
  apply List.ext_getElem?
  intro i
  rw [put_get _ _ _ _ (by rw [bl_length, bl_length]; omega), bl_length]
  by_cases h : i < 16
  · rw [bl_get _ _ _ h, bl_get _ _ _ h]
    by_cases e : 4 * k ≤ i ∧ i < 4 * k + 4
    · rw [if_pos e, bl_get _ _ _ (by omega)]
      congr 2
      show (((b (4 * k + (i - 4 * k)) ^^^ ws (16 * r + 4 * k + (i - 4 * k)) : Nat)) : Int) = ((adkTo ws r b (k + 1) i : Nat) : Int)
      unfold adkTo
      rw [if_pos (by omega), show 4 * k + (i - 4 * k) = i from by omega, show 16 * r + 4 * k + (i - 4 * k) = 16 * r + i from by omega]
    · rw [if_neg e]
      congr 2
      show ((adkTo ws r b k i : Nat) : Int) = ((adkTo ws r b (k + 1) i : Nat) : Int)
      unfold adkTo
      by_cases h2 : i < 4 * k
      · rw [if_pos h2, if_pos (by omega)]
      · rw [if_neg h2, if_neg (by omega)]
  · rw [List.getElem?_eq_none (l := bl 16 (cb (adkTo ws r b (k + 1)))) (by rw [bl_length]; omega), if_neg (by omega), List.getElem?_eq_none (by rw [bl_length]; omega)]
theorem zero4 : #[Value.int IntKind.u8 0, Value.int IntKind.u8 0, Value.int IntKind.u8 0, Value.int IntKind.u8 0] = (bl 4 (cb (fun _ => 0))).toArray := rfl
set_option maxRecDepth 8000 in
set_option maxHeartbeats 4000000 in
theorem keyed1 (g k : Nat) (ws b : Nat → Nat) (r : Nat) (hr : r ≤ 14) (hw : ∀ i, ws i < 256) (hb : B16 b) (w : World) (h : Blk w g (cic k ws) 50) : Calls Tryd.prog 48 #[.pointer (some ⟨g, 0, none⟩), bv b, .int .i64 r] w fun e w' => e = .returned (bv (adk ws r b)) ∧ Below w.heap.size w w' := by
  unfold bv
  have H := hid h
  have HW := hid hw
  have HBB := hid hb
  have hgl := h.lt
  have hsk := fun W => sliceK W g r hr
  clear h hw hb
  go_enter Tryd.func48, Tryd.ntmps48
  go_wp2_with fail
  go_loopw [20] (fun i wr => ∃ k : Nat, k ≤ 4 ∧ i = .int .i64 k ∧ Blk wr w.heap.size (bl 16 (cb (adkTo ws r b k))) 58 ∧ Blk wr (w.heap.size + 1) (bl 16 (cb (upto 0 b))) 58 ∧ Below w.heap.size w wr) (fun i _ => 4 - (intOf i).toNat)
  case atStart => exact ⟨0, Nat.zero_le _, rfl, by rw [adkTo_zero]; exact (Blk.newAt _ _ _ _ _ rfl rfl).alloc _, Blk.newAt _ _ _ _ _ (by simp) (zero16 b), ((below_alloc w _).alloc (by simp) _)⟩
  case round =>
    clear hsk
    obtain ⟨k', hk, rfl, b0, b1, hbel⟩ := hrel
    have B0 := hid b0
    have B1 := hid b1
    have HB := hid hbel
    have HZ := hid b1.lt
    have C0 := hid (H.out.below hbel)
    clear b0 b1 hbel
    by_cases hlt : k' < 4
    · have l1 := LDq_run (C0.out.range (1 + 16 * r + k' * 4) (bl 4 (cb (fun i => ws (16 * r + 4 * k' + i)))) (fun j v hv => by obtain ⟨hj, rfl⟩ := bl_get_inv _ _ _ _ hv; rw [show 1 + 16 * r + k' * 4 + j = 1 + (16 * r + 4 * k' + j) from by omega]; exact cic_at _ _ _ (by omega))) (bl_length _ _)
      have N0 := hid (Blk.newAt wr _ _ 47 _ rfl zero4)
      have s1 := SVq_run (cs := bl 4 (cb (fun i => ws (16 * r + 4 * k' + i)))) (N0.out.there 0 4 (by rw [bl_length]; omega)) (bl_length _ _) (bl_one _ _)
      have N1 := hid (show Blk _ wr.heap.size (bl 4 (cb (fun i => ws (16 * r + 4 * k' + i)))) 47 from by rw [← put_all (bl 4 (cb (fun _ => 0))) (bl 4 (cb (fun i => ws (16 * r + 4 * k' + i)))) (by rw [bl_length, bl_length])]; exact N0.out.put 0 (bl 4 (cb (fun i => ws (16 * r + 4 * k' + i)))))
      have hz := HZ.out
      have K1 := hid ((Kp.of_below (fun k => k = wr.heap.size) (below_alloc wr (.cells (bl 4 (cb (fun _ => 0))).toArray 47))).trans (Kp.setCells wr.heap.size 0 (bl 4 (cb (fun i => ws (16 * r + 4 * k' + i))))) (fun _ _ e => e))
      rw [← zero4] at K1
      have D0 := hid (B0.out.kept K1.out (by omega))
      have D1 := hid (B1.out.kept K1.out (by omega))
      have KB := hid (HB.out.trans (K1.out.below HB.out.size (fun k hk e => by omega)))
      have hs4 := fun W => slice4 W w.heap.size k' (by omega)
      have hsq := fun W => sliceQ W wr.heap.size 0
      generalize ((wr.alloc (Obj.cells #[Value.int IntKind.u8 0, Value.int IntKind.u8 0, Value.int IntKind.u8 0, Value.int IntKind.u8 0] 47)).setCells wr.heap.size 0 (bl 4 (cb fun i => ws (16 * r + 4 * k' + i)))) = W2 at *
      clear hz K1
      have XC := hid (xor4 w.heap.size (4 * k') (16 - 4 * k') wr.heap.size 0 4 (fun i => b (4 * k' + i)) (fun i => ws (16 * r + 4 * k' + i)) W2 (fun i hi => HBB.out _ (by omega)) (fun i _ => HW.out _)
        (fun i hi => by
          have h1 := D0.out.cell (4 * k' + i) _ (bl_get 16 _ _ (by omega))
          rw [show cb (adkTo ws r b k') (4 * k' + i) = ((b (4 * k' + i) : Nat) : Int) from congrArg Nat.cast (by unfold adkTo; rw [if_neg (by omega)])] at h1
          exact h1)
        (fun i hi => by rw [Nat.zero_add]; exact N1.out.cell i _ (bl_get 4 _ i hi)))
      go_wp2_with fail
      refine XC.out.mono ?_
      rintro e W3 ⟨rfl, n3, hb3⟩
      have E0 := hid (D0.out.below hb3)
      have E1 := hid (D1.out.below hb3)
      have EB := hid (KB.out.trans ((Kp.of_below (fun _ => False) hb3).below KB.out.size (fun _ _ e => e)))
      have hcp := fun ty => copy4 W3 w.heap.size (4 * k') (16 - 4 * k') W2.heap.size 0 4 4 ty 58 _ (xr (fun i => b (4 * k' + i)) (fun i => ws (16 * r + 4 * k' + i))) E0.out (by rw [bl_length]; omega) (by omega) (fun i hi => by rw [Nat.zero_add]; exact n3.cell i _ (bl_get 4 _ i hi))
      clear n3 hb3 XC D0 D1 KB
      go_wp2_with fail
      have hz := E1.out.lt
      refine ⟨⟨k' + 1, by omega, by go_num, ?_, E1.out.kept (Kp.setCells _ _ _) (by omega), below_cells EB.out _ _ _ (Nat.le_refl _) EB.out.size⟩, by simp [intOf]; omega⟩
      rw [← adkTo_put ws r b k' hlt]
      exact E0.out.put _ _
    · have ek : k' = 4 := by omega
      subst ek
      rw [adkTo_all] at B0
      have l1 := LDb_run (range0 B0.out) (bl_length _ _)
      have s1 := SVb_run (cs := bl 16 (cb (adk ws r b))) (B1.out.there 0 16 (by rw [bl_length]; omega)) (bl_length _ _) (bl_one _ _)
      have b4 := B1.out.put 0 (bl 16 (cb (adk ws r b)))
      rw [put_all _ _ (by rw [bl_length, bl_length])] at b4
      have l2 := hid (LDb_run (range0 b4) (bl_length _ _))
      clear b4
      go_wp2
      have hz := HZ.out
      refine bodyPost_ret ?_ rfl ⟨rfl, below_cells HB.out _ _ _ (by omega) HB.out.size⟩
      exact results_cell1 Tryd.results48 rfl l2.out
end Go.Proofs.YtbommnigljmfkaaDoor.Ae
