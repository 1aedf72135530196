/- A session: Clone. -/
import Derived.Test.YtpohogpkfdebdaaGreatDoorOg
import Derived.Test.YtpohogpkfdebdaaGreatDoorWe
namespace Go.Proofs.YtpohogpkfdebdaaGreatDoor.Oc
open Go.ChangeShapes Go.WideShapes Go.ChangeAt Go.RowKit
open Go.Proofs.YtpohogpkfdebdaaGreatDoor.By
open Go.Proofs.YtpohogpkfdebdaaGreatDoor.Sh (Blk size_alloc)
open Go.Proofs.YtpohogpkfdebdaaGreatDoor.Dg (BB LG lpv Lt Tl IsMk MB)
theorem dd_len (b : Nat) (cc : List Nat) (p : PX) : (dd b cc p).length = 5 := rfl
def ses (al out b : Nat) (cc : List Nat) (p : PX) : List Value := .int .u8 (al : Int) :: .int .i64 (out : Int) :: dd b cc p
theorem dd_fold (al out b : Nat) (cc : List Nat) (p : PX) : List.foldl (fun (cs : Array Value) (x : Value × Nat) => cs.setIfInBounds (2 + x.2) x.1) #[.int .u8 (al : Int), .int .i64 (out : Int), .nilFunc, .nilFunc, .nilFunc, .nilFunc, .nilFunc] (dd b cc p).zipIdx = (ses al out b cc p).toArray := rfl
/-- A variable of deeds: made, written, read. -/
theorem slot_d (w : World) (b : Nat) (cc : List Nat) (p : PX) : ∃ W, (SVd ⟨w.heap.size, 0, none⟩ (.agg (dd b cc p).toArray)).run Tryz.prog (w.alloc (.cells #[.nilFunc, .nilFunc, .nilFunc, .nilFunc, .nilFunc] 82)) = .ok () W ∧ W.rangeAt w.heap.size 0 (dd b cc p) ∧ Below w.heap.size w W := by
  have D := Blk.new w [.nilFunc, .nilFunc, .nilFunc, .nilFunc, .nilFunc] 82
  have t := D.there 0 5 (by decide)
  refine ⟨_, SVd_run t rfl (dd_one _ _ _), World.rangeAt_setCells_same _ _ _ _ t, Sh.below_cells (below_alloc _ _) _ _ _ (Nat.le_refl _) (by rw [size_alloc]; omega)⟩
theorem cln_end {w w1 W : World} {al out s b b' : Nat} {o cc o' cc' : List Nat} {p : PX} (H : IsS w ⟨al, out, p, s, b, o, cc⟩) (X : IsX w1 b' o' p) (NX : ∀ j, FX b' o' j → w.heap.size ≤ j) (C : IsC w1 b' cc' p) (NC : ∀ j, j ∈ cc' → w.heap.size ≤ j) (B1 : Below w.heap.size w w1) (BW : Below w1.heap.size w1 W) :
    ∃ y : SX, Ending.returned (.tuple #[pt W.heap.size, .int .i64 0]) = .returned (.tuple #[pt y.s, .int .i64 0]) ∧ IsS (W.drew.alloc (.cells (ses al out b' cc' p).toArray 84)) y ∧ y.al = al ∧ y.out = out ∧ y.p = p ∧ (∀ j, FS y j → w.heap.size ≤ j) ∧ Below w.heap.size w (W.drew.alloc (.cells (ses al out b' cc' p).toArray 84)) := by
  have B2 := below_next B1 BW
  have B0 : Below W.heap.size W (W.drew.alloc (.cells (ses al out b' cc' p).toArray 84)) := below_next (below_drewN W 1) (below_alloc (W.drewN 1) _)
  have B3 := below_next B2 B0
  have B4 := below_next BW B0
  refine ⟨⟨al, out, p, W.heap.size, b', o', cc'⟩, rfl, ⟨Blk.new W.drew (ses al out b' cc' p) 84, X.below B4, C.below B4, H.o1, H.ot⟩, rfl, rfl, rfl, fun j hj => ?_, B3⟩
  rcases hj with e | e | e
  · rw [show j = W.heap.size from e]; exact B2.size
  · exact NX j e
  · exact NC j e
set_option maxRecDepth 20000 in
set_option maxHeartbeats 2000000 in
theorem cl_s (x : SX) (w : World) (h : IsS w x) : Calls Tryz.prog 29 #[pt x.s] w fun e w' => ∃ y : SX, e = .returned (.tuple #[pt y.s, .int .i64 0]) ∧ IsS w' y ∧ y.al = x.al ∧ y.out = x.out ∧ y.p = x.p ∧ (∀ j, FS y j → w.heap.size ≤ j) ∧ Below w.heap.size w w' := by
  obtain ⟨al, out, p, s, b, o, cc⟩ := x
  have HC := hid (clX p b o cc w h.mx h.cs)
  have SD := hid (fun w1 b' cc' => slot_d w1 b' cc' p)
  have DL := hid (fun b' cc' => dd_len b' cc' p)
  have DF := hid (fun b' cc' => dd_fold al out b' cc' p)
  have N1 := hid (none_s h)
  have c4 := h.here.cell 4 _ rfl
  have H := hid h
  clear h
  cases p
  all_goals
    dsimp only [fC] at HC c4
    go_enter Tryz.func29, Tryz.ntmps29
    go_wp2_with (go_at_call 61; refine N1.out.mono ?_; rintro e w' ⟨rfl, rfl⟩)
    refine HC.out.mono ?_
    rintro e w1 ⟨b', o', v, rfl, hx, hn, cc', rfl, hc, hcn, hb⟩
    have X1 := hid hx
    have NX := hid hn
    have C1 := hid hc
    have NC := hid hcn
    have B1 := hid hb
    obtain ⟨W, s1, r1, bW⟩ := SD.out w1 b' cc'
    have l1 := LDd_run (w := W.drew) r1 rfl
    have dl := DL.out b' cc'
    have df := DF.out b' cc'
    have c0 := (H.out.below (below_next hb bW)).here.cell 0 _ rfl
    have c1 := (H.out.below (below_next hb bW)).here.cell 1 _ rfl
    have BW := hid bW
    clear hx hn hc hcn hb HC c4 N1 bW SD
    go_wp2_with fail
    apply Vm.once
    · intro key
      go_region_law (fail)
      all_goals exact key
    · go_simp
      go_wp2_with fail
      go_ret2
      exact cln_end H.out X1.out NX.out C1.out NC.out B1.out BW.out
end Go.Proofs.YtpohogpkfdebdaaGreatDoor.Oc
