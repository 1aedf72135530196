/- The document's words, Digest, event, and the function Sum. -/
import Derived.Test.YtojldjckpjokcaaGreatDoorDpad
import Derived.Test.YtojldjckpjokcaaGreatDoorDcomp2
import Derived.Test.YtojldjckpjokcaaGreatDoorRref
import Derived.Deep.Cut
namespace Go.Proofs.YtojldjckpjokcaaGreatDoor.Sh
open Go.ChangeShapes Go.WideShapes Go.ChangeAt Go.RowKit
open Go.Proofs.YtojldjckpjokcaaGreatDoor.By Go.Proofs.YtojldjckpjokcaaGreatDoor.Wd

set_option maxRecDepth 4000 in
set_option maxHeartbeats 400000 in
theorem words66 (n : Nat) (v : Value) (f : Nat → Int) (w : World) (hr : By.RB w v n f) (hn : n ≤ 1000000) :
    Calls Tryz.prog 84 #[v] w fun e w' => e = .returned (.agg (wl 8 (hw f (n / 64))).toArray) ∧ Below w.heap.size w w' := by
  have HR := hid hr
  obtain ⟨hf, a, cap, rfl, -, -, -⟩ := hr
  have HF := hid hf
  clear hf
  go_enter Tryz.func84, Tryz.ntmps84
  go_wp2_with fail
  refine (begin72 _).mono ?_
  rintro e w1 ⟨rfl, hb1⟩
  have B0 := hid ((Blk.newAt w _ (wl 8 (fun _ => 0)) 116 w.heap.size rfl h8).below hb1)
  have b1 := hid (below_next (below_alloc w _) hb1)
  clear hb1
  have nb := Blk.newAt w1 _ (wl 8 (fun _ => 0)) 116 w1.heap.size rfl h8
  have x1 := SVh_run (cs := wl 8 bg) (nb.there 0 8 (by rw [wl_length]; omega)) (wl_length _ _) (wl_one _ _)
  have nb2 := nb.put 0 (wl 8 bg)
  rw [put_all _ _ (by rw [wl_length, wl_length])] at nb2
  have NB := hid nb2
  clear nb nb2
  go_upto_region 2 with fail
  obtain ⟨X0, hX0⟩ : ∃ x, World.setCells (w1.alloc (.cells (wl 8 (fun _ => 0)).toArray 116)) w1.heap.size 0 (wl 8 bg) = x := ⟨_, rfl⟩
  have z1 := b1.out.size
  have l0 := B0.out.lt
  have p0 := hid ((B0.out.alloc (.cells (wl 8 (fun _ => 0)).toArray 116)).kept (Kp.setCells w1.heap.size 0 (wl 8 bg)) (by omega))
  have p2 := hid (below_cells (below_next b1.out (below_alloc w1 (.cells (wl 8 (fun _ => 0)).toArray 116))) w1.heap.size 0 (wl 8 bg) z1 (by rw [size_alloc]; omega))
  rw [hX0] at p0 p2
  rw [h8, hX0] at NB
  rw [h8, hX0]
  obtain ⟨gx, hgx⟩ : ∃ x, w1.heap.size = x := ⟨_, rfl⟩
  rw [hgx] at NB
  rw [hgx]
  have hgg : w.heap.size < gx := by rw [← hgx]; exact l0
  clear hX0 hgx l0 z1 B0 b1 x1
  go_wp2_with fail
  go_loopw [4] (fun i wr => ∃ j : Nat, 64 * j ≤ n ∧ i = .int .i64 (64 * (j : Int)) ∧ Blk wr w.heap.size (wl 8 (fun _ => 0)) 116 ∧ Blk wr gx (wl 8 (hw f j)) 116 ∧ Below w.heap.size w wr) (fun i _ => 2000000 - (intOf i).toNat)
  case atStart => exact ⟨0, by omega, rfl, p0.out, NB.out, p2.out⟩
  case round =>
    clear p0 NB p2
    obtain ⟨j, hj, rfl, h1, h2, h3⟩ := hrel
    have E0 := hid h1
    have X := hid h2
    have E2 := hid h3
    have zl := h2.lt
    clear h1 h2 h3
    have l1 := LDh_run (X.out.range 0 _ (fun j v h => by rw [Nat.zero_add]; exact h)) (wl_length _ _)
    by_cases hlt : 64 * j + 64 ≤ n
    · have hlt' : 64 * (j : Int) + 64 ≤ n := by omega
      go_wp2_with fail
      rw [show (64 * (j : Int)) = ((64 * j : Nat) : Int) from by omega]
      refine (compressed73 (hw f j) f _ n (64 * j) (hw_w f j) _ (HR.out.below E2.out) hlt hn).mono ?_
      rintro e w4 ⟨rfl, hb4⟩
      have X4 := hid (X.out.below hb4)
      have s1 := SVh_run (cs := wl 8 (comp (hw f j) (fun i => f (64 * j + i)))) (X4.out.there 0 8 (by rw [wl_length]; omega)) (wl_length _ _) (wl_one _ _)
      have E4 := hid (E0.out.below hb4)
      have b4 := hid (E2.out.trans (hb4.mono E2.out.size))
      clear hb4 l1
      go_wp2
      have b5 := X4.out.put 0 (wl 8 (comp (hw f j) (fun i => f (64 * j + i))))
      rw [put_all _ _ (by rw [wl_length, wl_length])] at b5
      refine ⟨⟨j + 1, by omega, by go_num, E4.out.kept (Kp.setCells _ _ _) (by omega), b5, below_cells b4.out _ _ _ (by omega) b4.out.size⟩, by simp [intOf]; omega⟩
    · have ej : n / 64 = j := by omega
      have hlt' : ¬ 64 * (j : Int) + 64 ≤ n := by omega
      have s1 := SVh_run (cs := wl 8 (hw f j)) (E0.out.there 0 8 (by rw [wl_length]; omega)) (wl_length _ _) (wl_one _ _)
      have b3 := E0.out.put 0 (wl 8 (hw f j))
      rw [put_all _ _ (by rw [wl_length, wl_length])] at b3
      have l2 := hid (LDh_run (b3.range 0 _ (fun j v h => by rw [Nat.zero_add]; exact h)) (wl_length _ _))
      have EJ := hid ej
      clear b3 ej
      go_wp2
      refine bodyPost_ret (v := .agg (wl 8 (hw f j)).toArray) ?_ rfl ⟨by rw [EJ.out], below_cells E2.out _ _ _ (Nat.le_refl _) E2.out.size⟩
      exact results_cell1 Tryz.results84 rfl l2.out
theorem digest54 (m : Nat) (v : Value) (f : Nat → Int) (w : World) (hr : By.RB w v m f) (hm : m ≤ 900000) :
    Calls Tryz.prog 67 #[v] w fun e w' => ∃ u, e = .returned u ∧ By.Own w' w.heap.size u 32 (dig m f) ∧ Below w.heap.size w w' := by
  have HR := hid hr
  clear hr
  go_enter Tryz.func67, Tryz.ntmps67
  go_wp2_with fail
  refine (padded53 m v f _ HR.out hm).mono ?_
  rintro e w1 ⟨u1, rfl, hu, hb⟩
  have U1 := hid hu
  have b1 := hid hb
  clear hu hb
  go_wp2_with fail
  refine (words66 _ _ _ _ U1.out.reads (by unfold zs; omega)).mono ?_
  rintro e w2 ⟨rfl, hb⟩
  have b2 := hid (below_next b1.out hb)
  clear hb
  go_wp2_with fail
  refine (rlaid65 _ (hw_w _ _) _).mono ?_
  rintro e w3 ⟨u3, rfl, hu, hb⟩
  have U3 := hid (own_mono hu b2.out.size)
  have b3 := hid (below_next b2.out hb)
  clear hu hb
  go_wp2
  go_ret
  exact ⟨_, rfl, U3.out, b3.out⟩
theorem event52 (w : World) : Calls Tryz.prog 63 #[] w fun e w' => e = .returned (.agg #[.int .u8 1, .int .i64 64]) ∧ Below w.heap.size w w' := by
  go_enter Tryz.func63, Tryz.ntmps63
  go_wp2
  refine bodyPost_ret (v := .agg #[.int .u8 1, .int .i64 64]) (by simp [results, Tryz.results63, go_sem]) rfl ⟨rfl, below_alloc _ _⟩
end Go.Proofs.YtojldjckpjokcaaGreatDoor.Sh
