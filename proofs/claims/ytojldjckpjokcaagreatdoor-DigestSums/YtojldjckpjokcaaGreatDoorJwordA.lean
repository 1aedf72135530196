/- What the program's functions on a block answer: right, spread, compress. -/
import Derived.Test.YtojldjckpjokcaaGreatDoorJpure
namespace Go.Proofs.YtojldjckpjokcaaGreatDoor.Sg
open Go.ChangeShapes Go.WideShapes Go.ChangeAt Go.RowKit
open Go.Proofs.YtojldjckpjokcaaGreatDoor.By Go.Proofs.YtojldjckpjokcaaGreatDoor.Wd

theorem drewN_three (Z : World) (n x d : Nat) : (Z.drewN (n + x)).drewN d = Z.drewN (n + (x + d)) := by rw [drewN_two, Nat.add_assoc]
theorem right71 (x n : Int) (w : World) (hx : W64 x) (hn : 0 ≤ n ∧ n ≤ 64) :
    Calls Tryz.prog 105 #[.int .u64 x, .int .i64 n] w fun e w' => e = .returned (.int .u64 (rr x n)) ∧ ∃ k, w' = w.drewN k := by
  have H := hid hx
  have E : Hid (Rot 64 x (-n) = rr x n) := rfl
  go_enter Tryz.func105, Tryz.ntmps105
  go_wp2_with (go_at_call 115; refine (turn64 _ _ _ H.out.1 H.out.2).mono ?_; rintro e w' ⟨rfl, k, rfl⟩)
  go_ret
  exact ⟨rfl, _, rfl⟩


theorem wz64 : Tryz.zeroCells144 = (wl 80 (fun _ => 0)).toArray := by kernel_rfl
set_option maxRecDepth 4000 in
set_option maxHeartbeats 2000000 in
theorem spread70 (f : Nat → Int) (hf : ∀ i, 0 ≤ f i ∧ f i < 256) (w : World) :
    Calls Tryz.prog 104 #[.agg (bl 128 f).toArray] w fun e w' => e = .returned (.agg (wl 80 (tab f 80)).toArray) ∧ Below w.heap.size w w' := by
  have HF := hid hf
  clear hf
  go_enter Tryz.func104, Tryz.ntmps104
  go_wp2_with fail
  go_loopw [10] (fun i wr => ∃ k : Nat, k ≤ 16 ∧ i = .int .i64 k ∧ Blk wr w.heap.size (bl 128 f) 125 ∧ Blk wr (w.heap.size + 1) (wl 80 (fun _ => 0)) 144 ∧ Blk wr (w.heap.size + 1 + 1) (wl 80 (tab f k)) 144 ∧ Below w.heap.size w wr) (fun i _ => 16 - (intOf i).toNat)
  case atStart =>
    refine ⟨0, Nat.zero_le _, rfl, ((Blk.new w _ _).alloc _).alloc _, (Blk.newAt _ _ _ _ _ (by rw [size_alloc]) wz64).alloc _, Blk.newAt _ _ _ _ _ (by rw [size_alloc, size_alloc]) wz64, ?_⟩
    exact below_next (below_next (below_alloc w _) (below_alloc _ _)) (below_alloc _ _)
  case round =>
    obtain ⟨k, hk, rfl, b0, b1, b2, hbel⟩ := hrel
    have HR := hid (rb_blk b0 HF.out (by decide))
    have B0 := hid b0
    have B1 := hid b1
    have B2 := hid b2
    have HB := hid hbel
    have HZ := hid b2.lt
    clear b0 b1 b2 hbel
    by_cases hlt : k < 16
    · have c1 := B2.out.cell k _ (wl_get 80 _ k (by omega))
      have c2 := B2.out.frozen k
      go_wp2_with (go_at_call 114; refine (take64 _ _ f _ _ HR.out (by omega) (by omega) (by omega)).mono ?_; rintro e w' ⟨rfl, rfl⟩)
      have hz := HZ.out
      refine ⟨⟨k + 1, by omega, by go_num, B0.out.other (by omega) _ _, B1.out.other (by omega) _ _, ?_, below_set HB.out _ _ _ (by omega) (by omega)⟩, by simp [intOf]; omega⟩
      rw [← wl_tab f 80 k _ (BE_blk f k hlt _)]
      exact B2.out.set k _
    · have ek : k = 16 := by omega
      subst ek
      go_wp2_with fail
      go_loopw [5] (fun i wr => ∃ k : Nat, 16 ≤ k ∧ k ≤ 80 ∧ i = .int .i64 k ∧ Blk wr (w.heap.size + 1) (wl 80 (fun _ => 0)) 144 ∧ Blk wr (w.heap.size + 1 + 1) (wl 80 (tab f k)) 144 ∧ Below w.heap.size w wr) (fun i _ => 80 - (intOf i).toNat)
      case atStart => exact ⟨16, by omega, by omega, rfl, B1.out, B2.out, HB.out⟩
      case round =>
        clear B0 B1 B2 HB HZ HR
        obtain ⟨k, hk0, hk, rfl, b1, b2, hbel⟩ := hrel
        have B1 := hid b1
        have B2 := hid b2
        have HB := hid hbel
        have HZ := hid b2.lt
        have HW := hid (tab_w f HF.out k)
        clear b1 b2 hbel
        by_cases hlt : k < 80
        · have c15 := B2.out.cell (k - 15) _ (wl_get 80 _ (k - 15) (by omega))
          have c2 := B2.out.cell (k - 2) _ (wl_get 80 _ (k - 2) (by omega))
          have c7 := B2.out.cell (k - 7) _ (wl_get 80 _ (k - 7) (by omega))
          have c16 := B2.out.cell (k - 16) _ (wl_get 80 _ (k - 16) (by omega))
          have c1 := B2.out.cell k _ (wl_get 80 _ k (by omega))
          have cf := B2.out.frozen k
          have e15 : ((k : Int) - 15).toNat = k - 15 := by omega
          have e2 : ((k : Int) - 2).toNat = k - 2 := by omega
          have e7 : ((k : Int) - 7).toNat = k - 7 := by omega
          have e16 : ((k : Int) - 16).toNat = k - 16 := by omega
          go_wp2_with fail
          go_quiet (fail)
          go_wp2_with (go_at_call 105; refine (right71 _ _ _ (HW.out _) (by omega)).mono ?_; rintro e w' ⟨rfl, d, rfl⟩)
          go_region
          go_wp2
          have hz := HZ.out
          go_roundw
          case rel =>
            refine ⟨_, _, _, _, _, _, _, _, _, _, _, _, _, _, _, _, _, _, _, _, _, _, _, _, _, _, _, _, _, _, _, _, _, _, _, _, _, _, _, _, _, _, _, _, _, _, _, _, ?_, rfl⟩
            refine ⟨k + 1, by omega, by omega, by go_num, (B1.out.drewN _).other (by omega) _ _, ?_, below_set (below_drew' HB.out _) _ _ _ (by omega) (by show w.heap.size ≤ wr.heap.size; omega)⟩
            rw [← wl_tab f 80 k _ (show _ = nxt f k (tab f k) from by unfold nxt; rw [if_neg (by omega)])]
            exact (B2.out.drewN _).set k _
          case measure => simp [intOf]; omega
        · have ek : k = 80 := by omega
          subst ek
          have l1 := LDw_run (B2.out.range 0 _ (fun j v h => by rw [Nat.zero_add]; exact h)) (wl_length _ _)
          have s1 := SVw_run (cs := wl 80 (tab f 80)) (B1.out.there 0 80 (by rw [wl_length]; omega)) (wl_length _ _) (wl_one _ _)
          have b3 := B1.out.put 0 (wl 80 (tab f 80))
          rw [put_all _ _ (by rw [wl_length, wl_length])] at b3
          have l2 := hid (LDw_run (b3.range 0 _ (fun j v h => by rw [Nat.zero_add]; exact h)) (wl_length _ _))
          clear b3
          go_wp2
          have hz := HZ.out
          refine bodyPost_ret (v := .agg (wl 80 (tab f 80)).toArray) ?_ rfl ⟨rfl, below_cells HB.out _ _ _ (by omega) (by omega)⟩
          exact results_cell1 Tryz.results104 rfl l2.out

/-- The program's table lies in its place. -/
def KT (w : World) : Prop := w.rangeAt 1 0 (wl 80 K)
theorem KT.lt {w : World} (h : KT w) : 1 < w.heap.size := by
  have := h 0 _ (wl_get 80 K 0 (by omega))
  exact block_lt_of_cell this
theorem KT.kept {w w' : World} {S : Nat → Prop} (h : KT w) (hk : Kp S w w') (hn : ¬ S 1) : KT w' := fun j v hv => by
  have h1 := h j v hv
  have e := hk.block 1 h.lt hn
  rw [← h1]
  simp [World.cell?, e]
theorem KT.below {w w' : World} (h : KT w) (hb : Below w.heap.size w w') : KT w' := h.kept (Kp.of_below (fun _ => False) hb) id
theorem KT.drewN {w : World} (h : KT w) (d : Nat) : KT (w.drewN d) := h
end Go.Proofs.YtojldjckpjokcaaGreatDoor.Sg
