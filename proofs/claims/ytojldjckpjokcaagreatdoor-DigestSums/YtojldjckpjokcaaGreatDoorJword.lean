/- What the program's function compress answers. -/
import Derived.Test.YtojldjckpjokcaaGreatDoorJwordA
import Derived.Deep.Cut
namespace Go.Proofs.YtojldjckpjokcaaGreatDoor.Sg
open Go.ChangeShapes Go.WideShapes Go.ChangeAt Go.RowKit
open Go.Proofs.YtojldjckpjokcaaGreatDoor.By Go.Proofs.YtojldjckpjokcaaGreatDoor.Wd
theorem h8 : #[Value.int .u64 0, .int .u64 0, .int .u64 0, .int .u64 0, .int .u64 0, .int .u64 0, .int .u64 0, .int .u64 0] = (wl 8 (fun _ => 0)).toArray := by kernel_rfl
theorem wl8 (h : Nat → Int) : wl 8 h = [.int .u64 (h 0), .int .u64 (h 1), .int .u64 (h 2), .int .u64 (h 3), .int .u64 (h 4), .int .u64 (h 5), .int .u64 (h 6), .int .u64 (h 7)] := rfl
set_option maxRecDepth 4000 in
set_option maxHeartbeats 4000000 in
theorem compress64 (h f : Nat → Int) (hh : ∀ i, W64 (h i)) (hf : ∀ i, 0 ≤ f i ∧ f i < 256) (w : World) (hk : KT w) :
    Calls Tryz.prog 93 #[.agg (wl 8 h).toArray, .agg (bl 128 f).toArray] w fun e w' => e = .returned (.agg (wl 8 (comp h f)).toArray) ∧ Below w.heap.size w w' := by
  have HH := hid hh
  have HF := hid hf
  have HK := hid hk
  have l1 := LDb_run ((((Blk.new (w.alloc (.cells (wl 8 h).toArray 124)) (bl 128 f) 125)).alloc (.cells #[Value.int .u64 0, .int .u64 0, .int .u64 0, .int .u64 0, .int .u64 0, .int .u64 0, .int .u64 0, .int .u64 0] 124)).range 0 _ (fun j v h => by rw [Nat.zero_add]; exact h)) (bl_length _ _)
  rw [size_alloc] at l1
  clear hh hf hk
  go_enter Tryz.func93, Tryz.ntmps93
  go_wp2_with fail
  refine (spread70 f HF.out _).mono ?_
  rintro e w1 ⟨rfl, hb1⟩
  have b0 := (((Blk.new w (wl 8 h) 124).alloc (.cells (bl 128 f).toArray 125)).alloc (.cells (wl 8 (fun _ => 0)).toArray 124)).below hb1
  have b2 := ((Blk.newAt ((w.alloc (.cells (wl 8 h).toArray 124)).alloc (.cells (bl 128 f).toArray 125)) _ (wl 8 (fun _ => 0)) 124 (w.heap.size + 1 + 1) (by simp) h8)).below hb1
  have B0 := hid b0
  have B2 := hid b2
  clear b0 b2 l1
  have bel := below_next (below_next (below_next (below_alloc w _) (below_alloc _ _)) (below_alloc _ _)) hb1
  have HB := hid bel
  have hk1 := hid (HK.out.below bel)
  have HS := hid bel.size
  clear bel hb1
  have s1 := SVw_run (cs := wl 80 (tab f 80)) ((Blk.newAt w1 _ (wl 80 (fun _ => 0)) 144 w1.heap.size rfl wz64).there 0 80 (by rw [wl_length]; omega)) (wl_length _ _) (wl_one _ _)
  go_wp2_with fail
  have hz := HS.out
  have b5 := (Blk.newAt w1 _ (wl 80 (fun _ => 0)) 144 w1.heap.size rfl wz64).put 0 (wl 80 (tab f 80))
  rw [put_all _ _ (by rw [wl_length, wl_length])] at b5
  have B5 := hid b5
  have b0 := hid ((B0.out.alloc (.cells (wl 80 (fun _ => 0)).toArray 144)).kept (Kp.setCells w1.heap.size 0 (wl 80 (tab f 80))) (by have := B0.out.lt; omega))
  have b2 := hid ((B2.out.alloc (.cells (wl 80 (fun _ => 0)).toArray 144)).kept (Kp.setCells w1.heap.size 0 (wl 80 (tab f 80))) (by have := B2.out.lt; omega))
  have k2 := hid ((hk1.out.below (below_alloc w1 (.cells (wl 80 (fun _ => 0)).toArray 144))).kept (Kp.setCells w1.heap.size 0 (wl 80 (tab f 80))) (by have := hk1.out.lt; omega))
  have bel := hid (below_cells (below_next HB.out (below_alloc w1 (.cells (wl 80 (fun _ => 0)).toArray 144))) w1.heap.size 0 (wl 80 (tab f 80)) hz (by rw [size_alloc]; omega))
  rw [← wz64] at b0 b2 k2 bel
  clear s1 hz b5 B0 B2 hk1 HB HS HK
  obtain ⟨w2, hw2⟩ : ∃ x, World.setCells (w1.alloc (.cells (wl 80 (fun _ => 0)).toArray 144)) w1.heap.size 0 (wl 80 (tab f 80)) = x := ⟨_, rfl⟩
  rw [← wz64] at hw2
  rw [hw2]
  rw [hw2] at b0 b2 k2 bel B5
  clear hw2
  have HT := hid (tab_w f HF.out 80)
  obtain ⟨g5, hg5⟩ : ∃ x, w1.heap.size = x := ⟨_, rfl⟩
  rw [hg5]
  rw [hg5] at B5
  clear hg5
  obtain ⟨T, eT⟩ : ∃ x, tab f 80 = x := ⟨_, rfl⟩
  rw [eT]
  rw [eT] at B5 HT
  have hT : Hid (tab f 80 = T) := eT
  clear eT
  have c0 := b0.out.cell 0 _ (wl_get 8 h 0 (by omega))
  have c1 := b0.out.cell 1 _ (wl_get 8 h 1 (by omega))
  have c2 := b0.out.cell 2 _ (wl_get 8 h 2 (by omega))
  have c3 := b0.out.cell 3 _ (wl_get 8 h 3 (by omega))
  have c4 := b0.out.cell 4 _ (wl_get 8 h 4 (by omega))
  have c5 := b0.out.cell 5 _ (wl_get 8 h 5 (by omega))
  have c6 := b0.out.cell 6 _ (wl_get 8 h 6 (by omega))
  have c7 := b0.out.cell 7 _ (wl_get 8 h 7 (by omega))
  go_quiet (fail)
  go_wp2_with fail
  go_quiet (fail)
  go_wp2_with fail
  go_loopw [6, 7, 8, 9, 10, 11, 12, 13, 35] (fun x0 x1 x2 x3 x4 x5 x6 x7 i wr => ∃ t n : Nat, t ≤ 80 ∧ i = .int .i64 t ∧ x0 = .int .u64 (rnds h T t 0) ∧ x1 = .int .u64 (rnds h T t 1) ∧ x2 = .int .u64 (rnds h T t 2) ∧ x3 = .int .u64 (rnds h T t 3) ∧ x4 = .int .u64 (rnds h T t 4) ∧ x5 = .int .u64 (rnds h T t 5) ∧ x6 = .int .u64 (rnds h T t 6) ∧ x7 = .int .u64 (rnds h T t 7) ∧ wr = w2.drewN n) (fun _ _ _ _ _ _ _ _ i _ => 80 - (intOf i).toNat)
  case atStart => exact ⟨0, _, by omega, rfl, rfl, rfl, rfl, rfl, rfl, rfl, rfl, rfl, drewN_two _ _ _⟩
  case round =>
    obtain ⟨t, n, ht, rfl, rfl, rfl, rfl, rfl, rfl, rfl, rfl, rfl, rfl⟩ := hrel
    have HX := hid (rnds_w h T HH.out t)
    by_cases hlt : t < 80
    · have ck := k2.out t _ (wl_get 80 K t hlt)
      rw [Nat.zero_add] at ck
      have ct := B5.out.cell t _ (wl_get 80 T t hlt)
      have EX : Hid (rnds h T (t + 1) = stp (rnds h T t) (K t) (T t)) := rfl
      clear c0 c1 c2 c3 c4 c5 c6 c7
      obtain ⟨x, ex⟩ : ∃ x, rnds h T t = x := ⟨_, rfl⟩
      rw [ex]
      rw [ex] at HX EX
      clear ex
      obtain ⟨kt, ekt⟩ : ∃ x, K t = x := ⟨_, rfl⟩
      rw [ekt] at ck EX
      clear ekt
      obtain ⟨tt, ett⟩ : ∃ x, T t = x := ⟨_, rfl⟩
      rw [ett] at ct EX
      clear ett
      go_wp2_with fail
      go_quiet ((go_at_call 105; (first | with_reducible refine (right71 (x 4) 14 _ (HX.out _) (by omega)).mono ?_ | with_reducible refine (right71 (x 4) 18 _ (HX.out _) (by omega)).mono ?_ | with_reducible refine (right71 (x 4) 41 _ (HX.out _) (by omega)).mono ?_); rintro e w4 ⟨rfl, d, rfl⟩; exact ⟨rfl, _, drewN_three _ _ _ _⟩))
      go_wp2_with (go_at_call 105; refine (right71 _ _ _ (HX.out _) (by omega)).mono ?_; rintro e w' ⟨rfl, d, rfl⟩)
      go_roundw
      case rel =>
        refine ⟨t + 1, _, by omega, by go_num, ?_, ?_, ?_, ?_, ?_, ?_, ?_, ?_, rfl⟩ <;> rw [EX.out] <;> rfl
      case measure => simp [intOf]; omega
    · have ek : t = 80 := by omega
      subst ek
      have HC : Hid (∀ i, comp h f i = ad (h i) (rnds h T 80 i)) := fun i => by unfold comp; rw [hT.out]
      obtain ⟨x, ex⟩ : ∃ x, rnds h T 80 = x := ⟨_, rfl⟩
      rw [ex]
      rw [ex] at HC
      clear ex
      have e8 : Hid ((((((((((wl 8 h).set 0 (.int .u64 (ad (h 0) (x 0)))).set 1 (.int .u64 (ad (h 1) (x 1)))).set 2 (.int .u64 (ad (h 2) (x 2)))).set 3 (.int .u64 (ad (h 3) (x 3)))).set 4 (.int .u64 (ad (h 4) (x 4)))).set 5 (.int .u64 (ad (h 5) (x 5)))).set 6 (.int .u64 (ad (h 6) (x 6)))).set 7 (.int .u64 (ad (h 7) (x 7)))) = wl 8 (comp h f)) := by
        show _ = wl 8 (comp h f)
        rw [wl8 (comp h f), wl8 h]
        simp only [HC.out]
        rfl
      go_upto_region 11 with fail
      obtain ⟨W, hW⟩ : ∃ W, w2.drewN n = W := ⟨_, rfl⟩
      have d0 : Blk W w.heap.size (wl 8 h) 124 := by rw [← hW]; exact b0.out.drewN n
      have d2 : Blk W (w.heap.size + 1 + 1) (wl 8 (fun _ => 0)) 124 := by rw [← hW]; exact b2.out.drewN n
      have db : Below w.heap.size w W := by rw [← hW]; exact below_drew' bel.out n
      rw [hW]
      have D0 := hid d0
      have D2 := hid d2
      have DB := hid db
      clear hW d0 d2 db c0 c1 c2 c3 c4 c5 c6 c7 b0 b2 bel k2 B5
      have c0 := D0.out.cell 0 _ (wl_get 8 h 0 (by omega))
      have c1 := D0.out.cell 1 _ (wl_get 8 h 1 (by omega))
      have c2 := D0.out.cell 2 _ (wl_get 8 h 2 (by omega))
      have c3 := D0.out.cell 3 _ (wl_get 8 h 3 (by omega))
      have f0 := D0.out.frozen 0
      have f1 := D0.out.frozen 1
      have f2 := D0.out.frozen 2
      have f3 := D0.out.frozen 3
      go_upto_region 12 with fail
      obtain ⟨X, hX⟩ : ∃ X, ((((W.setCell ⟨w.heap.size, 0, none⟩ (.int .u64 (ad (h 0) (x 0)))).setCell ⟨w.heap.size, 1, none⟩ (.int .u64 (ad (h 1) (x 1)))).setCell ⟨w.heap.size, 2, none⟩ (.int .u64 (ad (h 2) (x 2)))).setCell ⟨w.heap.size, 3, none⟩ (.int .u64 (ad (h 3) (x 3)))) = X := ⟨_, rfl⟩
      have e0 : Blk X w.heap.size (((((wl 8 h).set 0 (.int .u64 (ad (h 0) (x 0)))).set 1 (.int .u64 (ad (h 1) (x 1)))).set 2 (.int .u64 (ad (h 2) (x 2)))).set 3 (.int .u64 (ad (h 3) (x 3)))) 124 := by
        rw [← hX]; exact (((D0.out.set 0 _).set 1 _).set 2 _).set 3 _
      have e2 : Blk X (w.heap.size + 1 + 1) (wl 8 (fun _ => 0)) 124 := by
        rw [← hX]; exact (((D2.out.other (by omega) _ _).other (by omega) _ _).other (by omega) _ _).other (by omega) _ _
      have eb : Below w.heap.size w X := by
        rw [← hX]
        have z := DB.out.size
        exact below_set (below_set (below_set (below_set DB.out _ _ _ (Nat.le_refl _) z) _ _ _ (Nat.le_refl _) (by simpa [World.setCell] using z)) _ _ _ (Nat.le_refl _) (by simpa [World.setCell] using z)) _ _ _ (Nat.le_refl _) (by simpa [World.setCell] using z)
      have hX' := hX
      simp only [ad] at hX'
      rw [hX']
      have E0 := hid e0
      have E2 := hid e2
      have EB := hid eb
      clear hX hX' e0 e2 eb c0 c1 c2 c3 f0 f1 f2 f3 D0 D2 DB
      have c4 := E0.out.cell 4 (.int .u64 (h 4)) rfl
      have c5 := E0.out.cell 5 (.int .u64 (h 5)) rfl
      have c6 := E0.out.cell 6 (.int .u64 (h 6)) rfl
      have c7 := E0.out.cell 7 (.int .u64 (h 7)) rfl
      have f4 := E0.out.frozen 4
      have f5 := E0.out.frozen 5
      have f6 := E0.out.frozen 6
      have f7 := E0.out.frozen 7
      go_upto_region 13 with fail
      obtain ⟨Y, hY⟩ : ∃ Y, ((((X.setCell ⟨w.heap.size, 4, none⟩ (.int .u64 (ad (h 4) (x 4)))).setCell ⟨w.heap.size, 5, none⟩ (.int .u64 (ad (h 5) (x 5)))).setCell ⟨w.heap.size, 6, none⟩ (.int .u64 (ad (h 6) (x 6)))).setCell ⟨w.heap.size, 7, none⟩ (.int .u64 (ad (h 7) (x 7)))) = Y := ⟨_, rfl⟩
      have g0 : Blk Y w.heap.size (wl 8 (comp h f)) 124 := by
        rw [← hY, ← e8.out]; exact (((E0.out.set 4 _).set 5 _).set 6 _).set 7 _
      have g2 : Blk Y (w.heap.size + 1 + 1) (wl 8 (fun _ => 0)) 124 := by
        rw [← hY]; exact (((E2.out.other (by omega) _ _).other (by omega) _ _).other (by omega) _ _).other (by omega) _ _
      have gb : Below w.heap.size w Y := by
        rw [← hY]
        have z := EB.out.size
        exact below_set (below_set (below_set (below_set EB.out _ _ _ (Nat.le_refl _) z) _ _ _ (Nat.le_refl _) (by simpa [World.setCell] using z)) _ _ _ (Nat.le_refl _) (by simpa [World.setCell] using z)) _ _ _ (Nat.le_refl _) (by simpa [World.setCell] using z)
      have hY' := hY
      simp only [ad] at hY'
      rw [hY']
      have GB := hid gb
      have l1 := LDh_run (g0.range 0 _ (fun j v h => by rw [Nat.zero_add]; exact h)) (wl_length _ _)
      have s1 := SVh_run (cs := wl 8 (comp h f)) (g2.there 0 8 (by rw [wl_length]; omega)) (wl_length _ _) (wl_one _ _)
      have b3 := g2.put 0 (wl 8 (comp h f))
      rw [put_all _ _ (by rw [wl_length, wl_length])] at b3
      have l2 := hid (LDh_run (b3.range 0 _ (fun j v h => by rw [Nat.zero_add]; exact h)) (wl_length _ _))
      clear hY hY' g0 g2 gb b3 c4 c5 c6 c7 f4 f5 f6 f7 E0 E2 EB
      go_wp2
      refine bodyPost_ret (v := .agg (wl 8 (comp h f)).toArray) ?_ rfl ⟨rfl, below_cells GB.out _ _ _ (by omega) GB.out.size⟩
      exact results_cell1 Tryz.results93 rfl l2.out
end Go.Proofs.YtojldjckpjokcaaGreatDoor.Sg
