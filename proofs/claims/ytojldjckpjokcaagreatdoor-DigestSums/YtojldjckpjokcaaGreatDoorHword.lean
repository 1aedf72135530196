/- What the program's function compress answers. -/
import Derived.Test.YtojldjckpjokcaaGreatDoorHwordA
namespace Go.Proofs.YtojldjckpjokcaaGreatDoor.Sh
open Go.ChangeShapes Go.WideShapes Go.ChangeAt Go.RowKit
open Go.Proofs.YtojldjckpjokcaaGreatDoor.By Go.Proofs.YtojldjckpjokcaaGreatDoor.Wd
theorem h8 : #[Value.int .u32 0, .int .u32 0, .int .u32 0, .int .u32 0, .int .u32 0, .int .u32 0, .int .u32 0, .int .u32 0] = (wl 8 (fun _ => 0)).toArray := by kernel_rfl
theorem wl8 (h : Nat → Int) : wl 8 h = [.int .u32 (h 0), .int .u32 (h 1), .int .u32 (h 2), .int .u32 (h 3), .int .u32 (h 4), .int .u32 (h 5), .int .u32 (h 6), .int .u32 (h 7)] := rfl
set_option maxRecDepth 4000 in
set_option maxHeartbeats 4000000 in
theorem compress64 (h f : Nat → Int) (hh : ∀ i, W32 (h i)) (hf : ∀ i, 0 ≤ f i ∧ f i < 256) (w : World) (hk : KT w) :
    Calls Tryz.prog 74 #[.agg (wl 8 h).toArray, .agg (bl 64 f).toArray] w fun e w' => e = .returned (.agg (wl 8 (comp h f)).toArray) ∧ Below w.heap.size w w' := by
  have HH := hid hh
  have HF := hid hf
  have HK := hid hk
  have l1 := LDb_run ((((Blk.new (w.alloc (.cells (wl 8 h).toArray 116)) (bl 64 f) 118)).alloc (.cells #[Value.int .u32 0, .int .u32 0, .int .u32 0, .int .u32 0, .int .u32 0, .int .u32 0, .int .u32 0, .int .u32 0] 116)).range 0 _ (fun j v h => by rw [Nat.zero_add]; exact h)) (bl_length _ _)
  rw [size_alloc] at l1
  clear hh hf hk
  go_enter Tryz.func74, Tryz.ntmps74
  go_wp2_with fail
  refine (spread70 f HF.out _).mono ?_
  rintro e w1 ⟨rfl, hb1⟩
  have b0 := (((Blk.new w (wl 8 h) 116).alloc (.cells (bl 64 f).toArray 118)).alloc (.cells (wl 8 (fun _ => 0)).toArray 116)).below hb1
  have b2 := ((Blk.newAt ((w.alloc (.cells (wl 8 h).toArray 116)).alloc (.cells (bl 64 f).toArray 118)) _ (wl 8 (fun _ => 0)) 116 (w.heap.size + 1 + 1) (by simp) h8)).below hb1
  have B0 := hid b0
  have B2 := hid b2
  clear b0 b2 l1
  have bel := below_next (below_next (below_next (below_alloc w _) (below_alloc _ _)) (below_alloc _ _)) hb1
  have HB := hid bel
  have hk1 := hid (HK.out.below bel)
  have HS := hid bel.size
  clear bel hb1
  have s1 := SVw_run (cs := wl 64 (tab f 64)) ((Blk.newAt w1 _ (wl 64 (fun _ => 0)) 132 w1.heap.size rfl wz64).there 0 64 (by rw [wl_length]; omega)) (wl_length _ _) (wl_one _ _)
  go_wp2_with fail
  have hz := HS.out
  have b5 := (Blk.newAt w1 _ (wl 64 (fun _ => 0)) 132 w1.heap.size rfl wz64).put 0 (wl 64 (tab f 64))
  rw [put_all _ _ (by rw [wl_length, wl_length])] at b5
  have B5 := hid b5
  have b0 := hid ((B0.out.alloc (.cells (wl 64 (fun _ => 0)).toArray 132)).kept (Kp.setCells w1.heap.size 0 (wl 64 (tab f 64))) (by have := B0.out.lt; omega))
  have b2 := hid ((B2.out.alloc (.cells (wl 64 (fun _ => 0)).toArray 132)).kept (Kp.setCells w1.heap.size 0 (wl 64 (tab f 64))) (by have := B2.out.lt; omega))
  have k2 := hid ((hk1.out.below (below_alloc w1 (.cells (wl 64 (fun _ => 0)).toArray 132))).kept (Kp.setCells w1.heap.size 0 (wl 64 (tab f 64))) (by have := hk1.out.lt; omega))
  have bel := hid (below_cells (below_next HB.out (below_alloc w1 (.cells (wl 64 (fun _ => 0)).toArray 132))) w1.heap.size 0 (wl 64 (tab f 64)) hz (by rw [size_alloc]; omega))
  rw [← wz64] at b0 b2 k2 bel
  clear s1 hz b5 B0 B2 hk1 HB HS HK
  obtain ⟨w2, hw2⟩ : ∃ x, World.setCells (w1.alloc (.cells (wl 64 (fun _ => 0)).toArray 132)) w1.heap.size 0 (wl 64 (tab f 64)) = x := ⟨_, rfl⟩
  rw [← wz64] at hw2
  rw [hw2]
  rw [hw2] at b0 b2 k2 bel B5
  clear hw2
  have HT := hid (tab_w f HF.out 64)
  obtain ⟨g5, hg5⟩ : ∃ x, w1.heap.size = x := ⟨_, rfl⟩
  rw [hg5]
  rw [hg5] at B5
  clear hg5
  obtain ⟨T, eT⟩ : ∃ x, tab f 64 = x := ⟨_, rfl⟩
  rw [eT]
  rw [eT] at B5 HT
  have hT : Hid (tab f 64 = T) := eT
  clear eT
  have c0 := b0.out.cell 0 _ (wl_get 8 h 0 (by omega))
  have c1 := b0.out.cell 1 _ (wl_get 8 h 1 (by omega))
  have c2 := b0.out.cell 2 _ (wl_get 8 h 2 (by omega))
  have c3 := b0.out.cell 3 _ (wl_get 8 h 3 (by omega))
  have c4 := b0.out.cell 4 _ (wl_get 8 h 4 (by omega))
  have c5 := b0.out.cell 5 _ (wl_get 8 h 5 (by omega))
  have c6 := b0.out.cell 6 _ (wl_get 8 h 6 (by omega))
  have c7 := b0.out.cell 7 _ (wl_get 8 h 7 (by omega))
  go_quiet (fail)
  go_wp2_with fail
  go_loopw [6, 7, 8, 9, 10, 11, 12, 13, 35] (fun x0 x1 x2 x3 x4 x5 x6 x7 i wr => ∃ t n : Nat, t ≤ 64 ∧ i = .int .i64 t ∧ x0 = .int .u32 (rnds h T t 0) ∧ x1 = .int .u32 (rnds h T t 1) ∧ x2 = .int .u32 (rnds h T t 2) ∧ x3 = .int .u32 (rnds h T t 3) ∧ x4 = .int .u32 (rnds h T t 4) ∧ x5 = .int .u32 (rnds h T t 5) ∧ x6 = .int .u32 (rnds h T t 6) ∧ x7 = .int .u32 (rnds h T t 7) ∧ wr = w2.drewN n) (fun _ _ _ _ _ _ _ _ i _ => 64 - (intOf i).toNat)
  case atStart => exact ⟨0, _, by omega, rfl, rfl, rfl, rfl, rfl, rfl, rfl, rfl, rfl, rfl⟩
  case round =>
    obtain ⟨t, n, ht, rfl, rfl, rfl, rfl, rfl, rfl, rfl, rfl, rfl, rfl⟩ := hrel
    have HX := hid (rnds_w h T HH.out t)
    by_cases hlt : t < 64
    · have ck := k2.out t _ (wl_get 64 K t hlt)
      rw [Nat.zero_add] at ck
      have ct := B5.out.cell t _ (wl_get 64 T t hlt)
      have EX : Hid (rnds h T (t + 1) = stp (rnds h T t) (K t) (T t)) := rfl
      clear c0 c1 c2 c3 c4 c5 c6 c7
      obtain ⟨x, ex⟩ : ∃ x, rnds h T t = x := ⟨_, rfl⟩
      rw [ex]
      rw [ex] at HX EX
      clear ex
      obtain ⟨kt, ekt⟩ : ∃ x, K t = x := ⟨_, rfl⟩
      rw [ekt] at ck EX
      clear ekt
      obtain ⟨tt, ett⟩ : ∃ x, T t = x := ⟨_, rfl⟩
      rw [ett] at ct EX
      clear ett
      go_wp2_with fail
      go_quiet ((go_at_call 89; (first | with_reducible refine (right71 (x 4) 6 _ (HX.out _) (by omega)).mono ?_ | with_reducible refine (right71 (x 4) 11 _ (HX.out _) (by omega)).mono ?_ | with_reducible refine (right71 (x 4) 25 _ (HX.out _) (by omega)).mono ?_); rintro e w4 ⟨rfl, d, rfl⟩; exact ⟨rfl, _, drewN_three _ _ _ _⟩))
      go_wp2_with (go_at_call 89; refine (right71 _ _ _ (HX.out _) (by omega)).mono ?_; rintro e w' ⟨rfl, d, rfl⟩)
      go_roundw
      case rel =>
        refine ⟨t + 1, _, by omega, by go_num, ?_, ?_, ?_, ?_, ?_, ?_, ?_, ?_, rfl⟩ <;> rw [EX.out] <;> rfl
      case measure => simp [intOf]; omega
    · have ek : t = 64 := by omega
      subst ek
      have HC : Hid (∀ i, comp h f i = ad (h i) (rnds h T 64 i)) := fun i => by unfold comp; rw [hT.out]
      obtain ⟨x, ex⟩ : ∃ x, rnds h T 64 = x := ⟨_, rfl⟩
      rw [ex]
      rw [ex] at HC
      clear ex
      have s1 := fun d => SVh_run (w := w2.drewN d) (cs := [.int .u32 ((h 0 + x 0) % 4294967296), .int .u32 ((h 1 + x 1) % 4294967296), .int .u32 ((h 2 + x 2) % 4294967296), .int .u32 ((h 3 + x 3) % 4294967296), .int .u32 ((h 4 + x 4) % 4294967296), .int .u32 ((h 5 + x 5) % 4294967296), .int .u32 ((h 6 + x 6) % 4294967296), .int .u32 ((h 7 + x 7) % 4294967296)]) ((b2.out.drewN d).there 0 8 (by rw [wl_length]; omega)) rfl (by intro u hu; simp at hu; rcases hu with rfl | rfl | rfl | rfl | rfl | rfl | rfl | rfl <;> rfl)
      go_wp2
      have b4 := (b2.out.drewN n).put 0 [.int .u32 ((h 0 + x 0) % 4294967296), .int .u32 ((h 1 + x 1) % 4294967296), .int .u32 ((h 2 + x 2) % 4294967296), .int .u32 ((h 3 + x 3) % 4294967296), .int .u32 ((h 4 + x 4) % 4294967296), .int .u32 ((h 5 + x 5) % 4294967296), .int .u32 ((h 6 + x 6) % 4294967296), .int .u32 ((h 7 + x 7) % 4294967296)]
      rw [put_all _ _ (by rw [wl_length]; rfl)] at b4
      have l2 := LDh_run (b4.range 0 _ (fun j v h => by rw [Nat.zero_add]; exact h)) rfl
      have e1 : [.int .u32 ((h 0 + x 0) % 4294967296), .int .u32 ((h 1 + x 1) % 4294967296), .int .u32 ((h 2 + x 2) % 4294967296), .int .u32 ((h 3 + x 3) % 4294967296), .int .u32 ((h 4 + x 4) % 4294967296), .int .u32 ((h 5 + x 5) % 4294967296), .int .u32 ((h 6 + x 6) % 4294967296), .int .u32 ((h 7 + x 7) % 4294967296)] = wl 8 (comp h f) := by rw [wl8]; simp only [HC.out]; rfl
      have hz := b2.out.lt
      refine bodyPost_ret (v := .agg (wl 8 (comp h f)).toArray) ?_ rfl ⟨rfl, below_cells (below_drew' bel.out _) _ _ _ (by omega) (by show w.heap.size ≤ w2.heap.size; omega)⟩
      rw [← e1]
      exact results_cell1 Tryz.results74 rfl l2
end Go.Proofs.YtojldjckpjokcaaGreatDoor.Sh
