/- The statement ShakeNames, walked. -/
import Derived.Test.YtjfjjhjajgodiaaDoorXcounts
import Derived.Test.YtjfjjhjajgodiaaDoorXany
namespace Go.Proofs.YtjfjjhjajgodiaaDoor.Kc
open Go.ChangeShapes Go.WideShapes Go.ChangeAt Go.RowKit
open Go.Proofs.YtjfjjhjajgodiaaDoor.By Go.Proofs.YtjfjjhjajgodiaaDoor.Wd
def nl0 : List Int := [1, 0]
def nl1 : List Int := [1, 255]
theorem nl0_b (i : Nat) : 0 ≤ lst nl0 i ∧ lst nl0 i < 256 := lst_bound nl0 (by decide) i
theorem nl1_b (i : Nat) : 0 ≤ lst nl1 i ∧ lst nl1 i < 256 := lst_bound nl1 (by decide) i
theorem lf0 : ∀ i, i < 2 → lf 0 i = lst nl0 i := by decide +kernel
theorem lf255 : ∀ i, i < 2 → lf 255 i = lst nl1 i := by decide +kernel
theorem nb0 : nb 0 = 1 := by decide
theorem nb255 : nb 255 = 1 := by decide
def nz : List Int := [0, 1]
theorem nz_b (i : Nat) : 0 ≤ lst nz i ∧ lst nz i < 256 := lst_bound nz (by decide) i
theorem rt0 : ∀ i, i < 1 + 1 → rt 0 i = lst nz i := by decide +kernel
def nbg : List Int := [1, 0, 2]
theorem nbg_b (i : Nat) : 0 ≤ lst nbg i ∧ lst nbg i < 256 := lst_bound nbg (by decide) i
theorem rt256 : ∀ i, i < 2 + 1 → rt 256 i = lst nbg i := by decide +kernel
def n77 : List Int := [7, 7]
theorem n77_b (i : Nat) : 0 ≤ lst n77 i ∧ lst n77 i < 256 := lst_bound n77 (by decide) i
def n777 : List Int := [7, 7, 7]
theorem n777_b (i : Nat) : 0 ≤ lst n777 i ∧ lst n777 i < 256 := lst_bound n777 (by decide) i
def np4 : List Int := [1, 4, 7, 7]
theorem np4_b (i : Nat) : 0 ≤ lst np4 i ∧ lst np4 i < 256 := lst_bound np4 (by decide) i
def np5 : List Int := [1, 5, 7, 7, 7]
theorem np5_b (i : Nat) : 0 ≤ lst np5 i ∧ lst np5 i < 256 := lst_bound np5 (by decide) i
def n11 : List Int := [1, 1]
theorem n11_b (i : Nat) : 0 ≤ lst n11 i ∧ lst n11 i < 256 := lst_bound n11 (by decide) i
theorem pN4 : pN 2 4 = 4 := by decide
theorem pg4 : ∀ i, i < 4 → pg 2 (lst n77) 4 i = lst np4 i := by decide +kernel
theorem pN5 : pN 3 5 = 5 := by decide
theorem pg5 : ∀ i, i < 5 → pg 3 (lst n777) 5 i = lst np5 i := by decide +kernel
theorem pN1 : pN 0 1 = 2 := by decide
theorem pg1 : ∀ i, i < 2 → pg 0 no0 1 i = lst n11 i := by decide +kernel
theorem sn0 : sn 0 = 2 := by decide
theorem sg0 : ∀ i, i < 2 → sg 0 no0 i = lst nl0 i := by decide +kernel
def n97 : List Int := [97]
theorem n97_b (i : Nat) : 0 ≤ lst n97 i ∧ lst n97 i < 256 := lst_bound n97 (by decide) i
def ns1 : List Int := [1, 8, 97]
theorem ns1_b (i : Nat) : 0 ≤ lst ns1 i ∧ lst ns1 i < 256 := lst_bound ns1 (by decide) i
theorem sn1 : sn 1 = 3 := by decide
theorem sg1 : ∀ i, i < 3 → sg 1 (lst n97) i = lst ns1 i := by decide +kernel
theorem tk8 : tk 8 = 8 := by decide
theorem tF8 (r a : Nat) (f : Nat → Int) (c : Nat) (h : Nat → Int) (m : Nat) (g : Nat → Int) : tF r a f c h m g 8 = Z.say r (tY r a f c h m g) := by funext i; exact if_neg (by decide)
theorem tc8 : tc 8 = 0 := by decide
theorem tc137 : tc 137 = 0 := by decide
theorem tc0 : tc 0 = 0 := by decide
theorem tc168 : tc 168 = 0 := by decide
theorem tc169 : tc 169 = 0 := by decide
theorem tcm : tc (-1) = 2 := by decide
theorem tcb : tc 65537 = 2 := by decide
theorem tq136_0_8 (g : Nat → Int) : tC 136 0 no0 0 no0 0 g 8 = 1 := by
  have h := tC_eq (.inr ⟨rfl, rfl⟩ : Str 256 136) 0 0 0 8 no0 no0 g (by omega)
  rw [show ((8 : Nat) : Int) = 8 from rfl] at h
  rw [h]; decide
theorem tq136_0_137 (g : Nat → Int) : tC 136 0 no0 0 no0 0 g 137 = 2 := by
  have h := tC_eq (.inr ⟨rfl, rfl⟩ : Str 256 136) 0 0 0 137 no0 no0 g (by omega)
  rw [show ((137 : Nat) : Int) = 137 from rfl] at h
  rw [h]; decide
theorem tq168_168_0 (g : Nat → Int) : tC 168 0 no0 0 no0 168 g 0 = 2 := by
  have h := tC_eq (.inl ⟨rfl, rfl⟩ : Str 128 168) 0 0 168 0 no0 no0 g (by omega)
  rw [show ((0 : Nat) : Int) = 0 from rfl] at h
  rw [h]; decide
theorem tq168_0_168 (g : Nat → Int) : tC 168 0 no0 0 no0 0 g 168 = 1 := by
  have h := tC_eq (.inl ⟨rfl, rfl⟩ : Str 128 168) 0 0 0 168 no0 no0 g (by omega)
  rw [show ((168 : Nat) : Int) = 168 from rfl] at h
  rw [h]; decide
theorem tq168_0_169 (g : Nat → Int) : tC 168 0 no0 0 no0 0 g 169 = 2 := by
  have h := tC_eq (.inl ⟨rfl, rfl⟩ : Str 128 168) 0 0 0 169 no0 no0 g (by omega)
  rw [show ((169 : Nat) : Int) = 169 from rfl] at h
  rw [h]; decide
theorem tqm (g : Nat → Int) : tC 168 0 no0 0 no0 0 g (-1) = 0 := if_pos (by decide)
theorem tqb (g : Nat → Int) : tC 168 0 no0 0 no0 0 g 65537 = 0 := if_pos (by decide)
theorem ev8 : evk [] 8 = [⟨3, 200, 8⟩] := evk_one 7 (by omega)
set_option maxRecDepth 4000 in
set_option maxHeartbeats 8000000 in
theorem names_walk (w : World) (hk : KT w) :
    Calls Tryd.prog 5 #[] w fun e w' => e = .returned (.bool true) ∧ Below w.heap.size w w' := by
  have G0 := hid (GS.start w hk)
  clear hk
  obtain ⟨x1, h1⟩ : ∃ X, w.alloc (.cells (bl 2 (lst nl0)).toArray 5) = X := ⟨_, rfl⟩
  obtain ⟨x2, h2⟩ : ∃ X, x1.alloc (.cells (bl 2 (lst nl1)).toArray 5) = X := ⟨_, rfl⟩
  obtain ⟨x3, h3⟩ : ∃ X, x2.alloc (.cells (bl 3 (lst e3)).toArray 5) = X := ⟨_, rfl⟩
  have z1 : x1.heap.size = w.heap.size + 1 := by rw [← h1]; simp
  have z2 : x2.heap.size = w.heap.size + 1 + 1 := by rw [← h2]; simp [z1]
  have z3 : x3.heap.size = w.heap.size + 1 + 1 + 1 := by rw [← h3]; simp [z2]
  obtain ⟨x4, h4⟩ : ∃ X, x3.alloc (.cells [Value.slice (some ⟨w.heap.size, 0, none⟩) 2 2, .slice (some ⟨w.heap.size + 1, 0, none⟩) 2 2, .slice (some ⟨w.heap.size + 1 + 1, 0, none⟩) 3 3].toArray 22) = X := ⟨_, rfl⟩
  have z4 : x4.heap.size = w.heap.size + 1 + 1 + 1 + 1 := by rw [← h4]; simp [z3]
  obtain ⟨x5, h5⟩ : ∃ X, x4.alloc (.cells [Value.int .i64 0, .int .i64 255, .int .i64 256].toArray 3) = X := ⟨_, rfl⟩
  have b1 : Below w.heap.size w x1 := by rw [← h1]; exact below_alloc _ _
  have b2 : Below x1.heap.size x1 x2 := by rw [← h2]; exact below_alloc _ _
  have b3 : Below x2.heap.size x2 x3 := by rw [← h3]; exact below_alloc _ _
  have b4 : Below x3.heap.size x3 x4 := by rw [← h4]; exact below_alloc _ _
  have b5 : Below x4.heap.size x4 x5 := by rw [← h5]; exact below_alloc _ _
  have R0 : Hid (By.RB x5 (.slice (some ⟨w.heap.size, 0, none⟩) 2 2) 2 (lst nl0)) := by
    have h : By.RB x1 (.slice (some ⟨w.heap.size, 0, none⟩) 2 2) 2 (lst nl0) := by rw [← h1]; exact rb_lit w _ 2 (lst nl0) nl0_b (by decide) (by decide) rfl
    exact (((h.below b2).below b3).below b4).below b5
  have R1 : Hid (By.RB x5 (.slice (some ⟨w.heap.size + 1, 0, none⟩) 2 2) 2 (lst nl1)) := by
    have h : By.RB x2 (.slice (some ⟨w.heap.size + 1, 0, none⟩) 2 2) 2 (lst nl1) := by rw [← h2]; exact rb_lit' x1 _ _ 2 (lst nl1) z1.symm nl1_b (by decide) (by decide) rfl
    exact ((h.below b3).below b4).below b5
  have R2 : Hid (By.RB x5 (.slice (some ⟨w.heap.size + 1 + 1, 0, none⟩) 3 3) 3 (lst e3)) := by
    have h : By.RB x3 (.slice (some ⟨w.heap.size + 1 + 1, 0, none⟩) 3 3) 3 (lst e3) := by rw [← h3]; exact rb_lit' x2 _ _ 3 (lst e3) z2.symm e3_b (by decide) (by decide) rfl
    exact (h.below b4).below b5
  have CL : Hid (Blk x5 (w.heap.size + 1 + 1 + 1) [Value.slice (some ⟨w.heap.size, 0, none⟩) 2 2, .slice (some ⟨w.heap.size + 1, 0, none⟩) 2 2, .slice (some ⟨w.heap.size + 1 + 1, 0, none⟩) 3 3] 22) := by
    have h : Blk x4 (w.heap.size + 1 + 1 + 1) [Value.slice (some ⟨w.heap.size, 0, none⟩) 2 2, .slice (some ⟨w.heap.size + 1, 0, none⟩) 2 2, .slice (some ⟨w.heap.size + 1 + 1, 0, none⟩) 3 3] 22 := by rw [← h4, ← z3]; exact Blk.new x3 _ _
    exact h.below b5
  have CS : Hid (Blk x5 (w.heap.size + 1 + 1 + 1 + 1) [Value.int .i64 0, .int .i64 255, .int .i64 256] 3) := by
    show Blk x5 (w.heap.size + 1 + 1 + 1 + 1) _ _
    rw [← h5, ← z4]; exact Blk.new x4 _ _
  have G5 := hid (((((G0.out.below b1).below b2).below b3).below b4).below b5)
  have hx5 : ((((w.alloc (Obj.cells #[Value.int IntKind.u8 1, Value.int IntKind.u8 0] 5)).alloc (Obj.cells #[Value.int IntKind.u8 1, Value.int IntKind.u8 255] 5)).alloc (Obj.cells #[Value.int IntKind.u8 2, Value.int IntKind.u8 1, Value.int IntKind.u8 0] 5)).alloc (Obj.cells #[Value.slice (some { block := w.heap.size, off := 0 }) 2 2, Value.slice (some { block := w.heap.size + 1, off := 0 }) 2 2, Value.slice (some { block := w.heap.size + 1 + 1, off := 0 }) 3 3] 22)).alloc (Obj.cells #[Value.int IntKind.i64 0, Value.int IntKind.i64 255, Value.int IntKind.i64 256] 3) = x5 := by
    rw [← h5, ← h4, ← h3, ← h2, ← h1]; rfl
  have HX5 := hid hx5
  clear h1 h2 h3 h4 h5 z1 z2 z3 z4 b1 b2 b3 b4 b5 hx5 G0
  go_enter Tryd.func5, Tryd.ntmps5
  go_wp2_with fail
  rw [HX5.out]
  clear HX5
  obtain ⟨bA, eA⟩ : ∃ x, w.heap.size = x := ⟨_, rfl⟩
  obtain ⟨bB, eB⟩ : ∃ x, bA + 1 = x := ⟨_, rfl⟩
  obtain ⟨bC, eC'⟩ : ∃ x, bB + 1 = x := ⟨_, rfl⟩
  obtain ⟨bD, eD⟩ : ∃ x, bC + 1 = x := ⟨_, rfl⟩
  obtain ⟨bE, eE⟩ : ∃ x, bD + 1 = x := ⟨_, rfl⟩
  rw [eA, eB, eC', eD, eE]
  rw [eA, eB, eC', eD, eE] at CS
  rw [eA, eB, eC', eD] at CL
  rw [eA] at R0
  rw [eA, eB] at R1
  rw [eA, eB, eC'] at R2
  have HB := hid eA
  rw [eA] at G5
  clear eA eB eC' eD eE
  go_loopw [4] (fun x wr => ∃ j : Nat, j ≤ 3 ∧ x = .int .i64 j ∧ Below x5.heap.size x5 wr) (fun x _ => 3 - (intOf x).toNat)
  case atStart => exact ⟨0, by omega, rfl, Below.refl _ _⟩
  case round =>
    obtain ⟨j, hj, rfl, hb⟩ := hrel
    have BB := hid hb
    clear hb
    by_cases hj3 : j < 3
    · have h012 : j = 0 ∨ j = 1 ∨ j = 2 := by omega
      rcases h012 with rfl | rfl | rfl
      · have c1 := (CS.out.below BB.out).cell 0 _ rfl
        go_wp2_with fail
        refine (leftOk 0 wr (by omega)).mono ?_
        rintro e y1 ⟨v1, rfl, ho, hb⟩
        rw [nb0] at ho
        obtain ⟨a1, k1, rfl⟩ := own_slice ho
        have O1 := hid (own_congr ho nl0_b lf0)
        have B1 := hid (below_next BB.out hb)
        have c2 := (CL.out.below B1.out).cell 0 _ rfl
        clear ho hb c1
        go_wp2_with fail
        refine (same_true _ _ 2 _ _ _ O1.out.reads (R0.out.below B1.out) (by omega) (fun _ _ => rfl)).mono ?_
        rintro e y2 ⟨rfl, d2, hw⟩
        have B2 : Hid (Below x5.heap.size x5 y2) := by rw [hw]; exact below_drew' B1.out _
        clear hw c2 B1 O1
        go_wp2_with fail
        exact ⟨⟨1, by omega, by go_num, B2.out⟩, by simp [intOf]⟩
      · have c1 := (CS.out.below BB.out).cell 1 _ rfl
        go_wp2_with fail
        refine (leftOk 255 wr (by omega)).mono ?_
        rintro e y1 ⟨v1, rfl, ho, hb⟩
        rw [nb255] at ho
        obtain ⟨a1, k1, rfl⟩ := own_slice ho
        have O1 := hid (own_congr ho nl1_b lf255)
        have B1 := hid (below_next BB.out hb)
        have c2 := (CL.out.below B1.out).cell 1 _ rfl
        clear ho hb c1
        go_wp2_with fail
        refine (same_true _ _ 2 _ _ _ O1.out.reads (R1.out.below B1.out) (by omega) (fun _ _ => rfl)).mono ?_
        rintro e y2 ⟨rfl, d2, hw⟩
        have B2 : Hid (Below x5.heap.size x5 y2) := by rw [hw]; exact below_drew' B1.out _
        clear hw c2 B1 O1
        go_wp2_with fail
        exact ⟨⟨2, by omega, by go_num, B2.out⟩, by simp [intOf]⟩
      · have c1 := (CS.out.below BB.out).cell 2 _ rfl
        go_wp2_with fail
        refine (leftOk 256 wr (by omega)).mono ?_
        rintro e y1 ⟨v1, rfl, ho, hb⟩
        rw [nb256] at ho
        obtain ⟨a1, k1, rfl⟩ := own_slice ho
        have O1 := hid (own_congr ho e3_b lf256)
        have B1 := hid (below_next BB.out hb)
        have c2 := (CL.out.below B1.out).cell 2 _ rfl
        clear ho hb c1
        go_wp2_with fail
        refine (same_true _ _ 3 _ _ _ O1.out.reads (R2.out.below B1.out) (by omega) (fun _ _ => rfl)).mono ?_
        rintro e y2 ⟨rfl, d2, hw⟩
        have B2 : Hid (Below x5.heap.size x5 y2) := by rw [hw]; exact below_drew' B1.out _
        clear hw c2 B1 O1
        go_wp2_with fail
        exact ⟨⟨3, by omega, by go_num, B2.out⟩, by simp [intOf]⟩
    · have hj2 : j = 3 := by omega
      subst hj2
      have G6 := hid (G5.out.below BB.out)
      clear R0 R1 R2 CL CS BB G5
      have L6 := hid (LS.nil (w := wr) (B := bA) G6.out.hB)
      go_wp2_with fail
      refine (leftBad (-1) wr (by omega)).mono ?_
      rintro e wr ⟨rfl, rfl⟩
      go_wp2_with fail
      refine (rightOk 0 wr (by omega)).mono ?_
      rintro e y7 ⟨v7, rfl, ho, hb⟩
      rw [nb0] at ho
      obtain ⟨a7, c7, rfl⟩ := own_slice ho
      have L7 := hid (L6.out.snoc hb (own_congr ho nz_b rt0))
      have G7 := hid (G6.out.below hb)
      clear ho hb L6 G6
      go_wp2_with fail
      refine (rightOk 256 y7 (by omega)).mono ?_
      rintro e y8 ⟨v8, rfl, ho, hb⟩
      rw [nb256] at ho
      obtain ⟨a8, c8, rfl⟩ := own_slice ho
      have L8 := hid (L7.out.snoc hb (own_congr ho nbg_b rt256))
      have G8 := hid (G7.out.below hb)
      clear ho hb L7 G7
      go_wp2_with fail
      have R9 := hid (rb_lit y8 (bl 2 (lst n77)).toArray 2 (lst n77) n77_b (by decide) (by decide) rfl)
      have hb := below_alloc y8 (.cells (bl 2 (lst n77)).toArray 5)
      have L9 := hid (L8.out.below hb)
      have G9 := hid (G8.out.below hb)
      obtain ⟨y9, hy⟩ : ∃ Y, y8.alloc (.cells (bl 2 (lst n77)).toArray 5) = Y := ⟨_, rfl⟩
      rw [hy] at R9 L9 G9
      obtain ⟨z9, hz9⟩ : ∃ z, y8.heap.size = z := ⟨_, rfl⟩
      rw [hz9] at R9
      rw [hz9, show y8.alloc (Obj.cells #[Value.int IntKind.u8 7, Value.int IntKind.u8 7] 5) = y9 from hy]
      clear hb hy hz9 L8 G8
      refine (padOk 2 4 (lst n77) _ y9 R9.out (by omega) (by omega) (by omega)).mono ?_
      rintro e y10 ⟨v10, rfl, ho, hb⟩
      rw [pN4] at ho
      obtain ⟨a10, c10, rfl⟩ := own_slice ho
      have L10 := hid (L9.out.snoc hb (own_congr ho np4_b pg4))
      have G10 := hid (G9.out.below hb)
      clear ho hb L9 G9 R9
      go_wp2_with fail
      have R11 := hid (rb_lit y10 (bl 3 (lst n777)).toArray 3 (lst n777) n777_b (by decide) (by decide) rfl)
      have hb := below_alloc y10 (.cells (bl 3 (lst n777)).toArray 5)
      have L11 := hid (L10.out.below hb)
      have G11 := hid (G10.out.below hb)
      obtain ⟨y11, hy⟩ : ∃ Y, y10.alloc (.cells (bl 3 (lst n777)).toArray 5) = Y := ⟨_, rfl⟩
      rw [hy] at R11 L11 G11
      obtain ⟨z11, hz11⟩ : ∃ z, y10.heap.size = z := ⟨_, rfl⟩
      rw [hz11] at R11
      rw [hz11, show y10.alloc (Obj.cells #[Value.int IntKind.u8 7, Value.int IntKind.u8 7, Value.int IntKind.u8 7] 5) = y11 from hy]
      clear hb hy hz11 L10 G10
      refine (padOk 3 5 (lst n777) _ y11 R11.out (by omega) (by omega) (by omega)).mono ?_
      rintro e y12 ⟨v12, rfl, ho, hb⟩
      rw [pN5] at ho
      obtain ⟨a12, c12, rfl⟩ := own_slice ho
      have L12 := hid (L11.out.snoc hb (own_congr ho np5_b pg5))
      have G12 := hid (G11.out.below hb)
      clear ho hb L11 G11 R11
      go_wp2_with fail
      refine (padOk 0 1 no0 _ y12 (rb_none _) (by omega) (by omega) (by omega)).mono ?_
      rintro e y13 ⟨v13, rfl, ho, hb⟩
      rw [pN1] at ho
      obtain ⟨a13, c13, rfl⟩ := own_slice ho
      have L13 := hid (L12.out.snoc hb (own_congr ho n11_b pg1))
      have G13 := hid (G12.out.below hb)
      clear ho hb L12 G12
      go_wp2_with fail
      refine (padBad 0 _ y13 (by omega)).mono ?_
      rintro e y13 ⟨rfl, rfl⟩
      go_wp2_with fail
      refine (padBad 257 _ y13 (by omega)).mono ?_
      rintro e y13 ⟨rfl, rfl⟩
      go_wp2_with fail
      have R14 := hid (rb_lit y13 (bl 2 (lst nz)).toArray 2 (lst nz) nz_b (by decide) (by decide) rfl)
      have hb := below_alloc y13 (.cells (bl 2 (lst nz)).toArray 5)
      have L14 := hid (L13.out.below hb)
      have G14 := hid (G13.out.below hb)
      obtain ⟨y14, hy⟩ : ∃ Y, y13.alloc (.cells (bl 2 (lst nz)).toArray 5) = Y := ⟨_, rfl⟩
      rw [hy] at R14 L14 G14
      obtain ⟨z14, hz14⟩ : ∃ z, y13.heap.size = z := ⟨_, rfl⟩
      rw [hz14] at R14
      rw [hz14, show y13.alloc (Obj.cells #[Value.int IntKind.u8 0, Value.int IntKind.u8 1] 5) = y14 from hy]
      clear hb hy hz14 L13 G13
      refine (same_true _ _ 2 _ _ _ (L14.out.at (i := 0) rfl).reads R14.out (by omega) (fun _ _ => rfl)).mono ?_
      rintro e y15 ⟨rfl, d15, hw⟩
      have hb : Below y14.heap.size y14 y15 := by rw [hw]; exact below_drewN _ _
      have L15 := hid (L14.out.below hb)
      have G15 := hid (G14.out.below hb)
      clear hw hb L14 G14 R14
      go_wp2_with fail
      have R16 := hid (rb_lit y15 (bl 3 (lst nbg)).toArray 3 (lst nbg) nbg_b (by decide) (by decide) rfl)
      have hb := below_alloc y15 (.cells (bl 3 (lst nbg)).toArray 5)
      have L16 := hid (L15.out.below hb)
      have G16 := hid (G15.out.below hb)
      obtain ⟨y16, hy⟩ : ∃ Y, y15.alloc (.cells (bl 3 (lst nbg)).toArray 5) = Y := ⟨_, rfl⟩
      rw [hy] at R16 L16 G16
      obtain ⟨z16, hz16⟩ : ∃ z, y15.heap.size = z := ⟨_, rfl⟩
      rw [hz16] at R16
      rw [hz16, show y15.alloc (Obj.cells #[Value.int IntKind.u8 1, Value.int IntKind.u8 0, Value.int IntKind.u8 2] 5) = y16 from hy]
      clear hb hy hz16 L15 G15
      refine (same_true _ _ 3 _ _ _ (L16.out.at (i := 1) rfl).reads R16.out (by omega) (fun _ _ => rfl)).mono ?_
      rintro e y17 ⟨rfl, d17, hw⟩
      have hb : Below y16.heap.size y16 y17 := by rw [hw]; exact below_drewN _ _
      have L17 := hid (L16.out.below hb)
      have G17 := hid (G16.out.below hb)
      clear hw hb L16 G16 R16
      go_wp2_with fail
      have R18 := hid (rb_lit y17 (bl 4 (lst np4)).toArray 4 (lst np4) np4_b (by decide) (by decide) rfl)
      have hb := below_alloc y17 (.cells (bl 4 (lst np4)).toArray 5)
      have L18 := hid (L17.out.below hb)
      have G18 := hid (G17.out.below hb)
      obtain ⟨y18, hy⟩ : ∃ Y, y17.alloc (.cells (bl 4 (lst np4)).toArray 5) = Y := ⟨_, rfl⟩
      rw [hy] at R18 L18 G18
      obtain ⟨z18, hz18⟩ : ∃ z, y17.heap.size = z := ⟨_, rfl⟩
      rw [hz18] at R18
      rw [hz18, show y17.alloc (Obj.cells #[Value.int IntKind.u8 1, Value.int IntKind.u8 4, Value.int IntKind.u8 7, Value.int IntKind.u8 7] 5) = y18 from hy]
      clear hb hy hz18 L17 G17
      refine (same_true _ _ 4 _ _ _ (L18.out.at (i := 2) rfl).reads R18.out (by omega) (fun _ _ => rfl)).mono ?_
      rintro e y19 ⟨rfl, d19, hw⟩
      have hb : Below y18.heap.size y18 y19 := by rw [hw]; exact below_drewN _ _
      have L19 := hid (L18.out.below hb)
      have G19 := hid (G18.out.below hb)
      clear hw hb L18 G18 R18
      go_wp2_with fail
      have R20 := hid (rb_lit y19 (bl 5 (lst np5)).toArray 5 (lst np5) np5_b (by decide) (by decide) rfl)
      have hb := below_alloc y19 (.cells (bl 5 (lst np5)).toArray 5)
      have L20 := hid (L19.out.below hb)
      have G20 := hid (G19.out.below hb)
      obtain ⟨y20, hy⟩ : ∃ Y, y19.alloc (.cells (bl 5 (lst np5)).toArray 5) = Y := ⟨_, rfl⟩
      rw [hy] at R20 L20 G20
      obtain ⟨z20, hz20⟩ : ∃ z, y19.heap.size = z := ⟨_, rfl⟩
      rw [hz20] at R20
      rw [hz20, show y19.alloc (Obj.cells #[Value.int IntKind.u8 1, Value.int IntKind.u8 5, Value.int IntKind.u8 7, Value.int IntKind.u8 7, Value.int IntKind.u8 7] 5) = y20 from hy]
      clear hb hy hz20 L19 G19
      refine (same_true _ _ 5 _ _ _ (L20.out.at (i := 3) rfl).reads R20.out (by omega) (fun _ _ => rfl)).mono ?_
      rintro e y21 ⟨rfl, d21, hw⟩
      have hb : Below y20.heap.size y20 y21 := by rw [hw]; exact below_drewN _ _
      have L21 := hid (L20.out.below hb)
      have G21 := hid (G20.out.below hb)
      clear hw hb L20 G20 R20
      go_wp2_with fail
      have R22 := hid (rb_lit y21 (bl 2 (lst n11)).toArray 2 (lst n11) n11_b (by decide) (by decide) rfl)
      have hb := below_alloc y21 (.cells (bl 2 (lst n11)).toArray 5)
      have L22 := hid (L21.out.below hb)
      have G22 := hid (G21.out.below hb)
      obtain ⟨y22, hy⟩ : ∃ Y, y21.alloc (.cells (bl 2 (lst n11)).toArray 5) = Y := ⟨_, rfl⟩
      rw [hy] at R22 L22 G22
      obtain ⟨z22, hz22⟩ : ∃ z, y21.heap.size = z := ⟨_, rfl⟩
      rw [hz22] at R22
      rw [hz22, show y21.alloc (Obj.cells #[Value.int IntKind.u8 1, Value.int IntKind.u8 1] 5) = y22 from hy]
      clear hb hy hz22 L21 G21
      refine (same_true _ _ 2 _ _ _ (L22.out.at (i := 4) rfl).reads R22.out (by omega) (fun _ _ => rfl)).mono ?_
      rintro e y23 ⟨rfl, d23, hw⟩
      have hb : Below y22.heap.size y22 y23 := by rw [hw]; exact below_drewN _ _
      have L23 := hid (L22.out.below hb)
      have G23 := hid (G22.out.below hb)
      clear hw hb L22 G22 R22
      go_wp2_with fail
      refine (string1 0 no0 _ y23 (rb_none _) (by omega)).mono ?_
      rintro e y24 ⟨v24, rfl, ho, hb⟩
      rw [sn0] at ho
      obtain ⟨a24, c24, rfl⟩ := own_slice ho
      have L24 := hid (L23.out.snoc hb (own_congr ho nl0_b sg0))
      have G24 := hid (G23.out.below hb)
      clear ho hb L23 G23
      go_wp2_with fail
      have R25 := hid (rb_lit y24 (bl 2 (lst nl0)).toArray 2 (lst nl0) nl0_b (by decide) (by decide) rfl)
      have hb := below_alloc y24 (.cells (bl 2 (lst nl0)).toArray 5)
      have L25 := hid (L24.out.below hb)
      have G25 := hid (G24.out.below hb)
      obtain ⟨y25, hy⟩ : ∃ Y, y24.alloc (.cells (bl 2 (lst nl0)).toArray 5) = Y := ⟨_, rfl⟩
      rw [hy] at R25 L25 G25
      obtain ⟨z25, hz25⟩ : ∃ z, y24.heap.size = z := ⟨_, rfl⟩
      rw [hz25] at R25
      rw [hz25, show y24.alloc (Obj.cells #[Value.int IntKind.u8 1, Value.int IntKind.u8 0] 5) = y25 from hy]
      clear hb hy hz25 L24 G24
      refine (same_true _ _ 2 _ _ _ (L25.out.at (i := 5) rfl).reads R25.out (by omega) (fun _ _ => rfl)).mono ?_
      rintro e y26 ⟨rfl, d26, hw⟩
      have hb : Below y25.heap.size y25 y26 := by rw [hw]; exact below_drewN _ _
      have L26 := hid (L25.out.below hb)
      have G26 := hid (G25.out.below hb)
      clear hw hb L25 G25 R25
      have hcv := Lib.run_convert_bytes_const (P := Tryd.prog) y26 22 5 #[Value.int IntKind.u8 97] 1 1 Tryd.underlying22 Tryd.underlying5
      go_wp2_with fail
      have R27 := hid (rb_marked y26 1 (lst n97) (1, 2) n97_b (by decide))
      have hb := below_alloc y26 (.cells (bl 1 (lst n97)).toArray 5 (1, 2))
      have L27 := hid (L26.out.below hb)
      have G27 := hid (G26.out.below hb)
      refine (string1 1 (lst n97) _ _ R27.out (by omega)).mono ?_
      clear hb hcv L26 G26
      rintro e y28 ⟨v28, rfl, ho, hb⟩
      rw [sn1] at ho
      obtain ⟨a28, c28, rfl⟩ := own_slice ho
      have L28 := hid (L27.out.snoc hb (own_congr ho ns1_b sg1))
      have G28 := hid (G27.out.below hb)
      clear ho hb L27 G27 R27
      go_wp2_with fail
      have R29 := hid (rb_lit y28 (bl 3 (lst ns1)).toArray 3 (lst ns1) ns1_b (by decide) (by decide) rfl)
      have hb := below_alloc y28 (.cells (bl 3 (lst ns1)).toArray 5)
      have L29 := hid (L28.out.below hb)
      have G29 := hid (G28.out.below hb)
      obtain ⟨y29, hy⟩ : ∃ Y, y28.alloc (.cells (bl 3 (lst ns1)).toArray 5) = Y := ⟨_, rfl⟩
      rw [hy] at R29 L29 G29
      obtain ⟨z29, hz29⟩ : ∃ z, y28.heap.size = z := ⟨_, rfl⟩
      rw [hz29] at R29
      rw [hz29, show y28.alloc (Obj.cells #[Value.int IntKind.u8 1, Value.int IntKind.u8 8, Value.int IntKind.u8 97] 5) = y29 from hy]
      clear hb hy hz29 L28 G28
      refine (same_true _ _ 3 _ _ _ (L29.out.at (i := 6) rfl).reads R29.out (by omega) (fun _ _ => rfl)).mono ?_
      rintro e y30 ⟨rfl, d30, hw⟩
      have hb : Below y29.heap.size y29 y30 := by rw [hw]; exact below_drewN _ _
      have L30 := hid (L29.out.below hb)
      have G30 := hid (G29.out.below hb)
      clear hw hb L29 G29 R29
      go_wp2_with fail
      refine (new9 y30).mono ?_
      rintro e y31 ⟨rfl, hl, hb⟩
      have G31 := hid (show GS w bA [] [⟨true, y30.heap.size, .slice none 0 0, evk [] 0⟩] y31 from G30.out.addLed hb (o := true) hl)
      obtain ⟨lb, hlb⟩ : ∃ x, y30.heap.size = x := ⟨_, rfl⟩
      rw [hlb] at G31
      rw [hlb]
      have L31 := hid (LS.nil (w := y31) (B := bA) G31.out.hB)
      clear hl hb hlb L30 G30
      go_wp2_with fail
      refine (shake256_any 0 0 no0 8 _ (some lb) (SE ⟨true, lb, .slice none 0 0, evk [] 0⟩) y31 G31.out.kt (GS.no0 (leds1 := []) G31.out) (GS.no1 (leds1 := []) G31.out) (GS.lgP (leds1 := []) G31.out) (by omega) (fun _ _ => rb_none _) (by omega)).mono ?_
      rintro e y32 ⟨v32, rfl, ho, hlg, hkp⟩
      rw [tc8]
      rw [tq136_0_8] at hlg
      rw [tk8, tF8] at ho
      obtain ⟨a32, c32, rfl⟩ := own_slice ho
      obtain ⟨lv32, hG, hko⟩ := GS.turnP (leds1 := []) G31.out hlg hkp
      have L32 := hid (L31.out.snocO hko hkp.size (own_congr ho e256_b (fun i hi => say256 no0 i hi)))
      have G32 := hid (show GS w bA [] [⟨true, lb, lv32, evk [] 1⟩] y32 from hG)
      clear ho hlg hkp hG hko L31 G31
      go_wp2_with fail
      refine (shake256_any 0 1 no0 137 _ (some lb) (SE ⟨true, lb, lv32, evk [] 1⟩) y32 G32.out.kt (GS.no0 (leds1 := []) G32.out) (GS.no1 (leds1 := []) G32.out) (GS.lgP (leds1 := []) G32.out) (by omega) (fun _ _ => rb_none _) (by omega)).mono ?_
      rintro e y33 ⟨v33, rfl, ho, hlg, hkp⟩
      rw [tc137]
      rw [tq136_0_137] at hlg
      obtain ⟨a33, c33, rfl⟩ := own_slice ho
      obtain ⟨lv33, hG, hko⟩ := GS.turnP (leds1 := []) G32.out hlg hkp
      have L33 := hid (L32.out.ko hko hkp.size)
      have G33 := hid (show GS w bA [] [⟨true, lb, lv33, evk [] 3⟩] y33 from hG)
      clear ho hlg hkp hG hko L32 G32
      have hmk : (Instr.makeSlice 22 (.int .i64 168) (.int .i64 168)).run Tryd.prog y33 = .ok (.slice (some ⟨y33.heap.size, 0, none⟩) 168 168) (y33.alloc (.cells (bl 168 (fun _ => 0)).toArray 5)) := make_n 168 (by omega) y33
      go_wp2_with fail
      have O34 := hid (By.own_lit y33 (bl 168 (fun _ => 0)).toArray 168 (fun _ => 0) no0_b (by decide) (by simp [bl_length]) rfl)
      have hb := below_alloc y33 (.cells (bl 168 (fun _ => 0)).toArray 5)
      have L34 := hid (L33.out.below hb)
      have G34 := hid (G33.out.below hb)
      obtain ⟨y34, hy⟩ : ∃ Y, y33.alloc (.cells (bl 168 (fun _ => 0)).toArray 5) = Y := ⟨_, rfl⟩
      rw [hy] at O34 L34 G34
      rw [hy]
      obtain ⟨z34, hz34⟩ : ∃ z, y33.heap.size = z := ⟨_, rfl⟩
      rw [hz34] at O34
      rw [hz34]
      clear hb hy hz34 hmk L33 G33
      refine (shake128_any 168 3 (fun _ => 0) 0 _ (some lb) (SE ⟨true, lb, lv33, evk [] 3⟩) y34 G34.out.kt (GS.no0 (leds1 := []) G34.out) (GS.no1 (leds1 := []) G34.out) (GS.lgP (leds1 := []) G34.out) (by omega) (fun w' hk' => ((GS.koL (leds1 := []) G34.out hk').1.own O34.out).reads) (by omega)).mono ?_
      rintro e y35 ⟨v35, rfl, ho, hlg, hkp⟩
      rw [tc0]
      rw [tq168_168_0] at hlg
      obtain ⟨a35, c35, rfl⟩ := own_slice ho
      obtain ⟨lv35, hG, hko⟩ := GS.turnP (leds1 := []) G34.out hlg hkp
      have L35 := hid (L34.out.ko hko hkp.size)
      have G35 := hid (show GS w bA [] [⟨true, lb, lv35, evk [] 5⟩] y35 from hG)
      clear ho hlg hkp hG hko L34 G34
      go_wp2_with fail
      refine (shake128_any 0 5 no0 168 _ (some lb) (SE ⟨true, lb, lv35, evk [] 5⟩) y35 G35.out.kt (GS.no0 (leds1 := []) G35.out) (GS.no1 (leds1 := []) G35.out) (GS.lgP (leds1 := []) G35.out) (by omega) (fun _ _ => rb_none _) (by omega)).mono ?_
      rintro e y36 ⟨v36, rfl, ho, hlg, hkp⟩
      rw [tc168]
      rw [tq168_0_168] at hlg
      obtain ⟨a36, c36, rfl⟩ := own_slice ho
      obtain ⟨lv36, hG, hko⟩ := GS.turnP (leds1 := []) G35.out hlg hkp
      have L36 := hid (L35.out.ko hko hkp.size)
      have G36 := hid (show GS w bA [] [⟨true, lb, lv36, evk [] 6⟩] y36 from hG)
      clear ho hlg hkp hG hko L35 G35
      go_wp2_with fail
      refine (shake128_any 0 6 no0 169 _ (some lb) (SE ⟨true, lb, lv36, evk [] 6⟩) y36 G36.out.kt (GS.no0 (leds1 := []) G36.out) (GS.no1 (leds1 := []) G36.out) (GS.lgP (leds1 := []) G36.out) (by omega) (fun _ _ => rb_none _) (by omega)).mono ?_
      rintro e y37 ⟨v37, rfl, ho, hlg, hkp⟩
      rw [tc169]
      rw [tq168_0_169] at hlg
      obtain ⟨a37, c37, rfl⟩ := own_slice ho
      obtain ⟨lv37, hG, hko⟩ := GS.turnP (leds1 := []) G36.out hlg hkp
      have L37 := hid (L36.out.ko hko hkp.size)
      have G37 := hid (show GS w bA [] [⟨true, lb, lv37, evk [] 8⟩] y37 from hG)
      clear ho hlg hkp hG hko L36 G36
      go_wp2_with fail
      refine (shake128_any 0 8 no0 (-1) _ (some lb) (SE ⟨true, lb, lv37, evk [] 8⟩) y37 G37.out.kt (GS.no0 (leds1 := []) G37.out) (GS.no1 (leds1 := []) G37.out) (GS.lgP (leds1 := []) G37.out) (by omega) (fun _ _ => rb_none _) (by omega)).mono ?_
      rintro e y38 ⟨v38, rfl, ho, hlg, hkp⟩
      rw [tcm]
      rw [tqm] at hlg
      obtain ⟨a38, c38, rfl⟩ := own_slice ho
      obtain ⟨lv38, hG, hko⟩ := GS.turnP (leds1 := []) G37.out hlg hkp
      have L38 := hid (L37.out.ko hko hkp.size)
      have G38 := hid (show GS w bA [] [⟨true, lb, lv38, evk [] 8⟩] y38 from hG)
      clear ho hlg hkp hG hko L37 G37
      go_wp2_with fail
      refine (shake128_any 0 8 no0 65537 _ (some lb) (SE ⟨true, lb, lv38, evk [] 8⟩) y38 G38.out.kt (GS.no0 (leds1 := []) G38.out) (GS.no1 (leds1 := []) G38.out) (GS.lgP (leds1 := []) G38.out) (by omega) (fun _ _ => rb_none _) (by omega)).mono ?_
      rintro e y39 ⟨v39, rfl, ho, hlg, hkp⟩
      rw [tcb]
      rw [tqb] at hlg
      obtain ⟨a39, c39, rfl⟩ := own_slice ho
      obtain ⟨lv39, hG, hko⟩ := GS.turnP (leds1 := []) G38.out hlg hkp
      have L39 := hid (L38.out.ko hko hkp.size)
      have G39 := hid (show GS w bA [] [⟨true, lb, lv39, evk [] 8⟩] y39 from hG)
      clear ho hlg hkp hG hko L38 G38
      go_wp2_with fail
      refine (begin_bad 127 _ _ _ y39 (by decide) (by decide)).mono ?_
      rintro e y39 ⟨rfl, rfl⟩
      go_wp2_with fail
      refine (unhex1 sB 8 y39 (by decide) (by omega)).mono ?_
      rintro e y40 ⟨v40, rfl, ho, hb⟩
      have L40 := hid (L39.out.snoc hb (own_congr ho e256_b hexB))
      have G40 := hid (G39.out.below hb)
      clear ho hb L39 G39
      go_wp2_with fail
      refine (same_true _ _ 8 _ _ _ (L40.out.at (i := 0) rfl).reads (L40.out.at (i := 1) rfl).reads (by omega) (fun _ _ => rfl)).mono ?_
      rintro e y41 ⟨rfl, d41, hw⟩
      have hb : Below y40.heap.size y40 y41 := by rw [hw]; exact below_drewN _ _
      have G41 := hid (G40.out.below hb)
      clear hw hb L40 G40
      go_wp2_with fail
      refine (runs22 lb _ _ _ (GS.midL (leds1 := []) G41.out).1 (show (evk [] 8).length * 24 ≤ 140737488355328 from by rw [ev8]; decide)).mono ?_
      rintro e y42 ⟨u42, rfl, hu, hb⟩
      rw [ev8] at hu
      have U := hid hu
      have G42 := hid (G41.out.below hb)
      clear hu hb G41
      go_wp2_with fail
      have ol := hid (own_run y42 8 (by omega) (by omega))
      refine (same14 _ _ [⟨3, 200, 8⟩] [⟨3, 200, 8⟩] _ ((U.out.alloc _).reads) ol.out.reads (by decide) (by decide)).mono ?_
      rw [decide_eq_true (show ([⟨3, 200, 8⟩] : List Rn) = [⟨3, 200, 8⟩] from rfl)]
      rintro e y43 ⟨rfl, d43, hw⟩
      have hb : Below y42.heap.size y42 y43 := by rw [hw]; exact below_drew' (below_alloc y42 _) _
      have G43 := hid (G42.out.below hb)
      clear hw hb ol U G42
      go_wp2_with fail
      refine (awake1 y43 G43.out.kt).mono ?_
      rintro e y44 ⟨rfl, hb⟩
      have G44 := hid (G43.out.below hb)
      clear hb G43
      go_wp2
      go_ret
      refine ⟨rfl, ?_⟩
      rw [HB.out]
      exact G44.out.bel
end Go.Proofs.YtjfjjhjajgodiaaDoor.Kc
