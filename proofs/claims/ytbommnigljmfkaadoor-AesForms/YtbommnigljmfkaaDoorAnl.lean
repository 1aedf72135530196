/- A block that a call answered is laid into a variable; the statement AesNone, walked. -/
import Derived.Test.YtbommnigljmfkaaDoorAlaw
import Derived.Lib.SlBytesConst
namespace Go.Proofs.YtbommnigljmfkaaDoor.Ae
open Go.ChangeShapes Go.WideShapes Go.ChangeAt Go.RowKit
open Go.Proofs.YtbommnigljmfkaaDoor.By Go.Proofs.YtbommnigljmfkaaDoor.Gf
open Go.Proofs.YtbommnigljmfkaaDoor.Kc (own_kept own_mono own8_type cat cat_bound wpList_cat below_grow)
/-- A new variable that holds the block z. -/
def Bx (W : World) (z : Nat → Nat) : World := (W.alloc (.cells #[Value.int IntKind.u8 0, Value.int IntKind.u8 0, Value.int IntKind.u8 0, Value.int IntKind.u8 0, Value.int IntKind.u8 0, Value.int IntKind.u8 0, Value.int IntKind.u8 0, Value.int IntKind.u8 0, Value.int IntKind.u8 0, Value.int IntKind.u8 0, Value.int IntKind.u8 0, Value.int IntKind.u8 0, Value.int IntKind.u8 0, Value.int IntKind.u8 0, Value.int IntKind.u8 0, Value.int IntKind.u8 0] 58)).setCells W.heap.size 0 (bl 16 (cb z))
theorem bx_s (W : World) (z : Nat → Nat) : (SVb ⟨W.heap.size, 0, none⟩ (bv z)).run Tryd.prog (W.alloc (.cells #[Value.int IntKind.u8 0, Value.int IntKind.u8 0, Value.int IntKind.u8 0, Value.int IntKind.u8 0, Value.int IntKind.u8 0, Value.int IntKind.u8 0, Value.int IntKind.u8 0, Value.int IntKind.u8 0, Value.int IntKind.u8 0, Value.int IntKind.u8 0, Value.int IntKind.u8 0, Value.int IntKind.u8 0, Value.int IntKind.u8 0, Value.int IntKind.u8 0, Value.int IntKind.u8 0, Value.int IntKind.u8 0] 58)) = .ok () (Bx W z) :=
  SVb_run (cs := bl 16 (cb z)) ((Blk.newAt W _ _ 58 _ rfl zeroN).there 0 16 (by rw [bl_length]; omega)) (bl_length _ _) (bl_one _ _)
theorem bx_b (W : World) (z : Nat → Nat) : Blk (Bx W z) W.heap.size (bl 16 (cb z)) 58 := by
  have b := (Blk.newAt W _ _ 58 _ rfl zeroN).put 0 (bl 16 (cb z))
  rw [put_all _ _ (by rw [bl_length, bl_length])] at b
  exact b
theorem bx_bel (W : World) (z : Nat → Nat) : Below W.heap.size W (Bx W z) := below_cells (below_alloc W _) _ _ _ (Nat.le_refl _) (by simp)
theorem ld_blk {W : World} {g : Nat} {z : Nat → Nat} (h : Blk W g (bl 16 (cb z)) 58) : (LDb ⟨g, 0, none⟩).run Tryd.prog W = .ok (bv z) W := LDb_run (range0 h) (bl_length _ _)
theorem bvnul : Value.agg #[Value.int IntKind.u8 0, Value.int IntKind.u8 0, Value.int IntKind.u8 0, Value.int IntKind.u8 0, Value.int IntKind.u8 0, Value.int IntKind.u8 0, Value.int IntKind.u8 0, Value.int IntKind.u8 0, Value.int IntKind.u8 0, Value.int IntKind.u8 0, Value.int IntKind.u8 0, Value.int IntKind.u8 0, Value.int IntKind.u8 0, Value.int IntKind.u8 0, Value.int IntKind.u8 0, Value.int IntKind.u8 0] = bv nul := rfl
@[go_sem high] theorem guardEqZ (a b : Operand) (f : Nat → Nat) (w : World) : (eqGuard .eql 58 a b (bv f) (.agg #[Value.int IntKind.u8 0, Value.int IntKind.u8 0, Value.int IntKind.u8 0, Value.int IntKind.u8 0, Value.int IntKind.u8 0, Value.int IntKind.u8 0, Value.int IntKind.u8 0, Value.int IntKind.u8 0, Value.int IntKind.u8 0, Value.int IntKind.u8 0, Value.int IntKind.u8 0, Value.int IntKind.u8 0, Value.int IntKind.u8 0, Value.int IntKind.u8 0, Value.int IntKind.u8 0, Value.int IntKind.u8 0])).run Tryd.prog w = .ok () w := guardEq a b f nul w
@[go_sem high] theorem binEqZ (f : Nat → Nat) (w : World) : (binOp .eql 58 (bv f) (.agg #[Value.int IntKind.u8 0, Value.int IntKind.u8 0, Value.int IntKind.u8 0, Value.int IntKind.u8 0, Value.int IntKind.u8 0, Value.int IntKind.u8 0, Value.int IntKind.u8 0, Value.int IntKind.u8 0, Value.int IntKind.u8 0, Value.int IntKind.u8 0, Value.int IntKind.u8 0, Value.int IntKind.u8 0, Value.int IntKind.u8 0, Value.int IntKind.u8 0, Value.int IntKind.u8 0, Value.int IntKind.u8 0])).run Tryd.prog w = .ok (.bool (eqb f nul)) w := binEq f nul w
set_option maxRecDepth 8000 in
set_option maxHeartbeats 8000000 in
theorem none1 (v p : Value) (n : Nat) (f : Nat → Int) (w : World) (hv : Nn w v) (hp : By.RB w p n f) (hn : n ≤ 140737488355999) : Calls Tryd.prog 20 #[v, p] w fun e w' => e = .returned (.bool true) ∧ Below w.heap.size w w' := by
  have HV := hid hv
  have HP := hid hp
  clear hv hp
  go_enter Tryd.func20, Tryd.ntmps20
  have V := HV
  have P := HP
  clear HV HP
  go_wp2_with fail
  refine (newL w w (Below.refl _ _)).mono ?_
  rintro e W1 ⟨rfl, g, hb⟩
  have V := hid (V.out.below hb)
  have P := hid (P.out.below hb)
  have G := hid g
  clear g
  clear hb
  go_wp2_with fail
  refine (block1 p n f W1 P.out hn).mono ?_
  rintro e W2 ⟨rfl, hb⟩
  have V := hid (V.out.below hb)
  have P := hid (P.out.below hb)
  have G := hid (G.out.below hb)
  clear hb
  go_wp2_with fail
  refine (enc_nn v _ _ W2 V.out).mono ?_
  rintro e W3 ⟨rfl, hb⟩
  have V := hid (V.out.below hb)
  have P := hid (P.out.below hb)
  have G := hid (G.out.below hb)
  clear hb
  have hb := bx_bel W3 (nul)
  have V := hid (V.out.below hb)
  have P := hid (P.out.below hb)
  have G := hid (G.out.below hb)
  have A := hid (bx_b W3 (nul))
  have s4 := bx_s W3 (nul)
  obtain ⟨aA, ea⟩ : ∃ a, W3.heap.size = a := ⟨_, rfl⟩
  rw [ea] at A s4
  clear hb
  go_wp2_with fail
  generalize Bx W3 (nul) = W4 at *
  clear ea s4
  refine (block1 p n f W4 P.out hn).mono ?_
  rintro e W5 ⟨rfl, hb⟩
  have V := hid (V.out.below hb)
  have P := hid (P.out.below hb)
  have G := hid (G.out.below hb)
  have A := hid (A.out.below hb)
  clear hb
  go_wp2_with fail
  refine (dec_nn v _ _ W5 V.out).mono ?_
  rintro e W6 ⟨rfl, hb⟩
  have V := hid (V.out.below hb)
  have P := hid (P.out.below hb)
  have G := hid (G.out.below hb)
  have A := hid (A.out.below hb)
  clear hb
  have hb := bx_bel W6 (nul)
  have V := hid (V.out.below hb)
  have P := hid (P.out.below hb)
  have G := hid (G.out.below hb)
  have A := hid (A.out.below hb)
  have B := hid (bx_b W6 (nul))
  have s7 := bx_s W6 (nul)
  obtain ⟨aB, ea⟩ : ∃ a, W6.heap.size = a := ⟨_, rfl⟩
  rw [ea] at B s7
  clear hb
  go_wp2_with fail
  generalize Bx W6 (nul) = W7 at *
  clear ea s7
  refine (clone_nn v W7 V.out).mono ?_
  rintro e w' ⟨rfl, hw'⟩
  subst w'
  have la := ld_blk A.out
  have lb := ld_blk B.out
  have eqn : eqb nul nul = true := eqb_true (E16.refl _)
  go_wp2_with fail
  refine (keyLen_nn v W7 V.out).mono ?_
  rintro e w' ⟨rfl, hw'⟩
  subst w'
  go_wp2_with fail
  refine (form_nn v W7 V.out).mono ?_
  rintro e w' ⟨rfl, hw'⟩
  subst w'
  go_wp2_with fail
  refine (wipe_nn v _ W7 V.out).mono ?_
  rintro e w' ⟨rfl, hw'⟩
  subst w'
  go_wp2_with fail
  refine (G.out.len).mono ?_
  rintro e w' ⟨rfl, hw'⟩
  subst w'
  go_wp2_with fail
  go_ret
  exact ⟨rfl, G.out.bel⟩
def k16 : List Nat := [48, 49, 50, 51, 52, 53, 54, 55, 56, 57, 97, 98, 99, 100, 101, 102]
def k16f (i : Nat) : Nat := k16.getD i 0
theorem k16_lt (i : Nat) : k16f i < 256 := by
  unfold k16f
  by_cases h : i < 16
  · have : ∀ i, i < 16 → k16.getD i 0 < 256 := by decide
    exact this i h
  · rw [List.getD_eq_getElem?_getD, List.getElem?_eq_none (by show 16 ≤ i; omega)]; decide
theorem NoCi_of {W : World} {g : Nat} (h : Blk W g (cic 0 (fun _ => 0)) 50) : NoCi W g := ⟨_, h⟩
theorem NoCi.lt {W : World} {g : Nat} (h : NoCi W g) : g < W.heap.size := by obtain ⟨_, h⟩ := h; exact h.lt
theorem NoCi.kx {W W' : World} {g x : Nat} (h : NoCi W g) (hk : Kx x W W') (hn : g ≠ x) : NoCi W' g := by obtain ⟨cs, h⟩ := h; exact ⟨cs, hk.2 _ _ _ hn h (by decide) (by decide)⟩
theorem wipeN (g k : Nat) (ws : Nat → Nat) (V W : World) (hc : Ci W g k ws) (hg : V.heap.size ≤ g) (hv : Below V.heap.size V W) : Calls Tryd.prog 19 #[.pointer (some ⟨g, 0, none⟩), .pointer none] W fun e w' => e = .returned (.int .i64 0) ∧ NoCi w' g ∧ Below V.heap.size V w' ∧ Kx g W w' := by
  refine (wipe_ci (NS V) V W none [] g k ws hc trivial (Kp.of_below _ hv) room0 (fun e => by omega)).mono ?_
  rintro e w' ⟨rfl, hn, _, hkp, ht⟩
  exact ⟨rfl, hn, hkp.below (Nat.le_refl _) (fun k hk e => by unfold NS at e; omega), ht⟩
set_option maxRecDepth 8000 in
set_option maxHeartbeats 8000000 in
theorem none_walk (p : Value) (n : Nat) (f : Nat → Int) (w : World) (hM : KM w) (hp : By.RB w p n f) (hn : n ≤ 140737488355999) : Calls Tryd.prog 4 #[p] w fun e w' => e = .returned (.bool true) ∧ Below w.heap.size w w' := by
  have P := hid hp
  have PW := hid hp
  have HM := hid hM
  clear hp hM
  go_enter Tryd.func4, Tryd.ntmps4
  go_wp2_with fail
  refine (awake1 w HM.out).mono ?_
  rintro e W1 ⟨rfl, hb⟩
  have P := hid (P.out.below hb)
  have B := hid hb
  clear hb
  have N1 := hid (Blk.newAt W1 _ _ 50 _ rfl zero_ci)
  have hb := below_alloc W1 (.cells Tryd.zeroCells50 50)
  have B2 := hid (below_next B.out hb)
  have P := hid (P.out.below hb)
  obtain ⟨gz, egz⟩ : ∃ g, W1.heap.size = g := ⟨_, rfl⟩
  rw [egz] at N1
  clear hb
  have N2 := hid (NoCi_of N1.out)
  have N3 := hid (N2.out.below (below_alloc _ (.cells #[Value.int IntKind.u8 48, Value.int IntKind.u8 49, Value.int IntKind.u8 50, Value.int IntKind.u8 51, Value.int IntKind.u8 52, Value.int IntKind.u8 53, Value.int IntKind.u8 54, Value.int IntKind.u8 55, Value.int IntKind.u8 56, Value.int IntKind.u8 57, Value.int IntKind.u8 97, Value.int IntKind.u8 98, Value.int IntKind.u8 99, Value.int IntKind.u8 100, Value.int IntKind.u8 101, Value.int IntKind.u8 102] 5 (16, 17))))
  have P := hid (P.out.below (below_alloc _ (.cells #[Value.int IntKind.u8 48, Value.int IntKind.u8 49, Value.int IntKind.u8 50, Value.int IntKind.u8 51, Value.int IntKind.u8 52, Value.int IntKind.u8 53, Value.int IntKind.u8 54, Value.int IntKind.u8 55, Value.int IntKind.u8 56, Value.int IntKind.u8 57, Value.int IntKind.u8 97, Value.int IntKind.u8 98, Value.int IntKind.u8 99, Value.int IntKind.u8 100, Value.int IntKind.u8 101, Value.int IntKind.u8 102] 5 (16, 17))))
  have B3 := hid (below_next B2.out (below_alloc _ (.cells #[Value.int IntKind.u8 48, Value.int IntKind.u8 49, Value.int IntKind.u8 50, Value.int IntKind.u8 51, Value.int IntKind.u8 52, Value.int IntKind.u8 53, Value.int IntKind.u8 54, Value.int IntKind.u8 55, Value.int IntKind.u8 56, Value.int IntKind.u8 57, Value.int IntKind.u8 97, Value.int IntKind.u8 98, Value.int IntKind.u8 99, Value.int IntKind.u8 100, Value.int IntKind.u8 101, Value.int IntKind.u8 102] 5 (16, 17))))
  have K3 : Hid (∀ i, i < 16 → ((W1.alloc (.cells Tryd.zeroCells50 50)).alloc (.cells #[Value.int IntKind.u8 48, Value.int IntKind.u8 49, Value.int IntKind.u8 50, Value.int IntKind.u8 51, Value.int IntKind.u8 52, Value.int IntKind.u8 53, Value.int IntKind.u8 54, Value.int IntKind.u8 55, Value.int IntKind.u8 56, Value.int IntKind.u8 57, Value.int IntKind.u8 97, Value.int IntKind.u8 98, Value.int IntKind.u8 99, Value.int IntKind.u8 100, Value.int IntKind.u8 101, Value.int IntKind.u8 102] 5 (16, 17))).cell? ⟨gz + 1, i, none⟩ = some (.int .u8 (k16f i : Nat))) := fun i hi => by
    rw [cell_of_row _ (gz + 1) i #[Value.int IntKind.u8 48, Value.int IntKind.u8 49, Value.int IntKind.u8 50, Value.int IntKind.u8 51, Value.int IntKind.u8 52, Value.int IntKind.u8 53, Value.int IntKind.u8 54, Value.int IntKind.u8 55, Value.int IntKind.u8 56, Value.int IntKind.u8 57, Value.int IntKind.u8 97, Value.int IntKind.u8 98, Value.int IntKind.u8 99, Value.int IntKind.u8 100, Value.int IntKind.u8 101, Value.int IntKind.u8 102] 5 (16, 17) (by rw [show gz + 1 = (W1.alloc (.cells Tryd.zeroCells50 50)).heap.size from by simp [egz]]; exact heap_alloc_last _ _), show #[Value.int IntKind.u8 48, Value.int IntKind.u8 49, Value.int IntKind.u8 50, Value.int IntKind.u8 51, Value.int IntKind.u8 52, Value.int IntKind.u8 53, Value.int IntKind.u8 54, Value.int IntKind.u8 55, Value.int IntKind.u8 56, Value.int IntKind.u8 57, Value.int IntKind.u8 97, Value.int IntKind.u8 98, Value.int IntKind.u8 99, Value.int IntKind.u8 100, Value.int IntKind.u8 101, Value.int IntKind.u8 102] = (bl 16 (cb k16f)).toArray from by kernel_rfl, List.getElem?_toArray]
    exact bl_get 16 _ i hi
  have hcv := Lib.run_convert_bytes_const (P := Tryd.prog) (W1.alloc (.cells Tryd.zeroCells50 50)) 22 5 #[Value.int IntKind.u8 48, Value.int IntKind.u8 49, Value.int IntKind.u8 50, Value.int IntKind.u8 51, Value.int IntKind.u8 52, Value.int IntKind.u8 53, Value.int IntKind.u8 54, Value.int IntKind.u8 55, Value.int IntKind.u8 56, Value.int IntKind.u8 57, Value.int IntKind.u8 97, Value.int IntKind.u8 98, Value.int IntKind.u8 99, Value.int IntKind.u8 100, Value.int IntKind.u8 101, Value.int IntKind.u8 102] 16 16 Tryd.underlying22 Tryd.underlying5
  rw [show (W1.alloc (.cells Tryd.zeroCells50 50)).heap.size = gz + 1 from by simp [egz], show #[Value.int IntKind.u8 48, Value.int IntKind.u8 49, Value.int IntKind.u8 50, Value.int IntKind.u8 51, Value.int IntKind.u8 52, Value.int IntKind.u8 53, Value.int IntKind.u8 54, Value.int IntKind.u8 55, Value.int IntKind.u8 56, Value.int IntKind.u8 57, Value.int IntKind.u8 97, Value.int IntKind.u8 98, Value.int IntKind.u8 99, Value.int IntKind.u8 100, Value.int IntKind.u8 101, Value.int IntKind.u8 102].size = 16 from rfl] at hcv
  go_wp2_with fail
  generalize (W1.alloc (.cells Tryd.zeroCells50 50)).alloc (.cells #[Value.int IntKind.u8 48, Value.int IntKind.u8 49, Value.int IntKind.u8 50, Value.int IntKind.u8 51, Value.int IntKind.u8 52, Value.int IntKind.u8 53, Value.int IntKind.u8 54, Value.int IntKind.u8 55, Value.int IntKind.u8 56, Value.int IntKind.u8 57, Value.int IntKind.u8 97, Value.int IntKind.u8 98, Value.int IntKind.u8 99, Value.int IntKind.u8 100, Value.int IntKind.u8 101, Value.int IntKind.u8 102] 5 (16, 17)) = W3 at *
  clear egz N1 N2 B B2 hcv
  refine (newN 4 (.inl rfl) k16f k16_lt (gz + 1) 0 16 (by omega) W3 (fun i hi => by rw [Nat.zero_add]; exact K3.out i hi)).mono ?_
  rintro e W4 ⟨g, rfl, c4, hg4, hb⟩
  have P := hid (P.out.below hb)
  have N4 := hid (N3.out.below hb)
  have B4 := hid (below_next B3.out hb)
  have C4 := hid c4
  have HG := hid (show w.heap.size ≤ g from Nat.le_trans B3.out.size hg4)
  have HN := hid (show gz ≠ g from by have := N3.out.lt; omega)
  clear hb c4 hg4 N3 B3 K3
  go_wp2_with fail
  refine (wipeN g 4 _ w W4 C4.out HG.out B4.out).mono ?_
  rintro e W5 ⟨rfl, n5, b5, x5⟩
  have N5 := hid (N4.out.kx x5 HN.out)
  have M5 := hid n5
  have B5 := hid b5
  have P := hid (PW.out.below B5.out)
  clear n5 b5 x5 N4 B4 C4
  go_wp2_with fail
  refine (none1 _ p n f W5 (.inl rfl) P.out hn).mono ?_
  rintro e W6 ⟨rfl, hb⟩
  have P := hid (P.out.below hb)
  have N6 := hid (N5.out.below hb)
  have M6 := hid (M5.out.below hb)
  have B6 := hid (below_next B5.out hb)
  clear hb N5 M5 B5
  go_wp2_with fail
  refine (none1 _ p n f W6 (.inr ⟨gz, rfl, N6.out⟩) P.out hn).mono ?_
  rintro e W7 ⟨rfl, hb⟩
  have P := hid (P.out.below hb)
  have M7 := hid (M6.out.below hb)
  have B7 := hid (below_next B6.out hb)
  clear hb N6 M6 B6
  go_wp2_with fail
  refine (none1 _ p n f W7 (.inr ⟨g, rfl, M7.out⟩) P.out hn).mono ?_
  rintro e W8 ⟨rfl, hb⟩
  have B8 := hid (below_next B7.out hb)
  clear hb
  go_wp2_with fail
  go_ret
  exact ⟨rfl, B8.out⟩
end Go.Proofs.YtbommnigljmfkaaDoor.Ae
