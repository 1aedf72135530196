/- The algorithms made; each of their three functions called. -/
import Derived.Test.YtdmacflcjbkkpaaGreatCag
import Derived.Test.YtdmacflcjbkkpaaGreatJa
namespace Go.Proofs.YtdmacflcjbkkpaaGreat.Co
open Go.ChangeShapes Go.WideShapes Go.ChangeAt Go.RowKit
open Go.Proofs.YtdmacflcjbkkpaaGreat (putL)
open Go.Proofs.YtdmacflcjbkkpaaGreat.Tb (Blk Blk.newAt put_all Kp.setCells results_cell1 results_cell2)
abbrev algH (z : Int) (g : Nat) : Value := .agg #[.int .i64 z, .bool false, fc 125 #[], fc 126 #[.pointer (some ⟨g, 0, none⟩)], fc 127 #[.pointer (some ⟨g, 0, none⟩)], fc 128 #[.pointer (some ⟨g, 0, none⟩)]]
abbrev algC (g : Nat) : Value := .agg #[.int .i64 16, .bool false, fc 131 #[], fc 132 #[.pointer (some ⟨g, 0, none⟩)], fc 133 #[.pointer (some ⟨g, 0, none⟩)], fc 135 #[.pointer (some ⟨g, 0, none⟩)]]
abbrev algK (gp gr gx : Nat) : Value := .agg #[.int .i64 64, .bool true, fc 125 #[], fc 136 #[.pointer (some ⟨gp, 0, none⟩), .pointer (some ⟨gr, 0, none⟩)], fc 139 #[.pointer (some ⟨gp, 0, none⟩), .pointer (some ⟨gr, 0, none⟩)], fc 140 #[.pointer (some ⟨gp, 0, none⟩), .pointer (some ⟨gr, 0, none⟩), .pointer (some ⟨gx, 0, none⟩)]]
abbrev algZ : Value := .agg #[.int .i64 0, .bool false, .nilFunc, .nilFunc, .nilFunc, .nilFunc]
/-- The algorithm of a number: its closures' variables lie in blocks from B on. -/
inductive AlV (W : World) (B : Nat) (a : Int) (v : Value) : Prop
  | h (g : Nat) (ha : a = 1 ∨ a = 2) (e : v = algH (sz a) g) (hb : B ≤ g) (k : Blk W g (shL a) 119)
  | c (g : Nat) (ha : a = 3) (e : v = algC g) (hb : B ≤ g) (k : Blk W g [.func (.func 130) #[] #[]] 149)
  | k (gp gr gx : Nat) (ha : 4 ≤ a ∧ a ≤ 7) (e : v = algK gp gr gx) (hb : B ≤ gp ∧ B ≤ gr ∧ B ≤ gx) (kp : Blk W gp [.int .u8 3, .int .i64 200] 84) (kr : Blk W gr [.int .i64 (rte a)] 3) (kx : Blk W gx [.bool (xof a)] 4)
theorem AlV.kept {W W' : World} {B : Nat} {a : Int} {v : Value} {S : Nat → Prop} (h : AlV W B a v) (hk : Kp S W W') (hn : ∀ j, S j → j < B) : AlV W' B a v := by
  cases h with
  | h g ha e hb k => exact .h g ha e hb (k.kept hk (fun e => by have := hn _ e; omega))
  | c g ha e hb k => exact .c g ha e hb (k.kept hk (fun e => by have := hn _ e; omega))
  | k gp gr gx ha e hb kp kr kx => exact .k gp gr gx ha e hb (kp.kept hk (fun e => by have := hn _ e; omega)) (kr.kept hk (fun e => by have := hn _ e; omega)) (kx.kept hk (fun e => by have := hn _ e; omega))
theorem AlV.below {W W' : World} {B : Nat} {a : Int} {v : Value} (h : AlV W B a v) (hb : Below W.heap.size W W') : AlV W' B a v := h.kept (Kp.of_below (fun _ => False) hb) (fun _ e => e.elim)
theorem AlV.base {W : World} {B B' : Nat} {a : Int} {v : Value} (h : AlV W B a v) (hb : B' ≤ B) : AlV W B' a v := by
  cases h with
  | h g ha e hg k => exact .h g ha e (by omega) k
  | c g ha e hg k => exact .c g ha e (by omega) k
  | k gp gr gx ha e hg kp kr kx => exact .k gp gr gx ha e (by omega) kp kr kx
set_option maxRecDepth 8000 in
set_option maxHeartbeats 1600000 in
theorem hmacOf1_ok (w : World) : Calls Tryz.prog 104 #[.agg #[.int .i64 32, .int .i64 64, .int .u8 1, .int .i64 64]] w fun e w' => ∃ v, e = .returned v ∧ AlV w' w.heap.size 1 v ∧ Below w.heap.size w w' := by
  obtain ⟨W, hW⟩ : ∃ W, (w.alloc (.cells #[.int .i64 32, .int .i64 64, .int .u8 1, .int .i64 64] 119)).alloc (.cells #[.int .i64 0, .bool false, .nilFunc, .nilFunc, .nilFunc, .nilFunc] 113) = W := ⟨_, rfl⟩
  have BW : Hid (Below w.heap.size w W) := by rw [← hW]; exact below_next (below_alloc _ _) (below_alloc _ _)
  have KB : Hid (Blk W w.heap.size [.int .i64 32, .int .i64 64, .int .u8 1, .int .i64 64] 119) := by rw [← hW]; exact (Blk.newAt w _ _ _ w.heap.size rfl rfl).alloc _
  have KE : Blk W (w.heap.size + 1) [.int .i64 0, .bool false, .nilFunc, .nilFunc, .nilFunc, .nilFunc] 113 := by rw [← hW]; exact Blk.newAt (w.alloc _) _ _ _ (w.heap.size + 1) (by simp) rfl
  have hz : W.heap.size = w.heap.size + 1 + 1 := by rw [← hW]; simp
  have x0 := KB.out.cell 0 _ rfl
  obtain ⟨W1, s1, k1, hk1⟩ := SVa_run 32 false 125 126 127 128 #[] #[.pointer (some ⟨w.heap.size, 0, none⟩)] #[.pointer (some ⟨w.heap.size, 0, none⟩)] #[.pointer (some ⟨w.heap.size, 0, none⟩)] KE rfl
  have L1 := hid (LDa_run k1)
  have B1 : Hid (Below w.heap.size w W1) := BW.out.trans (hk1.below (by omega) (fun k h e => by omega))
  have K1 := hid (KB.out.kept hk1 (fun e => by omega))
  clear hk1 k1 KE hz
  go_enter Tryz.func104, Tryz.ntmps104
  go_wp2
  exact bodyPost_ret (results_cell1 rfl rfl L1.out) rfl ⟨_, rfl, .h w.heap.size (by omega) rfl (Nat.le_refl _) K1.out, B1.out⟩
set_option maxRecDepth 8000 in
set_option maxHeartbeats 1600000 in
theorem hmacOf2_ok (w : World) : Calls Tryz.prog 104 #[.agg #[.int .i64 64, .int .i64 128, .int .u8 2, .int .i64 128]] w fun e w' => ∃ v, e = .returned v ∧ AlV w' w.heap.size 2 v ∧ Below w.heap.size w w' := by
  obtain ⟨W, hW⟩ : ∃ W, (w.alloc (.cells #[.int .i64 64, .int .i64 128, .int .u8 2, .int .i64 128] 119)).alloc (.cells #[.int .i64 0, .bool false, .nilFunc, .nilFunc, .nilFunc, .nilFunc] 113) = W := ⟨_, rfl⟩
  have BW : Hid (Below w.heap.size w W) := by rw [← hW]; exact below_next (below_alloc _ _) (below_alloc _ _)
  have KB : Hid (Blk W w.heap.size [.int .i64 64, .int .i64 128, .int .u8 2, .int .i64 128] 119) := by rw [← hW]; exact (Blk.newAt w _ _ _ w.heap.size rfl rfl).alloc _
  have KE : Blk W (w.heap.size + 1) [.int .i64 0, .bool false, .nilFunc, .nilFunc, .nilFunc, .nilFunc] 113 := by rw [← hW]; exact Blk.newAt (w.alloc _) _ _ _ (w.heap.size + 1) (by simp) rfl
  have hz : W.heap.size = w.heap.size + 1 + 1 := by rw [← hW]; simp
  have x0 := KB.out.cell 0 _ rfl
  obtain ⟨W1, s1, k1, hk1⟩ := SVa_run 64 false 125 126 127 128 #[] #[.pointer (some ⟨w.heap.size, 0, none⟩)] #[.pointer (some ⟨w.heap.size, 0, none⟩)] #[.pointer (some ⟨w.heap.size, 0, none⟩)] KE rfl
  have L1 := hid (LDa_run k1)
  have B1 : Hid (Below w.heap.size w W1) := BW.out.trans (hk1.below (by omega) (fun k h e => by omega))
  have K1 := hid (KB.out.kept hk1 (fun e => by omega))
  clear hk1 k1 KE hz
  go_enter Tryz.func104, Tryz.ntmps104
  go_wp2
  exact bodyPost_ret (results_cell1 rfl rfl L1.out) rfl ⟨_, rfl, .h w.heap.size (by omega) rfl (Nat.le_refl _) K1.out, B1.out⟩
set_option maxRecDepth 8000 in
set_option maxHeartbeats 1600000 in
theorem cmac_ok (w : World) : Calls Tryz.prog 105 #[] w fun e w' => ∃ v, e = .returned v ∧ AlV w' w.heap.size 3 v ∧ Below w.heap.size w w' := by
  obtain ⟨W, hW⟩ : ∃ W, ((w.alloc (.cells #[.int .i64 0, .bool false, .nilFunc, .nilFunc, .nilFunc, .nilFunc] 113)).alloc (.cells #[.nilFunc] 149)).setCell ⟨w.heap.size + 1, 0, none⟩ (.func (.func 130) #[] #[]) = W := ⟨_, rfl⟩
  have BW : Hid (Below w.heap.size w W) := by rw [← hW]; exact Tb.below_set (below_next (below_alloc _ _) (below_alloc _ _)) _ _ _ (by omega) (by simp; omega)
  have KB : Hid (Blk W (w.heap.size + 1) [.func (.func 130) #[] #[]] 149) := by rw [← hW]; exact (Blk.newAt (w.alloc _) #[.nilFunc] [.nilFunc] _ (w.heap.size + 1) (by simp) rfl).set 0 _
  have KE : Blk W w.heap.size [.int .i64 0, .bool false, .nilFunc, .nilFunc, .nilFunc, .nilFunc] 113 := by rw [← hW]; exact ((Blk.newAt w _ _ _ w.heap.size rfl rfl).alloc _).other (by omega) _ _
  have hz : W.heap.size = w.heap.size + 1 + 1 := by rw [← hW]; simp
  obtain ⟨W1, s1, k1, hk1⟩ := SVa_run 16 false 131 132 133 135 #[] #[.pointer (some ⟨w.heap.size + 1, 0, none⟩)] #[.pointer (some ⟨w.heap.size + 1, 0, none⟩)] #[.pointer (some ⟨w.heap.size + 1, 0, none⟩)] KE rfl
  have L1 := hid (LDa_run k1)
  have B1 : Hid (Below w.heap.size w W1) := BW.out.trans (hk1.below (by omega) (fun k h e => by omega))
  have K1 := hid (KB.out.kept hk1 (fun e => by omega))
  clear hk1 k1 KE hz
  go_enter Tryz.func105, Tryz.ntmps105
  go_wp2
  exact bodyPost_ret (results_cell1 rfl rfl L1.out) rfl ⟨_, rfl, .c (w.heap.size + 1) rfl rfl (by omega) K1.out, B1.out⟩
set_option maxRecDepth 8000 in
set_option maxHeartbeats 1600000 in
theorem kmacOf_ok (a : Int) (ha : 4 ≤ a ∧ a ≤ 7) (w : World) : Calls Tryz.prog 106 #[.int .i64 (rte a), .bool (xof a)] w fun e w' => ∃ v, e = .returned v ∧ AlV w' w.heap.size a v ∧ Below w.heap.size w w' := by
  obtain ⟨r, hr⟩ : ∃ r, rte a = r := ⟨_, rfl⟩
  obtain ⟨x, hx⟩ : ∃ x, xof a = x := ⟨_, rfl⟩
  have HR := hid hr
  have HX := hid hx
  rw [hr, hx]
  clear hr hx
  obtain ⟨W0, hW0⟩ : ∃ W, (((w.alloc (.cells #[.int .i64 r] 3)).alloc (.cells #[.bool x] 4)).alloc (.cells #[.int .i64 0, .bool false, .nilFunc, .nilFunc, .nilFunc, .nilFunc] 113)).alloc (.cells #[.int .u8 0, .int .i64 0] 84) = W := ⟨_, rfl⟩
  have B0 : Hid (Below w.heap.size w W0) := by rw [← hW0]; exact below_next (below_next (below_next (below_alloc _ _) (below_alloc _ _)) (below_alloc _ _)) (below_alloc _ _)
  have KR : Hid (Blk W0 w.heap.size [.int .i64 r] 3) := by rw [← hW0]; exact (((Blk.newAt w _ _ _ w.heap.size rfl rfl).alloc _).alloc _).alloc _
  have KX : Hid (Blk W0 (w.heap.size + 1) [.bool x] 4) := by rw [← hW0]; exact ((Blk.newAt (w.alloc _) _ _ _ (w.heap.size + 1) (by simp) rfl).alloc _).alloc _
  have KA : Hid (Blk W0 (w.heap.size + 1 + 1) [.int .i64 0, .bool false, .nilFunc, .nilFunc, .nilFunc, .nilFunc] 113) := by rw [← hW0]; exact (Blk.newAt ((w.alloc _).alloc _) _ _ _ (w.heap.size + 1 + 1) (by simp) rfl).alloc _
  have KE : Hid (Blk W0 (w.heap.size + 1 + 1 + 1) [.int .u8 0, .int .i64 0] 84) := by rw [← hW0]; exact Blk.newAt (((w.alloc _).alloc _).alloc _) _ _ _ (w.heap.size + 1 + 1 + 1) (by simp) rfl
  have hz : W0.heap.size = w.heap.size + 1 + 1 + 1 + 1 := by rw [← hW0]; simp
  obtain ⟨W, s0, k0, hk0⟩ := SVe_run 3 200 KE.out rfl
  have bw : Below w.heap.size w W := B0.out.trans (hk0.below (by omega) (fun k h e => by omega))
  have kr := KR.out.kept hk0 (fun e => by omega)
  have kx := KX.out.kept hk0 (fun e => by omega)
  have ka := KA.out.kept hk0 (fun e => by omega)
  have hz1 := hk0.size
  obtain ⟨W1, s1, k1, hk1⟩ := SVa_run 64 true 125 136 139 140 #[] #[.pointer (some ⟨w.heap.size + 1 + 1 + 1, 0, none⟩), .pointer (some ⟨w.heap.size, 0, none⟩)] #[.pointer (some ⟨w.heap.size + 1 + 1 + 1, 0, none⟩), .pointer (some ⟨w.heap.size, 0, none⟩)] #[.pointer (some ⟨w.heap.size + 1 + 1 + 1, 0, none⟩), .pointer (some ⟨w.heap.size, 0, none⟩), .pointer (some ⟨w.heap.size + 1, 0, none⟩)] ka rfl
  have L1 := hid (LDa_run k1)
  have B1 : Hid (Below w.heap.size w W1) := bw.trans (hk1.below (by omega) (fun k h e => by omega))
  have A1 : Hid (AlV W1 w.heap.size a (algK (w.heap.size + 1 + 1 + 1) w.heap.size (w.heap.size + 1))) := hid (.k _ _ _ ha rfl (by omega) (k0.kept hk1 (fun e => by omega)) (by rw [HR.out]; exact kr.kept hk1 (fun e => by omega)) (by rw [HX.out]; exact kx.kept hk1 (fun e => by omega)))
  clear hk0 k0 hk1 k1 kr kx ka KE KA KX KR hz hz1 bw ha
  go_enter Tryz.func106, Tryz.ntmps106
  go_wp2
  exact bodyPost_ret (results_cell1 rfl rfl L1.out) rfl ⟨_, rfl, A1.out, B1.out⟩
set_option maxRecDepth 8000 in
set_option maxHeartbeats 1600000 in
theorem algorithmOf1_ok (w : World) : Calls Tryz.prog 81 #[.int .u8 1] w fun e w' => ∃ v, e = .returned (.tuple #[v, .bool true]) ∧ AlV w' w.heap.size 1 v ∧ Below w.heap.size w w' := by
  obtain ⟨W, hW⟩ : ∃ W, w.alloc (.cells #[.int .i64 0, .bool false, .nilFunc, .nilFunc, .nilFunc, .nilFunc] 113) = W := ⟨_, rfl⟩
  have BW : Hid (Below w.heap.size w W) := by rw [← hW]; exact below_alloc _ _
  have KA : Hid (Blk W w.heap.size [.int .i64 0, .bool false, .nilFunc, .nilFunc, .nilFunc, .nilFunc] 113) := by rw [← hW]; exact Blk.newAt w _ _ _ w.heap.size rfl rfl
  have CH := hid (hashOf1_ok)
  have CM := hid (hmacOf1_ok)
  go_enter Tryz.func81, Tryz.ntmps81
  go_wp2_with fail
  clear hW
  refine (CH.out _).mono ?_
  rintro e W1 ⟨rfl, hb⟩
  have N1 := hid hb
  obtain ⟨V, hV⟩ : ∃ V, W1.alloc (.cells #[.int .i64 0, .int .i64 0, .int .u8 0, .int .i64 0] 119) = V := ⟨_, rfl⟩
  have NV : Hid (Below W1.heap.size W1 V) := by rw [← hV]; exact below_alloc _ _
  have kv : Blk V W1.heap.size [.int .i64 0, .int .i64 0, .int .u8 0, .int .i64 0] 119 := by rw [← hV]; exact Blk.newAt W1 _ _ _ W1.heap.size rfl rfl
  obtain ⟨W2, s2, k2, hk2⟩ := SVh_run 32 64 1 64 kv rfl
  have l2 := LDh_run k2
  have N2 : Hid (Below W.heap.size W W2) := hid (below_next N1.out (NV.out.trans (hk2.below NV.out.size (fun k h e => by omega))))
  clear hb kv k2 hk2
  go_wp2_with fail
  clear hV
  refine (CM.out _).mono ?_
  rintro e W3 ⟨v, rfl, av, hb⟩
  have ka := (KA.out.below N2.out).below hb
  have hlt := KA.out.lt
  have hsz := N2.out.size
  have N3 : Hid (Below w.heap.size w W3) := hid (below_next (below_next BW.out N2.out) hb)
  cases av with
  | c g ha e hg kg => exfalso; omega
  | k gp gr gx ha e hg kp kr kx => exfalso; omega
  | h g ha e hg kg =>
    rw [show sz 1 = 32 from rfl] at e
    subst e
    obtain ⟨W4, s4, k4, hk4⟩ := SVa_run 32 false 125 126 127 128 #[] #[.pointer (some ⟨g, 0, none⟩)] #[.pointer (some ⟨g, 0, none⟩)] #[.pointer (some ⟨g, 0, none⟩)] ka rfl
    have L4 := hid (LDa_run k4)
    have B4 : Hid (Below w.heap.size w W4) := hid (N3.out.trans (hk4.below N3.out.size (fun k h e => by omega)))
    have A4 : Hid (AlV W4 w.heap.size 1 (algH 32 g)) := hid (.h g (by omega) rfl (by have := BW.out.size; omega) (kg.kept hk4 (fun e => by have := BW.out.size; omega)))
    clear hk4 k4 ka
    go_wp2
    exact bodyPost_ret (results_cell2 rfl rfl rfl L4.out) rfl ⟨_, rfl, A4.out, B4.out⟩
set_option maxRecDepth 8000 in
set_option maxHeartbeats 1600000 in
theorem algorithmOf2_ok (w : World) : Calls Tryz.prog 81 #[.int .u8 2] w fun e w' => ∃ v, e = .returned (.tuple #[v, .bool true]) ∧ AlV w' w.heap.size 2 v ∧ Below w.heap.size w w' := by
  obtain ⟨W, hW⟩ : ∃ W, w.alloc (.cells #[.int .i64 0, .bool false, .nilFunc, .nilFunc, .nilFunc, .nilFunc] 113) = W := ⟨_, rfl⟩
  have BW : Hid (Below w.heap.size w W) := by rw [← hW]; exact below_alloc _ _
  have KA : Hid (Blk W w.heap.size [.int .i64 0, .bool false, .nilFunc, .nilFunc, .nilFunc, .nilFunc] 113) := by rw [← hW]; exact Blk.newAt w _ _ _ w.heap.size rfl rfl
  have CH := hid (hashOf2_ok)
  have CM := hid (hmacOf2_ok)
  go_enter Tryz.func81, Tryz.ntmps81
  go_wp2_with fail
  clear hW
  refine (CH.out _).mono ?_
  rintro e W1 ⟨rfl, hb⟩
  have N1 := hid hb
  obtain ⟨V, hV⟩ : ∃ V, W1.alloc (.cells #[.int .i64 0, .int .i64 0, .int .u8 0, .int .i64 0] 119) = V := ⟨_, rfl⟩
  have NV : Hid (Below W1.heap.size W1 V) := by rw [← hV]; exact below_alloc _ _
  have kv : Blk V W1.heap.size [.int .i64 0, .int .i64 0, .int .u8 0, .int .i64 0] 119 := by rw [← hV]; exact Blk.newAt W1 _ _ _ W1.heap.size rfl rfl
  obtain ⟨W2, s2, k2, hk2⟩ := SVh_run 64 128 2 128 kv rfl
  have l2 := LDh_run k2
  have N2 : Hid (Below W.heap.size W W2) := hid (below_next N1.out (NV.out.trans (hk2.below NV.out.size (fun k h e => by omega))))
  clear hb kv k2 hk2
  go_wp2_with fail
  clear hV
  refine (CM.out _).mono ?_
  rintro e W3 ⟨v, rfl, av, hb⟩
  have ka := (KA.out.below N2.out).below hb
  have hlt := KA.out.lt
  have hsz := N2.out.size
  have N3 : Hid (Below w.heap.size w W3) := hid (below_next (below_next BW.out N2.out) hb)
  cases av with
  | c g ha e hg kg => exfalso; omega
  | k gp gr gx ha e hg kp kr kx => exfalso; omega
  | h g ha e hg kg =>
    rw [show sz 2 = 64 from rfl] at e
    subst e
    obtain ⟨W4, s4, k4, hk4⟩ := SVa_run 64 false 125 126 127 128 #[] #[.pointer (some ⟨g, 0, none⟩)] #[.pointer (some ⟨g, 0, none⟩)] #[.pointer (some ⟨g, 0, none⟩)] ka rfl
    have L4 := hid (LDa_run k4)
    have B4 : Hid (Below w.heap.size w W4) := hid (N3.out.trans (hk4.below N3.out.size (fun k h e => by omega)))
    have A4 : Hid (AlV W4 w.heap.size 2 (algH 64 g)) := hid (.h g (by omega) rfl (by have := BW.out.size; omega) (kg.kept hk4 (fun e => by have := BW.out.size; omega)))
    clear hk4 k4 ka
    go_wp2
    exact bodyPost_ret (results_cell2 rfl rfl rfl L4.out) rfl ⟨_, rfl, A4.out, B4.out⟩
set_option maxRecDepth 8000 in
set_option maxHeartbeats 1600000 in
theorem algorithmOf3_ok (w : World) : Calls Tryz.prog 81 #[.int .u8 3] w fun e w' => ∃ v, e = .returned (.tuple #[v, .bool true]) ∧ AlV w' w.heap.size 3 v ∧ Below w.heap.size w w' := by
  obtain ⟨W, hW⟩ : ∃ W, w.alloc (.cells #[.int .i64 0, .bool false, .nilFunc, .nilFunc, .nilFunc, .nilFunc] 113) = W := ⟨_, rfl⟩
  have BW : Hid (Below w.heap.size w W) := by rw [← hW]; exact below_alloc _ _
  have KA : Hid (Blk W w.heap.size [.int .i64 0, .bool false, .nilFunc, .nilFunc, .nilFunc, .nilFunc] 113) := by rw [← hW]; exact Blk.newAt w _ _ _ w.heap.size rfl rfl
  have CM := hid (cmac_ok)
  go_enter Tryz.func81, Tryz.ntmps81
  go_wp2_with fail
  clear hW
  have N2 : Hid (Below W.heap.size W W) := hid (Below.refl _ _)
  refine (CM.out _).mono ?_
  rintro e W3 ⟨v, rfl, av, hb⟩
  have ka := (KA.out.below N2.out).below hb
  have hlt := KA.out.lt
  have hsz := N2.out.size
  have N3 : Hid (Below w.heap.size w W3) := hid (below_next (below_next BW.out N2.out) hb)
  cases av with
  | h g ha e hg kg => exfalso; omega
  | k gp gr gx ha e hg kp kr kx => exfalso; omega
  | c g ha e hg kg =>
    skip
    subst e
    obtain ⟨W4, s4, k4, hk4⟩ := SVa_run 16 false 131 132 133 135 #[] #[.pointer (some ⟨g, 0, none⟩)] #[.pointer (some ⟨g, 0, none⟩)] #[.pointer (some ⟨g, 0, none⟩)] ka rfl
    have L4 := hid (LDa_run k4)
    have B4 : Hid (Below w.heap.size w W4) := hid (N3.out.trans (hk4.below N3.out.size (fun k h e => by omega)))
    have A4 : Hid (AlV W4 w.heap.size 3 (algC g)) := hid (.c g rfl rfl (by have := BW.out.size; omega) (kg.kept hk4 (fun e => by have := BW.out.size; omega)))
    clear hk4 k4 ka
    go_wp2
    exact bodyPost_ret (results_cell2 rfl rfl rfl L4.out) rfl ⟨_, rfl, A4.out, B4.out⟩
set_option maxRecDepth 8000 in
set_option maxHeartbeats 1600000 in
theorem algorithmOf4_ok (w : World) : Calls Tryz.prog 81 #[.int .u8 4] w fun e w' => ∃ v, e = .returned (.tuple #[v, .bool true]) ∧ AlV w' w.heap.size 4 v ∧ Below w.heap.size w w' := by
  obtain ⟨W, hW⟩ : ∃ W, w.alloc (.cells #[.int .i64 0, .bool false, .nilFunc, .nilFunc, .nilFunc, .nilFunc] 113) = W := ⟨_, rfl⟩
  have BW : Hid (Below w.heap.size w W) := by rw [← hW]; exact below_alloc _ _
  have KA : Hid (Blk W w.heap.size [.int .i64 0, .bool false, .nilFunc, .nilFunc, .nilFunc, .nilFunc] 113) := by rw [← hW]; exact Blk.newAt w _ _ _ w.heap.size rfl rfl
  have CM := hid (kmacOf_ok 4 (by omega))
  rw [show rte 4 = 168 from by decide, show xof 4 = false from by decide] at CM
  go_enter Tryz.func81, Tryz.ntmps81
  go_wp2_with fail
  clear hW
  have N2 : Hid (Below W.heap.size W W) := hid (Below.refl _ _)
  refine (CM.out _).mono ?_
  rintro e W3 ⟨v, rfl, av, hb⟩
  have ka := (KA.out.below N2.out).below hb
  have hlt := KA.out.lt
  have hsz := N2.out.size
  have N3 : Hid (Below w.heap.size w W3) := hid (below_next (below_next BW.out N2.out) hb)
  cases av with
  | h g ha e hg kg => exfalso; omega
  | c g ha e hg kg => exfalso; omega
  | k gp gr gx ha e hg kp kr kx =>
    skip
    subst e
    obtain ⟨W4, s4, k4, hk4⟩ := SVa_run 64 true 125 136 139 140 #[] #[.pointer (some ⟨gp, 0, none⟩), .pointer (some ⟨gr, 0, none⟩)] #[.pointer (some ⟨gp, 0, none⟩), .pointer (some ⟨gr, 0, none⟩)] #[.pointer (some ⟨gp, 0, none⟩), .pointer (some ⟨gr, 0, none⟩), .pointer (some ⟨gx, 0, none⟩)] ka rfl
    have L4 := hid (LDa_run k4)
    have B4 : Hid (Below w.heap.size w W4) := hid (N3.out.trans (hk4.below N3.out.size (fun k h e => by omega)))
    have A4 : Hid (AlV W4 w.heap.size 4 (algK gp gr gx)) := hid (.k gp gr gx (by omega) rfl (by have := BW.out.size; omega) (kp.kept hk4 (fun e => by omega)) (kr.kept hk4 (fun e => by omega)) (kx.kept hk4 (fun e => by omega)))
    clear hk4 k4 ka
    go_wp2
    exact bodyPost_ret (results_cell2 rfl rfl rfl L4.out) rfl ⟨_, rfl, A4.out, B4.out⟩
set_option maxRecDepth 8000 in
set_option maxHeartbeats 1600000 in
theorem algorithmOf5_ok (w : World) : Calls Tryz.prog 81 #[.int .u8 5] w fun e w' => ∃ v, e = .returned (.tuple #[v, .bool true]) ∧ AlV w' w.heap.size 5 v ∧ Below w.heap.size w w' := by
  obtain ⟨W, hW⟩ : ∃ W, w.alloc (.cells #[.int .i64 0, .bool false, .nilFunc, .nilFunc, .nilFunc, .nilFunc] 113) = W := ⟨_, rfl⟩
  have BW : Hid (Below w.heap.size w W) := by rw [← hW]; exact below_alloc _ _
  have KA : Hid (Blk W w.heap.size [.int .i64 0, .bool false, .nilFunc, .nilFunc, .nilFunc, .nilFunc] 113) := by rw [← hW]; exact Blk.newAt w _ _ _ w.heap.size rfl rfl
  have CM := hid (kmacOf_ok 5 (by omega))
  rw [show rte 5 = 136 from by decide, show xof 5 = false from by decide] at CM
  go_enter Tryz.func81, Tryz.ntmps81
  go_wp2_with fail
  clear hW
  have N2 : Hid (Below W.heap.size W W) := hid (Below.refl _ _)
  refine (CM.out _).mono ?_
  rintro e W3 ⟨v, rfl, av, hb⟩
  have ka := (KA.out.below N2.out).below hb
  have hlt := KA.out.lt
  have hsz := N2.out.size
  have N3 : Hid (Below w.heap.size w W3) := hid (below_next (below_next BW.out N2.out) hb)
  cases av with
  | h g ha e hg kg => exfalso; omega
  | c g ha e hg kg => exfalso; omega
  | k gp gr gx ha e hg kp kr kx =>
    skip
    subst e
    obtain ⟨W4, s4, k4, hk4⟩ := SVa_run 64 true 125 136 139 140 #[] #[.pointer (some ⟨gp, 0, none⟩), .pointer (some ⟨gr, 0, none⟩)] #[.pointer (some ⟨gp, 0, none⟩), .pointer (some ⟨gr, 0, none⟩)] #[.pointer (some ⟨gp, 0, none⟩), .pointer (some ⟨gr, 0, none⟩), .pointer (some ⟨gx, 0, none⟩)] ka rfl
    have L4 := hid (LDa_run k4)
    have B4 : Hid (Below w.heap.size w W4) := hid (N3.out.trans (hk4.below N3.out.size (fun k h e => by omega)))
    have A4 : Hid (AlV W4 w.heap.size 5 (algK gp gr gx)) := hid (.k gp gr gx (by omega) rfl (by have := BW.out.size; omega) (kp.kept hk4 (fun e => by omega)) (kr.kept hk4 (fun e => by omega)) (kx.kept hk4 (fun e => by omega)))
    clear hk4 k4 ka
    go_wp2
    exact bodyPost_ret (results_cell2 rfl rfl rfl L4.out) rfl ⟨_, rfl, A4.out, B4.out⟩
set_option maxRecDepth 8000 in
set_option maxHeartbeats 1600000 in
theorem algorithmOf6_ok (w : World) : Calls Tryz.prog 81 #[.int .u8 6] w fun e w' => ∃ v, e = .returned (.tuple #[v, .bool true]) ∧ AlV w' w.heap.size 6 v ∧ Below w.heap.size w w' := by
  obtain ⟨W, hW⟩ : ∃ W, w.alloc (.cells #[.int .i64 0, .bool false, .nilFunc, .nilFunc, .nilFunc, .nilFunc] 113) = W := ⟨_, rfl⟩
  have BW : Hid (Below w.heap.size w W) := by rw [← hW]; exact below_alloc _ _
  have KA : Hid (Blk W w.heap.size [.int .i64 0, .bool false, .nilFunc, .nilFunc, .nilFunc, .nilFunc] 113) := by rw [← hW]; exact Blk.newAt w _ _ _ w.heap.size rfl rfl
  have CM := hid (kmacOf_ok 6 (by omega))
  rw [show rte 6 = 168 from by decide, show xof 6 = true from by decide] at CM
  go_enter Tryz.func81, Tryz.ntmps81
  go_wp2_with fail
  clear hW
  have N2 : Hid (Below W.heap.size W W) := hid (Below.refl _ _)
  refine (CM.out _).mono ?_
  rintro e W3 ⟨v, rfl, av, hb⟩
  have ka := (KA.out.below N2.out).below hb
  have hlt := KA.out.lt
  have hsz := N2.out.size
  have N3 : Hid (Below w.heap.size w W3) := hid (below_next (below_next BW.out N2.out) hb)
  cases av with
  | h g ha e hg kg => exfalso; omega
  | c g ha e hg kg => exfalso; omega
  | k gp gr gx ha e hg kp kr kx =>
    skip
    subst e
    obtain ⟨W4, s4, k4, hk4⟩ := SVa_run 64 true 125 136 139 140 #[] #[.pointer (some ⟨gp, 0, none⟩), .pointer (some ⟨gr, 0, none⟩)] #[.pointer (some ⟨gp, 0, none⟩), .pointer (some ⟨gr, 0, none⟩)] #[.pointer (some ⟨gp, 0, none⟩), .pointer (some ⟨gr, 0, none⟩), .pointer (some ⟨gx, 0, none⟩)] ka rfl
    have L4 := hid (LDa_run k4)
    have B4 : Hid (Below w.heap.size w W4) := hid (N3.out.trans (hk4.below N3.out.size (fun k h e => by omega)))
    have A4 : Hid (AlV W4 w.heap.size 6 (algK gp gr gx)) := hid (.k gp gr gx (by omega) rfl (by have := BW.out.size; omega) (kp.kept hk4 (fun e => by omega)) (kr.kept hk4 (fun e => by omega)) (kx.kept hk4 (fun e => by omega)))
    clear hk4 k4 ka
    go_wp2
    exact bodyPost_ret (results_cell2 rfl rfl rfl L4.out) rfl ⟨_, rfl, A4.out, B4.out⟩
set_option maxRecDepth 8000 in
set_option maxHeartbeats 1600000 in
theorem algorithmOf7_ok (w : World) : Calls Tryz.prog 81 #[.int .u8 7] w fun e w' => ∃ v, e = .returned (.tuple #[v, .bool true]) ∧ AlV w' w.heap.size 7 v ∧ Below w.heap.size w w' := by
  obtain ⟨W, hW⟩ : ∃ W, w.alloc (.cells #[.int .i64 0, .bool false, .nilFunc, .nilFunc, .nilFunc, .nilFunc] 113) = W := ⟨_, rfl⟩
  have BW : Hid (Below w.heap.size w W) := by rw [← hW]; exact below_alloc _ _
  have KA : Hid (Blk W w.heap.size [.int .i64 0, .bool false, .nilFunc, .nilFunc, .nilFunc, .nilFunc] 113) := by rw [← hW]; exact Blk.newAt w _ _ _ w.heap.size rfl rfl
  have CM := hid (kmacOf_ok 7 (by omega))
  rw [show rte 7 = 136 from by decide, show xof 7 = true from by decide] at CM
  go_enter Tryz.func81, Tryz.ntmps81
  go_wp2_with fail
  clear hW
  have N2 : Hid (Below W.heap.size W W) := hid (Below.refl _ _)
  refine (CM.out _).mono ?_
  rintro e W3 ⟨v, rfl, av, hb⟩
  have ka := (KA.out.below N2.out).below hb
  have hlt := KA.out.lt
  have hsz := N2.out.size
  have N3 : Hid (Below w.heap.size w W3) := hid (below_next (below_next BW.out N2.out) hb)
  cases av with
  | h g ha e hg kg => exfalso; omega
  | c g ha e hg kg => exfalso; omega
  | k gp gr gx ha e hg kp kr kx =>
    skip
    subst e
    obtain ⟨W4, s4, k4, hk4⟩ := SVa_run 64 true 125 136 139 140 #[] #[.pointer (some ⟨gp, 0, none⟩), .pointer (some ⟨gr, 0, none⟩)] #[.pointer (some ⟨gp, 0, none⟩), .pointer (some ⟨gr, 0, none⟩)] #[.pointer (some ⟨gp, 0, none⟩), .pointer (some ⟨gr, 0, none⟩), .pointer (some ⟨gx, 0, none⟩)] ka rfl
    have L4 := hid (LDa_run k4)
    have B4 : Hid (Below w.heap.size w W4) := hid (N3.out.trans (hk4.below N3.out.size (fun k h e => by omega)))
    have A4 : Hid (AlV W4 w.heap.size 7 (algK gp gr gx)) := hid (.k gp gr gx (by omega) rfl (by have := BW.out.size; omega) (kp.kept hk4 (fun e => by omega)) (kr.kept hk4 (fun e => by omega)) (kx.kept hk4 (fun e => by omega)))
    clear hk4 k4 ka
    go_wp2
    exact bodyPost_ret (results_cell2 rfl rfl rfl L4.out) rfl ⟨_, rfl, A4.out, B4.out⟩
set_option maxRecDepth 8000 in
set_option maxHeartbeats 1600000 in
theorem algorithmOf_no (a : Int) (h : ¬ (1 ≤ a ∧ a ≤ 7)) (w : World) : Calls Tryz.prog 81 #[.int .u8 a] w fun e w' => e = .returned (.tuple #[algZ, .bool false]) ∧ Below w.heap.size w w' := by
  obtain ⟨W, hW⟩ : ∃ W, w.alloc (.cells #[.int .i64 0, .bool false, .nilFunc, .nilFunc, .nilFunc, .nilFunc] 113) = W := ⟨_, rfl⟩
  have BW : Hid (Below w.heap.size w W) := by rw [← hW]; exact below_alloc _ _
  have KA : Hid (Blk W w.heap.size [.int .i64 0, .bool false, .nilFunc, .nilFunc, .nilFunc, .nilFunc] 113) := by rw [← hW]; exact Blk.newAt w _ _ _ w.heap.size rfl rfl
  have hlt := KA.out.lt
  obtain ⟨W1, s1, k1, hk1⟩ : ∃ W', (SVa ⟨w.heap.size, 0, none⟩ algZ).run Tryz.prog W = .ok () W' ∧ Blk W' w.heap.size [.int .i64 0, .bool false, .nilFunc, .nilFunc, .nilFunc, .nilFunc] 113 ∧ Kp (fun j => j = w.heap.size) W W' := by
    refine ⟨W.setCells w.heap.size 0 [.int .i64 0, .bool false, .nilFunc, .nilFunc, .nilFunc, .nilFunc], run_storeVar_mid W w.heap.size 0 _ #[.int .i64 0, .bool false, .nilFunc, .nilFunc, .nilFunc, .nilFunc] (KA.out.there 0 _ (by simp)) infoa (all_oneCell_toArray (all_one rfl)), ?_, Kp.setCells w.heap.size 0 _⟩
    have := KA.out.put 0 [.int .i64 0, .bool false, .nilFunc, .nilFunc, .nilFunc, .nilFunc]
    exact this
  have L1 : Hid ((LDa ⟨w.heap.size, 0, none⟩).run Tryz.prog W1 = .ok algZ W1) := hid (run_loadVar_mid W1 w.heap.size 0 _ [.int .i64 0, .bool false, .nilFunc, .nilFunc, .nilFunc, .nilFunc] _ (k1.range 0 _ (fun _ _ hv => by rw [Nat.zero_add]; exact hv)) Tryz.underlying113 rfl infoa)
  have B1 : Hid (Below w.heap.size w W1) := hid (BW.out.trans (hk1.below BW.out.size (fun k h e => by omega)))
  have n1 : ¬ a = 1 := by omega
  have n2 : ¬ a = 2 := by omega
  have n3 : ¬ a = 3 := by omega
  have n4 : ¬ a = 4 := by omega
  have n5 : ¬ a = 5 := by omega
  have n6 : ¬ a = 6 := by omega
  have n7 : ¬ a = 7 := by omega
  clear hk1 k1 KA hlt h
  go_enter Tryz.func81, Tryz.ntmps81
  go_wp2
  exact bodyPost_ret (results_cell2 rfl rfl rfl L1.out) rfl ⟨rfl, B1.out⟩
theorem algorithmOf_ok (a : Int) (h : 1 ≤ a ∧ a ≤ 7) (w : World) : Calls Tryz.prog 81 #[.int .u8 a] w fun e w' => ∃ v, e = .returned (.tuple #[v, .bool true]) ∧ AlV w' w.heap.size a v ∧ Below w.heap.size w w' := by
  have c : a = 1 ∨ a = 2 ∨ a = 3 ∨ a = 4 ∨ a = 5 ∨ a = 6 ∨ a = 7 := by omega
  rcases c with rfl | rfl | rfl | rfl | rfl | rfl | rfl
  · exact algorithmOf1_ok w
  · exact algorithmOf2_ok w
  · exact algorithmOf3_ok w
  · exact algorithmOf4_ok w
  · exact algorithmOf5_ok w
  · exact algorithmOf6_ok w
  · exact algorithmOf7_ok w
end Go.Proofs.YtdmacflcjbkkpaaGreat.Co
