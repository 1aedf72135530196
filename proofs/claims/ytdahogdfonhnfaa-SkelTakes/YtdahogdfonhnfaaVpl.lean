/- Plain skeletons, of the program. -/
import Derived.Test.YtdahogdfonhnfaaVsk
namespace Go.Proofs.Ytdahogdfonhnfaa.Ou
open Go.ChangeShapes Go.WideShapes Go.ChangeAt Go.RowKit
open Go.Proofs.Ytdahogdfonhnfaa.By
open Go.Proofs.Ytdahogdfonhnfaa.Tb (Blk Blk.newAt put_all Kp.setCells)
theorem sk_eta (s : Sk) : s = ⟨s.k, s.h, s.a, s.c, s.o, s.d, s.m⟩ := rfl
set_option maxRecDepth 8000 in
set_option maxHeartbeats 1200000 in
theorem splain_0 (s : Sk) (w : World) (hk : s.k = 0) :
    Calls Try.prog 30 #[sv s] w fun e w' => e = .returned (sv (ps s)) ∧ Below w.heap.size w w' := by
  obtain ⟨W0, hW0⟩ : ∃ W, ((w.alloc (.cells #[Value.int IntKind.u8 s.k, Value.int IntKind.i64 s.h, Value.int IntKind.u8 s.a, Value.int IntKind.i64 s.c, Value.int IntKind.i64 s.o, Value.int IntKind.i64 s.d, Value.int IntKind.i64 s.m] 33)).alloc (.cells #[Value.int IntKind.u8 0, Value.int IntKind.i64 0, Value.int IntKind.u8 0, Value.int IntKind.i64 0, Value.int IntKind.i64 0, Value.int IntKind.i64 0, Value.int IntKind.i64 0] 33)).alloc (.cells #[Value.int IntKind.u8 0, Value.int IntKind.i64 0, Value.int IntKind.u8 0, Value.int IntKind.i64 0, Value.int IntKind.i64 0, Value.int IntKind.i64 0, Value.int IntKind.i64 0] 33) = W := ⟨_, rfl⟩
  have KA : Hid (Blk W0 w.heap.size (sL s) 33) := by rw [← hW0]; exact ((Blk.newAt w _ _ _ w.heap.size rfl rfl).alloc _).alloc _
  have KR : Hid (Blk W0 (w.heap.size + 1) (sL zS) 33) := by rw [← hW0]; exact (Blk.newAt (w.alloc _) _ _ _ (w.heap.size + 1) (by simp) rfl).alloc _
  have KP : Hid (Blk W0 (w.heap.size + 1 + 1) (sL zS) 33) := by rw [← hW0]; exact Blk.newAt ((w.alloc _).alloc _) _ _ _ (w.heap.size + 1 + 1) (by simp) rfl
  have Z0 : Hid (W0.heap.size = w.heap.size + 1 + 1 + 1) := by show W0.heap.size = _; rw [← hW0]; simp
  have BW : Hid (Below w.heap.size w W0) := by rw [← hW0]; exact below_next (below_next (below_alloc _ _) (below_alloc _ _)) (below_alloc _ _)
  have EQ : Hid (ps s = ⟨0, 0, 0, 0, 0, 0, 0⟩) := by
    have e : uH s.k = false ∧ uA s.k = false ∧ uC s.k = false ∧ uO s.k = false ∧ uD s.k = false ∧ uM s.k = false := by rw [hk]; decide
    show ps s = _
    unfold ps
    rw [e.1, e.2.1, e.2.2.1, e.2.2.2.1, e.2.2.2.2.1, e.2.2.2.2.2, hk]
    rfl
  have HK := hid hk
  clear hk
  go_enter Try.func30, Try.ntmps30
  go_wp2_with fail
  clear hW0
  refine (keepers_ok W0).mono ?_
  rintro e W1 ⟨rfl, kt, hb⟩
  replace BW := hid (below_next BW.out hb)
  replace KA := hid (KA.out.below hb)
  replace KR := hid (KR.out.below hb)
  replace KP := hid (KP.out.below hb)
  have ld := LDk_run KA.out
  have c0 := KA.out.cell 0 _ rfl
  rw [HK.out] at c0
  have SW : Hid (∀ V, Below W1.heap.size W1 V → V.cell? ⟨w.heap.size, 0, none⟩ = some (.int .u8 0) ∧ (LDk ⟨w.heap.size, 0, none⟩).run Try.prog V = .ok (sv s) V ∧ V.cell? ⟨W0.heap.size, 0, none⟩ = some (.func (.func 48) #[] #[])) := fun V hV => ⟨by have := (KA.out.below hV).cell 0 _ rfl; rwa [HK.out] at this, LDk_run (KA.out.below hV), (kt.below hV).cell 0 _ rfl⟩
  obtain ⟨x1, x2, x3⟩ := SW.out W1.drew (below_drewN W1 1)
  have D1 : Hid (Below W1.heap.size W1 W1.drew) := below_drewN W1 1
  have KK := hid (keep3 s W1.drew)
  have SX : Hid (∀ V U, Below W1.heap.size W1 V → Kp (fun j => j = w.heap.size + 1 + 1) V U → U.cell? ⟨w.heap.size, 0, none⟩ = some (.int .u8 0) ∧ (LDk ⟨w.heap.size, 0, none⟩).run Try.prog U = .ok (sv s) U ∧ U.cell? ⟨W0.heap.size, 0, none⟩ = some (.func (.func 48) #[] #[])) := fun V U hV hU => by
    have z := Z0.out
    have k0 := (KA.out.below hV).kept hU (by omega)
    exact ⟨by have := k0.cell 0 _ rfl; rwa [HK.out] at this, LDk_run k0, ((kt.below hV).kept hU (by omega)).cell 0 _ rfl⟩
  have s2 : Hid (∀ W2, Below W1.heap.size W1 W2 → ∃ W3, (SVk ⟨w.heap.size + 1 + 1, 0, none⟩ (.agg #[.int .u8 0, .int .i64 0, .int .u8 0, .int .i64 0, .int .i64 0, .int .i64 0, .int .i64 0])).run Try.prog W2 = .ok () W3 ∧ Blk W3 (w.heap.size + 1 + 1) (sL ⟨0, 0, 0, 0, 0, 0, 0⟩) 33 ∧ Kp (fun j => j = w.heap.size + 1 + 1) W2 W3) := fun W2 h2 => SVk_run ⟨0, 0, 0, 0, 0, 0, 0⟩ (KP.out.below h2) rfl
  clear kt hb ld
  go_wp2_with fail
  go_region_held3 (fun V => V.cell? ⟨w.heap.size, 0, none⟩ = some (.int .u8 0) ∧ (LDk ⟨w.heap.size, 0, none⟩).run Try.prog V = .ok (sv s) V ∧ V.cell? ⟨W0.heap.size, 0, none⟩ = some (.func (.func 48) #[] #[])) (go_keep) (first
    | (go_at_call 48; with_reducible refine KK.out.mono ?_; rintro e W2 ⟨rfl, hb⟩; have N2 : Hid (Below W1.heap.size W1 W2) := hid (below_next D1.out hb); have tt := SW.out W2 N2.out; have y1 := tt.1; have y2 := tt.2.1; have y3 := tt.2.2; clear tt hb; obtain ⟨W3, s3, k3, hk3⟩ := s2.out W2 N2.out; have tt := SX.out W2 W3 N2.out hk3; have q1 := tt.1; have q2 := tt.2.1; have q3 := tt.2.2; clear tt; have K3 := hid k3; have HK3 := hid hk3; clear k3 hk3))
  clear x1 x2 x3 y1 y2 y3 q1 q2 q3 s3 s2 KK SW SX c0
  have k3 := K3.out
  have hk3 := HK3.out
  have hb := N2.out
  replace BW := hid (below_next BW.out hb)
  replace KA := hid (KA.out.below hb)
  replace KR := hid (KR.out.below hb)
  clear hb
  have z0 := Z0.out
  replace KA := hid (KA.out.kept hk3 (by omega))
  replace KR := hid (KR.out.kept hk3 (by omega))
  have cp := k3.cell 0 _ rfl
  have fp := k3.frozen 0
  obtain ⟨W4, hW4⟩ : ∃ W, W3.setCell ⟨w.heap.size + 1 + 1, 0, none⟩ (.int .u8 0) = W := ⟨_, rfl⟩
  have hk4 := Kp.setCell (w := W3) (w.heap.size + 1 + 1) 0 (.int .u8 0)
  rw [hW4] at hk4
  have k4 : Blk W4 (w.heap.size + 1 + 1) (sL ⟨0, 0, 0, 0, 0, 0, 0⟩) 33 := by rw [← hW4]; exact k3.set 0 _
  have l4 := LDk_run k4
  have l4' : (LDk ⟨w.heap.size + 1 + 1, 0, none⟩).run Try.prog W4 = .ok (.agg #[.int .u8 0, .int .i64 0, .int .u8 0, .int .i64 0, .int .i64 0, .int .i64 0, .int .i64 0]) W4 := l4
  obtain ⟨W5, s5, k5, hk5⟩ := SVk_run ⟨0, 0, 0, 0, 0, 0, 0⟩ (KR.out.kept hk4 (by omega)) rfl
  have s5' : (SVk ⟨w.heap.size + 1, 0, none⟩ (.agg #[.int .u8 0, .int .i64 0, .int .u8 0, .int .i64 0, .int .i64 0, .int .i64 0, .int .i64 0])).run Try.prog W4 = .ok () W5 := s5
  have L5 := hid (LDk_run k5)
  have B5 : Hid (Below w.heap.size w W5) := BW.out.trans (((hk3.mono (fun _ _ e => Or.inl e)).trans ((hk4.mono (fun _ _ e => Or.inl e)).trans (hk5.mono (fun _ _ e => Or.inr e)) (fun _ _ e => e)) (fun _ _ e => e)).below BW.out.size (fun j _ e => by omega))
  clear hk3 hk4 hk5 k3 k4 k5 l4 s5 KR KA KP BW Z0 z0
  go_wp2_with fail
  exact bodyPost_ret (Tb.results_cell1 rfl rfl L5.out) rfl ⟨by rw [EQ.out], B5.out⟩
set_option maxRecDepth 8000 in
set_option maxHeartbeats 1200000 in
theorem splain_1 (s : Sk) (w : World) (hk : s.k = 1) :
    Calls Try.prog 30 #[sv s] w fun e w' => e = .returned (sv (ps s)) ∧ Below w.heap.size w w' := by
  obtain ⟨W0, hW0⟩ : ∃ W, ((w.alloc (.cells #[Value.int IntKind.u8 s.k, Value.int IntKind.i64 s.h, Value.int IntKind.u8 s.a, Value.int IntKind.i64 s.c, Value.int IntKind.i64 s.o, Value.int IntKind.i64 s.d, Value.int IntKind.i64 s.m] 33)).alloc (.cells #[Value.int IntKind.u8 0, Value.int IntKind.i64 0, Value.int IntKind.u8 0, Value.int IntKind.i64 0, Value.int IntKind.i64 0, Value.int IntKind.i64 0, Value.int IntKind.i64 0] 33)).alloc (.cells #[Value.int IntKind.u8 0, Value.int IntKind.i64 0, Value.int IntKind.u8 0, Value.int IntKind.i64 0, Value.int IntKind.i64 0, Value.int IntKind.i64 0, Value.int IntKind.i64 0] 33) = W := ⟨_, rfl⟩
  have KA : Hid (Blk W0 w.heap.size (sL s) 33) := by rw [← hW0]; exact ((Blk.newAt w _ _ _ w.heap.size rfl rfl).alloc _).alloc _
  have KR : Hid (Blk W0 (w.heap.size + 1) (sL zS) 33) := by rw [← hW0]; exact (Blk.newAt (w.alloc _) _ _ _ (w.heap.size + 1) (by simp) rfl).alloc _
  have KP : Hid (Blk W0 (w.heap.size + 1 + 1) (sL zS) 33) := by rw [← hW0]; exact Blk.newAt ((w.alloc _).alloc _) _ _ _ (w.heap.size + 1 + 1) (by simp) rfl
  have Z0 : Hid (W0.heap.size = w.heap.size + 1 + 1 + 1) := by show W0.heap.size = _; rw [← hW0]; simp
  have BW : Hid (Below w.heap.size w W0) := by rw [← hW0]; exact below_next (below_next (below_alloc _ _) (below_alloc _ _)) (below_alloc _ _)
  have EQ : Hid (ps s = ⟨1, 0, 0, 0, 0, s.d, 0⟩) := by
    have e : uH s.k = false ∧ uA s.k = false ∧ uC s.k = false ∧ uO s.k = false ∧ uD s.k = true ∧ uM s.k = false := by rw [hk]; decide
    show ps s = _
    unfold ps
    rw [e.1, e.2.1, e.2.2.1, e.2.2.2.1, e.2.2.2.2.1, e.2.2.2.2.2, hk]
    rfl
  have HK := hid hk
  clear hk
  go_enter Try.func30, Try.ntmps30
  go_wp2_with fail
  clear hW0
  refine (keepers_ok W0).mono ?_
  rintro e W1 ⟨rfl, kt, hb⟩
  replace BW := hid (below_next BW.out hb)
  replace KA := hid (KA.out.below hb)
  replace KR := hid (KR.out.below hb)
  replace KP := hid (KP.out.below hb)
  have ld := LDk_run KA.out
  have c0 := KA.out.cell 0 _ rfl
  rw [HK.out] at c0
  have SW : Hid (∀ V, Below W1.heap.size W1 V → V.cell? ⟨w.heap.size, 0, none⟩ = some (.int .u8 1) ∧ (LDk ⟨w.heap.size, 0, none⟩).run Try.prog V = .ok (sv s) V ∧ V.cell? ⟨W0.heap.size, 1, none⟩ = some (.func (.func 49) #[] #[])) := fun V hV => ⟨by have := (KA.out.below hV).cell 0 _ rfl; rwa [HK.out] at this, LDk_run (KA.out.below hV), (kt.below hV).cell 1 _ rfl⟩
  obtain ⟨x1, x2, x3⟩ := SW.out W1.drew (below_drewN W1 1)
  have D1 : Hid (Below W1.heap.size W1 W1.drew) := below_drewN W1 1
  have KK := hid (keep4 s W1.drew)
  have SX : Hid (∀ V U, Below W1.heap.size W1 V → Kp (fun j => j = w.heap.size + 1 + 1) V U → U.cell? ⟨w.heap.size, 0, none⟩ = some (.int .u8 1) ∧ (LDk ⟨w.heap.size, 0, none⟩).run Try.prog U = .ok (sv s) U ∧ U.cell? ⟨W0.heap.size, 1, none⟩ = some (.func (.func 49) #[] #[])) := fun V U hV hU => by
    have z := Z0.out
    have k0 := (KA.out.below hV).kept hU (by omega)
    exact ⟨by have := k0.cell 0 _ rfl; rwa [HK.out] at this, LDk_run k0, ((kt.below hV).kept hU (by omega)).cell 1 _ rfl⟩
  have s2 : Hid (∀ W2, Below W1.heap.size W1 W2 → ∃ W3, (SVk ⟨w.heap.size + 1 + 1, 0, none⟩ (.agg #[.int .u8 0, .int .i64 0, .int .u8 0, .int .i64 0, .int .i64 0, .int .i64 s.d, .int .i64 0])).run Try.prog W2 = .ok () W3 ∧ Blk W3 (w.heap.size + 1 + 1) (sL ⟨0, 0, 0, 0, 0, s.d, 0⟩) 33 ∧ Kp (fun j => j = w.heap.size + 1 + 1) W2 W3) := fun W2 h2 => SVk_run ⟨0, 0, 0, 0, 0, s.d, 0⟩ (KP.out.below h2) rfl
  clear kt hb ld
  go_wp2_with fail
  go_region_held3 (fun V => V.cell? ⟨w.heap.size, 0, none⟩ = some (.int .u8 1) ∧ (LDk ⟨w.heap.size, 0, none⟩).run Try.prog V = .ok (sv s) V ∧ V.cell? ⟨W0.heap.size, 1, none⟩ = some (.func (.func 49) #[] #[])) (go_keep) (first
    | (go_at_call 49; with_reducible refine KK.out.mono ?_; rintro e W2 ⟨rfl, hb⟩; have N2 : Hid (Below W1.heap.size W1 W2) := hid (below_next D1.out hb); have tt := SW.out W2 N2.out; have y1 := tt.1; have y2 := tt.2.1; have y3 := tt.2.2; clear tt hb; obtain ⟨W3, s3, k3, hk3⟩ := s2.out W2 N2.out; have tt := SX.out W2 W3 N2.out hk3; have q1 := tt.1; have q2 := tt.2.1; have q3 := tt.2.2; clear tt; have K3 := hid k3; have HK3 := hid hk3; clear k3 hk3))
  clear x1 x2 x3 y1 y2 y3 q1 q2 q3 s3 s2 KK SW SX c0
  have k3 := K3.out
  have hk3 := HK3.out
  have hb := N2.out
  replace BW := hid (below_next BW.out hb)
  replace KA := hid (KA.out.below hb)
  replace KR := hid (KR.out.below hb)
  clear hb
  have z0 := Z0.out
  replace KA := hid (KA.out.kept hk3 (by omega))
  replace KR := hid (KR.out.kept hk3 (by omega))
  have cp := k3.cell 0 _ rfl
  have fp := k3.frozen 0
  obtain ⟨W4, hW4⟩ : ∃ W, W3.setCell ⟨w.heap.size + 1 + 1, 0, none⟩ (.int .u8 1) = W := ⟨_, rfl⟩
  have hk4 := Kp.setCell (w := W3) (w.heap.size + 1 + 1) 0 (.int .u8 1)
  rw [hW4] at hk4
  have k4 : Blk W4 (w.heap.size + 1 + 1) (sL ⟨1, 0, 0, 0, 0, s.d, 0⟩) 33 := by rw [← hW4]; exact k3.set 0 _
  have l4 := LDk_run k4
  have l4' : (LDk ⟨w.heap.size + 1 + 1, 0, none⟩).run Try.prog W4 = .ok (.agg #[.int .u8 1, .int .i64 0, .int .u8 0, .int .i64 0, .int .i64 0, .int .i64 s.d, .int .i64 0]) W4 := l4
  obtain ⟨W5, s5, k5, hk5⟩ := SVk_run ⟨1, 0, 0, 0, 0, s.d, 0⟩ (KR.out.kept hk4 (by omega)) rfl
  have s5' : (SVk ⟨w.heap.size + 1, 0, none⟩ (.agg #[.int .u8 1, .int .i64 0, .int .u8 0, .int .i64 0, .int .i64 0, .int .i64 s.d, .int .i64 0])).run Try.prog W4 = .ok () W5 := s5
  have L5 := hid (LDk_run k5)
  have B5 : Hid (Below w.heap.size w W5) := BW.out.trans (((hk3.mono (fun _ _ e => Or.inl e)).trans ((hk4.mono (fun _ _ e => Or.inl e)).trans (hk5.mono (fun _ _ e => Or.inr e)) (fun _ _ e => e)) (fun _ _ e => e)).below BW.out.size (fun j _ e => by omega))
  clear hk3 hk4 hk5 k3 k4 k5 l4 s5 KR KA KP BW Z0 z0
  go_wp2_with fail
  exact bodyPost_ret (Tb.results_cell1 rfl rfl L5.out) rfl ⟨by rw [EQ.out], B5.out⟩
set_option maxRecDepth 8000 in
set_option maxHeartbeats 1200000 in
theorem splain_2 (s : Sk) (w : World) (hk : s.k = 2) :
    Calls Try.prog 30 #[sv s] w fun e w' => e = .returned (sv (ps s)) ∧ Below w.heap.size w w' := by
  obtain ⟨W0, hW0⟩ : ∃ W, ((w.alloc (.cells #[Value.int IntKind.u8 s.k, Value.int IntKind.i64 s.h, Value.int IntKind.u8 s.a, Value.int IntKind.i64 s.c, Value.int IntKind.i64 s.o, Value.int IntKind.i64 s.d, Value.int IntKind.i64 s.m] 33)).alloc (.cells #[Value.int IntKind.u8 0, Value.int IntKind.i64 0, Value.int IntKind.u8 0, Value.int IntKind.i64 0, Value.int IntKind.i64 0, Value.int IntKind.i64 0, Value.int IntKind.i64 0] 33)).alloc (.cells #[Value.int IntKind.u8 0, Value.int IntKind.i64 0, Value.int IntKind.u8 0, Value.int IntKind.i64 0, Value.int IntKind.i64 0, Value.int IntKind.i64 0, Value.int IntKind.i64 0] 33) = W := ⟨_, rfl⟩
  have KA : Hid (Blk W0 w.heap.size (sL s) 33) := by rw [← hW0]; exact ((Blk.newAt w _ _ _ w.heap.size rfl rfl).alloc _).alloc _
  have KR : Hid (Blk W0 (w.heap.size + 1) (sL zS) 33) := by rw [← hW0]; exact (Blk.newAt (w.alloc _) _ _ _ (w.heap.size + 1) (by simp) rfl).alloc _
  have KP : Hid (Blk W0 (w.heap.size + 1 + 1) (sL zS) 33) := by rw [← hW0]; exact Blk.newAt ((w.alloc _).alloc _) _ _ _ (w.heap.size + 1 + 1) (by simp) rfl
  have Z0 : Hid (W0.heap.size = w.heap.size + 1 + 1 + 1) := by show W0.heap.size = _; rw [← hW0]; simp
  have BW : Hid (Below w.heap.size w W0) := by rw [← hW0]; exact below_next (below_next (below_alloc _ _) (below_alloc _ _)) (below_alloc _ _)
  have EQ : Hid (ps s = ⟨2, s.h, s.a, 0, s.o, s.d, 0⟩) := by
    have e : uH s.k = true ∧ uA s.k = true ∧ uC s.k = false ∧ uO s.k = true ∧ uD s.k = true ∧ uM s.k = false := by rw [hk]; decide
    show ps s = _
    unfold ps
    rw [e.1, e.2.1, e.2.2.1, e.2.2.2.1, e.2.2.2.2.1, e.2.2.2.2.2, hk]
    rfl
  have HK := hid hk
  clear hk
  go_enter Try.func30, Try.ntmps30
  go_wp2_with fail
  clear hW0
  refine (keepers_ok W0).mono ?_
  rintro e W1 ⟨rfl, kt, hb⟩
  replace BW := hid (below_next BW.out hb)
  replace KA := hid (KA.out.below hb)
  replace KR := hid (KR.out.below hb)
  replace KP := hid (KP.out.below hb)
  have ld := LDk_run KA.out
  have c0 := KA.out.cell 0 _ rfl
  rw [HK.out] at c0
  have SW : Hid (∀ V, Below W1.heap.size W1 V → V.cell? ⟨w.heap.size, 0, none⟩ = some (.int .u8 2) ∧ (LDk ⟨w.heap.size, 0, none⟩).run Try.prog V = .ok (sv s) V ∧ V.cell? ⟨W0.heap.size, 2, none⟩ = some (.func (.func 50) #[] #[])) := fun V hV => ⟨by have := (KA.out.below hV).cell 0 _ rfl; rwa [HK.out] at this, LDk_run (KA.out.below hV), (kt.below hV).cell 2 _ rfl⟩
  obtain ⟨x1, x2, x3⟩ := SW.out W1.drew (below_drewN W1 1)
  have D1 : Hid (Below W1.heap.size W1 W1.drew) := below_drewN W1 1
  have KK := hid (keep5 s W1.drew)
  have SX : Hid (∀ V U, Below W1.heap.size W1 V → Kp (fun j => j = w.heap.size + 1 + 1) V U → U.cell? ⟨w.heap.size, 0, none⟩ = some (.int .u8 2) ∧ (LDk ⟨w.heap.size, 0, none⟩).run Try.prog U = .ok (sv s) U ∧ U.cell? ⟨W0.heap.size, 2, none⟩ = some (.func (.func 50) #[] #[])) := fun V U hV hU => by
    have z := Z0.out
    have k0 := (KA.out.below hV).kept hU (by omega)
    exact ⟨by have := k0.cell 0 _ rfl; rwa [HK.out] at this, LDk_run k0, ((kt.below hV).kept hU (by omega)).cell 2 _ rfl⟩
  have s2 : Hid (∀ W2, Below W1.heap.size W1 W2 → ∃ W3, (SVk ⟨w.heap.size + 1 + 1, 0, none⟩ (.agg #[.int .u8 0, .int .i64 s.h, .int .u8 s.a, .int .i64 0, .int .i64 s.o, .int .i64 s.d, .int .i64 0])).run Try.prog W2 = .ok () W3 ∧ Blk W3 (w.heap.size + 1 + 1) (sL ⟨0, s.h, s.a, 0, s.o, s.d, 0⟩) 33 ∧ Kp (fun j => j = w.heap.size + 1 + 1) W2 W3) := fun W2 h2 => SVk_run ⟨0, s.h, s.a, 0, s.o, s.d, 0⟩ (KP.out.below h2) rfl
  clear kt hb ld
  go_wp2_with fail
  go_region_held3 (fun V => V.cell? ⟨w.heap.size, 0, none⟩ = some (.int .u8 2) ∧ (LDk ⟨w.heap.size, 0, none⟩).run Try.prog V = .ok (sv s) V ∧ V.cell? ⟨W0.heap.size, 2, none⟩ = some (.func (.func 50) #[] #[])) (go_keep) (first
    | (go_at_call 50; with_reducible refine KK.out.mono ?_; rintro e W2 ⟨rfl, hb⟩; have N2 : Hid (Below W1.heap.size W1 W2) := hid (below_next D1.out hb); have tt := SW.out W2 N2.out; have y1 := tt.1; have y2 := tt.2.1; have y3 := tt.2.2; clear tt hb; obtain ⟨W3, s3, k3, hk3⟩ := s2.out W2 N2.out; have tt := SX.out W2 W3 N2.out hk3; have q1 := tt.1; have q2 := tt.2.1; have q3 := tt.2.2; clear tt; have K3 := hid k3; have HK3 := hid hk3; clear k3 hk3))
  clear x1 x2 x3 y1 y2 y3 q1 q2 q3 s3 s2 KK SW SX c0
  have k3 := K3.out
  have hk3 := HK3.out
  have hb := N2.out
  replace BW := hid (below_next BW.out hb)
  replace KA := hid (KA.out.below hb)
  replace KR := hid (KR.out.below hb)
  clear hb
  have z0 := Z0.out
  replace KA := hid (KA.out.kept hk3 (by omega))
  replace KR := hid (KR.out.kept hk3 (by omega))
  have cp := k3.cell 0 _ rfl
  have fp := k3.frozen 0
  obtain ⟨W4, hW4⟩ : ∃ W, W3.setCell ⟨w.heap.size + 1 + 1, 0, none⟩ (.int .u8 2) = W := ⟨_, rfl⟩
  have hk4 := Kp.setCell (w := W3) (w.heap.size + 1 + 1) 0 (.int .u8 2)
  rw [hW4] at hk4
  have k4 : Blk W4 (w.heap.size + 1 + 1) (sL ⟨2, s.h, s.a, 0, s.o, s.d, 0⟩) 33 := by rw [← hW4]; exact k3.set 0 _
  have l4 := LDk_run k4
  have l4' : (LDk ⟨w.heap.size + 1 + 1, 0, none⟩).run Try.prog W4 = .ok (.agg #[.int .u8 2, .int .i64 s.h, .int .u8 s.a, .int .i64 0, .int .i64 s.o, .int .i64 s.d, .int .i64 0]) W4 := l4
  obtain ⟨W5, s5, k5, hk5⟩ := SVk_run ⟨2, s.h, s.a, 0, s.o, s.d, 0⟩ (KR.out.kept hk4 (by omega)) rfl
  have s5' : (SVk ⟨w.heap.size + 1, 0, none⟩ (.agg #[.int .u8 2, .int .i64 s.h, .int .u8 s.a, .int .i64 0, .int .i64 s.o, .int .i64 s.d, .int .i64 0])).run Try.prog W4 = .ok () W5 := s5
  have L5 := hid (LDk_run k5)
  have B5 : Hid (Below w.heap.size w W5) := BW.out.trans (((hk3.mono (fun _ _ e => Or.inl e)).trans ((hk4.mono (fun _ _ e => Or.inl e)).trans (hk5.mono (fun _ _ e => Or.inr e)) (fun _ _ e => e)) (fun _ _ e => e)).below BW.out.size (fun j _ e => by omega))
  clear hk3 hk4 hk5 k3 k4 k5 l4 s5 KR KA KP BW Z0 z0
  go_wp2_with fail
  exact bodyPost_ret (Tb.results_cell1 rfl rfl L5.out) rfl ⟨by rw [EQ.out], B5.out⟩
set_option maxRecDepth 8000 in
set_option maxHeartbeats 1200000 in
theorem splain_3 (s : Sk) (w : World) (hk : s.k = 3) :
    Calls Try.prog 30 #[sv s] w fun e w' => e = .returned (sv (ps s)) ∧ Below w.heap.size w w' := by
  obtain ⟨W0, hW0⟩ : ∃ W, ((w.alloc (.cells #[Value.int IntKind.u8 s.k, Value.int IntKind.i64 s.h, Value.int IntKind.u8 s.a, Value.int IntKind.i64 s.c, Value.int IntKind.i64 s.o, Value.int IntKind.i64 s.d, Value.int IntKind.i64 s.m] 33)).alloc (.cells #[Value.int IntKind.u8 0, Value.int IntKind.i64 0, Value.int IntKind.u8 0, Value.int IntKind.i64 0, Value.int IntKind.i64 0, Value.int IntKind.i64 0, Value.int IntKind.i64 0] 33)).alloc (.cells #[Value.int IntKind.u8 0, Value.int IntKind.i64 0, Value.int IntKind.u8 0, Value.int IntKind.i64 0, Value.int IntKind.i64 0, Value.int IntKind.i64 0, Value.int IntKind.i64 0] 33) = W := ⟨_, rfl⟩
  have KA : Hid (Blk W0 w.heap.size (sL s) 33) := by rw [← hW0]; exact ((Blk.newAt w _ _ _ w.heap.size rfl rfl).alloc _).alloc _
  have KR : Hid (Blk W0 (w.heap.size + 1) (sL zS) 33) := by rw [← hW0]; exact (Blk.newAt (w.alloc _) _ _ _ (w.heap.size + 1) (by simp) rfl).alloc _
  have KP : Hid (Blk W0 (w.heap.size + 1 + 1) (sL zS) 33) := by rw [← hW0]; exact Blk.newAt ((w.alloc _).alloc _) _ _ _ (w.heap.size + 1 + 1) (by simp) rfl
  have Z0 : Hid (W0.heap.size = w.heap.size + 1 + 1 + 1) := by show W0.heap.size = _; rw [← hW0]; simp
  have BW : Hid (Below w.heap.size w W0) := by rw [← hW0]; exact below_next (below_next (below_alloc _ _) (below_alloc _ _)) (below_alloc _ _)
  have EQ : Hid (ps s = ⟨3, s.h, 0, 0, 0, s.d, 0⟩) := by
    have e : uH s.k = true ∧ uA s.k = false ∧ uC s.k = false ∧ uO s.k = false ∧ uD s.k = true ∧ uM s.k = false := by rw [hk]; decide
    show ps s = _
    unfold ps
    rw [e.1, e.2.1, e.2.2.1, e.2.2.2.1, e.2.2.2.2.1, e.2.2.2.2.2, hk]
    rfl
  have HK := hid hk
  clear hk
  go_enter Try.func30, Try.ntmps30
  go_wp2_with fail
  clear hW0
  refine (keepers_ok W0).mono ?_
  rintro e W1 ⟨rfl, kt, hb⟩
  replace BW := hid (below_next BW.out hb)
  replace KA := hid (KA.out.below hb)
  replace KR := hid (KR.out.below hb)
  replace KP := hid (KP.out.below hb)
  have ld := LDk_run KA.out
  have c0 := KA.out.cell 0 _ rfl
  rw [HK.out] at c0
  have SW : Hid (∀ V, Below W1.heap.size W1 V → V.cell? ⟨w.heap.size, 0, none⟩ = some (.int .u8 3) ∧ (LDk ⟨w.heap.size, 0, none⟩).run Try.prog V = .ok (sv s) V ∧ V.cell? ⟨W0.heap.size, 3, none⟩ = some (.func (.func 47) #[] #[])) := fun V hV => ⟨by have := (KA.out.below hV).cell 0 _ rfl; rwa [HK.out] at this, LDk_run (KA.out.below hV), (kt.below hV).cell 3 _ rfl⟩
  obtain ⟨x1, x2, x3⟩ := SW.out W1.drew (below_drewN W1 1)
  have D1 : Hid (Below W1.heap.size W1 W1.drew) := below_drewN W1 1
  have KK := hid (keep2 s W1.drew)
  have SX : Hid (∀ V U, Below W1.heap.size W1 V → Kp (fun j => j = w.heap.size + 1 + 1) V U → U.cell? ⟨w.heap.size, 0, none⟩ = some (.int .u8 3) ∧ (LDk ⟨w.heap.size, 0, none⟩).run Try.prog U = .ok (sv s) U ∧ U.cell? ⟨W0.heap.size, 3, none⟩ = some (.func (.func 47) #[] #[])) := fun V U hV hU => by
    have z := Z0.out
    have k0 := (KA.out.below hV).kept hU (by omega)
    exact ⟨by have := k0.cell 0 _ rfl; rwa [HK.out] at this, LDk_run k0, ((kt.below hV).kept hU (by omega)).cell 3 _ rfl⟩
  have s2 : Hid (∀ W2, Below W1.heap.size W1 W2 → ∃ W3, (SVk ⟨w.heap.size + 1 + 1, 0, none⟩ (.agg #[.int .u8 0, .int .i64 s.h, .int .u8 0, .int .i64 0, .int .i64 0, .int .i64 s.d, .int .i64 0])).run Try.prog W2 = .ok () W3 ∧ Blk W3 (w.heap.size + 1 + 1) (sL ⟨0, s.h, 0, 0, 0, s.d, 0⟩) 33 ∧ Kp (fun j => j = w.heap.size + 1 + 1) W2 W3) := fun W2 h2 => SVk_run ⟨0, s.h, 0, 0, 0, s.d, 0⟩ (KP.out.below h2) rfl
  clear kt hb ld
  go_wp2_with fail
  go_region_held3 (fun V => V.cell? ⟨w.heap.size, 0, none⟩ = some (.int .u8 3) ∧ (LDk ⟨w.heap.size, 0, none⟩).run Try.prog V = .ok (sv s) V ∧ V.cell? ⟨W0.heap.size, 3, none⟩ = some (.func (.func 47) #[] #[])) (go_keep) (first
    | (go_at_call 47; with_reducible refine KK.out.mono ?_; rintro e W2 ⟨rfl, hb⟩; have N2 : Hid (Below W1.heap.size W1 W2) := hid (below_next D1.out hb); have tt := SW.out W2 N2.out; have y1 := tt.1; have y2 := tt.2.1; have y3 := tt.2.2; clear tt hb; obtain ⟨W3, s3, k3, hk3⟩ := s2.out W2 N2.out; have tt := SX.out W2 W3 N2.out hk3; have q1 := tt.1; have q2 := tt.2.1; have q3 := tt.2.2; clear tt; have K3 := hid k3; have HK3 := hid hk3; clear k3 hk3))
  clear x1 x2 x3 y1 y2 y3 q1 q2 q3 s3 s2 KK SW SX c0
  have k3 := K3.out
  have hk3 := HK3.out
  have hb := N2.out
  replace BW := hid (below_next BW.out hb)
  replace KA := hid (KA.out.below hb)
  replace KR := hid (KR.out.below hb)
  clear hb
  have z0 := Z0.out
  replace KA := hid (KA.out.kept hk3 (by omega))
  replace KR := hid (KR.out.kept hk3 (by omega))
  have cp := k3.cell 0 _ rfl
  have fp := k3.frozen 0
  obtain ⟨W4, hW4⟩ : ∃ W, W3.setCell ⟨w.heap.size + 1 + 1, 0, none⟩ (.int .u8 3) = W := ⟨_, rfl⟩
  have hk4 := Kp.setCell (w := W3) (w.heap.size + 1 + 1) 0 (.int .u8 3)
  rw [hW4] at hk4
  have k4 : Blk W4 (w.heap.size + 1 + 1) (sL ⟨3, s.h, 0, 0, 0, s.d, 0⟩) 33 := by rw [← hW4]; exact k3.set 0 _
  have l4 := LDk_run k4
  have l4' : (LDk ⟨w.heap.size + 1 + 1, 0, none⟩).run Try.prog W4 = .ok (.agg #[.int .u8 3, .int .i64 s.h, .int .u8 0, .int .i64 0, .int .i64 0, .int .i64 s.d, .int .i64 0]) W4 := l4
  obtain ⟨W5, s5, k5, hk5⟩ := SVk_run ⟨3, s.h, 0, 0, 0, s.d, 0⟩ (KR.out.kept hk4 (by omega)) rfl
  have s5' : (SVk ⟨w.heap.size + 1, 0, none⟩ (.agg #[.int .u8 3, .int .i64 s.h, .int .u8 0, .int .i64 0, .int .i64 0, .int .i64 s.d, .int .i64 0])).run Try.prog W4 = .ok () W5 := s5
  have L5 := hid (LDk_run k5)
  have B5 : Hid (Below w.heap.size w W5) := BW.out.trans (((hk3.mono (fun _ _ e => Or.inl e)).trans ((hk4.mono (fun _ _ e => Or.inl e)).trans (hk5.mono (fun _ _ e => Or.inr e)) (fun _ _ e => e)) (fun _ _ e => e)).below BW.out.size (fun j _ e => by omega))
  clear hk3 hk4 hk5 k3 k4 k5 l4 s5 KR KA KP BW Z0 z0
  go_wp2_with fail
  exact bodyPost_ret (Tb.results_cell1 rfl rfl L5.out) rfl ⟨by rw [EQ.out], B5.out⟩
set_option maxRecDepth 8000 in
set_option maxHeartbeats 1200000 in
theorem splain_4 (s : Sk) (w : World) (hk : s.k = 4) :
    Calls Try.prog 30 #[sv s] w fun e w' => e = .returned (sv (ps s)) ∧ Below w.heap.size w w' := by
  obtain ⟨W0, hW0⟩ : ∃ W, ((w.alloc (.cells #[Value.int IntKind.u8 s.k, Value.int IntKind.i64 s.h, Value.int IntKind.u8 s.a, Value.int IntKind.i64 s.c, Value.int IntKind.i64 s.o, Value.int IntKind.i64 s.d, Value.int IntKind.i64 s.m] 33)).alloc (.cells #[Value.int IntKind.u8 0, Value.int IntKind.i64 0, Value.int IntKind.u8 0, Value.int IntKind.i64 0, Value.int IntKind.i64 0, Value.int IntKind.i64 0, Value.int IntKind.i64 0] 33)).alloc (.cells #[Value.int IntKind.u8 0, Value.int IntKind.i64 0, Value.int IntKind.u8 0, Value.int IntKind.i64 0, Value.int IntKind.i64 0, Value.int IntKind.i64 0, Value.int IntKind.i64 0] 33) = W := ⟨_, rfl⟩
  have KA : Hid (Blk W0 w.heap.size (sL s) 33) := by rw [← hW0]; exact ((Blk.newAt w _ _ _ w.heap.size rfl rfl).alloc _).alloc _
  have KR : Hid (Blk W0 (w.heap.size + 1) (sL zS) 33) := by rw [← hW0]; exact (Blk.newAt (w.alloc _) _ _ _ (w.heap.size + 1) (by simp) rfl).alloc _
  have KP : Hid (Blk W0 (w.heap.size + 1 + 1) (sL zS) 33) := by rw [← hW0]; exact Blk.newAt ((w.alloc _).alloc _) _ _ _ (w.heap.size + 1 + 1) (by simp) rfl
  have Z0 : Hid (W0.heap.size = w.heap.size + 1 + 1 + 1) := by show W0.heap.size = _; rw [← hW0]; simp
  have BW : Hid (Below w.heap.size w W0) := by rw [← hW0]; exact below_next (below_next (below_alloc _ _) (below_alloc _ _)) (below_alloc _ _)
  have EQ : Hid (ps s = ⟨4, s.h, 0, 0, 0, 0, 0⟩) := by
    have e : uH s.k = true ∧ uA s.k = false ∧ uC s.k = false ∧ uO s.k = false ∧ uD s.k = false ∧ uM s.k = false := by rw [hk]; decide
    show ps s = _
    unfold ps
    rw [e.1, e.2.1, e.2.2.1, e.2.2.2.1, e.2.2.2.2.1, e.2.2.2.2.2, hk]
    rfl
  have HK := hid hk
  clear hk
  go_enter Try.func30, Try.ntmps30
  go_wp2_with fail
  clear hW0
  refine (keepers_ok W0).mono ?_
  rintro e W1 ⟨rfl, kt, hb⟩
  replace BW := hid (below_next BW.out hb)
  replace KA := hid (KA.out.below hb)
  replace KR := hid (KR.out.below hb)
  replace KP := hid (KP.out.below hb)
  have ld := LDk_run KA.out
  have c0 := KA.out.cell 0 _ rfl
  rw [HK.out] at c0
  have SW : Hid (∀ V, Below W1.heap.size W1 V → V.cell? ⟨w.heap.size, 0, none⟩ = some (.int .u8 4) ∧ (LDk ⟨w.heap.size, 0, none⟩).run Try.prog V = .ok (sv s) V ∧ V.cell? ⟨W0.heap.size, 4, none⟩ = some (.func (.func 46) #[] #[])) := fun V hV => ⟨by have := (KA.out.below hV).cell 0 _ rfl; rwa [HK.out] at this, LDk_run (KA.out.below hV), (kt.below hV).cell 4 _ rfl⟩
  obtain ⟨x1, x2, x3⟩ := SW.out W1.drew (below_drewN W1 1)
  have D1 : Hid (Below W1.heap.size W1 W1.drew) := below_drewN W1 1
  have KK := hid (keep1 s W1.drew)
  have SX : Hid (∀ V U, Below W1.heap.size W1 V → Kp (fun j => j = w.heap.size + 1 + 1) V U → U.cell? ⟨w.heap.size, 0, none⟩ = some (.int .u8 4) ∧ (LDk ⟨w.heap.size, 0, none⟩).run Try.prog U = .ok (sv s) U ∧ U.cell? ⟨W0.heap.size, 4, none⟩ = some (.func (.func 46) #[] #[])) := fun V U hV hU => by
    have z := Z0.out
    have k0 := (KA.out.below hV).kept hU (by omega)
    exact ⟨by have := k0.cell 0 _ rfl; rwa [HK.out] at this, LDk_run k0, ((kt.below hV).kept hU (by omega)).cell 4 _ rfl⟩
  have s2 : Hid (∀ W2, Below W1.heap.size W1 W2 → ∃ W3, (SVk ⟨w.heap.size + 1 + 1, 0, none⟩ (.agg #[.int .u8 0, .int .i64 s.h, .int .u8 0, .int .i64 0, .int .i64 0, .int .i64 0, .int .i64 0])).run Try.prog W2 = .ok () W3 ∧ Blk W3 (w.heap.size + 1 + 1) (sL ⟨0, s.h, 0, 0, 0, 0, 0⟩) 33 ∧ Kp (fun j => j = w.heap.size + 1 + 1) W2 W3) := fun W2 h2 => SVk_run ⟨0, s.h, 0, 0, 0, 0, 0⟩ (KP.out.below h2) rfl
  clear kt hb ld
  go_wp2_with fail
  go_region_held3 (fun V => V.cell? ⟨w.heap.size, 0, none⟩ = some (.int .u8 4) ∧ (LDk ⟨w.heap.size, 0, none⟩).run Try.prog V = .ok (sv s) V ∧ V.cell? ⟨W0.heap.size, 4, none⟩ = some (.func (.func 46) #[] #[])) (go_keep) (first
    | (go_at_call 46; with_reducible refine KK.out.mono ?_; rintro e W2 ⟨rfl, hb⟩; have N2 : Hid (Below W1.heap.size W1 W2) := hid (below_next D1.out hb); have tt := SW.out W2 N2.out; have y1 := tt.1; have y2 := tt.2.1; have y3 := tt.2.2; clear tt hb; obtain ⟨W3, s3, k3, hk3⟩ := s2.out W2 N2.out; have tt := SX.out W2 W3 N2.out hk3; have q1 := tt.1; have q2 := tt.2.1; have q3 := tt.2.2; clear tt; have K3 := hid k3; have HK3 := hid hk3; clear k3 hk3))
  clear x1 x2 x3 y1 y2 y3 q1 q2 q3 s3 s2 KK SW SX c0
  have k3 := K3.out
  have hk3 := HK3.out
  have hb := N2.out
  replace BW := hid (below_next BW.out hb)
  replace KA := hid (KA.out.below hb)
  replace KR := hid (KR.out.below hb)
  clear hb
  have z0 := Z0.out
  replace KA := hid (KA.out.kept hk3 (by omega))
  replace KR := hid (KR.out.kept hk3 (by omega))
  have cp := k3.cell 0 _ rfl
  have fp := k3.frozen 0
  obtain ⟨W4, hW4⟩ : ∃ W, W3.setCell ⟨w.heap.size + 1 + 1, 0, none⟩ (.int .u8 4) = W := ⟨_, rfl⟩
  have hk4 := Kp.setCell (w := W3) (w.heap.size + 1 + 1) 0 (.int .u8 4)
  rw [hW4] at hk4
  have k4 : Blk W4 (w.heap.size + 1 + 1) (sL ⟨4, s.h, 0, 0, 0, 0, 0⟩) 33 := by rw [← hW4]; exact k3.set 0 _
  have l4 := LDk_run k4
  have l4' : (LDk ⟨w.heap.size + 1 + 1, 0, none⟩).run Try.prog W4 = .ok (.agg #[.int .u8 4, .int .i64 s.h, .int .u8 0, .int .i64 0, .int .i64 0, .int .i64 0, .int .i64 0]) W4 := l4
  obtain ⟨W5, s5, k5, hk5⟩ := SVk_run ⟨4, s.h, 0, 0, 0, 0, 0⟩ (KR.out.kept hk4 (by omega)) rfl
  have s5' : (SVk ⟨w.heap.size + 1, 0, none⟩ (.agg #[.int .u8 4, .int .i64 s.h, .int .u8 0, .int .i64 0, .int .i64 0, .int .i64 0, .int .i64 0])).run Try.prog W4 = .ok () W5 := s5
  have L5 := hid (LDk_run k5)
  have B5 : Hid (Below w.heap.size w W5) := BW.out.trans (((hk3.mono (fun _ _ e => Or.inl e)).trans ((hk4.mono (fun _ _ e => Or.inl e)).trans (hk5.mono (fun _ _ e => Or.inr e)) (fun _ _ e => e)) (fun _ _ e => e)).below BW.out.size (fun j _ e => by omega))
  clear hk3 hk4 hk5 k3 k4 k5 l4 s5 KR KA KP BW Z0 z0
  go_wp2_with fail
  exact bodyPost_ret (Tb.results_cell1 rfl rfl L5.out) rfl ⟨by rw [EQ.out], B5.out⟩
set_option maxRecDepth 8000 in
set_option maxHeartbeats 1200000 in
theorem splain_5 (s : Sk) (w : World) (hk : s.k = 5) :
    Calls Try.prog 30 #[sv s] w fun e w' => e = .returned (sv (ps s)) ∧ Below w.heap.size w w' := by
  obtain ⟨W0, hW0⟩ : ∃ W, ((w.alloc (.cells #[Value.int IntKind.u8 s.k, Value.int IntKind.i64 s.h, Value.int IntKind.u8 s.a, Value.int IntKind.i64 s.c, Value.int IntKind.i64 s.o, Value.int IntKind.i64 s.d, Value.int IntKind.i64 s.m] 33)).alloc (.cells #[Value.int IntKind.u8 0, Value.int IntKind.i64 0, Value.int IntKind.u8 0, Value.int IntKind.i64 0, Value.int IntKind.i64 0, Value.int IntKind.i64 0, Value.int IntKind.i64 0] 33)).alloc (.cells #[Value.int IntKind.u8 0, Value.int IntKind.i64 0, Value.int IntKind.u8 0, Value.int IntKind.i64 0, Value.int IntKind.i64 0, Value.int IntKind.i64 0, Value.int IntKind.i64 0] 33) = W := ⟨_, rfl⟩
  have KA : Hid (Blk W0 w.heap.size (sL s) 33) := by rw [← hW0]; exact ((Blk.newAt w _ _ _ w.heap.size rfl rfl).alloc _).alloc _
  have KR : Hid (Blk W0 (w.heap.size + 1) (sL zS) 33) := by rw [← hW0]; exact (Blk.newAt (w.alloc _) _ _ _ (w.heap.size + 1) (by simp) rfl).alloc _
  have KP : Hid (Blk W0 (w.heap.size + 1 + 1) (sL zS) 33) := by rw [← hW0]; exact Blk.newAt ((w.alloc _).alloc _) _ _ _ (w.heap.size + 1 + 1) (by simp) rfl
  have Z0 : Hid (W0.heap.size = w.heap.size + 1 + 1 + 1) := by show W0.heap.size = _; rw [← hW0]; simp
  have BW : Hid (Below w.heap.size w W0) := by rw [← hW0]; exact below_next (below_next (below_alloc _ _) (below_alloc _ _)) (below_alloc _ _)
  have EQ : Hid (ps s = ⟨5, s.h, 0, 0, 0, s.d, 0⟩) := by
    have e : uH s.k = true ∧ uA s.k = false ∧ uC s.k = false ∧ uO s.k = false ∧ uD s.k = true ∧ uM s.k = false := by rw [hk]; decide
    show ps s = _
    unfold ps
    rw [e.1, e.2.1, e.2.2.1, e.2.2.2.1, e.2.2.2.2.1, e.2.2.2.2.2, hk]
    rfl
  have HK := hid hk
  clear hk
  go_enter Try.func30, Try.ntmps30
  go_wp2_with fail
  clear hW0
  refine (keepers_ok W0).mono ?_
  rintro e W1 ⟨rfl, kt, hb⟩
  replace BW := hid (below_next BW.out hb)
  replace KA := hid (KA.out.below hb)
  replace KR := hid (KR.out.below hb)
  replace KP := hid (KP.out.below hb)
  have ld := LDk_run KA.out
  have c0 := KA.out.cell 0 _ rfl
  rw [HK.out] at c0
  have SW : Hid (∀ V, Below W1.heap.size W1 V → V.cell? ⟨w.heap.size, 0, none⟩ = some (.int .u8 5) ∧ (LDk ⟨w.heap.size, 0, none⟩).run Try.prog V = .ok (sv s) V ∧ V.cell? ⟨W0.heap.size, 5, none⟩ = some (.func (.func 47) #[] #[])) := fun V hV => ⟨by have := (KA.out.below hV).cell 0 _ rfl; rwa [HK.out] at this, LDk_run (KA.out.below hV), (kt.below hV).cell 5 _ rfl⟩
  obtain ⟨x1, x2, x3⟩ := SW.out W1.drew (below_drewN W1 1)
  have D1 : Hid (Below W1.heap.size W1 W1.drew) := below_drewN W1 1
  have KK := hid (keep2 s W1.drew)
  have SX : Hid (∀ V U, Below W1.heap.size W1 V → Kp (fun j => j = w.heap.size + 1 + 1) V U → U.cell? ⟨w.heap.size, 0, none⟩ = some (.int .u8 5) ∧ (LDk ⟨w.heap.size, 0, none⟩).run Try.prog U = .ok (sv s) U ∧ U.cell? ⟨W0.heap.size, 5, none⟩ = some (.func (.func 47) #[] #[])) := fun V U hV hU => by
    have z := Z0.out
    have k0 := (KA.out.below hV).kept hU (by omega)
    exact ⟨by have := k0.cell 0 _ rfl; rwa [HK.out] at this, LDk_run k0, ((kt.below hV).kept hU (by omega)).cell 5 _ rfl⟩
  have s2 : Hid (∀ W2, Below W1.heap.size W1 W2 → ∃ W3, (SVk ⟨w.heap.size + 1 + 1, 0, none⟩ (.agg #[.int .u8 0, .int .i64 s.h, .int .u8 0, .int .i64 0, .int .i64 0, .int .i64 s.d, .int .i64 0])).run Try.prog W2 = .ok () W3 ∧ Blk W3 (w.heap.size + 1 + 1) (sL ⟨0, s.h, 0, 0, 0, s.d, 0⟩) 33 ∧ Kp (fun j => j = w.heap.size + 1 + 1) W2 W3) := fun W2 h2 => SVk_run ⟨0, s.h, 0, 0, 0, s.d, 0⟩ (KP.out.below h2) rfl
  clear kt hb ld
  go_wp2_with fail
  go_region_held3 (fun V => V.cell? ⟨w.heap.size, 0, none⟩ = some (.int .u8 5) ∧ (LDk ⟨w.heap.size, 0, none⟩).run Try.prog V = .ok (sv s) V ∧ V.cell? ⟨W0.heap.size, 5, none⟩ = some (.func (.func 47) #[] #[])) (go_keep) (first
    | (go_at_call 47; with_reducible refine KK.out.mono ?_; rintro e W2 ⟨rfl, hb⟩; have N2 : Hid (Below W1.heap.size W1 W2) := hid (below_next D1.out hb); have tt := SW.out W2 N2.out; have y1 := tt.1; have y2 := tt.2.1; have y3 := tt.2.2; clear tt hb; obtain ⟨W3, s3, k3, hk3⟩ := s2.out W2 N2.out; have tt := SX.out W2 W3 N2.out hk3; have q1 := tt.1; have q2 := tt.2.1; have q3 := tt.2.2; clear tt; have K3 := hid k3; have HK3 := hid hk3; clear k3 hk3))
  clear x1 x2 x3 y1 y2 y3 q1 q2 q3 s3 s2 KK SW SX c0
  have k3 := K3.out
  have hk3 := HK3.out
  have hb := N2.out
  replace BW := hid (below_next BW.out hb)
  replace KA := hid (KA.out.below hb)
  replace KR := hid (KR.out.below hb)
  clear hb
  have z0 := Z0.out
  replace KA := hid (KA.out.kept hk3 (by omega))
  replace KR := hid (KR.out.kept hk3 (by omega))
  have cp := k3.cell 0 _ rfl
  have fp := k3.frozen 0
  obtain ⟨W4, hW4⟩ : ∃ W, W3.setCell ⟨w.heap.size + 1 + 1, 0, none⟩ (.int .u8 5) = W := ⟨_, rfl⟩
  have hk4 := Kp.setCell (w := W3) (w.heap.size + 1 + 1) 0 (.int .u8 5)
  rw [hW4] at hk4
  have k4 : Blk W4 (w.heap.size + 1 + 1) (sL ⟨5, s.h, 0, 0, 0, s.d, 0⟩) 33 := by rw [← hW4]; exact k3.set 0 _
  have l4 := LDk_run k4
  have l4' : (LDk ⟨w.heap.size + 1 + 1, 0, none⟩).run Try.prog W4 = .ok (.agg #[.int .u8 5, .int .i64 s.h, .int .u8 0, .int .i64 0, .int .i64 0, .int .i64 s.d, .int .i64 0]) W4 := l4
  obtain ⟨W5, s5, k5, hk5⟩ := SVk_run ⟨5, s.h, 0, 0, 0, s.d, 0⟩ (KR.out.kept hk4 (by omega)) rfl
  have s5' : (SVk ⟨w.heap.size + 1, 0, none⟩ (.agg #[.int .u8 5, .int .i64 s.h, .int .u8 0, .int .i64 0, .int .i64 0, .int .i64 s.d, .int .i64 0])).run Try.prog W4 = .ok () W5 := s5
  have L5 := hid (LDk_run k5)
  have B5 : Hid (Below w.heap.size w W5) := BW.out.trans (((hk3.mono (fun _ _ e => Or.inl e)).trans ((hk4.mono (fun _ _ e => Or.inl e)).trans (hk5.mono (fun _ _ e => Or.inr e)) (fun _ _ e => e)) (fun _ _ e => e)).below BW.out.size (fun j _ e => by omega))
  clear hk3 hk4 hk5 k3 k4 k5 l4 s5 KR KA KP BW Z0 z0
  go_wp2_with fail
  exact bodyPost_ret (Tb.results_cell1 rfl rfl L5.out) rfl ⟨by rw [EQ.out], B5.out⟩
set_option maxRecDepth 8000 in
set_option maxHeartbeats 1200000 in
theorem splain_6 (s : Sk) (w : World) (hk : s.k = 6) :
    Calls Try.prog 30 #[sv s] w fun e w' => e = .returned (sv (ps s)) ∧ Below w.heap.size w w' := by
  obtain ⟨W0, hW0⟩ : ∃ W, ((w.alloc (.cells #[Value.int IntKind.u8 s.k, Value.int IntKind.i64 s.h, Value.int IntKind.u8 s.a, Value.int IntKind.i64 s.c, Value.int IntKind.i64 s.o, Value.int IntKind.i64 s.d, Value.int IntKind.i64 s.m] 33)).alloc (.cells #[Value.int IntKind.u8 0, Value.int IntKind.i64 0, Value.int IntKind.u8 0, Value.int IntKind.i64 0, Value.int IntKind.i64 0, Value.int IntKind.i64 0, Value.int IntKind.i64 0] 33)).alloc (.cells #[Value.int IntKind.u8 0, Value.int IntKind.i64 0, Value.int IntKind.u8 0, Value.int IntKind.i64 0, Value.int IntKind.i64 0, Value.int IntKind.i64 0, Value.int IntKind.i64 0] 33) = W := ⟨_, rfl⟩
  have KA : Hid (Blk W0 w.heap.size (sL s) 33) := by rw [← hW0]; exact ((Blk.newAt w _ _ _ w.heap.size rfl rfl).alloc _).alloc _
  have KR : Hid (Blk W0 (w.heap.size + 1) (sL zS) 33) := by rw [← hW0]; exact (Blk.newAt (w.alloc _) _ _ _ (w.heap.size + 1) (by simp) rfl).alloc _
  have KP : Hid (Blk W0 (w.heap.size + 1 + 1) (sL zS) 33) := by rw [← hW0]; exact Blk.newAt ((w.alloc _).alloc _) _ _ _ (w.heap.size + 1 + 1) (by simp) rfl
  have Z0 : Hid (W0.heap.size = w.heap.size + 1 + 1 + 1) := by show W0.heap.size = _; rw [← hW0]; simp
  have BW : Hid (Below w.heap.size w W0) := by rw [← hW0]; exact below_next (below_next (below_alloc _ _) (below_alloc _ _)) (below_alloc _ _)
  have EQ : Hid (ps s = ⟨6, s.h, 0, 0, 0, 0, 0⟩) := by
    have e : uH s.k = true ∧ uA s.k = false ∧ uC s.k = false ∧ uO s.k = false ∧ uD s.k = false ∧ uM s.k = false := by rw [hk]; decide
    show ps s = _
    unfold ps
    rw [e.1, e.2.1, e.2.2.1, e.2.2.2.1, e.2.2.2.2.1, e.2.2.2.2.2, hk]
    rfl
  have HK := hid hk
  clear hk
  go_enter Try.func30, Try.ntmps30
  go_wp2_with fail
  clear hW0
  refine (keepers_ok W0).mono ?_
  rintro e W1 ⟨rfl, kt, hb⟩
  replace BW := hid (below_next BW.out hb)
  replace KA := hid (KA.out.below hb)
  replace KR := hid (KR.out.below hb)
  replace KP := hid (KP.out.below hb)
  have ld := LDk_run KA.out
  have c0 := KA.out.cell 0 _ rfl
  rw [HK.out] at c0
  have SW : Hid (∀ V, Below W1.heap.size W1 V → V.cell? ⟨w.heap.size, 0, none⟩ = some (.int .u8 6) ∧ (LDk ⟨w.heap.size, 0, none⟩).run Try.prog V = .ok (sv s) V ∧ V.cell? ⟨W0.heap.size, 6, none⟩ = some (.func (.func 46) #[] #[])) := fun V hV => ⟨by have := (KA.out.below hV).cell 0 _ rfl; rwa [HK.out] at this, LDk_run (KA.out.below hV), (kt.below hV).cell 6 _ rfl⟩
  obtain ⟨x1, x2, x3⟩ := SW.out W1.drew (below_drewN W1 1)
  have D1 : Hid (Below W1.heap.size W1 W1.drew) := below_drewN W1 1
  have KK := hid (keep1 s W1.drew)
  have SX : Hid (∀ V U, Below W1.heap.size W1 V → Kp (fun j => j = w.heap.size + 1 + 1) V U → U.cell? ⟨w.heap.size, 0, none⟩ = some (.int .u8 6) ∧ (LDk ⟨w.heap.size, 0, none⟩).run Try.prog U = .ok (sv s) U ∧ U.cell? ⟨W0.heap.size, 6, none⟩ = some (.func (.func 46) #[] #[])) := fun V U hV hU => by
    have z := Z0.out
    have k0 := (KA.out.below hV).kept hU (by omega)
    exact ⟨by have := k0.cell 0 _ rfl; rwa [HK.out] at this, LDk_run k0, ((kt.below hV).kept hU (by omega)).cell 6 _ rfl⟩
  have s2 : Hid (∀ W2, Below W1.heap.size W1 W2 → ∃ W3, (SVk ⟨w.heap.size + 1 + 1, 0, none⟩ (.agg #[.int .u8 0, .int .i64 s.h, .int .u8 0, .int .i64 0, .int .i64 0, .int .i64 0, .int .i64 0])).run Try.prog W2 = .ok () W3 ∧ Blk W3 (w.heap.size + 1 + 1) (sL ⟨0, s.h, 0, 0, 0, 0, 0⟩) 33 ∧ Kp (fun j => j = w.heap.size + 1 + 1) W2 W3) := fun W2 h2 => SVk_run ⟨0, s.h, 0, 0, 0, 0, 0⟩ (KP.out.below h2) rfl
  clear kt hb ld
  go_wp2_with fail
  go_region_held3 (fun V => V.cell? ⟨w.heap.size, 0, none⟩ = some (.int .u8 6) ∧ (LDk ⟨w.heap.size, 0, none⟩).run Try.prog V = .ok (sv s) V ∧ V.cell? ⟨W0.heap.size, 6, none⟩ = some (.func (.func 46) #[] #[])) (go_keep) (first
    | (go_at_call 46; with_reducible refine KK.out.mono ?_; rintro e W2 ⟨rfl, hb⟩; have N2 : Hid (Below W1.heap.size W1 W2) := hid (below_next D1.out hb); have tt := SW.out W2 N2.out; have y1 := tt.1; have y2 := tt.2.1; have y3 := tt.2.2; clear tt hb; obtain ⟨W3, s3, k3, hk3⟩ := s2.out W2 N2.out; have tt := SX.out W2 W3 N2.out hk3; have q1 := tt.1; have q2 := tt.2.1; have q3 := tt.2.2; clear tt; have K3 := hid k3; have HK3 := hid hk3; clear k3 hk3))
  clear x1 x2 x3 y1 y2 y3 q1 q2 q3 s3 s2 KK SW SX c0
  have k3 := K3.out
  have hk3 := HK3.out
  have hb := N2.out
  replace BW := hid (below_next BW.out hb)
  replace KA := hid (KA.out.below hb)
  replace KR := hid (KR.out.below hb)
  clear hb
  have z0 := Z0.out
  replace KA := hid (KA.out.kept hk3 (by omega))
  replace KR := hid (KR.out.kept hk3 (by omega))
  have cp := k3.cell 0 _ rfl
  have fp := k3.frozen 0
  obtain ⟨W4, hW4⟩ : ∃ W, W3.setCell ⟨w.heap.size + 1 + 1, 0, none⟩ (.int .u8 6) = W := ⟨_, rfl⟩
  have hk4 := Kp.setCell (w := W3) (w.heap.size + 1 + 1) 0 (.int .u8 6)
  rw [hW4] at hk4
  have k4 : Blk W4 (w.heap.size + 1 + 1) (sL ⟨6, s.h, 0, 0, 0, 0, 0⟩) 33 := by rw [← hW4]; exact k3.set 0 _
  have l4 := LDk_run k4
  have l4' : (LDk ⟨w.heap.size + 1 + 1, 0, none⟩).run Try.prog W4 = .ok (.agg #[.int .u8 6, .int .i64 s.h, .int .u8 0, .int .i64 0, .int .i64 0, .int .i64 0, .int .i64 0]) W4 := l4
  obtain ⟨W5, s5, k5, hk5⟩ := SVk_run ⟨6, s.h, 0, 0, 0, 0, 0⟩ (KR.out.kept hk4 (by omega)) rfl
  have s5' : (SVk ⟨w.heap.size + 1, 0, none⟩ (.agg #[.int .u8 6, .int .i64 s.h, .int .u8 0, .int .i64 0, .int .i64 0, .int .i64 0, .int .i64 0])).run Try.prog W4 = .ok () W5 := s5
  have L5 := hid (LDk_run k5)
  have B5 : Hid (Below w.heap.size w W5) := BW.out.trans (((hk3.mono (fun _ _ e => Or.inl e)).trans ((hk4.mono (fun _ _ e => Or.inl e)).trans (hk5.mono (fun _ _ e => Or.inr e)) (fun _ _ e => e)) (fun _ _ e => e)).below BW.out.size (fun j _ e => by omega))
  clear hk3 hk4 hk5 k3 k4 k5 l4 s5 KR KA KP BW Z0 z0
  go_wp2_with fail
  exact bodyPost_ret (Tb.results_cell1 rfl rfl L5.out) rfl ⟨by rw [EQ.out], B5.out⟩
set_option maxRecDepth 8000 in
set_option maxHeartbeats 1200000 in
theorem splain_7 (s : Sk) (w : World) (hk : s.k = 7) :
    Calls Try.prog 30 #[sv s] w fun e w' => e = .returned (sv (ps s)) ∧ Below w.heap.size w w' := by
  obtain ⟨W0, hW0⟩ : ∃ W, ((w.alloc (.cells #[Value.int IntKind.u8 s.k, Value.int IntKind.i64 s.h, Value.int IntKind.u8 s.a, Value.int IntKind.i64 s.c, Value.int IntKind.i64 s.o, Value.int IntKind.i64 s.d, Value.int IntKind.i64 s.m] 33)).alloc (.cells #[Value.int IntKind.u8 0, Value.int IntKind.i64 0, Value.int IntKind.u8 0, Value.int IntKind.i64 0, Value.int IntKind.i64 0, Value.int IntKind.i64 0, Value.int IntKind.i64 0] 33)).alloc (.cells #[Value.int IntKind.u8 0, Value.int IntKind.i64 0, Value.int IntKind.u8 0, Value.int IntKind.i64 0, Value.int IntKind.i64 0, Value.int IntKind.i64 0, Value.int IntKind.i64 0] 33) = W := ⟨_, rfl⟩
  have KA : Hid (Blk W0 w.heap.size (sL s) 33) := by rw [← hW0]; exact ((Blk.newAt w _ _ _ w.heap.size rfl rfl).alloc _).alloc _
  have KR : Hid (Blk W0 (w.heap.size + 1) (sL zS) 33) := by rw [← hW0]; exact (Blk.newAt (w.alloc _) _ _ _ (w.heap.size + 1) (by simp) rfl).alloc _
  have KP : Hid (Blk W0 (w.heap.size + 1 + 1) (sL zS) 33) := by rw [← hW0]; exact Blk.newAt ((w.alloc _).alloc _) _ _ _ (w.heap.size + 1 + 1) (by simp) rfl
  have Z0 : Hid (W0.heap.size = w.heap.size + 1 + 1 + 1) := by show W0.heap.size = _; rw [← hW0]; simp
  have BW : Hid (Below w.heap.size w W0) := by rw [← hW0]; exact below_next (below_next (below_alloc _ _) (below_alloc _ _)) (below_alloc _ _)
  have EQ : Hid (ps s = ⟨7, s.h, s.a, 0, s.o, s.d, s.m⟩) := by
    have e : uH s.k = true ∧ uA s.k = true ∧ uC s.k = false ∧ uO s.k = true ∧ uD s.k = true ∧ uM s.k = true := by rw [hk]; decide
    show ps s = _
    unfold ps
    rw [e.1, e.2.1, e.2.2.1, e.2.2.2.1, e.2.2.2.2.1, e.2.2.2.2.2, hk]
    rfl
  have HK := hid hk
  clear hk
  go_enter Try.func30, Try.ntmps30
  go_wp2_with fail
  clear hW0
  refine (keepers_ok W0).mono ?_
  rintro e W1 ⟨rfl, kt, hb⟩
  replace BW := hid (below_next BW.out hb)
  replace KA := hid (KA.out.below hb)
  replace KR := hid (KR.out.below hb)
  replace KP := hid (KP.out.below hb)
  have ld := LDk_run KA.out
  have c0 := KA.out.cell 0 _ rfl
  rw [HK.out] at c0
  have SW : Hid (∀ V, Below W1.heap.size W1 V → V.cell? ⟨w.heap.size, 0, none⟩ = some (.int .u8 7) ∧ (LDk ⟨w.heap.size, 0, none⟩).run Try.prog V = .ok (sv s) V ∧ V.cell? ⟨W0.heap.size, 7, none⟩ = some (.func (.func 51) #[] #[])) := fun V hV => ⟨by have := (KA.out.below hV).cell 0 _ rfl; rwa [HK.out] at this, LDk_run (KA.out.below hV), (kt.below hV).cell 7 _ rfl⟩
  obtain ⟨x1, x2, x3⟩ := SW.out W1.drew (below_drewN W1 1)
  have D1 : Hid (Below W1.heap.size W1 W1.drew) := below_drewN W1 1
  have KK := hid (keep6 s W1.drew)
  have SX : Hid (∀ V U, Below W1.heap.size W1 V → Kp (fun j => j = w.heap.size + 1 + 1) V U → U.cell? ⟨w.heap.size, 0, none⟩ = some (.int .u8 7) ∧ (LDk ⟨w.heap.size, 0, none⟩).run Try.prog U = .ok (sv s) U ∧ U.cell? ⟨W0.heap.size, 7, none⟩ = some (.func (.func 51) #[] #[])) := fun V U hV hU => by
    have z := Z0.out
    have k0 := (KA.out.below hV).kept hU (by omega)
    exact ⟨by have := k0.cell 0 _ rfl; rwa [HK.out] at this, LDk_run k0, ((kt.below hV).kept hU (by omega)).cell 7 _ rfl⟩
  have s2 : Hid (∀ W2, Below W1.heap.size W1 W2 → ∃ W3, (SVk ⟨w.heap.size + 1 + 1, 0, none⟩ (.agg #[.int .u8 0, .int .i64 s.h, .int .u8 s.a, .int .i64 0, .int .i64 s.o, .int .i64 s.d, .int .i64 s.m])).run Try.prog W2 = .ok () W3 ∧ Blk W3 (w.heap.size + 1 + 1) (sL ⟨0, s.h, s.a, 0, s.o, s.d, s.m⟩) 33 ∧ Kp (fun j => j = w.heap.size + 1 + 1) W2 W3) := fun W2 h2 => SVk_run ⟨0, s.h, s.a, 0, s.o, s.d, s.m⟩ (KP.out.below h2) rfl
  clear kt hb ld
  go_wp2_with fail
  go_region_held3 (fun V => V.cell? ⟨w.heap.size, 0, none⟩ = some (.int .u8 7) ∧ (LDk ⟨w.heap.size, 0, none⟩).run Try.prog V = .ok (sv s) V ∧ V.cell? ⟨W0.heap.size, 7, none⟩ = some (.func (.func 51) #[] #[])) (go_keep) (first
    | (go_at_call 51; with_reducible refine KK.out.mono ?_; rintro e W2 ⟨rfl, hb⟩; have N2 : Hid (Below W1.heap.size W1 W2) := hid (below_next D1.out hb); have tt := SW.out W2 N2.out; have y1 := tt.1; have y2 := tt.2.1; have y3 := tt.2.2; clear tt hb; obtain ⟨W3, s3, k3, hk3⟩ := s2.out W2 N2.out; have tt := SX.out W2 W3 N2.out hk3; have q1 := tt.1; have q2 := tt.2.1; have q3 := tt.2.2; clear tt; have K3 := hid k3; have HK3 := hid hk3; clear k3 hk3))
  clear x1 x2 x3 y1 y2 y3 q1 q2 q3 s3 s2 KK SW SX c0
  have k3 := K3.out
  have hk3 := HK3.out
  have hb := N2.out
  replace BW := hid (below_next BW.out hb)
  replace KA := hid (KA.out.below hb)
  replace KR := hid (KR.out.below hb)
  clear hb
  have z0 := Z0.out
  replace KA := hid (KA.out.kept hk3 (by omega))
  replace KR := hid (KR.out.kept hk3 (by omega))
  have cp := k3.cell 0 _ rfl
  have fp := k3.frozen 0
  obtain ⟨W4, hW4⟩ : ∃ W, W3.setCell ⟨w.heap.size + 1 + 1, 0, none⟩ (.int .u8 7) = W := ⟨_, rfl⟩
  have hk4 := Kp.setCell (w := W3) (w.heap.size + 1 + 1) 0 (.int .u8 7)
  rw [hW4] at hk4
  have k4 : Blk W4 (w.heap.size + 1 + 1) (sL ⟨7, s.h, s.a, 0, s.o, s.d, s.m⟩) 33 := by rw [← hW4]; exact k3.set 0 _
  have l4 := LDk_run k4
  have l4' : (LDk ⟨w.heap.size + 1 + 1, 0, none⟩).run Try.prog W4 = .ok (.agg #[.int .u8 7, .int .i64 s.h, .int .u8 s.a, .int .i64 0, .int .i64 s.o, .int .i64 s.d, .int .i64 s.m]) W4 := l4
  obtain ⟨W5, s5, k5, hk5⟩ := SVk_run ⟨7, s.h, s.a, 0, s.o, s.d, s.m⟩ (KR.out.kept hk4 (by omega)) rfl
  have s5' : (SVk ⟨w.heap.size + 1, 0, none⟩ (.agg #[.int .u8 7, .int .i64 s.h, .int .u8 s.a, .int .i64 0, .int .i64 s.o, .int .i64 s.d, .int .i64 s.m])).run Try.prog W4 = .ok () W5 := s5
  have L5 := hid (LDk_run k5)
  have B5 : Hid (Below w.heap.size w W5) := BW.out.trans (((hk3.mono (fun _ _ e => Or.inl e)).trans ((hk4.mono (fun _ _ e => Or.inl e)).trans (hk5.mono (fun _ _ e => Or.inr e)) (fun _ _ e => e)) (fun _ _ e => e)).below BW.out.size (fun j _ e => by omega))
  clear hk3 hk4 hk5 k3 k4 k5 l4 s5 KR KA KP BW Z0 z0
  go_wp2_with fail
  exact bodyPost_ret (Tb.results_cell1 rfl rfl L5.out) rfl ⟨by rw [EQ.out], B5.out⟩
set_option maxRecDepth 8000 in
set_option maxHeartbeats 1200000 in
theorem splain_8 (s : Sk) (w : World) (hk : s.k = 8) :
    Calls Try.prog 30 #[sv s] w fun e w' => e = .returned (sv (ps s)) ∧ Below w.heap.size w w' := by
  obtain ⟨W0, hW0⟩ : ∃ W, ((w.alloc (.cells #[Value.int IntKind.u8 s.k, Value.int IntKind.i64 s.h, Value.int IntKind.u8 s.a, Value.int IntKind.i64 s.c, Value.int IntKind.i64 s.o, Value.int IntKind.i64 s.d, Value.int IntKind.i64 s.m] 33)).alloc (.cells #[Value.int IntKind.u8 0, Value.int IntKind.i64 0, Value.int IntKind.u8 0, Value.int IntKind.i64 0, Value.int IntKind.i64 0, Value.int IntKind.i64 0, Value.int IntKind.i64 0] 33)).alloc (.cells #[Value.int IntKind.u8 0, Value.int IntKind.i64 0, Value.int IntKind.u8 0, Value.int IntKind.i64 0, Value.int IntKind.i64 0, Value.int IntKind.i64 0, Value.int IntKind.i64 0] 33) = W := ⟨_, rfl⟩
  have KA : Hid (Blk W0 w.heap.size (sL s) 33) := by rw [← hW0]; exact ((Blk.newAt w _ _ _ w.heap.size rfl rfl).alloc _).alloc _
  have KR : Hid (Blk W0 (w.heap.size + 1) (sL zS) 33) := by rw [← hW0]; exact (Blk.newAt (w.alloc _) _ _ _ (w.heap.size + 1) (by simp) rfl).alloc _
  have KP : Hid (Blk W0 (w.heap.size + 1 + 1) (sL zS) 33) := by rw [← hW0]; exact Blk.newAt ((w.alloc _).alloc _) _ _ _ (w.heap.size + 1 + 1) (by simp) rfl
  have Z0 : Hid (W0.heap.size = w.heap.size + 1 + 1 + 1) := by show W0.heap.size = _; rw [← hW0]; simp
  have BW : Hid (Below w.heap.size w W0) := by rw [← hW0]; exact below_next (below_next (below_alloc _ _) (below_alloc _ _)) (below_alloc _ _)
  have EQ : Hid (ps s = ⟨8, s.h, s.a, s.c, s.o, s.d, 0⟩) := by
    have e : uH s.k = true ∧ uA s.k = true ∧ uC s.k = true ∧ uO s.k = true ∧ uD s.k = true ∧ uM s.k = false := by rw [hk]; decide
    show ps s = _
    unfold ps
    rw [e.1, e.2.1, e.2.2.1, e.2.2.2.1, e.2.2.2.2.1, e.2.2.2.2.2, hk]
    rfl
  have HK := hid hk
  clear hk
  go_enter Try.func30, Try.ntmps30
  go_wp2_with fail
  clear hW0
  refine (keepers_ok W0).mono ?_
  rintro e W1 ⟨rfl, kt, hb⟩
  replace BW := hid (below_next BW.out hb)
  replace KA := hid (KA.out.below hb)
  replace KR := hid (KR.out.below hb)
  replace KP := hid (KP.out.below hb)
  have ld := LDk_run KA.out
  have c0 := KA.out.cell 0 _ rfl
  rw [HK.out] at c0
  have SW : Hid (∀ V, Below W1.heap.size W1 V → V.cell? ⟨w.heap.size, 0, none⟩ = some (.int .u8 8) ∧ (LDk ⟨w.heap.size, 0, none⟩).run Try.prog V = .ok (sv s) V ∧ V.cell? ⟨W0.heap.size, 8, none⟩ = some (.func (.func 52) #[] #[])) := fun V hV => ⟨by have := (KA.out.below hV).cell 0 _ rfl; rwa [HK.out] at this, LDk_run (KA.out.below hV), (kt.below hV).cell 8 _ rfl⟩
  obtain ⟨x1, x2, x3⟩ := SW.out W1.drew (below_drewN W1 1)
  have D1 : Hid (Below W1.heap.size W1 W1.drew) := below_drewN W1 1
  have KK := hid (keep7 s W1.drew)
  have SX : Hid (∀ V U, Below W1.heap.size W1 V → Kp (fun j => j = w.heap.size + 1 + 1) V U → U.cell? ⟨w.heap.size, 0, none⟩ = some (.int .u8 8) ∧ (LDk ⟨w.heap.size, 0, none⟩).run Try.prog U = .ok (sv s) U ∧ U.cell? ⟨W0.heap.size, 8, none⟩ = some (.func (.func 52) #[] #[])) := fun V U hV hU => by
    have z := Z0.out
    have k0 := (KA.out.below hV).kept hU (by omega)
    exact ⟨by have := k0.cell 0 _ rfl; rwa [HK.out] at this, LDk_run k0, ((kt.below hV).kept hU (by omega)).cell 8 _ rfl⟩
  have s2 : Hid (∀ W2, Below W1.heap.size W1 W2 → ∃ W3, (SVk ⟨w.heap.size + 1 + 1, 0, none⟩ (.agg #[.int .u8 0, .int .i64 s.h, .int .u8 s.a, .int .i64 s.c, .int .i64 s.o, .int .i64 s.d, .int .i64 0])).run Try.prog W2 = .ok () W3 ∧ Blk W3 (w.heap.size + 1 + 1) (sL ⟨0, s.h, s.a, s.c, s.o, s.d, 0⟩) 33 ∧ Kp (fun j => j = w.heap.size + 1 + 1) W2 W3) := fun W2 h2 => SVk_run ⟨0, s.h, s.a, s.c, s.o, s.d, 0⟩ (KP.out.below h2) rfl
  clear kt hb ld
  go_wp2_with fail
  go_region_held3 (fun V => V.cell? ⟨w.heap.size, 0, none⟩ = some (.int .u8 8) ∧ (LDk ⟨w.heap.size, 0, none⟩).run Try.prog V = .ok (sv s) V ∧ V.cell? ⟨W0.heap.size, 8, none⟩ = some (.func (.func 52) #[] #[])) (go_keep) (first
    | (go_at_call 52; with_reducible refine KK.out.mono ?_; rintro e W2 ⟨rfl, hb⟩; have N2 : Hid (Below W1.heap.size W1 W2) := hid (below_next D1.out hb); have tt := SW.out W2 N2.out; have y1 := tt.1; have y2 := tt.2.1; have y3 := tt.2.2; clear tt hb; obtain ⟨W3, s3, k3, hk3⟩ := s2.out W2 N2.out; have tt := SX.out W2 W3 N2.out hk3; have q1 := tt.1; have q2 := tt.2.1; have q3 := tt.2.2; clear tt; have K3 := hid k3; have HK3 := hid hk3; clear k3 hk3))
  clear x1 x2 x3 y1 y2 y3 q1 q2 q3 s3 s2 KK SW SX c0
  have k3 := K3.out
  have hk3 := HK3.out
  have hb := N2.out
  replace BW := hid (below_next BW.out hb)
  replace KA := hid (KA.out.below hb)
  replace KR := hid (KR.out.below hb)
  clear hb
  have z0 := Z0.out
  replace KA := hid (KA.out.kept hk3 (by omega))
  replace KR := hid (KR.out.kept hk3 (by omega))
  have cp := k3.cell 0 _ rfl
  have fp := k3.frozen 0
  obtain ⟨W4, hW4⟩ : ∃ W, W3.setCell ⟨w.heap.size + 1 + 1, 0, none⟩ (.int .u8 8) = W := ⟨_, rfl⟩
  have hk4 := Kp.setCell (w := W3) (w.heap.size + 1 + 1) 0 (.int .u8 8)
  rw [hW4] at hk4
  have k4 : Blk W4 (w.heap.size + 1 + 1) (sL ⟨8, s.h, s.a, s.c, s.o, s.d, 0⟩) 33 := by rw [← hW4]; exact k3.set 0 _
  have l4 := LDk_run k4
  have l4' : (LDk ⟨w.heap.size + 1 + 1, 0, none⟩).run Try.prog W4 = .ok (.agg #[.int .u8 8, .int .i64 s.h, .int .u8 s.a, .int .i64 s.c, .int .i64 s.o, .int .i64 s.d, .int .i64 0]) W4 := l4
  obtain ⟨W5, s5, k5, hk5⟩ := SVk_run ⟨8, s.h, s.a, s.c, s.o, s.d, 0⟩ (KR.out.kept hk4 (by omega)) rfl
  have s5' : (SVk ⟨w.heap.size + 1, 0, none⟩ (.agg #[.int .u8 8, .int .i64 s.h, .int .u8 s.a, .int .i64 s.c, .int .i64 s.o, .int .i64 s.d, .int .i64 0])).run Try.prog W4 = .ok () W5 := s5
  have L5 := hid (LDk_run k5)
  have B5 : Hid (Below w.heap.size w W5) := BW.out.trans (((hk3.mono (fun _ _ e => Or.inl e)).trans ((hk4.mono (fun _ _ e => Or.inl e)).trans (hk5.mono (fun _ _ e => Or.inr e)) (fun _ _ e => e)) (fun _ _ e => e)).below BW.out.size (fun j _ e => by omega))
  clear hk3 hk4 hk5 k3 k4 k5 l4 s5 KR KA KP BW Z0 z0
  go_wp2_with fail
  exact bodyPost_ret (Tb.results_cell1 rfl rfl L5.out) rfl ⟨by rw [EQ.out], B5.out⟩
set_option maxRecDepth 8000 in
set_option maxHeartbeats 1200000 in
theorem splain_9 (s : Sk) (w : World) (hk : s.k = 9) :
    Calls Try.prog 30 #[sv s] w fun e w' => e = .returned (sv (ps s)) ∧ Below w.heap.size w w' := by
  obtain ⟨W0, hW0⟩ : ∃ W, ((w.alloc (.cells #[Value.int IntKind.u8 s.k, Value.int IntKind.i64 s.h, Value.int IntKind.u8 s.a, Value.int IntKind.i64 s.c, Value.int IntKind.i64 s.o, Value.int IntKind.i64 s.d, Value.int IntKind.i64 s.m] 33)).alloc (.cells #[Value.int IntKind.u8 0, Value.int IntKind.i64 0, Value.int IntKind.u8 0, Value.int IntKind.i64 0, Value.int IntKind.i64 0, Value.int IntKind.i64 0, Value.int IntKind.i64 0] 33)).alloc (.cells #[Value.int IntKind.u8 0, Value.int IntKind.i64 0, Value.int IntKind.u8 0, Value.int IntKind.i64 0, Value.int IntKind.i64 0, Value.int IntKind.i64 0, Value.int IntKind.i64 0] 33) = W := ⟨_, rfl⟩
  have KA : Hid (Blk W0 w.heap.size (sL s) 33) := by rw [← hW0]; exact ((Blk.newAt w _ _ _ w.heap.size rfl rfl).alloc _).alloc _
  have KR : Hid (Blk W0 (w.heap.size + 1) (sL zS) 33) := by rw [← hW0]; exact (Blk.newAt (w.alloc _) _ _ _ (w.heap.size + 1) (by simp) rfl).alloc _
  have KP : Hid (Blk W0 (w.heap.size + 1 + 1) (sL zS) 33) := by rw [← hW0]; exact Blk.newAt ((w.alloc _).alloc _) _ _ _ (w.heap.size + 1 + 1) (by simp) rfl
  have Z0 : Hid (W0.heap.size = w.heap.size + 1 + 1 + 1) := by show W0.heap.size = _; rw [← hW0]; simp
  have BW : Hid (Below w.heap.size w W0) := by rw [← hW0]; exact below_next (below_next (below_alloc _ _) (below_alloc _ _)) (below_alloc _ _)
  have EQ : Hid (ps s = ⟨9, s.h, 0, 0, 0, 0, 0⟩) := by
    have e : uH s.k = true ∧ uA s.k = false ∧ uC s.k = false ∧ uO s.k = false ∧ uD s.k = false ∧ uM s.k = false := by rw [hk]; decide
    show ps s = _
    unfold ps
    rw [e.1, e.2.1, e.2.2.1, e.2.2.2.1, e.2.2.2.2.1, e.2.2.2.2.2, hk]
    rfl
  have HK := hid hk
  clear hk
  go_enter Try.func30, Try.ntmps30
  go_wp2_with fail
  clear hW0
  refine (keepers_ok W0).mono ?_
  rintro e W1 ⟨rfl, kt, hb⟩
  replace BW := hid (below_next BW.out hb)
  replace KA := hid (KA.out.below hb)
  replace KR := hid (KR.out.below hb)
  replace KP := hid (KP.out.below hb)
  have ld := LDk_run KA.out
  have c0 := KA.out.cell 0 _ rfl
  rw [HK.out] at c0
  have SW : Hid (∀ V, Below W1.heap.size W1 V → V.cell? ⟨w.heap.size, 0, none⟩ = some (.int .u8 9) ∧ (LDk ⟨w.heap.size, 0, none⟩).run Try.prog V = .ok (sv s) V ∧ V.cell? ⟨W0.heap.size, 9, none⟩ = some (.func (.func 46) #[] #[])) := fun V hV => ⟨by have := (KA.out.below hV).cell 0 _ rfl; rwa [HK.out] at this, LDk_run (KA.out.below hV), (kt.below hV).cell 9 _ rfl⟩
  obtain ⟨x1, x2, x3⟩ := SW.out W1.drew (below_drewN W1 1)
  have D1 : Hid (Below W1.heap.size W1 W1.drew) := below_drewN W1 1
  have KK := hid (keep1 s W1.drew)
  have SX : Hid (∀ V U, Below W1.heap.size W1 V → Kp (fun j => j = w.heap.size + 1 + 1) V U → U.cell? ⟨w.heap.size, 0, none⟩ = some (.int .u8 9) ∧ (LDk ⟨w.heap.size, 0, none⟩).run Try.prog U = .ok (sv s) U ∧ U.cell? ⟨W0.heap.size, 9, none⟩ = some (.func (.func 46) #[] #[])) := fun V U hV hU => by
    have z := Z0.out
    have k0 := (KA.out.below hV).kept hU (by omega)
    exact ⟨by have := k0.cell 0 _ rfl; rwa [HK.out] at this, LDk_run k0, ((kt.below hV).kept hU (by omega)).cell 9 _ rfl⟩
  have s2 : Hid (∀ W2, Below W1.heap.size W1 W2 → ∃ W3, (SVk ⟨w.heap.size + 1 + 1, 0, none⟩ (.agg #[.int .u8 0, .int .i64 s.h, .int .u8 0, .int .i64 0, .int .i64 0, .int .i64 0, .int .i64 0])).run Try.prog W2 = .ok () W3 ∧ Blk W3 (w.heap.size + 1 + 1) (sL ⟨0, s.h, 0, 0, 0, 0, 0⟩) 33 ∧ Kp (fun j => j = w.heap.size + 1 + 1) W2 W3) := fun W2 h2 => SVk_run ⟨0, s.h, 0, 0, 0, 0, 0⟩ (KP.out.below h2) rfl
  clear kt hb ld
  go_wp2_with fail
  go_region_held3 (fun V => V.cell? ⟨w.heap.size, 0, none⟩ = some (.int .u8 9) ∧ (LDk ⟨w.heap.size, 0, none⟩).run Try.prog V = .ok (sv s) V ∧ V.cell? ⟨W0.heap.size, 9, none⟩ = some (.func (.func 46) #[] #[])) (go_keep) (first
    | (go_at_call 46; with_reducible refine KK.out.mono ?_; rintro e W2 ⟨rfl, hb⟩; have N2 : Hid (Below W1.heap.size W1 W2) := hid (below_next D1.out hb); have tt := SW.out W2 N2.out; have y1 := tt.1; have y2 := tt.2.1; have y3 := tt.2.2; clear tt hb; obtain ⟨W3, s3, k3, hk3⟩ := s2.out W2 N2.out; have tt := SX.out W2 W3 N2.out hk3; have q1 := tt.1; have q2 := tt.2.1; have q3 := tt.2.2; clear tt; have K3 := hid k3; have HK3 := hid hk3; clear k3 hk3))
  clear x1 x2 x3 y1 y2 y3 q1 q2 q3 s3 s2 KK SW SX c0
  have k3 := K3.out
  have hk3 := HK3.out
  have hb := N2.out
  replace BW := hid (below_next BW.out hb)
  replace KA := hid (KA.out.below hb)
  replace KR := hid (KR.out.below hb)
  clear hb
  have z0 := Z0.out
  replace KA := hid (KA.out.kept hk3 (by omega))
  replace KR := hid (KR.out.kept hk3 (by omega))
  have cp := k3.cell 0 _ rfl
  have fp := k3.frozen 0
  obtain ⟨W4, hW4⟩ : ∃ W, W3.setCell ⟨w.heap.size + 1 + 1, 0, none⟩ (.int .u8 9) = W := ⟨_, rfl⟩
  have hk4 := Kp.setCell (w := W3) (w.heap.size + 1 + 1) 0 (.int .u8 9)
  rw [hW4] at hk4
  have k4 : Blk W4 (w.heap.size + 1 + 1) (sL ⟨9, s.h, 0, 0, 0, 0, 0⟩) 33 := by rw [← hW4]; exact k3.set 0 _
  have l4 := LDk_run k4
  have l4' : (LDk ⟨w.heap.size + 1 + 1, 0, none⟩).run Try.prog W4 = .ok (.agg #[.int .u8 9, .int .i64 s.h, .int .u8 0, .int .i64 0, .int .i64 0, .int .i64 0, .int .i64 0]) W4 := l4
  obtain ⟨W5, s5, k5, hk5⟩ := SVk_run ⟨9, s.h, 0, 0, 0, 0, 0⟩ (KR.out.kept hk4 (by omega)) rfl
  have s5' : (SVk ⟨w.heap.size + 1, 0, none⟩ (.agg #[.int .u8 9, .int .i64 s.h, .int .u8 0, .int .i64 0, .int .i64 0, .int .i64 0, .int .i64 0])).run Try.prog W4 = .ok () W5 := s5
  have L5 := hid (LDk_run k5)
  have B5 : Hid (Below w.heap.size w W5) := BW.out.trans (((hk3.mono (fun _ _ e => Or.inl e)).trans ((hk4.mono (fun _ _ e => Or.inl e)).trans (hk5.mono (fun _ _ e => Or.inr e)) (fun _ _ e => e)) (fun _ _ e => e)).below BW.out.size (fun j _ e => by omega))
  clear hk3 hk4 hk5 k3 k4 k5 l4 s5 KR KA KP BW Z0 z0
  go_wp2_with fail
  exact bodyPost_ret (Tb.results_cell1 rfl rfl L5.out) rfl ⟨by rw [EQ.out], B5.out⟩
set_option maxRecDepth 8000 in
set_option maxHeartbeats 1200000 in
theorem splain_10 (s : Sk) (w : World) (hk : s.k = 10) :
    Calls Try.prog 30 #[sv s] w fun e w' => e = .returned (sv (ps s)) ∧ Below w.heap.size w w' := by
  obtain ⟨W0, hW0⟩ : ∃ W, ((w.alloc (.cells #[Value.int IntKind.u8 s.k, Value.int IntKind.i64 s.h, Value.int IntKind.u8 s.a, Value.int IntKind.i64 s.c, Value.int IntKind.i64 s.o, Value.int IntKind.i64 s.d, Value.int IntKind.i64 s.m] 33)).alloc (.cells #[Value.int IntKind.u8 0, Value.int IntKind.i64 0, Value.int IntKind.u8 0, Value.int IntKind.i64 0, Value.int IntKind.i64 0, Value.int IntKind.i64 0, Value.int IntKind.i64 0] 33)).alloc (.cells #[Value.int IntKind.u8 0, Value.int IntKind.i64 0, Value.int IntKind.u8 0, Value.int IntKind.i64 0, Value.int IntKind.i64 0, Value.int IntKind.i64 0, Value.int IntKind.i64 0] 33) = W := ⟨_, rfl⟩
  have KA : Hid (Blk W0 w.heap.size (sL s) 33) := by rw [← hW0]; exact ((Blk.newAt w _ _ _ w.heap.size rfl rfl).alloc _).alloc _
  have KR : Hid (Blk W0 (w.heap.size + 1) (sL zS) 33) := by rw [← hW0]; exact (Blk.newAt (w.alloc _) _ _ _ (w.heap.size + 1) (by simp) rfl).alloc _
  have KP : Hid (Blk W0 (w.heap.size + 1 + 1) (sL zS) 33) := by rw [← hW0]; exact Blk.newAt ((w.alloc _).alloc _) _ _ _ (w.heap.size + 1 + 1) (by simp) rfl
  have Z0 : Hid (W0.heap.size = w.heap.size + 1 + 1 + 1) := by show W0.heap.size = _; rw [← hW0]; simp
  have BW : Hid (Below w.heap.size w W0) := by rw [← hW0]; exact below_next (below_next (below_alloc _ _) (below_alloc _ _)) (below_alloc _ _)
  have EQ : Hid (ps s = ⟨10, s.h, 0, 0, 0, 0, 0⟩) := by
    have e : uH s.k = true ∧ uA s.k = false ∧ uC s.k = false ∧ uO s.k = false ∧ uD s.k = false ∧ uM s.k = false := by rw [hk]; decide
    show ps s = _
    unfold ps
    rw [e.1, e.2.1, e.2.2.1, e.2.2.2.1, e.2.2.2.2.1, e.2.2.2.2.2, hk]
    rfl
  have HK := hid hk
  clear hk
  go_enter Try.func30, Try.ntmps30
  go_wp2_with fail
  clear hW0
  refine (keepers_ok W0).mono ?_
  rintro e W1 ⟨rfl, kt, hb⟩
  replace BW := hid (below_next BW.out hb)
  replace KA := hid (KA.out.below hb)
  replace KR := hid (KR.out.below hb)
  replace KP := hid (KP.out.below hb)
  have ld := LDk_run KA.out
  have c0 := KA.out.cell 0 _ rfl
  rw [HK.out] at c0
  have SW : Hid (∀ V, Below W1.heap.size W1 V → V.cell? ⟨w.heap.size, 0, none⟩ = some (.int .u8 10) ∧ (LDk ⟨w.heap.size, 0, none⟩).run Try.prog V = .ok (sv s) V ∧ V.cell? ⟨W0.heap.size, 10, none⟩ = some (.func (.func 46) #[] #[])) := fun V hV => ⟨by have := (KA.out.below hV).cell 0 _ rfl; rwa [HK.out] at this, LDk_run (KA.out.below hV), (kt.below hV).cell 10 _ rfl⟩
  obtain ⟨x1, x2, x3⟩ := SW.out W1.drew (below_drewN W1 1)
  have D1 : Hid (Below W1.heap.size W1 W1.drew) := below_drewN W1 1
  have KK := hid (keep1 s W1.drew)
  have SX : Hid (∀ V U, Below W1.heap.size W1 V → Kp (fun j => j = w.heap.size + 1 + 1) V U → U.cell? ⟨w.heap.size, 0, none⟩ = some (.int .u8 10) ∧ (LDk ⟨w.heap.size, 0, none⟩).run Try.prog U = .ok (sv s) U ∧ U.cell? ⟨W0.heap.size, 10, none⟩ = some (.func (.func 46) #[] #[])) := fun V U hV hU => by
    have z := Z0.out
    have k0 := (KA.out.below hV).kept hU (by omega)
    exact ⟨by have := k0.cell 0 _ rfl; rwa [HK.out] at this, LDk_run k0, ((kt.below hV).kept hU (by omega)).cell 10 _ rfl⟩
  have s2 : Hid (∀ W2, Below W1.heap.size W1 W2 → ∃ W3, (SVk ⟨w.heap.size + 1 + 1, 0, none⟩ (.agg #[.int .u8 0, .int .i64 s.h, .int .u8 0, .int .i64 0, .int .i64 0, .int .i64 0, .int .i64 0])).run Try.prog W2 = .ok () W3 ∧ Blk W3 (w.heap.size + 1 + 1) (sL ⟨0, s.h, 0, 0, 0, 0, 0⟩) 33 ∧ Kp (fun j => j = w.heap.size + 1 + 1) W2 W3) := fun W2 h2 => SVk_run ⟨0, s.h, 0, 0, 0, 0, 0⟩ (KP.out.below h2) rfl
  clear kt hb ld
  go_wp2_with fail
  go_region_held3 (fun V => V.cell? ⟨w.heap.size, 0, none⟩ = some (.int .u8 10) ∧ (LDk ⟨w.heap.size, 0, none⟩).run Try.prog V = .ok (sv s) V ∧ V.cell? ⟨W0.heap.size, 10, none⟩ = some (.func (.func 46) #[] #[])) (go_keep) (first
    | (go_at_call 46; with_reducible refine KK.out.mono ?_; rintro e W2 ⟨rfl, hb⟩; have N2 : Hid (Below W1.heap.size W1 W2) := hid (below_next D1.out hb); have tt := SW.out W2 N2.out; have y1 := tt.1; have y2 := tt.2.1; have y3 := tt.2.2; clear tt hb; obtain ⟨W3, s3, k3, hk3⟩ := s2.out W2 N2.out; have tt := SX.out W2 W3 N2.out hk3; have q1 := tt.1; have q2 := tt.2.1; have q3 := tt.2.2; clear tt; have K3 := hid k3; have HK3 := hid hk3; clear k3 hk3))
  clear x1 x2 x3 y1 y2 y3 q1 q2 q3 s3 s2 KK SW SX c0
  have k3 := K3.out
  have hk3 := HK3.out
  have hb := N2.out
  replace BW := hid (below_next BW.out hb)
  replace KA := hid (KA.out.below hb)
  replace KR := hid (KR.out.below hb)
  clear hb
  have z0 := Z0.out
  replace KA := hid (KA.out.kept hk3 (by omega))
  replace KR := hid (KR.out.kept hk3 (by omega))
  have cp := k3.cell 0 _ rfl
  have fp := k3.frozen 0
  obtain ⟨W4, hW4⟩ : ∃ W, W3.setCell ⟨w.heap.size + 1 + 1, 0, none⟩ (.int .u8 10) = W := ⟨_, rfl⟩
  have hk4 := Kp.setCell (w := W3) (w.heap.size + 1 + 1) 0 (.int .u8 10)
  rw [hW4] at hk4
  have k4 : Blk W4 (w.heap.size + 1 + 1) (sL ⟨10, s.h, 0, 0, 0, 0, 0⟩) 33 := by rw [← hW4]; exact k3.set 0 _
  have l4 := LDk_run k4
  have l4' : (LDk ⟨w.heap.size + 1 + 1, 0, none⟩).run Try.prog W4 = .ok (.agg #[.int .u8 10, .int .i64 s.h, .int .u8 0, .int .i64 0, .int .i64 0, .int .i64 0, .int .i64 0]) W4 := l4
  obtain ⟨W5, s5, k5, hk5⟩ := SVk_run ⟨10, s.h, 0, 0, 0, 0, 0⟩ (KR.out.kept hk4 (by omega)) rfl
  have s5' : (SVk ⟨w.heap.size + 1, 0, none⟩ (.agg #[.int .u8 10, .int .i64 s.h, .int .u8 0, .int .i64 0, .int .i64 0, .int .i64 0, .int .i64 0])).run Try.prog W4 = .ok () W5 := s5
  have L5 := hid (LDk_run k5)
  have B5 : Hid (Below w.heap.size w W5) := BW.out.trans (((hk3.mono (fun _ _ e => Or.inl e)).trans ((hk4.mono (fun _ _ e => Or.inl e)).trans (hk5.mono (fun _ _ e => Or.inr e)) (fun _ _ e => e)) (fun _ _ e => e)).below BW.out.size (fun j _ e => by omega))
  clear hk3 hk4 hk5 k3 k4 k5 l4 s5 KR KA KP BW Z0 z0
  go_wp2_with fail
  exact bodyPost_ret (Tb.results_cell1 rfl rfl L5.out) rfl ⟨by rw [EQ.out], B5.out⟩
set_option maxRecDepth 8000 in
set_option maxHeartbeats 1200000 in
theorem splain_no (s : Sk) (w : World) (hk : 11 ≤ s.k ∧ s.k < 256) :
    Calls Try.prog 30 #[sv s] w fun e w' => e = .returned (sv (ps s)) ∧ Below w.heap.size w w' := by
  obtain ⟨W0, hW0⟩ : ∃ W, ((w.alloc (.cells #[Value.int IntKind.u8 s.k, Value.int IntKind.i64 s.h, Value.int IntKind.u8 s.a, Value.int IntKind.i64 s.c, Value.int IntKind.i64 s.o, Value.int IntKind.i64 s.d, Value.int IntKind.i64 s.m] 33)).alloc (.cells #[Value.int IntKind.u8 0, Value.int IntKind.i64 0, Value.int IntKind.u8 0, Value.int IntKind.i64 0, Value.int IntKind.i64 0, Value.int IntKind.i64 0, Value.int IntKind.i64 0] 33)).alloc (.cells #[Value.int IntKind.u8 0, Value.int IntKind.i64 0, Value.int IntKind.u8 0, Value.int IntKind.i64 0, Value.int IntKind.i64 0, Value.int IntKind.i64 0, Value.int IntKind.i64 0] 33) = W := ⟨_, rfl⟩
  have KA : Hid (Blk W0 w.heap.size (sL s) 33) := by rw [← hW0]; exact ((Blk.newAt w _ _ _ w.heap.size rfl rfl).alloc _).alloc _
  have KR : Hid (Blk W0 (w.heap.size + 1) (sL zS) 33) := by rw [← hW0]; exact (Blk.newAt (w.alloc _) _ _ _ (w.heap.size + 1) (by simp) rfl).alloc _
  have KP : Hid (Blk W0 (w.heap.size + 1 + 1) (sL zS) 33) := by rw [← hW0]; exact Blk.newAt ((w.alloc _).alloc _) _ _ _ (w.heap.size + 1 + 1) (by simp) rfl
  have Z0 : Hid (W0.heap.size = w.heap.size + 1 + 1 + 1) := by show W0.heap.size = _; rw [← hW0]; simp
  have BW : Hid (Below w.heap.size w W0) := by rw [← hW0]; exact below_next (below_next (below_alloc _ _) (below_alloc _ _)) (below_alloc _ _)
  have EQ : Hid (ps s = ⟨s.k, 0, 0, 0, 0, 0, 0⟩) := by
    have e : uH s.k = false ∧ uA s.k = false ∧ uC s.k = false ∧ uO s.k = false ∧ uD s.k = false ∧ uM s.k = false := by unfold uH uA uC uO uD uM; refine ⟨?_, ?_, ?_, ?_, ?_, ?_⟩ <;> simp <;> omega
    show ps s = _
    unfold ps
    rw [e.1, e.2.1, e.2.2.1, e.2.2.2.1, e.2.2.2.2.1, e.2.2.2.2.2]
    rfl
  have HK := hid hk
  clear hk
  go_enter Try.func30, Try.ntmps30
  go_wp2_with fail
  clear hW0
  refine (keepers_ok W0).mono ?_
  rintro e W1 ⟨rfl, kt, hb⟩
  replace BW := hid (below_next BW.out hb)
  replace KA := hid (KA.out.below hb)
  replace KR := hid (KR.out.below hb)
  replace KP := hid (KP.out.below hb)
  have ld := LDk_run KA.out
  have c0 := KA.out.cell 0 _ rfl
  have n1 : ¬ s.k < 11 := by have := HK.out.1; omega
  have n2 : 0 ≤ s.k := by have := HK.out.1; omega
  have n3 : s.k < 256 := HK.out.2
  clear kt hb ld
  have cp := KP.out.cell 0 _ rfl
  have fp := KP.out.frozen 0
  have z0 := Z0.out
  obtain ⟨W4, hW4⟩ : ∃ W, W1.setCell ⟨w.heap.size + 1 + 1, 0, none⟩ (.int .u8 s.k) = W := ⟨_, rfl⟩
  have hk4 := Kp.setCell (w := W1) (w.heap.size + 1 + 1) 0 (.int .u8 s.k)
  rw [hW4] at hk4
  have k4 : Blk W4 (w.heap.size + 1 + 1) (sL ⟨s.k, 0, 0, 0, 0, 0, 0⟩) 33 := by rw [← hW4]; exact KP.out.set 0 _
  have l4 := LDk_run k4
  have l4' : (LDk ⟨w.heap.size + 1 + 1, 0, none⟩).run Try.prog W4 = .ok (.agg #[.int .u8 s.k, .int .i64 0, .int .u8 0, .int .i64 0, .int .i64 0, .int .i64 0, .int .i64 0]) W4 := l4
  obtain ⟨W5, s5, k5, hk5⟩ := SVk_run ⟨s.k, 0, 0, 0, 0, 0, 0⟩ (KR.out.kept hk4 (by omega)) rfl
  have s5' : (SVk ⟨w.heap.size + 1, 0, none⟩ (.agg #[.int .u8 s.k, .int .i64 0, .int .u8 0, .int .i64 0, .int .i64 0, .int .i64 0, .int .i64 0])).run Try.prog W4 = .ok () W5 := s5
  have L5 := hid (LDk_run k5)
  have B5 : Hid (Below w.heap.size w W5) := BW.out.trans (((hk4.mono (fun _ _ e => Or.inl e)).trans (hk5.mono (fun _ _ e => Or.inr e)) (fun _ _ e => e)).below BW.out.size (fun j _ e => by omega))
  clear hk4 hk5 k4 k5 l4 s5 KR KA KP BW Z0 z0
  go_wp2_with fail
  exact bodyPost_ret (Tb.results_cell1 rfl rfl L5.out) rfl ⟨by rw [EQ.out], B5.out⟩
theorem splain_ok (s : Sk) (w : World) (hk : 0 ≤ s.k ∧ s.k < 256) :
    Calls Try.prog 30 #[sv s] w fun e w' => e = .returned (sv (ps s)) ∧ Below w.heap.size w w' := by
  by_cases h : 11 ≤ s.k
  · exact splain_no s w ⟨h, hk.2⟩
  · have h' : s.k = 0 ∨ s.k = 1 ∨ s.k = 2 ∨ s.k = 3 ∨ s.k = 4 ∨ s.k = 5 ∨ s.k = 6 ∨ s.k = 7 ∨ s.k = 8 ∨ s.k = 9 ∨ s.k = 10 := by omega
    rcases h' with h | h | h | h | h | h | h | h | h | h | h
    · exact splain_0 s w h
    · exact splain_1 s w h
    · exact splain_2 s w h
    · exact splain_3 s w h
    · exact splain_4 s w h
    · exact splain_5 s w h
    · exact splain_6 s w h
    · exact splain_7 s w h
    · exact splain_8 s w h
    · exact splain_9 s w h
    · exact splain_10 s w h
end Go.Proofs.Ytdahogdfonhnfaa.Ou
