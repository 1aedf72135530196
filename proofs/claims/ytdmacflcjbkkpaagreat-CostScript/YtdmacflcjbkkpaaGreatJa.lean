/- The closures of CMAC. The closures of KMAC. -/
import Derived.Test.YtdmacflcjbkkpaaGreatCag
import Derived.Test.YtdmacflcjbkkpaaGreatCld
import Derived.Test.YtdmacflcjbkkpaaGreatCmp
namespace Go.Proofs.YtdmacflcjbkkpaaGreat.Co
open Go.ChangeShapes Go.WideShapes Go.ChangeAt Go.RowKit
open Go.Proofs.YtdmacflcjbkkpaaGreat (putL)
open Go.Proofs.YtdmacflcjbkkpaaGreat.Tb (Blk Blk.newAt put_all Kp.setCells results_cell2)
set_option maxRecDepth 8000 in
set_option maxHeartbeats 1600000 in
theorem cenc_ok (h : He) (w : World) : Calls Tryz.prog 130 #[hv h] w fun e w' => e = .returned (.agg #[.int .u8 5, .int .i64 h.key]) ∧ Below w.heap.size w w' := by
  obtain ⟨key, alg, out, cus, msg⟩ := h
  obtain ⟨W, hW⟩ : ∃ W, (w.alloc (.cells #[.int .u8 alg, .int .i64 out, .int .i64 key, .int .i64 cus, .int .i64 msg] 82)).alloc (.cells #[.int .u8 0, .int .i64 0] 84) = W := ⟨_, rfl⟩
  have BW : Hid (Below w.heap.size w W) := by rw [← hW]; exact below_next (below_alloc _ _) (below_alloc _ _)
  have KB : Hid (Blk W w.heap.size [.int .u8 alg, .int .i64 out, .int .i64 key, .int .i64 cus, .int .i64 msg] 82) := by rw [← hW]; exact (Blk.newAt w _ _ _ w.heap.size rfl rfl).alloc _
  have KE : Blk W (w.heap.size + 1) [.int .u8 0, .int .i64 0] 84 := by rw [← hW]; exact Blk.newAt (w.alloc _) _ _ _ (w.heap.size + 1) (by simp) rfl
  have hz : W.heap.size = w.heap.size + 1 + 1 := by rw [← hW]; simp
  have x0 := KB.out.cell 2 _ rfl
  obtain ⟨W1, s1, k1, hk1⟩ := SVe_run 5 key KE rfl
  have L1 := hid (LDe_run k1)
  have B1 : Hid (Below w.heap.size w W1) := BW.out.trans (hk1.below (by omega) (fun k h e => by omega))
  clear hk1 k1 KE hz
  go_enter Tryz.func130, Tryz.ntmps130
  go_wp2
  exact bodyPost_ret (Tb.results_cell1 rfl rfl L1.out) rfl ⟨rfl, B1.out⟩
set_option maxRecDepth 8000 in
set_option maxHeartbeats 1600000 in
theorem cbegin_ok (lo : Lo) (L : List Rn) (h : He) (g B : Nat) (w : World) (hl : LdO w lo L) (hB : ∀ j, blo lo j → j < B) (hgl : B ≤ g) (kg : Blk w g [.func (.func 130) #[] #[]] 149) (ho : h.Ok) (hb40 : h.msg ≤ 1000000000000) (hm : Rm L 2) (ha : h.alg = 3) :
    Calls Tryz.prog 132 #[lpo lo, hv h, .pointer (some ⟨g, 0, none⟩)] w fun e w' => e = .returned (.tuple #[]) ∧ ∃ lo', LT w w' lo lo' ((bgE h).foldl putL L) := by
  obtain ⟨key, alg, out, cus, msg⟩ := h
  have k0 : 0 ≤ key := ho.k0
  have k1 : key ≤ 512 := ho.k1
  have c0 : 0 ≤ cus := ho.c0
  have c1 : cus ≤ 64 := ho.c1
  have o0 : 0 ≤ out := ho.o0
  have o1 : out ≤ 64 := ho.o1
  have m0 : 0 ≤ msg := ho.m0
  have m1 : msg ≤ 1000000000000 := hb40
  obtain rfl : alg = 3 := ha
  have CE := hid (cenc_ok ⟨key, 3, out, cus, msg⟩)
  obtain ⟨W, hW⟩ : ∃ W, w.alloc (.cells #[.int .u8 3, .int .i64 out, .int .i64 key, .int .i64 cus, .int .i64 msg] 82) = W := ⟨_, rfl⟩
  have BW : Hid (Below w.heap.size w W) := by rw [← hW]; exact below_alloc _ _
  have KB : Hid (Blk W w.heap.size [.int .u8 3, .int .i64 out, .int .i64 key, .int .i64 cus, .int .i64 msg] 82) := by rw [← hW]; exact Blk.newAt w _ _ _ w.heap.size rfl rfl
  have LB : Hid (∀ V, Below W.heap.size W V → LdO V lo L) := fun V hV => (hl.below BW.out).below hV
  have LL : Hid (∀ j, blo lo j → j < w.heap.size) := hl.lt
  have D0 : Hid (Below W.heap.size W W.drew) := hid (below_drewN W 1)
  have KG : Hid (Blk W g [.func (.func 130) #[] #[]] 149) := kg.below BW.out
  have HB := hid hB
  have SW : Hid (∀ U V, Below W.heap.size W U → Kp (blo lo) U V → V.cell? ⟨w.heap.size, 2, none⟩ = some (.int .i64 key) ∧ V.cell? ⟨w.heap.size, 4, none⟩ = some (.int .i64 msg) ∧ V.cell? ⟨g, 0, none⟩ = some (.func (.func 130) #[] #[]) ∧ (LDg ⟨w.heap.size, 0, none⟩).run Tryz.prog V = .ok (.agg #[.int .u8 3, .int .i64 out, .int .i64 key, .int .i64 cus, .int .i64 msg]) V) := fun U V hU hk => by
    have kb := (KB.out.below hU).kept hk (fun e => by have := LL.out _ e; omega)
    have kg := (KG.out.below hU).kept hk (fun e => by have := HB.out _ e; omega)
    exact ⟨kb.cell 2 _ rfl, kb.cell 4 _ rfl, kg.cell 0 _ rfl, LDg_run kb⟩
  have n1 := hid (note_o lo L 4 key W (LB.out W (Below.refl _ _)) (by omega) (hm.less (k := 1) (by decide)))
  have R1 : Hid (Rm (putL L ⟨4, key, 1⟩) 1) := hid (Rm.put (m := 1) hm (by show (1 : Int) ≤ 1125899906842624; decide))
  have E : Hid ((bgE ⟨key, 3, out, cus, msg⟩).foldl putL L = putL (putL L ⟨4, key, 1⟩) ⟨5, key, 1⟩) := hid rfl
  obtain ⟨x0, x1, x2, x3⟩ := SW.out W W (Below.refl _ _) (Kp.refl _ _)
  clear hl hB kg ho hm
  go_enter Tryz.func132, Tryz.ntmps132
  go_wp2_with fail
  clear hW
  refine n1.out.mono ?_
  rintro e W1 ⟨rfl, l1, t1⟩
  have T1 := hid t1
  obtain ⟨y0, y1, y2, y3⟩ := SW.out W W1 (Below.refl _ _) t1.kp
  clear x0 x1 x2 x3 t1
  go_wp2_with fail
  refine (CE.out _).mono ?_
  rintro e W2 ⟨rfl, hb⟩
  have T2 := hid (T1.out.below hb)
  clear hb
  have en : lpo lo = lpo l1 := T1.out.ptr.symm
  rw [en]
  go_wp2_with fail
  refine (note_o l1 _ 5 key W2 T2.out.led (by omega) R1.out).mono ?_
  rintro e W3 ⟨rfl, l3, t3⟩
  have T3 := hid (LT.after BW.out (T2.out.trans t3))
  clear t3
  go_wp2
  go_end0
  exact ⟨rfl, l3, by rw [E.out]; exact T3.out⟩
set_option maxRecDepth 8000 in
set_option maxHeartbeats 1600000 in
theorem csum_ok (lo : Lo) (L : List Rn) (h : He) (g B : Nat) (w : World) (hl : LdO w lo L) (hB : ∀ j, blo lo j → j < B) (hgl : B ≤ g) (kg : Blk w g [.func (.func 130) #[] #[]] 149) (ho : h.Ok) (hb40 : h.msg ≤ 1000000000000) (hm : Rm L 1) (ha : h.alg = 3) :
    Calls Tryz.prog 135 #[lpo lo, hv h, .pointer (some ⟨g, 0, none⟩)] w fun e w' => e = .returned (.tuple #[]) ∧ ∃ lo', LT w w' lo lo' ((smE h).foldl putL L) := by
  obtain ⟨key, alg, out, cus, msg⟩ := h
  have k0 : 0 ≤ key := ho.k0
  have k1 : key ≤ 512 := ho.k1
  have c0 : 0 ≤ cus := ho.c0
  have c1 : cus ≤ 64 := ho.c1
  have o0 : 0 ≤ out := ho.o0
  have o1 : out ≤ 64 := ho.o1
  have m0 : 0 ≤ msg := ho.m0
  have m1 : msg ≤ 1000000000000 := hb40
  obtain rfl : alg = 3 := ha
  have CE := hid (cenc_ok ⟨key, 3, out, cus, msg⟩)
  obtain ⟨W, hW⟩ : ∃ W, w.alloc (.cells #[.int .u8 3, .int .i64 out, .int .i64 key, .int .i64 cus, .int .i64 msg] 82) = W := ⟨_, rfl⟩
  have BW : Hid (Below w.heap.size w W) := by rw [← hW]; exact below_alloc _ _
  have KB : Hid (Blk W w.heap.size [.int .u8 3, .int .i64 out, .int .i64 key, .int .i64 cus, .int .i64 msg] 82) := by rw [← hW]; exact Blk.newAt w _ _ _ w.heap.size rfl rfl
  have LB : Hid (∀ V, Below W.heap.size W V → LdO V lo L) := fun V hV => (hl.below BW.out).below hV
  have LL : Hid (∀ j, blo lo j → j < w.heap.size) := hl.lt
  have D0 : Hid (Below W.heap.size W W.drew) := hid (below_drewN W 1)
  have KG : Hid (Blk W g [.func (.func 130) #[] #[]] 149) := kg.below BW.out
  have HB := hid hB
  have SW : Hid (∀ U V, Below W.heap.size W U → Kp (blo lo) U V → V.cell? ⟨w.heap.size, 2, none⟩ = some (.int .i64 key) ∧ V.cell? ⟨w.heap.size, 4, none⟩ = some (.int .i64 msg) ∧ V.cell? ⟨g, 0, none⟩ = some (.func (.func 130) #[] #[]) ∧ (LDg ⟨w.heap.size, 0, none⟩).run Tryz.prog V = .ok (.agg #[.int .u8 3, .int .i64 out, .int .i64 key, .int .i64 cus, .int .i64 msg]) V) := fun U V hU hk => by
    have kb := (KB.out.below hU).kept hk (fun e => by have := LL.out _ e; omega)
    have kg := (KG.out.below hU).kept hk (fun e => by have := HB.out _ e; omega)
    exact ⟨kb.cell 2 _ rfl, kb.cell 4 _ rfl, kg.cell 0 _ rfl, LDg_run kb⟩
  have E : Hid ((smE ⟨key, 3, out, cus, msg⟩).foldl putL L = putL L ⟨5, key, 1⟩) := hid rfl
  have HM := hid hm
  obtain ⟨x0, x1, x2, x3⟩ := SW.out W W (Below.refl _ _) (Kp.refl _ _)
  clear hl hB kg ho hm
  go_enter Tryz.func135, Tryz.ntmps135
  go_wp2_with fail
  clear hW
  refine (CE.out _).mono ?_
  rintro e W2 ⟨rfl, hb⟩
  have N2 := hid hb
  clear hb
  go_wp2_with fail
  refine (note_o lo _ 5 key W2 (LB.out W2 N2.out) (by omega) HM.out).mono ?_
  rintro e W3 ⟨rfl, l3, t3⟩
  have T3 := hid (LT.after (below_next BW.out N2.out) t3)
  clear t3
  go_wp2
  go_end0
  exact ⟨rfl, l3, by rw [E.out]; exact T3.out⟩
set_option maxRecDepth 8000 in
set_option maxHeartbeats 1600000 in
theorem cwrite_ok (lo : Lo) (L : List Rn) (h : He) (g B : Nat) (n : Int) (hn : 0 ≤ n ∧ n ≤ 65536) (w : World) (hl : LdO w lo L) (hB : ∀ j, blo lo j → j < B) (hgl : B ≤ g) (kg : Blk w g [.func (.func 130) #[] #[]] 149) (ho : h.Ok) (hb40 : h.msg ≤ 1000000000000) (hm : Rm L 1) (ha : h.alg = 3) :
    Calls Tryz.prog 133 #[lpo lo, hv h, .int .i64 n, .pointer (some ⟨g, 0, none⟩)] w fun e w' => e = .returned (.tuple #[]) ∧ ∃ lo', LT w w' lo lo' ((tlE h n).foldl putL L) := by
  obtain ⟨key, alg, out, cus, msg⟩ := h
  have k0 : 0 ≤ key := ho.k0
  have k1 : key ≤ 512 := ho.k1
  have c0 : 0 ≤ cus := ho.c0
  have c1 : cus ≤ 64 := ho.c1
  have o0 : 0 ≤ out := ho.o0
  have o1 : out ≤ 64 := ho.o1
  have m0 : 0 ≤ msg := ho.m0
  have m1 : msg ≤ 1000000000000 := hb40
  obtain rfl : alg = 3 := ha
  have CE := hid (cenc_ok ⟨key, 3, out, cus, msg⟩)
  have E : Hid ((tlE ⟨key, 3, out, cus, msg⟩ n).foldl putL L = putL L ⟨5, key, chn (msg + n) - chn msg⟩) := hid rfl
  have cb := chn_b (m := msg) (n := n) hn.1
  have P1 := hid (passed_ok (n := msg + n) (by omega))
  have P2 := hid (passed_ok (n := msg) (by omega))
  have b1 : 0 ≤ chn (msg + n) ∧ chn (msg + n) ≤ 2000000000000 := by unfold chn; omega
  have b2 : 0 ≤ chn msg ∧ chn msg ≤ 2000000000000 := by unfold chn; omega
  obtain ⟨p1, hp1⟩ : ∃ x, chn (msg + n) = x := ⟨_, rfl⟩
  obtain ⟨p2, hp2⟩ : ∃ x, chn msg = x := ⟨_, rfl⟩
  rw [hp1] at E cb P1 b1
  rw [hp2] at E cb P2 b2
  have wa : IntKind.i64.wrap (msg + n) = msg + n := by rw [IntKind.wrap_i64]; omega
  have wb : IntKind.i64.wrap (p1 - p2) = p1 - p2 := by rw [IntKind.wrap_i64]; omega
  clear hp1 hp2
  obtain ⟨W, hW⟩ : ∃ W, w.alloc (.cells #[.int .u8 3, .int .i64 out, .int .i64 key, .int .i64 cus, .int .i64 msg] 82) = W := ⟨_, rfl⟩
  have BW : Hid (Below w.heap.size w W) := by rw [← hW]; exact below_alloc _ _
  have KB : Hid (Blk W w.heap.size [.int .u8 3, .int .i64 out, .int .i64 key, .int .i64 cus, .int .i64 msg] 82) := by rw [← hW]; exact Blk.newAt w _ _ _ w.heap.size rfl rfl
  have LB : Hid (∀ V, Below W.heap.size W V → LdO V lo L) := fun V hV => (hl.below BW.out).below hV
  have LL : Hid (∀ j, blo lo j → j < w.heap.size) := hl.lt
  have D0 : Hid (Below W.heap.size W W.drew) := hid (below_drewN W 1)
  have KG : Hid (Blk W g [.func (.func 130) #[] #[]] 149) := kg.below BW.out
  have HB := hid hB
  have SW : Hid (∀ U V, Below W.heap.size W U → Kp (blo lo) U V → V.cell? ⟨w.heap.size, 2, none⟩ = some (.int .i64 key) ∧ V.cell? ⟨w.heap.size, 4, none⟩ = some (.int .i64 msg) ∧ V.cell? ⟨g, 0, none⟩ = some (.func (.func 130) #[] #[]) ∧ (LDg ⟨w.heap.size, 0, none⟩).run Tryz.prog V = .ok (.agg #[.int .u8 3, .int .i64 out, .int .i64 key, .int .i64 cus, .int .i64 msg]) V) := fun U V hU hk => by
    have kb := (KB.out.below hU).kept hk (fun e => by have := LL.out _ e; omega)
    have kg := (KG.out.below hU).kept hk (fun e => by have := HB.out _ e; omega)
    exact ⟨kb.cell 2 _ rfl, kb.cell 4 _ rfl, kg.cell 0 _ rfl, LDg_run kb⟩
  have NT : Hid (∀ V, Below W.heap.size W V → Calls Tryz.prog 85 #[lpo lo, .agg #[.int .u8 5, .int .i64 key], .int .i64 (p1 - p2)] V fun e w' => e = .returned (.tuple #[]) ∧ ∃ lo', LT V w' lo lo' (putL L ⟨5, key, p1 - p2⟩)) := fun V hV => noteTimes_o lo L 5 key (p1 - p2) V (LB.out V hV) (by omega) (by omega) hm
  obtain ⟨x0, x1, x2, x3⟩ := SW.out W.drew W.drew D0.out (Kp.refl _ _)
  clear hl hB kg ho hm
  go_enter Tryz.func133, Tryz.ntmps133
  go_wp2_with fail
  clear hW
  go_region_held3 (fun V => V.cell? ⟨w.heap.size, 2, none⟩ = some (.int .i64 key) ∧ V.cell? ⟨w.heap.size, 4, none⟩ = some (.int .i64 msg) ∧ V.cell? ⟨g, 0, none⟩ = some (.func (.func 130) #[] #[]) ∧ (LDg ⟨w.heap.size, 0, none⟩).run Tryz.prog V = .ok (.agg #[.int .u8 3, .int .i64 out, .int .i64 key, .int .i64 cus, .int .i64 msg]) V) (go_keep) (first
    | (go_at_call 130; with_reducible refine (CE.out _).mono ?_; rintro e W1 ⟨rfl, hb⟩; have N1 : Hid (Below W.heap.size W W1) := hid (below_next D0.out hb); obtain ⟨y0, y1, y2, y3⟩ := SW.out W1 W1 N1.out (Kp.refl _ _); clear hb)
    | (go_at_call 134; with_reducible refine (P1.out _).mono ?_; rintro e W8 ⟨rfl, rfl⟩)
    | (go_at_call 134; with_reducible refine (P2.out _).mono ?_; rintro e W8 ⟨rfl, rfl⟩)
    | (go_at_call 85; with_reducible refine (NT.out _ N1.out).mono ?_; rintro e W9 ⟨rfl, lo9, t9⟩; have T9 := hid (LT.after (below_next BW.out N1.out) t9); obtain ⟨z0, z1, z2, z3⟩ := SW.out _ W9 N1.out t9.kp; clear t9))
  go_wp2
  go_end0
  exact ⟨rfl, lo9, by rw [E.out]; exact T9.out⟩
end Go.Proofs.YtdmacflcjbkkpaaGreat.Co
namespace Go.Proofs.YtdmacflcjbkkpaaGreat.Co
open Go.ChangeShapes Go.WideShapes Go.ChangeAt Go.RowKit
open Go.Proofs.YtdmacflcjbkkpaaGreat (putL)
open Go.Proofs.YtdmacflcjbkkpaaGreat.Tb (Blk Blk.newAt put_all Kp.setCells results_cell2)
set_option maxRecDepth 8000 in
set_option maxHeartbeats 1600000 in
theorem kbegin168_ok (lo : Lo) (L : List Rn) (h : He) (gp gr B : Nat) (w : World) (hl : LdO w lo L) (hB : ∀ j, blo lo j → j < B) (hgl : B ≤ gp ∧ B ≤ gr) (kgp : Blk w gp [.int .u8 3, .int .i64 200] 84) (kgr : Blk w gr [.int .i64 168] 3) (ho : h.Ok) (hb40 : h.msg ≤ 1000000000000) (hm : Rm L 1) (ha : 4 ≤ h.alg ∧ h.alg ≤ 7) (hr : rte h.alg = 168) :
    Calls Tryz.prog 136 #[lpo lo, hv h, .pointer (some ⟨gp, 0, none⟩), .pointer (some ⟨gr, 0, none⟩)] w fun e w' => e = .returned (.tuple #[]) ∧ ∃ lo', LT w w' lo lo' ((bgE h).foldl putL L) := by
  obtain ⟨key, alg, out, cus, msg⟩ := h
  have k0 : 0 ≤ key := ho.k0
  have k1 : key ≤ 512 := ho.k1
  have c0 : 0 ≤ cus := ho.c0
  have c1 : cus ≤ 64 := ho.c1
  have o0 : 0 ≤ out := ho.o0
  have o1 : out ≤ 64 := ho.o1
  have m0 : 0 ≤ msg := ho.m0
  have m1 : msg ≤ 1000000000000 := hb40
  have ha : 4 ≤ alg ∧ alg ≤ 7 := ha
  have hr : rte alg = 168 := hr
  have z0 : sz alg = 0 := by unfold sz; rw [if_neg (by omega), if_neg (by omega)]
  have t4 := txt_b (n := 4) (by omega)
  have t1 := txt_b (n := cus) (by omega)
  have t2 := txt_b (n := key) (by omega)
  have C4 := hid (stringSize_ok (n := 4) (by omega))
  have C1 := hid (stringSize_ok (n := cus) (by omega))
  have C2 := hid (stringSize_ok (n := key) (by omega))
  have P1 := hid (padded_ok (a := alg) (n := txt 4 + txt cus) (by omega))
  have P2 := hid (padded_ok (a := alg) (n := txt key) (by omega))
  have p1 := pad_b (a := alg) (n := txt 4 + txt cus) (by omega)
  have p2 := pad_b (a := alg) (n := txt key) (by omega)
  have E : Hid ((bgE ⟨key, alg, out, cus, msg⟩).foldl putL L = putL L ⟨3, 200, pad alg (txt 4 + txt cus) + pad alg (txt key)⟩) := hid (by unfold bgE; simp only; rw [if_neg (by omega), if_neg (by omega)]; rfl)
  rw [hr] at P1 P2
  obtain ⟨p, hp⟩ : ∃ x, pad alg (txt 4 + txt cus) = x := ⟨_, rfl⟩
  obtain ⟨q, hq⟩ : ∃ x, pad alg (txt key) = x := ⟨_, rfl⟩
  rw [hp] at P1 p1 E
  rw [hq] at P2 p2 E
  obtain ⟨y4, hy4⟩ : ∃ x, txt 4 = x := ⟨_, rfl⟩
  obtain ⟨yc, hyc⟩ : ∃ x, txt cus = x := ⟨_, rfl⟩
  obtain ⟨yk, hyk⟩ : ∃ x, txt key = x := ⟨_, rfl⟩
  rw [hy4] at t4 C4 P1
  rw [hyc] at t1 C1 P1
  rw [hyk] at t2 C2 P2
  have b4 : 0 ≤ y4 + yc ∧ y4 + yc ≤ 1000 := by omega
  have bp : 0 ≤ p + q ∧ p + q ≤ 1000 := by omega
  have wa : IntKind.i64.wrap (y4 + yc) = y4 + yc := by rw [IntKind.wrap_i64]; omega
  have wb : IntKind.i64.wrap (p + q) = p + q := by rw [IntKind.wrap_i64]; omega
  clear hp hq hy4 hyc hyk
  obtain ⟨W, hW⟩ : ∃ W, w.alloc (.cells #[.int .u8 alg, .int .i64 out, .int .i64 key, .int .i64 cus, .int .i64 msg] 82) = W := ⟨_, rfl⟩
  have BW : Hid (Below w.heap.size w W) := by rw [← hW]; exact below_alloc _ _
  have KB : Hid (Blk W w.heap.size [.int .u8 alg, .int .i64 out, .int .i64 key, .int .i64 cus, .int .i64 msg] 82) := by rw [← hW]; exact Blk.newAt w _ _ _ w.heap.size rfl rfl
  have LB : Hid (∀ V, Below W.heap.size W V → LdO V lo L) := fun V hV => (hl.below BW.out).below hV
  have LL : Hid (∀ j, blo lo j → j < w.heap.size) := hl.lt
  have D0 : Hid (Below W.heap.size W W.drew) := hid (below_drewN W 1)
  have Kgp : Hid (Blk W gp [.int .u8 3, .int .i64 200] 84) := kgp.below BW.out
  have Kgr : Hid (Blk W gr [.int .i64 168] 3) := kgr.below BW.out
  have HB := hid hB
  have SW : Hid (∀ U V, Below W.heap.size W U → Kp (blo lo) U V → V.cell? ⟨w.heap.size, 2, none⟩ = some (.int .i64 key) ∧ V.cell? ⟨w.heap.size, 3, none⟩ = some (.int .i64 cus) ∧ V.cell? ⟨gr, 0, none⟩ = some (.int .i64 168) ∧ (LDe ⟨gp, 0, none⟩).run Tryz.prog V = .ok (.agg #[.int .u8 3, .int .i64 200]) V) := fun U V hU hk => by
    have kb := (KB.out.below hU).kept hk (fun e => by have := LL.out _ e; omega)
    have kgp := (Kgp.out.below hU).kept hk (fun e => by have := HB.out _ e; omega)
    have kgr := (Kgr.out.below hU).kept hk (fun e => by have := HB.out _ e; omega)
    exact ⟨kb.cell 2 _ rfl, kb.cell 3 _ rfl, kgr.cell 0 _ rfl, LDe_run kgp⟩
  have NT : Hid (∀ V, Below W.heap.size W V → Calls Tryz.prog 85 #[lpo lo, .agg #[.int .u8 3, .int .i64 200], .int .i64 (p + q)] V fun e w' => e = .returned (.tuple #[]) ∧ ∃ lo', LT V w' lo lo' (putL L ⟨3, 200, p + q⟩)) := fun V hV => noteTimes_o lo L 3 200 (p + q) V (LB.out V hV) (by omega) (by omega) hm
  obtain ⟨x0, x1, x2, x3⟩ := SW.out W.drew W.drew D0.out (Kp.refl _ _)
  clear hl hB kgp kgr ho hm hr z0
  go_enter Tryz.func136, Tryz.ntmps136
  go_wp2_with fail
  clear hW
  go_region_held3 (fun V => V.cell? ⟨w.heap.size, 2, none⟩ = some (.int .i64 key) ∧ V.cell? ⟨w.heap.size, 3, none⟩ = some (.int .i64 cus) ∧ V.cell? ⟨gr, 0, none⟩ = some (.int .i64 168) ∧ (LDe ⟨gp, 0, none⟩).run Tryz.prog V = .ok (.agg #[.int .u8 3, .int .i64 200]) V) (go_keep) (first
    | (go_at_call 138; with_reducible refine (C4.out _).mono ?_; rintro e W8 ⟨rfl, rfl⟩)
    | (go_at_call 138; with_reducible refine (C1.out _).mono ?_; rintro e W8 ⟨rfl, rfl⟩)
    | (go_at_call 137; with_reducible refine (P1.out _).mono ?_; rintro e W8 ⟨rfl, rfl⟩)
    | (go_at_call 138; with_reducible refine (C2.out _).mono ?_; rintro e W8 ⟨rfl, rfl⟩)
    | (go_at_call 137; with_reducible refine (P2.out _).mono ?_; rintro e W8 ⟨rfl, rfl⟩)
    | (go_at_call 85; with_reducible refine (NT.out _ D0.out).mono ?_; rintro e W9 ⟨rfl, lo9, t9⟩; have T9 := hid (LT.after (below_next BW.out D0.out) t9); obtain ⟨z0, z1, z2, z3⟩ := SW.out _ W9 D0.out t9.kp; clear t9))
  go_wp2
  go_end0
  exact ⟨rfl, lo9, by rw [E.out]; exact T9.out⟩
set_option maxRecDepth 8000 in
set_option maxHeartbeats 1600000 in
theorem kwrite168_ok (lo : Lo) (L : List Rn) (h : He) (gp gr B : Nat) (n : Int) (hn : 0 ≤ n ∧ n ≤ 65536) (w : World) (hl : LdO w lo L) (hB : ∀ j, blo lo j → j < B) (hgl : B ≤ gp ∧ B ≤ gr) (kgp : Blk w gp [.int .u8 3, .int .i64 200] 84) (kgr : Blk w gr [.int .i64 168] 3) (ho : h.Ok) (hb40 : h.msg ≤ 1000000000000) (hm : Rm L 1) (ha : 4 ≤ h.alg ∧ h.alg ≤ 7) (hr : rte h.alg = 168) :
    Calls Tryz.prog 139 #[lpo lo, hv h, .int .i64 n, .pointer (some ⟨gp, 0, none⟩), .pointer (some ⟨gr, 0, none⟩)] w fun e w' => e = .returned (.tuple #[]) ∧ ∃ lo', LT w w' lo lo' ((tlE h n).foldl putL L) := by
  obtain ⟨key, alg, out, cus, msg⟩ := h
  have k0 : 0 ≤ key := ho.k0
  have k1 : key ≤ 512 := ho.k1
  have c0 : 0 ≤ cus := ho.c0
  have c1 : cus ≤ 64 := ho.c1
  have o0 : 0 ≤ out := ho.o0
  have o1 : out ≤ 64 := ho.o1
  have m0 : 0 ≤ msg := ho.m0
  have m1 : msg ≤ 1000000000000 := hb40
  have ha : 4 ≤ alg ∧ alg ≤ 7 := ha
  have hr : rte alg = 168 := hr
  have z0 : sz alg = 0 := by unfold sz; rw [if_neg (by omega), if_neg (by omega)]
  have E0 : (tlE ⟨key, alg, out, cus, msg⟩ n) = [⟨3, 200, (msg + n) / 168 - msg / 168⟩] := by unfold tlE ful; simp only; rw [if_neg (by omega), if_neg (by omega), hr]
  have q1 : (msg + n).tdiv 168 = (msg + n) / 168 := Int.tdiv_eq_ediv_of_nonneg (by omega)
  have q2 : msg.tdiv 168 = msg / 168 := Int.tdiv_eq_ediv_of_nonneg (by omega)
  have wa : IntKind.i64.wrap (msg + n) = msg + n := by rw [IntKind.wrap_i64]; omega
  have wb : IntKind.i64.wrap ((msg + n) / 168) = (msg + n) / 168 := by rw [IntKind.wrap_i64]; omega
  have wc : IntKind.i64.wrap (msg / 168) = msg / 168 := by rw [IntKind.wrap_i64]; omega
  obtain ⟨x, hx⟩ : ∃ x, (msg + n) / 168 - msg / 168 = x := ⟨_, rfl⟩
  have wd : IntKind.i64.wrap ((msg + n) / 168 - msg / 168) = x := by rw [IntKind.wrap_i64]; omega
  have xb : 0 ≤ x ∧ x ≤ 2000 := by omega
  have wx : IntKind.i64.wrap x = x := by rw [IntKind.wrap_i64]; omega
  rw [hx] at E0
  have E : Hid ((tlE ⟨key, alg, out, cus, msg⟩ n).foldl putL L = putL L ⟨3, 200, x⟩) := hid (by rw [E0]; rfl)
  clear E0
  obtain ⟨W, hW⟩ : ∃ W, w.alloc (.cells #[.int .u8 alg, .int .i64 out, .int .i64 key, .int .i64 cus, .int .i64 msg] 82) = W := ⟨_, rfl⟩
  have BW : Hid (Below w.heap.size w W) := by rw [← hW]; exact below_alloc _ _
  have KB : Hid (Blk W w.heap.size [.int .u8 alg, .int .i64 out, .int .i64 key, .int .i64 cus, .int .i64 msg] 82) := by rw [← hW]; exact Blk.newAt w _ _ _ w.heap.size rfl rfl
  have LB : Hid (∀ V, Below W.heap.size W V → LdO V lo L) := fun V hV => (hl.below BW.out).below hV
  have LL : Hid (∀ j, blo lo j → j < w.heap.size) := hl.lt
  have D0 : Hid (Below W.heap.size W W.drew) := hid (below_drewN W 1)
  have Kgp : Hid (Blk W gp [.int .u8 3, .int .i64 200] 84) := kgp.below BW.out
  have Kgr : Hid (Blk W gr [.int .i64 168] 3) := kgr.below BW.out
  have HB := hid hB
  have SW : Hid (∀ U V, Below W.heap.size W U → Kp (blo lo) U V → V.cell? ⟨w.heap.size, 4, none⟩ = some (.int .i64 msg) ∧ V.cell? ⟨gr, 0, none⟩ = some (.int .i64 168) ∧ (LDe ⟨gp, 0, none⟩).run Tryz.prog V = .ok (.agg #[.int .u8 3, .int .i64 200]) V) := fun U V hU hk => by
    have kb := (KB.out.below hU).kept hk (fun e => by have := LL.out _ e; omega)
    have kgp := (Kgp.out.below hU).kept hk (fun e => by have := HB.out _ e; omega)
    have kgr := (Kgr.out.below hU).kept hk (fun e => by have := HB.out _ e; omega)
    exact ⟨kb.cell 4 _ rfl, kgr.cell 0 _ rfl, LDe_run kgp⟩
  have NT : Hid (∀ V, Below W.heap.size W V → Calls Tryz.prog 85 #[lpo lo, .agg #[.int .u8 3, .int .i64 200], .int .i64 (x)] V fun e w' => e = .returned (.tuple #[]) ∧ ∃ lo', LT V w' lo lo' (putL L ⟨3, 200, x⟩)) := fun V hV => noteTimes_o lo L 3 200 (x) V (LB.out V hV) (by omega) (by omega) hm
  obtain ⟨x0, x1, x2⟩ := SW.out W.drew W.drew D0.out (Kp.refl _ _)
  clear hl hB kgp kgr ho hm hr z0
  go_enter Tryz.func139, Tryz.ntmps139
  go_wp2_with fail
  clear hW
  go_region_held3 (fun V => V.cell? ⟨w.heap.size, 4, none⟩ = some (.int .i64 msg) ∧ V.cell? ⟨gr, 0, none⟩ = some (.int .i64 168) ∧ (LDe ⟨gp, 0, none⟩).run Tryz.prog V = .ok (.agg #[.int .u8 3, .int .i64 200]) V) (go_keep) (first
    | (go_at_call 85; with_reducible refine (NT.out _ D0.out).mono ?_; rintro e W9 ⟨rfl, lo9, t9⟩; have T9 := hid (LT.after (below_next BW.out D0.out) t9); obtain ⟨z0, z1, z2⟩ := SW.out _ W9 D0.out t9.kp; clear t9))
  go_wp2
  go_end0
  exact ⟨rfl, lo9, by rw [E.out]; exact T9.out⟩
set_option maxRecDepth 8000 in
set_option maxHeartbeats 1600000 in
theorem ksum168_ok (lo : Lo) (L : List Rn) (h : He) (gp gr gx B : Nat) (xo : Bool) (hxo : xof h.alg = xo) (w : World) (hl : LdO w lo L) (hB : ∀ j, blo lo j → j < B) (hgl : B ≤ gp ∧ B ≤ gr ∧ B ≤ gx) (kgp : Blk w gp [.int .u8 3, .int .i64 200] 84) (kgr : Blk w gr [.int .i64 168] 3) (kgx : Blk w gx [.bool xo] 4) (ho : h.Ok) (hb40 : h.msg ≤ 1000000000000) (hm : Rm L 1) (ha : 4 ≤ h.alg ∧ h.alg ≤ 7) (hr : rte h.alg = 168) :
    Calls Tryz.prog 140 #[lpo lo, hv h, .pointer (some ⟨gp, 0, none⟩), .pointer (some ⟨gr, 0, none⟩), .pointer (some ⟨gx, 0, none⟩)] w fun e w' => e = .returned (.tuple #[]) ∧ ∃ lo', LT w w' lo lo' ((smE h).foldl putL L) := by
  obtain ⟨key, alg, out, cus, msg⟩ := h
  have k0 : 0 ≤ key := ho.k0
  have k1 : key ≤ 512 := ho.k1
  have c0 : 0 ≤ cus := ho.c0
  have c1 : cus ≤ 64 := ho.c1
  have o0 : 0 ≤ out := ho.o0
  have o1 : out ≤ 64 := ho.o1
  have m0 : 0 ≤ msg := ho.m0
  have m1 : msg ≤ 1000000000000 := hb40
  have ha : 4 ≤ alg ∧ alg ≤ 7 := ha
  have hr : rte alg = 168 := hr
  have z0 : sz alg = 0 := by unfold sz; rw [if_neg (by omega), if_neg (by omega)]
  have hxo : xof alg = xo := hxo
  have CE := hid (endSize_ok xo (o := out) (by omega))
  have E0 : (smE ⟨key, alg, out, cus, msg⟩) = [⟨3, 200, ful 168 msg (if xo then nbr 0 else nbr (8 * out)) + 1⟩] := by unfold smE; simp only; rw [if_neg (by omega), if_neg (by omega), hr, hxo]
  have eb : 2 ≤ (if xo then nbr 0 else nbr (8 * out)) ∧ (if xo then nbr 0 else nbr (8 * out)) ≤ 4 := by split; exact nbr_le (by omega) (by omega); exact nbr_le (by omega) (by omega)
  obtain ⟨u, hu⟩ : ∃ u, (if xo then nbr 0 else nbr (8 * out)) = u := ⟨_, rfl⟩
  rw [hu] at CE E0 eb
  clear hu
  have q1 : msg.tmod 168 = msg % 168 := Int.tmod_eq_emod_of_nonneg (by omega)
  have q3 : (msg % 168 + u).tdiv 168 = (msg % 168 + u) / 168 := Int.tdiv_eq_ediv_of_nonneg (by omega)
  obtain ⟨x, hx⟩ : ∃ x, (msg % 168 + u) / 168 + 1 = x := ⟨_, rfl⟩
  have e5 : ful 168 msg u + 1 = x := by unfold ful; omega
  rw [e5] at E0
  have wa : IntKind.i64.wrap (msg % 168 + u) = msg % 168 + u := by rw [IntKind.wrap_i64]; omega
  have wb : IntKind.i64.wrap ((msg % 168 + u) / 168) = (msg % 168 + u) / 168 := by rw [IntKind.wrap_i64]; omega
  have wd : IntKind.i64.wrap ((msg % 168 + u) / 168 + 1) = x := by rw [IntKind.wrap_i64]; omega
  have xb : 0 ≤ x ∧ x ≤ 2000 := by omega
  have wx : IntKind.i64.wrap x = x := by rw [IntKind.wrap_i64]; omega
  have E : Hid ((smE ⟨key, alg, out, cus, msg⟩).foldl putL L = putL L ⟨3, 200, x⟩) := hid (by rw [E0]; rfl)
  clear E0 e5 hxo
  obtain ⟨W, hW⟩ : ∃ W, w.alloc (.cells #[.int .u8 alg, .int .i64 out, .int .i64 key, .int .i64 cus, .int .i64 msg] 82) = W := ⟨_, rfl⟩
  have BW : Hid (Below w.heap.size w W) := by rw [← hW]; exact below_alloc _ _
  have KB : Hid (Blk W w.heap.size [.int .u8 alg, .int .i64 out, .int .i64 key, .int .i64 cus, .int .i64 msg] 82) := by rw [← hW]; exact Blk.newAt w _ _ _ w.heap.size rfl rfl
  have LB : Hid (∀ V, Below W.heap.size W V → LdO V lo L) := fun V hV => (hl.below BW.out).below hV
  have LL : Hid (∀ j, blo lo j → j < w.heap.size) := hl.lt
  have D0 : Hid (Below W.heap.size W W.drew) := hid (below_drewN W 1)
  have Kgp : Hid (Blk W gp [.int .u8 3, .int .i64 200] 84) := kgp.below BW.out
  have Kgr : Hid (Blk W gr [.int .i64 168] 3) := kgr.below BW.out
  have Kgx : Hid (Blk W gx [.bool xo] 4) := kgx.below BW.out
  have HB := hid hB
  have SW : Hid (∀ U V, Below W.heap.size W U → Kp (blo lo) U V → V.cell? ⟨w.heap.size, 4, none⟩ = some (.int .i64 msg) ∧ V.cell? ⟨w.heap.size, 1, none⟩ = some (.int .i64 out) ∧ V.cell? ⟨gr, 0, none⟩ = some (.int .i64 168) ∧ V.cell? ⟨gx, 0, none⟩ = some (.bool xo) ∧ (LDe ⟨gp, 0, none⟩).run Tryz.prog V = .ok (.agg #[.int .u8 3, .int .i64 200]) V) := fun U V hU hk => by
    have kb := (KB.out.below hU).kept hk (fun e => by have := LL.out _ e; omega)
    have kgp := (Kgp.out.below hU).kept hk (fun e => by have := HB.out _ e; omega)
    have kgr := (Kgr.out.below hU).kept hk (fun e => by have := HB.out _ e; omega)
    have kgx := (Kgx.out.below hU).kept hk (fun e => by have := HB.out _ e; omega)
    exact ⟨kb.cell 4 _ rfl, kb.cell 1 _ rfl, kgr.cell 0 _ rfl, kgx.cell 0 _ rfl, LDe_run kgp⟩
  have NT : Hid (∀ V, Below W.heap.size W V → Calls Tryz.prog 85 #[lpo lo, .agg #[.int .u8 3, .int .i64 200], .int .i64 (x)] V fun e w' => e = .returned (.tuple #[]) ∧ ∃ lo', LT V w' lo lo' (putL L ⟨3, 200, x⟩)) := fun V hV => noteTimes_o lo L 3 200 (x) V (LB.out V hV) (by omega) (by omega) hm
  obtain ⟨x0, x1, x2, x3, x4⟩ := SW.out W.drew W.drew D0.out (Kp.refl _ _)
  clear hl hB kgp kgr kgx ho hm hr z0
  go_enter Tryz.func140, Tryz.ntmps140
  go_wp2_with fail
  clear hW
  go_region_held3 (fun V => V.cell? ⟨w.heap.size, 4, none⟩ = some (.int .i64 msg) ∧ V.cell? ⟨w.heap.size, 1, none⟩ = some (.int .i64 out) ∧ V.cell? ⟨gr, 0, none⟩ = some (.int .i64 168) ∧ V.cell? ⟨gx, 0, none⟩ = some (.bool xo) ∧ (LDe ⟨gp, 0, none⟩).run Tryz.prog V = .ok (.agg #[.int .u8 3, .int .i64 200]) V) (go_keep) (first
    | (go_at_call 141; with_reducible refine (CE.out _).mono ?_; rintro e W8 ⟨rfl, rfl⟩)
    | (go_at_call 85; with_reducible refine (NT.out _ D0.out).mono ?_; rintro e W9 ⟨rfl, lo9, t9⟩; have T9 := hid (LT.after (below_next BW.out D0.out) t9); obtain ⟨z0, z1, z2, z3, z4⟩ := SW.out _ W9 D0.out t9.kp; clear t9))
  go_wp2
  go_end0
  exact ⟨rfl, lo9, by rw [E.out]; exact T9.out⟩
set_option maxRecDepth 8000 in
set_option maxHeartbeats 1600000 in
theorem kbegin136_ok (lo : Lo) (L : List Rn) (h : He) (gp gr B : Nat) (w : World) (hl : LdO w lo L) (hB : ∀ j, blo lo j → j < B) (hgl : B ≤ gp ∧ B ≤ gr) (kgp : Blk w gp [.int .u8 3, .int .i64 200] 84) (kgr : Blk w gr [.int .i64 136] 3) (ho : h.Ok) (hb40 : h.msg ≤ 1000000000000) (hm : Rm L 1) (ha : 4 ≤ h.alg ∧ h.alg ≤ 7) (hr : rte h.alg = 136) :
    Calls Tryz.prog 136 #[lpo lo, hv h, .pointer (some ⟨gp, 0, none⟩), .pointer (some ⟨gr, 0, none⟩)] w fun e w' => e = .returned (.tuple #[]) ∧ ∃ lo', LT w w' lo lo' ((bgE h).foldl putL L) := by
  obtain ⟨key, alg, out, cus, msg⟩ := h
  have k0 : 0 ≤ key := ho.k0
  have k1 : key ≤ 512 := ho.k1
  have c0 : 0 ≤ cus := ho.c0
  have c1 : cus ≤ 64 := ho.c1
  have o0 : 0 ≤ out := ho.o0
  have o1 : out ≤ 64 := ho.o1
  have m0 : 0 ≤ msg := ho.m0
  have m1 : msg ≤ 1000000000000 := hb40
  have ha : 4 ≤ alg ∧ alg ≤ 7 := ha
  have hr : rte alg = 136 := hr
  have z0 : sz alg = 0 := by unfold sz; rw [if_neg (by omega), if_neg (by omega)]
  have t4 := txt_b (n := 4) (by omega)
  have t1 := txt_b (n := cus) (by omega)
  have t2 := txt_b (n := key) (by omega)
  have C4 := hid (stringSize_ok (n := 4) (by omega))
  have C1 := hid (stringSize_ok (n := cus) (by omega))
  have C2 := hid (stringSize_ok (n := key) (by omega))
  have P1 := hid (padded_ok (a := alg) (n := txt 4 + txt cus) (by omega))
  have P2 := hid (padded_ok (a := alg) (n := txt key) (by omega))
  have p1 := pad_b (a := alg) (n := txt 4 + txt cus) (by omega)
  have p2 := pad_b (a := alg) (n := txt key) (by omega)
  have E : Hid ((bgE ⟨key, alg, out, cus, msg⟩).foldl putL L = putL L ⟨3, 200, pad alg (txt 4 + txt cus) + pad alg (txt key)⟩) := hid (by unfold bgE; simp only; rw [if_neg (by omega), if_neg (by omega)]; rfl)
  rw [hr] at P1 P2
  obtain ⟨p, hp⟩ : ∃ x, pad alg (txt 4 + txt cus) = x := ⟨_, rfl⟩
  obtain ⟨q, hq⟩ : ∃ x, pad alg (txt key) = x := ⟨_, rfl⟩
  rw [hp] at P1 p1 E
  rw [hq] at P2 p2 E
  obtain ⟨y4, hy4⟩ : ∃ x, txt 4 = x := ⟨_, rfl⟩
  obtain ⟨yc, hyc⟩ : ∃ x, txt cus = x := ⟨_, rfl⟩
  obtain ⟨yk, hyk⟩ : ∃ x, txt key = x := ⟨_, rfl⟩
  rw [hy4] at t4 C4 P1
  rw [hyc] at t1 C1 P1
  rw [hyk] at t2 C2 P2
  have b4 : 0 ≤ y4 + yc ∧ y4 + yc ≤ 1000 := by omega
  have bp : 0 ≤ p + q ∧ p + q ≤ 1000 := by omega
  have wa : IntKind.i64.wrap (y4 + yc) = y4 + yc := by rw [IntKind.wrap_i64]; omega
  have wb : IntKind.i64.wrap (p + q) = p + q := by rw [IntKind.wrap_i64]; omega
  clear hp hq hy4 hyc hyk
  obtain ⟨W, hW⟩ : ∃ W, w.alloc (.cells #[.int .u8 alg, .int .i64 out, .int .i64 key, .int .i64 cus, .int .i64 msg] 82) = W := ⟨_, rfl⟩
  have BW : Hid (Below w.heap.size w W) := by rw [← hW]; exact below_alloc _ _
  have KB : Hid (Blk W w.heap.size [.int .u8 alg, .int .i64 out, .int .i64 key, .int .i64 cus, .int .i64 msg] 82) := by rw [← hW]; exact Blk.newAt w _ _ _ w.heap.size rfl rfl
  have LB : Hid (∀ V, Below W.heap.size W V → LdO V lo L) := fun V hV => (hl.below BW.out).below hV
  have LL : Hid (∀ j, blo lo j → j < w.heap.size) := hl.lt
  have D0 : Hid (Below W.heap.size W W.drew) := hid (below_drewN W 1)
  have Kgp : Hid (Blk W gp [.int .u8 3, .int .i64 200] 84) := kgp.below BW.out
  have Kgr : Hid (Blk W gr [.int .i64 136] 3) := kgr.below BW.out
  have HB := hid hB
  have SW : Hid (∀ U V, Below W.heap.size W U → Kp (blo lo) U V → V.cell? ⟨w.heap.size, 2, none⟩ = some (.int .i64 key) ∧ V.cell? ⟨w.heap.size, 3, none⟩ = some (.int .i64 cus) ∧ V.cell? ⟨gr, 0, none⟩ = some (.int .i64 136) ∧ (LDe ⟨gp, 0, none⟩).run Tryz.prog V = .ok (.agg #[.int .u8 3, .int .i64 200]) V) := fun U V hU hk => by
    have kb := (KB.out.below hU).kept hk (fun e => by have := LL.out _ e; omega)
    have kgp := (Kgp.out.below hU).kept hk (fun e => by have := HB.out _ e; omega)
    have kgr := (Kgr.out.below hU).kept hk (fun e => by have := HB.out _ e; omega)
    exact ⟨kb.cell 2 _ rfl, kb.cell 3 _ rfl, kgr.cell 0 _ rfl, LDe_run kgp⟩
  have NT : Hid (∀ V, Below W.heap.size W V → Calls Tryz.prog 85 #[lpo lo, .agg #[.int .u8 3, .int .i64 200], .int .i64 (p + q)] V fun e w' => e = .returned (.tuple #[]) ∧ ∃ lo', LT V w' lo lo' (putL L ⟨3, 200, p + q⟩)) := fun V hV => noteTimes_o lo L 3 200 (p + q) V (LB.out V hV) (by omega) (by omega) hm
  obtain ⟨x0, x1, x2, x3⟩ := SW.out W.drew W.drew D0.out (Kp.refl _ _)
  clear hl hB kgp kgr ho hm hr z0
  go_enter Tryz.func136, Tryz.ntmps136
  go_wp2_with fail
  clear hW
  go_region_held3 (fun V => V.cell? ⟨w.heap.size, 2, none⟩ = some (.int .i64 key) ∧ V.cell? ⟨w.heap.size, 3, none⟩ = some (.int .i64 cus) ∧ V.cell? ⟨gr, 0, none⟩ = some (.int .i64 136) ∧ (LDe ⟨gp, 0, none⟩).run Tryz.prog V = .ok (.agg #[.int .u8 3, .int .i64 200]) V) (go_keep) (first
    | (go_at_call 138; with_reducible refine (C4.out _).mono ?_; rintro e W8 ⟨rfl, rfl⟩)
    | (go_at_call 138; with_reducible refine (C1.out _).mono ?_; rintro e W8 ⟨rfl, rfl⟩)
    | (go_at_call 137; with_reducible refine (P1.out _).mono ?_; rintro e W8 ⟨rfl, rfl⟩)
    | (go_at_call 138; with_reducible refine (C2.out _).mono ?_; rintro e W8 ⟨rfl, rfl⟩)
    | (go_at_call 137; with_reducible refine (P2.out _).mono ?_; rintro e W8 ⟨rfl, rfl⟩)
    | (go_at_call 85; with_reducible refine (NT.out _ D0.out).mono ?_; rintro e W9 ⟨rfl, lo9, t9⟩; have T9 := hid (LT.after (below_next BW.out D0.out) t9); obtain ⟨z0, z1, z2, z3⟩ := SW.out _ W9 D0.out t9.kp; clear t9))
  go_wp2
  go_end0
  exact ⟨rfl, lo9, by rw [E.out]; exact T9.out⟩
set_option maxRecDepth 8000 in
set_option maxHeartbeats 1600000 in
theorem kwrite136_ok (lo : Lo) (L : List Rn) (h : He) (gp gr B : Nat) (n : Int) (hn : 0 ≤ n ∧ n ≤ 65536) (w : World) (hl : LdO w lo L) (hB : ∀ j, blo lo j → j < B) (hgl : B ≤ gp ∧ B ≤ gr) (kgp : Blk w gp [.int .u8 3, .int .i64 200] 84) (kgr : Blk w gr [.int .i64 136] 3) (ho : h.Ok) (hb40 : h.msg ≤ 1000000000000) (hm : Rm L 1) (ha : 4 ≤ h.alg ∧ h.alg ≤ 7) (hr : rte h.alg = 136) :
    Calls Tryz.prog 139 #[lpo lo, hv h, .int .i64 n, .pointer (some ⟨gp, 0, none⟩), .pointer (some ⟨gr, 0, none⟩)] w fun e w' => e = .returned (.tuple #[]) ∧ ∃ lo', LT w w' lo lo' ((tlE h n).foldl putL L) := by
  obtain ⟨key, alg, out, cus, msg⟩ := h
  have k0 : 0 ≤ key := ho.k0
  have k1 : key ≤ 512 := ho.k1
  have c0 : 0 ≤ cus := ho.c0
  have c1 : cus ≤ 64 := ho.c1
  have o0 : 0 ≤ out := ho.o0
  have o1 : out ≤ 64 := ho.o1
  have m0 : 0 ≤ msg := ho.m0
  have m1 : msg ≤ 1000000000000 := hb40
  have ha : 4 ≤ alg ∧ alg ≤ 7 := ha
  have hr : rte alg = 136 := hr
  have z0 : sz alg = 0 := by unfold sz; rw [if_neg (by omega), if_neg (by omega)]
  have E0 : (tlE ⟨key, alg, out, cus, msg⟩ n) = [⟨3, 200, (msg + n) / 136 - msg / 136⟩] := by unfold tlE ful; simp only; rw [if_neg (by omega), if_neg (by omega), hr]
  have q1 : (msg + n).tdiv 136 = (msg + n) / 136 := Int.tdiv_eq_ediv_of_nonneg (by omega)
  have q2 : msg.tdiv 136 = msg / 136 := Int.tdiv_eq_ediv_of_nonneg (by omega)
  have wa : IntKind.i64.wrap (msg + n) = msg + n := by rw [IntKind.wrap_i64]; omega
  have wb : IntKind.i64.wrap ((msg + n) / 136) = (msg + n) / 136 := by rw [IntKind.wrap_i64]; omega
  have wc : IntKind.i64.wrap (msg / 136) = msg / 136 := by rw [IntKind.wrap_i64]; omega
  obtain ⟨x, hx⟩ : ∃ x, (msg + n) / 136 - msg / 136 = x := ⟨_, rfl⟩
  have wd : IntKind.i64.wrap ((msg + n) / 136 - msg / 136) = x := by rw [IntKind.wrap_i64]; omega
  have xb : 0 ≤ x ∧ x ≤ 2000 := by omega
  have wx : IntKind.i64.wrap x = x := by rw [IntKind.wrap_i64]; omega
  rw [hx] at E0
  have E : Hid ((tlE ⟨key, alg, out, cus, msg⟩ n).foldl putL L = putL L ⟨3, 200, x⟩) := hid (by rw [E0]; rfl)
  clear E0
  obtain ⟨W, hW⟩ : ∃ W, w.alloc (.cells #[.int .u8 alg, .int .i64 out, .int .i64 key, .int .i64 cus, .int .i64 msg] 82) = W := ⟨_, rfl⟩
  have BW : Hid (Below w.heap.size w W) := by rw [← hW]; exact below_alloc _ _
  have KB : Hid (Blk W w.heap.size [.int .u8 alg, .int .i64 out, .int .i64 key, .int .i64 cus, .int .i64 msg] 82) := by rw [← hW]; exact Blk.newAt w _ _ _ w.heap.size rfl rfl
  have LB : Hid (∀ V, Below W.heap.size W V → LdO V lo L) := fun V hV => (hl.below BW.out).below hV
  have LL : Hid (∀ j, blo lo j → j < w.heap.size) := hl.lt
  have D0 : Hid (Below W.heap.size W W.drew) := hid (below_drewN W 1)
  have Kgp : Hid (Blk W gp [.int .u8 3, .int .i64 200] 84) := kgp.below BW.out
  have Kgr : Hid (Blk W gr [.int .i64 136] 3) := kgr.below BW.out
  have HB := hid hB
  have SW : Hid (∀ U V, Below W.heap.size W U → Kp (blo lo) U V → V.cell? ⟨w.heap.size, 4, none⟩ = some (.int .i64 msg) ∧ V.cell? ⟨gr, 0, none⟩ = some (.int .i64 136) ∧ (LDe ⟨gp, 0, none⟩).run Tryz.prog V = .ok (.agg #[.int .u8 3, .int .i64 200]) V) := fun U V hU hk => by
    have kb := (KB.out.below hU).kept hk (fun e => by have := LL.out _ e; omega)
    have kgp := (Kgp.out.below hU).kept hk (fun e => by have := HB.out _ e; omega)
    have kgr := (Kgr.out.below hU).kept hk (fun e => by have := HB.out _ e; omega)
    exact ⟨kb.cell 4 _ rfl, kgr.cell 0 _ rfl, LDe_run kgp⟩
  have NT : Hid (∀ V, Below W.heap.size W V → Calls Tryz.prog 85 #[lpo lo, .agg #[.int .u8 3, .int .i64 200], .int .i64 (x)] V fun e w' => e = .returned (.tuple #[]) ∧ ∃ lo', LT V w' lo lo' (putL L ⟨3, 200, x⟩)) := fun V hV => noteTimes_o lo L 3 200 (x) V (LB.out V hV) (by omega) (by omega) hm
  obtain ⟨x0, x1, x2⟩ := SW.out W.drew W.drew D0.out (Kp.refl _ _)
  clear hl hB kgp kgr ho hm hr z0
  go_enter Tryz.func139, Tryz.ntmps139
  go_wp2_with fail
  clear hW
  go_region_held3 (fun V => V.cell? ⟨w.heap.size, 4, none⟩ = some (.int .i64 msg) ∧ V.cell? ⟨gr, 0, none⟩ = some (.int .i64 136) ∧ (LDe ⟨gp, 0, none⟩).run Tryz.prog V = .ok (.agg #[.int .u8 3, .int .i64 200]) V) (go_keep) (first
    | (go_at_call 85; with_reducible refine (NT.out _ D0.out).mono ?_; rintro e W9 ⟨rfl, lo9, t9⟩; have T9 := hid (LT.after (below_next BW.out D0.out) t9); obtain ⟨z0, z1, z2⟩ := SW.out _ W9 D0.out t9.kp; clear t9))
  go_wp2
  go_end0
  exact ⟨rfl, lo9, by rw [E.out]; exact T9.out⟩
set_option maxRecDepth 8000 in
set_option maxHeartbeats 1600000 in
theorem ksum136_ok (lo : Lo) (L : List Rn) (h : He) (gp gr gx B : Nat) (xo : Bool) (hxo : xof h.alg = xo) (w : World) (hl : LdO w lo L) (hB : ∀ j, blo lo j → j < B) (hgl : B ≤ gp ∧ B ≤ gr ∧ B ≤ gx) (kgp : Blk w gp [.int .u8 3, .int .i64 200] 84) (kgr : Blk w gr [.int .i64 136] 3) (kgx : Blk w gx [.bool xo] 4) (ho : h.Ok) (hb40 : h.msg ≤ 1000000000000) (hm : Rm L 1) (ha : 4 ≤ h.alg ∧ h.alg ≤ 7) (hr : rte h.alg = 136) :
    Calls Tryz.prog 140 #[lpo lo, hv h, .pointer (some ⟨gp, 0, none⟩), .pointer (some ⟨gr, 0, none⟩), .pointer (some ⟨gx, 0, none⟩)] w fun e w' => e = .returned (.tuple #[]) ∧ ∃ lo', LT w w' lo lo' ((smE h).foldl putL L) := by
  obtain ⟨key, alg, out, cus, msg⟩ := h
  have k0 : 0 ≤ key := ho.k0
  have k1 : key ≤ 512 := ho.k1
  have c0 : 0 ≤ cus := ho.c0
  have c1 : cus ≤ 64 := ho.c1
  have o0 : 0 ≤ out := ho.o0
  have o1 : out ≤ 64 := ho.o1
  have m0 : 0 ≤ msg := ho.m0
  have m1 : msg ≤ 1000000000000 := hb40
  have ha : 4 ≤ alg ∧ alg ≤ 7 := ha
  have hr : rte alg = 136 := hr
  have z0 : sz alg = 0 := by unfold sz; rw [if_neg (by omega), if_neg (by omega)]
  have hxo : xof alg = xo := hxo
  have CE := hid (endSize_ok xo (o := out) (by omega))
  have E0 : (smE ⟨key, alg, out, cus, msg⟩) = [⟨3, 200, ful 136 msg (if xo then nbr 0 else nbr (8 * out)) + 1⟩] := by unfold smE; simp only; rw [if_neg (by omega), if_neg (by omega), hr, hxo]
  have eb : 2 ≤ (if xo then nbr 0 else nbr (8 * out)) ∧ (if xo then nbr 0 else nbr (8 * out)) ≤ 4 := by split; exact nbr_le (by omega) (by omega); exact nbr_le (by omega) (by omega)
  obtain ⟨u, hu⟩ : ∃ u, (if xo then nbr 0 else nbr (8 * out)) = u := ⟨_, rfl⟩
  rw [hu] at CE E0 eb
  clear hu
  have q1 : msg.tmod 136 = msg % 136 := Int.tmod_eq_emod_of_nonneg (by omega)
  have q3 : (msg % 136 + u).tdiv 136 = (msg % 136 + u) / 136 := Int.tdiv_eq_ediv_of_nonneg (by omega)
  obtain ⟨x, hx⟩ : ∃ x, (msg % 136 + u) / 136 + 1 = x := ⟨_, rfl⟩
  have e5 : ful 136 msg u + 1 = x := by unfold ful; omega
  rw [e5] at E0
  have wa : IntKind.i64.wrap (msg % 136 + u) = msg % 136 + u := by rw [IntKind.wrap_i64]; omega
  have wb : IntKind.i64.wrap ((msg % 136 + u) / 136) = (msg % 136 + u) / 136 := by rw [IntKind.wrap_i64]; omega
  have wd : IntKind.i64.wrap ((msg % 136 + u) / 136 + 1) = x := by rw [IntKind.wrap_i64]; omega
  have xb : 0 ≤ x ∧ x ≤ 2000 := by omega
  have wx : IntKind.i64.wrap x = x := by rw [IntKind.wrap_i64]; omega
  have E : Hid ((smE ⟨key, alg, out, cus, msg⟩).foldl putL L = putL L ⟨3, 200, x⟩) := hid (by rw [E0]; rfl)
  clear E0 e5 hxo
  obtain ⟨W, hW⟩ : ∃ W, w.alloc (.cells #[.int .u8 alg, .int .i64 out, .int .i64 key, .int .i64 cus, .int .i64 msg] 82) = W := ⟨_, rfl⟩
  have BW : Hid (Below w.heap.size w W) := by rw [← hW]; exact below_alloc _ _
  have KB : Hid (Blk W w.heap.size [.int .u8 alg, .int .i64 out, .int .i64 key, .int .i64 cus, .int .i64 msg] 82) := by rw [← hW]; exact Blk.newAt w _ _ _ w.heap.size rfl rfl
  have LB : Hid (∀ V, Below W.heap.size W V → LdO V lo L) := fun V hV => (hl.below BW.out).below hV
  have LL : Hid (∀ j, blo lo j → j < w.heap.size) := hl.lt
  have D0 : Hid (Below W.heap.size W W.drew) := hid (below_drewN W 1)
  have Kgp : Hid (Blk W gp [.int .u8 3, .int .i64 200] 84) := kgp.below BW.out
  have Kgr : Hid (Blk W gr [.int .i64 136] 3) := kgr.below BW.out
  have Kgx : Hid (Blk W gx [.bool xo] 4) := kgx.below BW.out
  have HB := hid hB
  have SW : Hid (∀ U V, Below W.heap.size W U → Kp (blo lo) U V → V.cell? ⟨w.heap.size, 4, none⟩ = some (.int .i64 msg) ∧ V.cell? ⟨w.heap.size, 1, none⟩ = some (.int .i64 out) ∧ V.cell? ⟨gr, 0, none⟩ = some (.int .i64 136) ∧ V.cell? ⟨gx, 0, none⟩ = some (.bool xo) ∧ (LDe ⟨gp, 0, none⟩).run Tryz.prog V = .ok (.agg #[.int .u8 3, .int .i64 200]) V) := fun U V hU hk => by
    have kb := (KB.out.below hU).kept hk (fun e => by have := LL.out _ e; omega)
    have kgp := (Kgp.out.below hU).kept hk (fun e => by have := HB.out _ e; omega)
    have kgr := (Kgr.out.below hU).kept hk (fun e => by have := HB.out _ e; omega)
    have kgx := (Kgx.out.below hU).kept hk (fun e => by have := HB.out _ e; omega)
    exact ⟨kb.cell 4 _ rfl, kb.cell 1 _ rfl, kgr.cell 0 _ rfl, kgx.cell 0 _ rfl, LDe_run kgp⟩
  have NT : Hid (∀ V, Below W.heap.size W V → Calls Tryz.prog 85 #[lpo lo, .agg #[.int .u8 3, .int .i64 200], .int .i64 (x)] V fun e w' => e = .returned (.tuple #[]) ∧ ∃ lo', LT V w' lo lo' (putL L ⟨3, 200, x⟩)) := fun V hV => noteTimes_o lo L 3 200 (x) V (LB.out V hV) (by omega) (by omega) hm
  obtain ⟨x0, x1, x2, x3, x4⟩ := SW.out W.drew W.drew D0.out (Kp.refl _ _)
  clear hl hB kgp kgr kgx ho hm hr z0
  go_enter Tryz.func140, Tryz.ntmps140
  go_wp2_with fail
  clear hW
  go_region_held3 (fun V => V.cell? ⟨w.heap.size, 4, none⟩ = some (.int .i64 msg) ∧ V.cell? ⟨w.heap.size, 1, none⟩ = some (.int .i64 out) ∧ V.cell? ⟨gr, 0, none⟩ = some (.int .i64 136) ∧ V.cell? ⟨gx, 0, none⟩ = some (.bool xo) ∧ (LDe ⟨gp, 0, none⟩).run Tryz.prog V = .ok (.agg #[.int .u8 3, .int .i64 200]) V) (go_keep) (first
    | (go_at_call 141; with_reducible refine (CE.out _).mono ?_; rintro e W8 ⟨rfl, rfl⟩)
    | (go_at_call 85; with_reducible refine (NT.out _ D0.out).mono ?_; rintro e W9 ⟨rfl, lo9, t9⟩; have T9 := hid (LT.after (below_next BW.out D0.out) t9); obtain ⟨z0, z1, z2, z3, z4⟩ := SW.out _ W9 D0.out t9.kp; clear t9))
  go_wp2
  go_end0
  exact ⟨rfl, lo9, by rw [E.out]; exact T9.out⟩
end Go.Proofs.YtdmacflcjbkkpaaGreat.Co
