/- The closures of HMAC: what a beginning, more of a message and a tag record. -/
import Derived.Test.YtdmacflcjbkkpaaGreatChs
import Derived.Test.YtdmacflcjbkkpaaGreatCld
import Derived.Test.YtdmacflcjbkkpaaGreatCmp
namespace Go.Proofs.YtdmacflcjbkkpaaGreat.Co
open Go.ChangeShapes Go.WideShapes Go.ChangeAt Go.RowKit
open Go.Proofs.YtdmacflcjbkkpaaGreat (putL)
open Go.Proofs.YtdmacflcjbkkpaaGreat.Tb (Blk Blk.newAt put_all Kp.setCells results_cell2)
theorem LDe_at {W : World} {g o : Nat} {a b : Int} (h : W.rangeAt g o [.int .u8 a, .int .i64 b]) : (LDe ⟨g, o, none⟩).run Tryz.prog W = .ok (.agg #[.int .u8 a, .int .i64 b]) W :=
  run_loadVar_mid W g o _ [.int .u8 a, .int .i64 b] _ h Tryz.underlying84 rfl infoe
set_option maxRecDepth 8000 in
set_option maxHeartbeats 1600000 in
theorem hbegin1_ok (lo : Lo) (L : List Rn) (h : He) (g B : Nat) (w : World) (hl : LdO w lo L) (hB : ∀ j, blo lo j → j < B) (hg : B ≤ g) (kg : Blk w g [.int .i64 32, .int .i64 64, .int .u8 1, .int .i64 64] 119) (ho : h.Ok) (hb40 : h.msg ≤ 1000000000000) (hm : Rm L 1) (ha : h.alg = 1) :
    Calls Tryz.prog 126 #[lpo lo, hv h, .pointer (some ⟨g, 0, none⟩)] w fun e w' => e = .returned (.tuple #[]) ∧ ∃ lo', LT w w' lo lo' ((bgE h).foldl putL L) := by
  obtain ⟨key, alg, out, cus, msg⟩ := h
  have k0 : 0 ≤ key := ho.k0
  have k1 : key ≤ 512 := ho.k1
  have c0 : 0 ≤ cus := ho.c0
  have c1 : cus ≤ 64 := ho.c1
  have o0 : 0 ≤ out := ho.o0
  have o1 : out ≤ 64 := ho.o1
  have m0 : 0 ≤ msg := ho.m0
  have m1 : msg ≤ 1000000000000 := hb40
  obtain rfl : alg = 1 := ha
  have E : bgE ⟨key, 1, out, cus, msg⟩ = [⟨1, 64, kyd 1 key⟩] := rfl
  have CK := hid (keyed1_ok (n := key) (by omega))
  have kb := kyd_b (a := 1) (key := key) (by decide) (by omega)
  rw [E]
  obtain ⟨x, hx⟩ : ∃ x, kyd 1 key = x := ⟨_, rfl⟩
  rw [hx] at CK kb ⊢
  clear hx E
  show Calls _ _ _ _ fun e w' => e = .returned (.tuple #[]) ∧ ∃ lo', LT w w' lo lo' (putL L ⟨1, 64, x⟩)
  obtain ⟨W, hW⟩ : ∃ W, w.alloc (.cells #[.int .u8 1, .int .i64 out, .int .i64 key, .int .i64 cus, .int .i64 msg] 82) = W := ⟨_, rfl⟩
  have BW : Hid (Below w.heap.size w W) := by rw [← hW]; exact below_alloc _ _
  have KB : Hid (Blk W w.heap.size [.int .u8 1, .int .i64 out, .int .i64 key, .int .i64 cus, .int .i64 msg] 82) := by rw [← hW]; exact Blk.newAt w _ _ _ w.heap.size rfl rfl
  have LB : Hid (∀ V, Below W.heap.size W V → LdO V lo L) := fun V hV => (hl.below BW.out).below hV
  have LL : Hid (∀ j, blo lo j → j < w.heap.size) := hl.lt
  have D0 : Hid (Below W.heap.size W W.drew) := hid (below_drewN W 1)
  have KG : Hid (Blk W g [.int .i64 32, .int .i64 64, .int .u8 1, .int .i64 64] 119) := kg.below BW.out
  have HB := hid hB
  have hgl : B ≤ g := hg
  have SW : Hid (∀ U V, Below W.heap.size W U → Kp (blo lo) U V → V.cell? ⟨w.heap.size, 2, none⟩ = some (.int .i64 key) ∧ (LDe ⟨g, 2, none⟩).run Tryz.prog V = .ok (.agg #[.int .u8 1, .int .i64 64]) V ∧ V.cell? ⟨g, 1, none⟩ = some (.int .i64 64) ∧ (LDh ⟨g, 0, none⟩).run Tryz.prog V = .ok (.agg #[.int .i64 32, .int .i64 64, .int .u8 1, .int .i64 64]) V) := fun U V hU hk => by
    have kb := (KB.out.below hU).kept hk (fun e => by have := LL.out _ e; omega)
    have kg := (KG.out.below hU).kept hk (fun e => by have := HB.out _ e; omega)
    exact ⟨kb.cell 2 _ rfl, LDe_at (kg.range 2 _ (fun j v hj => by
      match j, hj with
      | 0, hj => exact hj
      | 1, hj => exact hj
      | j + 2, hj => simp at hj)), kg.cell 1 _ rfl, LDh_run kg⟩
  obtain ⟨x0, x1, x2, x3⟩ := SW.out W.drew W.drew D0.out (Kp.refl _ _)
  have NT : Hid (∀ V, Below W.heap.size W V → Calls Tryz.prog 85 #[lpo lo, .agg #[.int .u8 1, .int .i64 64], .int .i64 (x)] V fun e w' => e = .returned (.tuple #[]) ∧ ∃ lo', LT V w' lo lo' (putL L ⟨1, 64, x⟩)) := fun V hV => noteTimes_o lo L 1 64 (x) V (LB.out V hV) (by omega) (by omega) hm
  clear hl hB kg ho hm
  go_enter Tryz.func126, Tryz.ntmps126
  go_wp2_with fail
  clear hW
  go_region_held3 (fun V => V.cell? ⟨w.heap.size, 2, none⟩ = some (.int .i64 key) ∧ (LDe ⟨g, 2, none⟩).run Tryz.prog V = .ok (.agg #[.int .u8 1, .int .i64 64]) V ∧ V.cell? ⟨g, 1, none⟩ = some (.int .i64 64) ∧ (LDh ⟨g, 0, none⟩).run Tryz.prog V = .ok (.agg #[.int .i64 32, .int .i64 64, .int .u8 1, .int .i64 64]) V) (go_keep) (first
    | (go_at_call 109; with_reducible refine (CK.out _).mono ?_; rintro e W1 ⟨rfl, hb⟩; have N1 : Hid (Below W.heap.size W W1) := hid (below_next D0.out hb); obtain ⟨y0, y1, y2, y3⟩ := SW.out W1 W1 N1.out (Kp.refl _ _); clear hb)
    | (go_at_call 85; with_reducible refine (NT.out _ N1.out).mono ?_; rintro e W9 ⟨rfl, lo9, t9⟩; have T9 := hid (LT.after (below_next BW.out N1.out) t9); obtain ⟨z0, z1, z2, z3⟩ := SW.out _ W9 N1.out t9.kp; clear t9))
  go_wp2
  go_end0
  exact ⟨rfl, lo9, T9.out⟩
set_option maxRecDepth 8000 in
set_option maxHeartbeats 1600000 in
theorem hwrite1_ok (lo : Lo) (L : List Rn) (h : He) (g B : Nat) (n : Int) (hn : 0 ≤ n ∧ n ≤ 65536) (w : World) (hl : LdO w lo L) (hB : ∀ j, blo lo j → j < B) (hg : B ≤ g) (kg : Blk w g [.int .i64 32, .int .i64 64, .int .u8 1, .int .i64 64] 119) (ho : h.Ok) (hb40 : h.msg ≤ 1000000000000) (hm : Rm L 1) (ha : h.alg = 1) :
    Calls Tryz.prog 127 #[lpo lo, hv h, .int .i64 n, .pointer (some ⟨g, 0, none⟩)] w fun e w' => e = .returned (.tuple #[]) ∧ ∃ lo', LT w w' lo lo' ((tlE h n).foldl putL L) := by
  obtain ⟨key, alg, out, cus, msg⟩ := h
  have k0 : 0 ≤ key := ho.k0
  have k1 : key ≤ 512 := ho.k1
  have c0 : 0 ≤ cus := ho.c0
  have c1 : cus ≤ 64 := ho.c1
  have o0 : 0 ≤ out := ho.o0
  have o1 : out ≤ 64 := ho.o1
  have m0 : 0 ≤ msg := ho.m0
  have m1 : msg ≤ 1000000000000 := hb40
  obtain rfl : alg = 1 := ha
  have E : tlE ⟨key, 1, out, cus, msg⟩ n = [⟨1, 64, (msg + n) / 64 - msg / 64⟩] := rfl
  have q1 : (msg + n).tdiv 64 = (msg + n) / 64 := Int.tdiv_eq_ediv_of_nonneg (by omega)
  have q2 : msg.tdiv 64 = msg / 64 := Int.tdiv_eq_ediv_of_nonneg (by omega)
  have wa : IntKind.i64.wrap (msg + n) = msg + n := by rw [IntKind.wrap_i64]; omega
  have wb : IntKind.i64.wrap ((msg + n) / 64) = (msg + n) / 64 := by rw [IntKind.wrap_i64]; omega
  have wc : IntKind.i64.wrap (msg / 64) = msg / 64 := by rw [IntKind.wrap_i64]; omega
  rw [E]
  obtain ⟨x, hx⟩ : ∃ x, (msg + n) / 64 - msg / 64 = x := ⟨_, rfl⟩
  have wd : IntKind.i64.wrap ((msg + n) / 64 - msg / 64) = x := by rw [IntKind.wrap_i64]; omega
  have xb : 0 ≤ x ∧ x ≤ 2000 := by omega
  have wx : IntKind.i64.wrap x = x := by rw [IntKind.wrap_i64]; omega
  rw [hx]
  show Calls _ _ _ _ fun e w' => e = .returned (.tuple #[]) ∧ ∃ lo', LT w w' lo lo' (putL L ⟨1, 64, x⟩)
  obtain ⟨W, hW⟩ : ∃ W, w.alloc (.cells #[.int .u8 1, .int .i64 out, .int .i64 key, .int .i64 cus, .int .i64 msg] 82) = W := ⟨_, rfl⟩
  have BW : Hid (Below w.heap.size w W) := by rw [← hW]; exact below_alloc _ _
  have KB : Hid (Blk W w.heap.size [.int .u8 1, .int .i64 out, .int .i64 key, .int .i64 cus, .int .i64 msg] 82) := by rw [← hW]; exact Blk.newAt w _ _ _ w.heap.size rfl rfl
  have LB : Hid (∀ V, Below W.heap.size W V → LdO V lo L) := fun V hV => (hl.below BW.out).below hV
  have LL : Hid (∀ j, blo lo j → j < w.heap.size) := hl.lt
  have D0 : Hid (Below W.heap.size W W.drew) := hid (below_drewN W 1)
  have KG : Hid (Blk W g [.int .i64 32, .int .i64 64, .int .u8 1, .int .i64 64] 119) := kg.below BW.out
  have HB := hid hB
  have hgl : B ≤ g := hg
  have SW : Hid (∀ U V, Below W.heap.size W U → Kp (blo lo) U V → V.cell? ⟨w.heap.size, 4, none⟩ = some (.int .i64 msg) ∧ (LDe ⟨g, 2, none⟩).run Tryz.prog V = .ok (.agg #[.int .u8 1, .int .i64 64]) V ∧ V.cell? ⟨g, 1, none⟩ = some (.int .i64 64) ∧ (LDh ⟨g, 0, none⟩).run Tryz.prog V = .ok (.agg #[.int .i64 32, .int .i64 64, .int .u8 1, .int .i64 64]) V) := fun U V hU hk => by
    have kb := (KB.out.below hU).kept hk (fun e => by have := LL.out _ e; omega)
    have kg := (KG.out.below hU).kept hk (fun e => by have := HB.out _ e; omega)
    exact ⟨kb.cell 4 _ rfl, LDe_at (kg.range 2 _ (fun j v hj => by
      match j, hj with
      | 0, hj => exact hj
      | 1, hj => exact hj
      | j + 2, hj => simp at hj)), kg.cell 1 _ rfl, LDh_run kg⟩
  obtain ⟨x0, x1, x2, x3⟩ := SW.out W.drew W.drew D0.out (Kp.refl _ _)
  have NT : Hid (∀ V, Below W.heap.size W V → Calls Tryz.prog 85 #[lpo lo, .agg #[.int .u8 1, .int .i64 64], .int .i64 (x)] V fun e w' => e = .returned (.tuple #[]) ∧ ∃ lo', LT V w' lo lo' (putL L ⟨1, 64, x⟩)) := fun V hV => noteTimes_o lo L 1 64 (x) V (LB.out V hV) (by omega) (by omega) hm
  clear hl hB kg ho hm
  go_enter Tryz.func127, Tryz.ntmps127
  go_wp2_with fail
  clear hW
  go_region_held3 (fun V => V.cell? ⟨w.heap.size, 4, none⟩ = some (.int .i64 msg) ∧ (LDe ⟨g, 2, none⟩).run Tryz.prog V = .ok (.agg #[.int .u8 1, .int .i64 64]) V ∧ V.cell? ⟨g, 1, none⟩ = some (.int .i64 64) ∧ (LDh ⟨g, 0, none⟩).run Tryz.prog V = .ok (.agg #[.int .i64 32, .int .i64 64, .int .u8 1, .int .i64 64]) V) (go_keep) (first
    | (go_at_call 85; with_reducible refine (NT.out _ D0.out).mono ?_; rintro e W9 ⟨rfl, lo9, t9⟩; have T9 := hid (LT.after (below_next BW.out D0.out) t9); obtain ⟨z0, z1, z2, z3⟩ := SW.out _ W9 D0.out t9.kp; clear t9))
  go_wp2
  go_end0
  exact ⟨rfl, lo9, T9.out⟩
set_option maxRecDepth 8000 in
set_option maxHeartbeats 1600000 in
theorem hsum1_ok (lo : Lo) (L : List Rn) (h : He) (g B : Nat) (w : World) (hl : LdO w lo L) (hB : ∀ j, blo lo j → j < B) (hg : B ≤ g) (kg : Blk w g [.int .i64 32, .int .i64 64, .int .u8 1, .int .i64 64] 119) (ho : h.Ok) (hb40 : h.msg ≤ 1000000000000) (hm : Rm L 1) (ha : h.alg = 1) :
    Calls Tryz.prog 128 #[lpo lo, hv h, .pointer (some ⟨g, 0, none⟩)] w fun e w' => e = .returned (.tuple #[]) ∧ ∃ lo', LT w w' lo lo' ((smE h).foldl putL L) := by
  obtain ⟨key, alg, out, cus, msg⟩ := h
  have k0 : 0 ≤ key := ho.k0
  have k1 : key ≤ 512 := ho.k1
  have c0 : 0 ≤ cus := ho.c0
  have c1 : cus ≤ 64 := ho.c1
  have o0 : 0 ≤ out := ho.o0
  have o1 : out ≤ 64 := ho.o1
  have m0 : 0 ≤ msg := ho.m0
  have m1 : msg ≤ 1000000000000 := hb40
  obtain rfl : alg = 1 := ha
  have E : smE ⟨key, 1, out, cus, msg⟩ = [⟨1, 64, lst 64 msg + 1⟩] := by
    have e1 : lst 64 (64 + 32) = 1 := by decide
    show [(⟨1, 64, lst 64 (64 + msg) + lst 64 (64 + 32)⟩ : Ru)] = _
    rw [lst_off, e1]
  have CK := hid (last1_ok (n := msg) (by omega))
  have kb := lst_b 64 msg
  rw [E]
  obtain ⟨l, hx⟩ : ∃ x, lst 64 msg = x := ⟨_, rfl⟩
  rw [hx] at CK kb ⊢
  obtain ⟨x, hx2⟩ : ∃ x, l + 1 = x := ⟨_, rfl⟩
  have xb : 0 ≤ x ∧ x ≤ 2000 := by omega
  have wx : IntKind.i64.wrap x = x := by rw [IntKind.wrap_i64]; omega
  have wd : IntKind.i64.wrap (l + 1) = x := by rw [IntKind.wrap_i64]; omega
  rw [hx2]
  clear hx E
  show Calls _ _ _ _ fun e w' => e = .returned (.tuple #[]) ∧ ∃ lo', LT w w' lo lo' (putL L ⟨1, 64, x⟩)
  obtain ⟨W, hW⟩ : ∃ W, w.alloc (.cells #[.int .u8 1, .int .i64 out, .int .i64 key, .int .i64 cus, .int .i64 msg] 82) = W := ⟨_, rfl⟩
  have BW : Hid (Below w.heap.size w W) := by rw [← hW]; exact below_alloc _ _
  have KB : Hid (Blk W w.heap.size [.int .u8 1, .int .i64 out, .int .i64 key, .int .i64 cus, .int .i64 msg] 82) := by rw [← hW]; exact Blk.newAt w _ _ _ w.heap.size rfl rfl
  have LB : Hid (∀ V, Below W.heap.size W V → LdO V lo L) := fun V hV => (hl.below BW.out).below hV
  have LL : Hid (∀ j, blo lo j → j < w.heap.size) := hl.lt
  have D0 : Hid (Below W.heap.size W W.drew) := hid (below_drewN W 1)
  have KG : Hid (Blk W g [.int .i64 32, .int .i64 64, .int .u8 1, .int .i64 64] 119) := kg.below BW.out
  have HB := hid hB
  have hgl : B ≤ g := hg
  have SW : Hid (∀ U V, Below W.heap.size W U → Kp (blo lo) U V → V.cell? ⟨w.heap.size, 4, none⟩ = some (.int .i64 msg) ∧ (LDe ⟨g, 2, none⟩).run Tryz.prog V = .ok (.agg #[.int .u8 1, .int .i64 64]) V ∧ V.cell? ⟨g, 1, none⟩ = some (.int .i64 64) ∧ (LDh ⟨g, 0, none⟩).run Tryz.prog V = .ok (.agg #[.int .i64 32, .int .i64 64, .int .u8 1, .int .i64 64]) V) := fun U V hU hk => by
    have kb := (KB.out.below hU).kept hk (fun e => by have := LL.out _ e; omega)
    have kg := (KG.out.below hU).kept hk (fun e => by have := HB.out _ e; omega)
    exact ⟨kb.cell 4 _ rfl, LDe_at (kg.range 2 _ (fun j v hj => by
      match j, hj with
      | 0, hj => exact hj
      | 1, hj => exact hj
      | j + 2, hj => simp at hj)), kg.cell 1 _ rfl, LDh_run kg⟩
  obtain ⟨x0, x1, x2, x3⟩ := SW.out W.drew W.drew D0.out (Kp.refl _ _)
  have NT : Hid (∀ V, Below W.heap.size W V → Calls Tryz.prog 85 #[lpo lo, .agg #[.int .u8 1, .int .i64 64], .int .i64 (x)] V fun e w' => e = .returned (.tuple #[]) ∧ ∃ lo', LT V w' lo lo' (putL L ⟨1, 64, x⟩)) := fun V hV => noteTimes_o lo L 1 64 (x) V (LB.out V hV) (by omega) (by omega) hm
  clear hl hB kg ho hm
  go_enter Tryz.func128, Tryz.ntmps128
  go_wp2_with fail
  clear hW
  go_region_held3 (fun V => V.cell? ⟨w.heap.size, 4, none⟩ = some (.int .i64 msg) ∧ (LDe ⟨g, 2, none⟩).run Tryz.prog V = .ok (.agg #[.int .u8 1, .int .i64 64]) V ∧ V.cell? ⟨g, 1, none⟩ = some (.int .i64 64) ∧ (LDh ⟨g, 0, none⟩).run Tryz.prog V = .ok (.agg #[.int .i64 32, .int .i64 64, .int .u8 1, .int .i64 64]) V) (go_keep) (first
    | (go_at_call 129; with_reducible refine (CK.out _).mono ?_; rintro e W1 ⟨rfl, hb⟩; have N1 : Hid (Below W.heap.size W W1) := hid (below_next D0.out hb); obtain ⟨y0, y1, y2, y3⟩ := SW.out W1 W1 N1.out (Kp.refl _ _); clear hb)
    | (go_at_call 85; with_reducible refine (NT.out _ N1.out).mono ?_; rintro e W9 ⟨rfl, lo9, t9⟩; have T9 := hid (LT.after (below_next BW.out N1.out) t9); obtain ⟨z0, z1, z2, z3⟩ := SW.out _ W9 N1.out t9.kp; clear t9))
  go_wp2
  go_end0
  exact ⟨rfl, lo9, T9.out⟩
set_option maxRecDepth 8000 in
set_option maxHeartbeats 1600000 in
theorem hbegin2_ok (lo : Lo) (L : List Rn) (h : He) (g B : Nat) (w : World) (hl : LdO w lo L) (hB : ∀ j, blo lo j → j < B) (hg : B ≤ g) (kg : Blk w g [.int .i64 64, .int .i64 128, .int .u8 2, .int .i64 128] 119) (ho : h.Ok) (hb40 : h.msg ≤ 1000000000000) (hm : Rm L 1) (ha : h.alg = 2) :
    Calls Tryz.prog 126 #[lpo lo, hv h, .pointer (some ⟨g, 0, none⟩)] w fun e w' => e = .returned (.tuple #[]) ∧ ∃ lo', LT w w' lo lo' ((bgE h).foldl putL L) := by
  obtain ⟨key, alg, out, cus, msg⟩ := h
  have k0 : 0 ≤ key := ho.k0
  have k1 : key ≤ 512 := ho.k1
  have c0 : 0 ≤ cus := ho.c0
  have c1 : cus ≤ 64 := ho.c1
  have o0 : 0 ≤ out := ho.o0
  have o1 : out ≤ 64 := ho.o1
  have m0 : 0 ≤ msg := ho.m0
  have m1 : msg ≤ 1000000000000 := hb40
  obtain rfl : alg = 2 := ha
  have E : bgE ⟨key, 2, out, cus, msg⟩ = [⟨2, 128, kyd 2 key⟩] := rfl
  have CK := hid (keyed2_ok (n := key) (by omega))
  have kb := kyd_b (a := 2) (key := key) (by decide) (by omega)
  rw [E]
  obtain ⟨x, hx⟩ : ∃ x, kyd 2 key = x := ⟨_, rfl⟩
  rw [hx] at CK kb ⊢
  clear hx E
  show Calls _ _ _ _ fun e w' => e = .returned (.tuple #[]) ∧ ∃ lo', LT w w' lo lo' (putL L ⟨2, 128, x⟩)
  obtain ⟨W, hW⟩ : ∃ W, w.alloc (.cells #[.int .u8 2, .int .i64 out, .int .i64 key, .int .i64 cus, .int .i64 msg] 82) = W := ⟨_, rfl⟩
  have BW : Hid (Below w.heap.size w W) := by rw [← hW]; exact below_alloc _ _
  have KB : Hid (Blk W w.heap.size [.int .u8 2, .int .i64 out, .int .i64 key, .int .i64 cus, .int .i64 msg] 82) := by rw [← hW]; exact Blk.newAt w _ _ _ w.heap.size rfl rfl
  have LB : Hid (∀ V, Below W.heap.size W V → LdO V lo L) := fun V hV => (hl.below BW.out).below hV
  have LL : Hid (∀ j, blo lo j → j < w.heap.size) := hl.lt
  have D0 : Hid (Below W.heap.size W W.drew) := hid (below_drewN W 1)
  have KG : Hid (Blk W g [.int .i64 64, .int .i64 128, .int .u8 2, .int .i64 128] 119) := kg.below BW.out
  have HB := hid hB
  have hgl : B ≤ g := hg
  have SW : Hid (∀ U V, Below W.heap.size W U → Kp (blo lo) U V → V.cell? ⟨w.heap.size, 2, none⟩ = some (.int .i64 key) ∧ (LDe ⟨g, 2, none⟩).run Tryz.prog V = .ok (.agg #[.int .u8 2, .int .i64 128]) V ∧ V.cell? ⟨g, 1, none⟩ = some (.int .i64 128) ∧ (LDh ⟨g, 0, none⟩).run Tryz.prog V = .ok (.agg #[.int .i64 64, .int .i64 128, .int .u8 2, .int .i64 128]) V) := fun U V hU hk => by
    have kb := (KB.out.below hU).kept hk (fun e => by have := LL.out _ e; omega)
    have kg := (KG.out.below hU).kept hk (fun e => by have := HB.out _ e; omega)
    exact ⟨kb.cell 2 _ rfl, LDe_at (kg.range 2 _ (fun j v hj => by
      match j, hj with
      | 0, hj => exact hj
      | 1, hj => exact hj
      | j + 2, hj => simp at hj)), kg.cell 1 _ rfl, LDh_run kg⟩
  obtain ⟨x0, x1, x2, x3⟩ := SW.out W.drew W.drew D0.out (Kp.refl _ _)
  have NT : Hid (∀ V, Below W.heap.size W V → Calls Tryz.prog 85 #[lpo lo, .agg #[.int .u8 2, .int .i64 128], .int .i64 (x)] V fun e w' => e = .returned (.tuple #[]) ∧ ∃ lo', LT V w' lo lo' (putL L ⟨2, 128, x⟩)) := fun V hV => noteTimes_o lo L 2 128 (x) V (LB.out V hV) (by omega) (by omega) hm
  clear hl hB kg ho hm
  go_enter Tryz.func126, Tryz.ntmps126
  go_wp2_with fail
  clear hW
  go_region_held3 (fun V => V.cell? ⟨w.heap.size, 2, none⟩ = some (.int .i64 key) ∧ (LDe ⟨g, 2, none⟩).run Tryz.prog V = .ok (.agg #[.int .u8 2, .int .i64 128]) V ∧ V.cell? ⟨g, 1, none⟩ = some (.int .i64 128) ∧ (LDh ⟨g, 0, none⟩).run Tryz.prog V = .ok (.agg #[.int .i64 64, .int .i64 128, .int .u8 2, .int .i64 128]) V) (go_keep) (first
    | (go_at_call 109; with_reducible refine (CK.out _).mono ?_; rintro e W1 ⟨rfl, hb⟩; have N1 : Hid (Below W.heap.size W W1) := hid (below_next D0.out hb); obtain ⟨y0, y1, y2, y3⟩ := SW.out W1 W1 N1.out (Kp.refl _ _); clear hb)
    | (go_at_call 85; with_reducible refine (NT.out _ N1.out).mono ?_; rintro e W9 ⟨rfl, lo9, t9⟩; have T9 := hid (LT.after (below_next BW.out N1.out) t9); obtain ⟨z0, z1, z2, z3⟩ := SW.out _ W9 N1.out t9.kp; clear t9))
  go_wp2
  go_end0
  exact ⟨rfl, lo9, T9.out⟩
set_option maxRecDepth 8000 in
set_option maxHeartbeats 1600000 in
theorem hwrite2_ok (lo : Lo) (L : List Rn) (h : He) (g B : Nat) (n : Int) (hn : 0 ≤ n ∧ n ≤ 65536) (w : World) (hl : LdO w lo L) (hB : ∀ j, blo lo j → j < B) (hg : B ≤ g) (kg : Blk w g [.int .i64 64, .int .i64 128, .int .u8 2, .int .i64 128] 119) (ho : h.Ok) (hb40 : h.msg ≤ 1000000000000) (hm : Rm L 1) (ha : h.alg = 2) :
    Calls Tryz.prog 127 #[lpo lo, hv h, .int .i64 n, .pointer (some ⟨g, 0, none⟩)] w fun e w' => e = .returned (.tuple #[]) ∧ ∃ lo', LT w w' lo lo' ((tlE h n).foldl putL L) := by
  obtain ⟨key, alg, out, cus, msg⟩ := h
  have k0 : 0 ≤ key := ho.k0
  have k1 : key ≤ 512 := ho.k1
  have c0 : 0 ≤ cus := ho.c0
  have c1 : cus ≤ 64 := ho.c1
  have o0 : 0 ≤ out := ho.o0
  have o1 : out ≤ 64 := ho.o1
  have m0 : 0 ≤ msg := ho.m0
  have m1 : msg ≤ 1000000000000 := hb40
  obtain rfl : alg = 2 := ha
  have E : tlE ⟨key, 2, out, cus, msg⟩ n = [⟨2, 128, (msg + n) / 128 - msg / 128⟩] := rfl
  have q1 : (msg + n).tdiv 128 = (msg + n) / 128 := Int.tdiv_eq_ediv_of_nonneg (by omega)
  have q2 : msg.tdiv 128 = msg / 128 := Int.tdiv_eq_ediv_of_nonneg (by omega)
  have wa : IntKind.i64.wrap (msg + n) = msg + n := by rw [IntKind.wrap_i64]; omega
  have wb : IntKind.i64.wrap ((msg + n) / 128) = (msg + n) / 128 := by rw [IntKind.wrap_i64]; omega
  have wc : IntKind.i64.wrap (msg / 128) = msg / 128 := by rw [IntKind.wrap_i64]; omega
  rw [E]
  obtain ⟨x, hx⟩ : ∃ x, (msg + n) / 128 - msg / 128 = x := ⟨_, rfl⟩
  have wd : IntKind.i64.wrap ((msg + n) / 128 - msg / 128) = x := by rw [IntKind.wrap_i64]; omega
  have xb : 0 ≤ x ∧ x ≤ 2000 := by omega
  have wx : IntKind.i64.wrap x = x := by rw [IntKind.wrap_i64]; omega
  rw [hx]
  show Calls _ _ _ _ fun e w' => e = .returned (.tuple #[]) ∧ ∃ lo', LT w w' lo lo' (putL L ⟨2, 128, x⟩)
  obtain ⟨W, hW⟩ : ∃ W, w.alloc (.cells #[.int .u8 2, .int .i64 out, .int .i64 key, .int .i64 cus, .int .i64 msg] 82) = W := ⟨_, rfl⟩
  have BW : Hid (Below w.heap.size w W) := by rw [← hW]; exact below_alloc _ _
  have KB : Hid (Blk W w.heap.size [.int .u8 2, .int .i64 out, .int .i64 key, .int .i64 cus, .int .i64 msg] 82) := by rw [← hW]; exact Blk.newAt w _ _ _ w.heap.size rfl rfl
  have LB : Hid (∀ V, Below W.heap.size W V → LdO V lo L) := fun V hV => (hl.below BW.out).below hV
  have LL : Hid (∀ j, blo lo j → j < w.heap.size) := hl.lt
  have D0 : Hid (Below W.heap.size W W.drew) := hid (below_drewN W 1)
  have KG : Hid (Blk W g [.int .i64 64, .int .i64 128, .int .u8 2, .int .i64 128] 119) := kg.below BW.out
  have HB := hid hB
  have hgl : B ≤ g := hg
  have SW : Hid (∀ U V, Below W.heap.size W U → Kp (blo lo) U V → V.cell? ⟨w.heap.size, 4, none⟩ = some (.int .i64 msg) ∧ (LDe ⟨g, 2, none⟩).run Tryz.prog V = .ok (.agg #[.int .u8 2, .int .i64 128]) V ∧ V.cell? ⟨g, 1, none⟩ = some (.int .i64 128) ∧ (LDh ⟨g, 0, none⟩).run Tryz.prog V = .ok (.agg #[.int .i64 64, .int .i64 128, .int .u8 2, .int .i64 128]) V) := fun U V hU hk => by
    have kb := (KB.out.below hU).kept hk (fun e => by have := LL.out _ e; omega)
    have kg := (KG.out.below hU).kept hk (fun e => by have := HB.out _ e; omega)
    exact ⟨kb.cell 4 _ rfl, LDe_at (kg.range 2 _ (fun j v hj => by
      match j, hj with
      | 0, hj => exact hj
      | 1, hj => exact hj
      | j + 2, hj => simp at hj)), kg.cell 1 _ rfl, LDh_run kg⟩
  obtain ⟨x0, x1, x2, x3⟩ := SW.out W.drew W.drew D0.out (Kp.refl _ _)
  have NT : Hid (∀ V, Below W.heap.size W V → Calls Tryz.prog 85 #[lpo lo, .agg #[.int .u8 2, .int .i64 128], .int .i64 (x)] V fun e w' => e = .returned (.tuple #[]) ∧ ∃ lo', LT V w' lo lo' (putL L ⟨2, 128, x⟩)) := fun V hV => noteTimes_o lo L 2 128 (x) V (LB.out V hV) (by omega) (by omega) hm
  clear hl hB kg ho hm
  go_enter Tryz.func127, Tryz.ntmps127
  go_wp2_with fail
  clear hW
  go_region_held3 (fun V => V.cell? ⟨w.heap.size, 4, none⟩ = some (.int .i64 msg) ∧ (LDe ⟨g, 2, none⟩).run Tryz.prog V = .ok (.agg #[.int .u8 2, .int .i64 128]) V ∧ V.cell? ⟨g, 1, none⟩ = some (.int .i64 128) ∧ (LDh ⟨g, 0, none⟩).run Tryz.prog V = .ok (.agg #[.int .i64 64, .int .i64 128, .int .u8 2, .int .i64 128]) V) (go_keep) (first
    | (go_at_call 85; with_reducible refine (NT.out _ D0.out).mono ?_; rintro e W9 ⟨rfl, lo9, t9⟩; have T9 := hid (LT.after (below_next BW.out D0.out) t9); obtain ⟨z0, z1, z2, z3⟩ := SW.out _ W9 D0.out t9.kp; clear t9))
  go_wp2
  go_end0
  exact ⟨rfl, lo9, T9.out⟩
set_option maxRecDepth 8000 in
set_option maxHeartbeats 1600000 in
theorem hsum2_ok (lo : Lo) (L : List Rn) (h : He) (g B : Nat) (w : World) (hl : LdO w lo L) (hB : ∀ j, blo lo j → j < B) (hg : B ≤ g) (kg : Blk w g [.int .i64 64, .int .i64 128, .int .u8 2, .int .i64 128] 119) (ho : h.Ok) (hb40 : h.msg ≤ 1000000000000) (hm : Rm L 1) (ha : h.alg = 2) :
    Calls Tryz.prog 128 #[lpo lo, hv h, .pointer (some ⟨g, 0, none⟩)] w fun e w' => e = .returned (.tuple #[]) ∧ ∃ lo', LT w w' lo lo' ((smE h).foldl putL L) := by
  obtain ⟨key, alg, out, cus, msg⟩ := h
  have k0 : 0 ≤ key := ho.k0
  have k1 : key ≤ 512 := ho.k1
  have c0 : 0 ≤ cus := ho.c0
  have c1 : cus ≤ 64 := ho.c1
  have o0 : 0 ≤ out := ho.o0
  have o1 : out ≤ 64 := ho.o1
  have m0 : 0 ≤ msg := ho.m0
  have m1 : msg ≤ 1000000000000 := hb40
  obtain rfl : alg = 2 := ha
  have E : smE ⟨key, 2, out, cus, msg⟩ = [⟨2, 128, lst 128 msg + 1⟩] := by
    have e1 : lst 128 (128 + 64) = 1 := by decide
    show [(⟨2, 128, lst 128 (128 + msg) + lst 128 (128 + 64)⟩ : Ru)] = _
    rw [lst_off, e1]
  have CK := hid (last2_ok (n := msg) (by omega))
  have kb := lst_b 128 msg
  rw [E]
  obtain ⟨l, hx⟩ : ∃ x, lst 128 msg = x := ⟨_, rfl⟩
  rw [hx] at CK kb ⊢
  obtain ⟨x, hx2⟩ : ∃ x, l + 1 = x := ⟨_, rfl⟩
  have xb : 0 ≤ x ∧ x ≤ 2000 := by omega
  have wx : IntKind.i64.wrap x = x := by rw [IntKind.wrap_i64]; omega
  have wd : IntKind.i64.wrap (l + 1) = x := by rw [IntKind.wrap_i64]; omega
  rw [hx2]
  clear hx E
  show Calls _ _ _ _ fun e w' => e = .returned (.tuple #[]) ∧ ∃ lo', LT w w' lo lo' (putL L ⟨2, 128, x⟩)
  obtain ⟨W, hW⟩ : ∃ W, w.alloc (.cells #[.int .u8 2, .int .i64 out, .int .i64 key, .int .i64 cus, .int .i64 msg] 82) = W := ⟨_, rfl⟩
  have BW : Hid (Below w.heap.size w W) := by rw [← hW]; exact below_alloc _ _
  have KB : Hid (Blk W w.heap.size [.int .u8 2, .int .i64 out, .int .i64 key, .int .i64 cus, .int .i64 msg] 82) := by rw [← hW]; exact Blk.newAt w _ _ _ w.heap.size rfl rfl
  have LB : Hid (∀ V, Below W.heap.size W V → LdO V lo L) := fun V hV => (hl.below BW.out).below hV
  have LL : Hid (∀ j, blo lo j → j < w.heap.size) := hl.lt
  have D0 : Hid (Below W.heap.size W W.drew) := hid (below_drewN W 1)
  have KG : Hid (Blk W g [.int .i64 64, .int .i64 128, .int .u8 2, .int .i64 128] 119) := kg.below BW.out
  have HB := hid hB
  have hgl : B ≤ g := hg
  have SW : Hid (∀ U V, Below W.heap.size W U → Kp (blo lo) U V → V.cell? ⟨w.heap.size, 4, none⟩ = some (.int .i64 msg) ∧ (LDe ⟨g, 2, none⟩).run Tryz.prog V = .ok (.agg #[.int .u8 2, .int .i64 128]) V ∧ V.cell? ⟨g, 1, none⟩ = some (.int .i64 128) ∧ (LDh ⟨g, 0, none⟩).run Tryz.prog V = .ok (.agg #[.int .i64 64, .int .i64 128, .int .u8 2, .int .i64 128]) V) := fun U V hU hk => by
    have kb := (KB.out.below hU).kept hk (fun e => by have := LL.out _ e; omega)
    have kg := (KG.out.below hU).kept hk (fun e => by have := HB.out _ e; omega)
    exact ⟨kb.cell 4 _ rfl, LDe_at (kg.range 2 _ (fun j v hj => by
      match j, hj with
      | 0, hj => exact hj
      | 1, hj => exact hj
      | j + 2, hj => simp at hj)), kg.cell 1 _ rfl, LDh_run kg⟩
  obtain ⟨x0, x1, x2, x3⟩ := SW.out W.drew W.drew D0.out (Kp.refl _ _)
  have NT : Hid (∀ V, Below W.heap.size W V → Calls Tryz.prog 85 #[lpo lo, .agg #[.int .u8 2, .int .i64 128], .int .i64 (x)] V fun e w' => e = .returned (.tuple #[]) ∧ ∃ lo', LT V w' lo lo' (putL L ⟨2, 128, x⟩)) := fun V hV => noteTimes_o lo L 2 128 (x) V (LB.out V hV) (by omega) (by omega) hm
  clear hl hB kg ho hm
  go_enter Tryz.func128, Tryz.ntmps128
  go_wp2_with fail
  clear hW
  go_region_held3 (fun V => V.cell? ⟨w.heap.size, 4, none⟩ = some (.int .i64 msg) ∧ (LDe ⟨g, 2, none⟩).run Tryz.prog V = .ok (.agg #[.int .u8 2, .int .i64 128]) V ∧ V.cell? ⟨g, 1, none⟩ = some (.int .i64 128) ∧ (LDh ⟨g, 0, none⟩).run Tryz.prog V = .ok (.agg #[.int .i64 64, .int .i64 128, .int .u8 2, .int .i64 128]) V) (go_keep) (first
    | (go_at_call 129; with_reducible refine (CK.out _).mono ?_; rintro e W1 ⟨rfl, hb⟩; have N1 : Hid (Below W.heap.size W W1) := hid (below_next D0.out hb); obtain ⟨y0, y1, y2, y3⟩ := SW.out W1 W1 N1.out (Kp.refl _ _); clear hb)
    | (go_at_call 85; with_reducible refine (NT.out _ N1.out).mono ?_; rintro e W9 ⟨rfl, lo9, t9⟩; have T9 := hid (LT.after (below_next BW.out N1.out) t9); obtain ⟨z0, z1, z2, z3⟩ := SW.out _ W9 N1.out t9.kp; clear t9))
  go_wp2
  go_end0
  exact ⟨rfl, lo9, T9.out⟩
end Go.Proofs.YtdmacflcjbkkpaaGreat.Co
