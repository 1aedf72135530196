/- What a session begun makes. -/
import Derived.Test.YtdmacflcjbkkpaaGreatCha
import Derived.Test.YtdmacflcjbkkpaaGreatCco
namespace Go.Proofs.YtdmacflcjbkkpaaGreat.Co
open Go.ChangeShapes Go.WideShapes Go.ChangeAt Go.RowKit
open Go.Proofs.YtdmacflcjbkkpaaGreat (putL)
open Go.Proofs.YtdmacflcjbkkpaaGreat.Ou (Sk sv sL LDk SVk LDk_run SVk_run)
open Go.Proofs.YtdmacflcjbkkpaaGreat.Tb (Blk Blk.newAt put_all Kp.setCells results_cell1 results_cell2)
theorem rte_or (a : Int) : rte a = 168 ∨ rte a = 136 := by unfold rte; split <;> simp
theorem kbegin_ok (lo : Lo) (L : List Rn) (h : He) (gp gr B : Nat) (w : World) (hl : LdO w lo L) (hB : ∀ j, blo lo j → j < B) (hgl : B ≤ gp ∧ B ≤ gr) (kgp : Blk w gp [.int .u8 3, .int .i64 200] 84) (kgr : Blk w gr [.int .i64 (rte h.alg)] 3) (ho : h.Ok) (hb40 : h.msg ≤ 1000000000000) (hm : Rm L 1) (ha : 4 ≤ h.alg ∧ h.alg ≤ 7) :
    Calls Tryz.prog 136 #[lpo lo, hv h, .pointer (some ⟨gp, 0, none⟩), .pointer (some ⟨gr, 0, none⟩)] w fun e w' => e = .returned (.tuple #[]) ∧ ∃ lo', LT w w' lo lo' ((bgE h).foldl putL L) := by
  rcases rte_or h.alg with e | e
  · rw [e] at kgr
    exact kbegin168_ok lo L h gp gr B w hl hB hgl kgp kgr ho hb40 hm ha e
  · rw [e] at kgr
    exact kbegin136_ok lo L h gp gr B w hl hB hgl kgp kgr ho hb40 hm ha e
theorem kwrite_ok (lo : Lo) (L : List Rn) (h : He) (gp gr B : Nat) (n : Int) (hn : 0 ≤ n ∧ n ≤ 65536) (w : World) (hl : LdO w lo L) (hB : ∀ j, blo lo j → j < B) (hgl : B ≤ gp ∧ B ≤ gr) (kgp : Blk w gp [.int .u8 3, .int .i64 200] 84) (kgr : Blk w gr [.int .i64 (rte h.alg)] 3) (ho : h.Ok) (hb40 : h.msg ≤ 1000000000000) (hm : Rm L 1) (ha : 4 ≤ h.alg ∧ h.alg ≤ 7) :
    Calls Tryz.prog 139 #[lpo lo, hv h, .int .i64 n, .pointer (some ⟨gp, 0, none⟩), .pointer (some ⟨gr, 0, none⟩)] w fun e w' => e = .returned (.tuple #[]) ∧ ∃ lo', LT w w' lo lo' ((tlE h n).foldl putL L) := by
  rcases rte_or h.alg with e | e
  · rw [e] at kgr
    exact kwrite168_ok lo L h gp gr B n hn w hl hB hgl kgp kgr ho hb40 hm ha e
  · rw [e] at kgr
    exact kwrite136_ok lo L h gp gr B n hn w hl hB hgl kgp kgr ho hb40 hm ha e
theorem ksum_ok (lo : Lo) (L : List Rn) (h : He) (gp gr gx B : Nat) (xo : Bool) (hxo : xof h.alg = xo) (w : World) (hl : LdO w lo L) (hB : ∀ j, blo lo j → j < B) (hgl : B ≤ gp ∧ B ≤ gr ∧ B ≤ gx) (kgp : Blk w gp [.int .u8 3, .int .i64 200] 84) (kgr : Blk w gr [.int .i64 (rte h.alg)] 3) (kgx : Blk w gx [.bool xo] 4) (ho : h.Ok) (hb40 : h.msg ≤ 1000000000000) (hm : Rm L 1) (ha : 4 ≤ h.alg ∧ h.alg ≤ 7) :
    Calls Tryz.prog 140 #[lpo lo, hv h, .pointer (some ⟨gp, 0, none⟩), .pointer (some ⟨gr, 0, none⟩), .pointer (some ⟨gx, 0, none⟩)] w fun e w' => e = .returned (.tuple #[]) ∧ ∃ lo', LT w w' lo lo' ((smE h).foldl putL L) := by
  rcases rte_or h.alg with e | e
  · rw [e] at kgr
    exact ksum168_ok lo L h gp gr gx B xo hxo w hl hB hgl kgp kgr kgx ho hb40 hm ha e
  · rw [e] at kgr
    exact ksum136_ok lo L h gp gr gx B xo hxo w hl hB hgl kgp kgr kgx ho hb40 hm ha e
set_option maxRecDepth 8000 in
set_option maxHeartbeats 1600000 in
theorem begin_h1 (p gm gk : Nat) (P : St) (s : Sk) (lo : Lo) (L : List Rn) (y : He) (f : Nat) (hy : hat P s.h = some y) (hf : fre P = some f) (hk : s.a = 1) (ho : He.Ok ⟨y.key, s.a, s.o, s.d, 0⟩) (hm : Rm L 1) (w : World) (hp : PU w p gm gk P) (hl : LdO w lo L) (ha : Apo lo p gm gk) (hs : Sk.Fit s) :
    Calls Tryz.prog 47 #[.pointer (some ⟨p, 0, none⟩), lpo lo, sv s] w fun e w' => e = .returned (.tuple #[]) ∧ ∃ lo', CT w w' p gm gk (upS P f (some ⟨y.key, s.a, s.o, s.d, 0⟩)) lo lo' ((bgE ⟨y.key, s.a, s.o, s.d, 0⟩).foldl putL L) := by
  obtain ⟨sk, sh, sa, sc, so, sd, sm⟩ := s
  obtain ⟨yk, ya, yo, yc, ym⟩ := y
  have bh : 0 ≤ sh ∧ sh < 64 := ⟨(hat_of hy).1, (hat_of hy).2.1⟩
  obtain rfl : sa = 1 := hk
  have HO : Hid (He.Ok ⟨yk, 1, so, sd, 0⟩) := hid ho
  have HM40 : Hid (((⟨yk, 1, so, sd, 0⟩ : He)).msg ≤ 1000000000000) := hid (by show (0 : Int) ≤ 1000000000000; decide)
  have HRM := hid hm
  have HPW := hid hp
  obtain ⟨W, hW⟩ : ∃ W, w.alloc (.cells #[.int .u8 sk, .int .i64 sh, .int .u8 1, .int .i64 sc, .int .i64 so, .int .i64 sd, .int .i64 sm] 40) = W := ⟨_, rfl⟩
  have BW : Hid (Below w.heap.size w W) := by rw [← hW]; exact below_alloc _ _
  have KB : Hid (Blk W w.heap.size [.int .u8 sk, .int .i64 sh, .int .u8 1, .int .i64 sc, .int .i64 so, .int .i64 sd, .int .i64 sm] 40) := by rw [← hW]; exact Blk.newAt w _ _ _ w.heap.size rfl rfl
  have HP := hid (hp.below BW.out)
  have HL := hid (hl.below BW.out)
  have HA := hid ha
  have GL := hid hp.lt
  have LL : Hid (∀ j, blo lo j → j < w.heap.size) := hl.lt
  have LKf : ∀ V, PU V p gm gk P → (LK (.map (some gm)) (.int .i64 sh) false).run Tryz.prog V = .ok (.agg #[.int .u8 ya, .int .i64 yo, .int .i64 yk, .int .i64 yc, .int .i64 ym]) V := fun V hV => by
    have := hV.look (x := sh) (by omega) false
    rw [hy] at this
    exact this
  have SW : Hid (∀ U V, Below W.heap.size W U → Kp (blo lo) U V → V.cell? ⟨p, 0, none⟩ = some (.map (some gm)) ∧ V.cell? ⟨w.heap.size, 1, none⟩ = some (.int .i64 sh) ∧ V.cell? ⟨w.heap.size, 2, none⟩ = some (.int .u8 1) ∧ V.cell? ⟨w.heap.size, 4, none⟩ = some (.int .i64 so) ∧ V.cell? ⟨w.heap.size, 5, none⟩ = some (.int .i64 sd) ∧ (LK (.map (some gm)) (.int .i64 sh) false).run Tryz.prog V = .ok (.agg #[.int .u8 ya, .int .i64 yo, .int .i64 yk, .int .i64 yc, .int .i64 ym]) V) := fun U V hU hk => by
    have pv := (HP.out.below hU).kept hk (fun e => (HA.out _ e).1 rfl) (fun e => (HA.out _ e).2.1 rfl) (fun e => (HA.out _ e).2.2 rfl)
    have kv := (KB.out.below hU).kept hk (fun e => by have := LL.out _ e; omega)
    exact ⟨pv.c0, kv.cell 1 _ rfl, kv.cell 2 _ rfl, kv.cell 4 _ rfl, kv.cell 5 _ rfl, LKf V pv⟩
  obtain ⟨U, hU⟩ : ∃ U, (W.alloc (.cells #[.int .u8 0, .int .i64 0, .int .i64 0, .int .i64 0, .int .i64 0] 82)).drew = U := ⟨_, rfl⟩
  have NU : Hid (Below W.heap.size W U) := by rw [← hU]; exact (below_alloc _ _).drew
  have ku : Blk U W.heap.size [.int .u8 0, .int .i64 0, .int .i64 0, .int .i64 0, .int .i64 0] 82 := by rw [← hU]; exact (Blk.newAt W _ _ _ W.heap.size rfl rfl).drewN 1
  obtain ⟨V, s1, k1, hk1⟩ := SVg_run 1 so yk sd 0 ku rfl
  have KS : Hid (Blk V W.heap.size [.int .u8 1, .int .i64 so, .int .i64 yk, .int .i64 sd, .int .i64 0] 82) := hid k1
  have NV : Hid (Below W.heap.size W V) := hid (NU.out.trans (hk1.below NU.out.size (fun k h e => by omega)))
  have ND : Hid (Below W.heap.size W V.drew) := hid (below_next NV.out (below_drewN V 1))
  have SS : Hid (∀ U2 V2, Below V.heap.size V U2 → Kp (blo lo) U2 V2 → (LDg ⟨W.heap.size, 0, none⟩).run Tryz.prog V2 = .ok (.agg #[.int .u8 1, .int .i64 so, .int .i64 yk, .int .i64 sd, .int .i64 0]) V2) := fun U2 V2 hU2 hk2 => LDg_run ((KS.out.below hU2).kept hk2 (fun e => by have := LL.out _ e; have := BW.out.size; omega))
  have DV : Hid (Below V.heap.size V V.drew) := hid (below_drewN V 1)
  have xs := SS.out V.drew V.drew DV.out (Kp.refl _ _)
  clear k1 hk1 ku
  have CB : Hid (∀ W2 g, Below V.heap.size V W2 → V.drew.heap.size ≤ g → Blk W2 g [.int .i64 32, .int .i64 64, .int .u8 1, .int .i64 64] 119 → Calls Tryz.prog 126 #[lpo lo, .agg #[.int .u8 1, .int .i64 so, .int .i64 yk, .int .i64 sd, .int .i64 0], .pointer (some ⟨g, 0, none⟩)] W2 fun e w' => e = .returned (.tuple #[]) ∧ ∃ lo', LT W2 w' lo lo' ((bgE ⟨yk, 1, so, sd, 0⟩).foldl putL L)) := fun W2 g hb hg kg => hbegin1_ok lo L ⟨yk, 1, so, sd, 0⟩ g V.drew.heap.size W2 ((HL.out.below NV.out).below hb) (fun j hj => by have := LL.out j hj; have := BW.out.size; have := NV.out.size; show j < V.heap.size; omega) hg kg HO.out HM40.out HRM.out rfl
  have CG : Hid (∀ V, Calls Tryz.prog 82 #[.agg #[.int .u8 1, .int .i64 so, .int .i64 yk, .int .i64 sd, .int .i64 0]] V fun e w' => ∃ g, e = .returned (algH 32 g) ∧ V.heap.size ≤ g ∧ Blk w' g [.int .i64 32, .int .i64 64, .int .u8 1, .int .i64 64] 119 ∧ Below V.heap.size V w') := fun V => halg_h1 ⟨yk, 1, so, sd, 0⟩ rfl V
  obtain ⟨x0, x1, x2, x3, x4, x5⟩ := SW.out W.drew W.drew (below_drewN W 1) (Kp.refl _ _)
  obtain ⟨y0, y1, y2, y3, y4, y5⟩ := SW.out U U NU.out (Kp.refl _ _)
  obtain ⟨z0, z1, z2, z3, z4, z5⟩ := SW.out V V NV.out (Kp.refl _ _)
  clear hp hl ha hs hm ho hy LKf
  go_enter Tryz.func47, Tryz.ntmps47
  go_wp2_with fail
  clear hW
  go_region_held3 (fun V => V.cell? ⟨p, 0, none⟩ = some (.map (some gm)) ∧ V.cell? ⟨w.heap.size, 1, none⟩ = some (.int .i64 sh) ∧ V.cell? ⟨w.heap.size, 2, none⟩ = some (.int .u8 1) ∧ V.cell? ⟨w.heap.size, 4, none⟩ = some (.int .i64 so) ∧ V.cell? ⟨w.heap.size, 5, none⟩ = some (.int .i64 sd) ∧ (LK (.map (some gm)) (.int .i64 sh) false).run Tryz.prog V = .ok (.agg #[.int .u8 ya, .int .i64 yo, .int .i64 yk, .int .i64 yc, .int .i64 ym]) V) (go_keep) (fail)
  all_goals
    clear hU
    go_wp2_with fail
    go_region_held3 (fun V2 => (LDg ⟨W.heap.size, 0, none⟩).run Tryz.prog V2 = .ok (.agg #[.int .u8 1, .int .i64 so, .int .i64 yk, .int .i64 sd, .int .i64 0]) V2) (go_keep) (first
    | (go_at_call 82; with_reducible refine (CG.out _).mono ?_; rintro e W2 ⟨g, rfl, hg, kg, hb⟩; have N2 : Hid (Below V.heap.size V W2) := hid (below_next DV.out hb); have cb := CB.out W2 g N2.out hg kg; have ys := SS.out W2 W2 N2.out (Kp.refl _ _); clear hb hg kg)
    | (go_at_call 126; with_reducible refine cb.mono ?_; rintro e W3 ⟨rfl, l3, t3⟩; have T3 := hid t3; have zs := SS.out W2 W3 N2.out t3.kp; clear t3 cb))
    have C3 := hid (CT.after (below_next BW.out (below_next NV.out N2.out)) (CT.note ((HP.out.below NV.out).below N2.out) HA.out T3.out))
    have CK := hid (take_ok p gm gk P ⟨yk, 1, so, sd, 0⟩ f hf W3 C3.out.pu)
    go_wp2_with fail
    refine CK.out.mono ?_
    rintro e W4 ⟨rfl, p4, k4⟩
    have C4 := hid (C3.out.trans (CT.map C3.out.led (C3.out.apo HPW.out HA.out) p4 k4))
    clear p4 k4
    go_wp2
    go_end0
    exact ⟨rfl, l3, C4.out⟩
set_option maxRecDepth 8000 in
set_option maxHeartbeats 1600000 in
theorem begin_h2 (p gm gk : Nat) (P : St) (s : Sk) (lo : Lo) (L : List Rn) (y : He) (f : Nat) (hy : hat P s.h = some y) (hf : fre P = some f) (hk : s.a = 2) (ho : He.Ok ⟨y.key, s.a, s.o, s.d, 0⟩) (hm : Rm L 1) (w : World) (hp : PU w p gm gk P) (hl : LdO w lo L) (ha : Apo lo p gm gk) (hs : Sk.Fit s) :
    Calls Tryz.prog 47 #[.pointer (some ⟨p, 0, none⟩), lpo lo, sv s] w fun e w' => e = .returned (.tuple #[]) ∧ ∃ lo', CT w w' p gm gk (upS P f (some ⟨y.key, s.a, s.o, s.d, 0⟩)) lo lo' ((bgE ⟨y.key, s.a, s.o, s.d, 0⟩).foldl putL L) := by
  obtain ⟨sk, sh, sa, sc, so, sd, sm⟩ := s
  obtain ⟨yk, ya, yo, yc, ym⟩ := y
  have bh : 0 ≤ sh ∧ sh < 64 := ⟨(hat_of hy).1, (hat_of hy).2.1⟩
  obtain rfl : sa = 2 := hk
  have HO : Hid (He.Ok ⟨yk, 2, so, sd, 0⟩) := hid ho
  have HM40 : Hid (((⟨yk, 2, so, sd, 0⟩ : He)).msg ≤ 1000000000000) := hid (by show (0 : Int) ≤ 1000000000000; decide)
  have HRM := hid hm
  have HPW := hid hp
  obtain ⟨W, hW⟩ : ∃ W, w.alloc (.cells #[.int .u8 sk, .int .i64 sh, .int .u8 2, .int .i64 sc, .int .i64 so, .int .i64 sd, .int .i64 sm] 40) = W := ⟨_, rfl⟩
  have BW : Hid (Below w.heap.size w W) := by rw [← hW]; exact below_alloc _ _
  have KB : Hid (Blk W w.heap.size [.int .u8 sk, .int .i64 sh, .int .u8 2, .int .i64 sc, .int .i64 so, .int .i64 sd, .int .i64 sm] 40) := by rw [← hW]; exact Blk.newAt w _ _ _ w.heap.size rfl rfl
  have HP := hid (hp.below BW.out)
  have HL := hid (hl.below BW.out)
  have HA := hid ha
  have GL := hid hp.lt
  have LL : Hid (∀ j, blo lo j → j < w.heap.size) := hl.lt
  have LKf : ∀ V, PU V p gm gk P → (LK (.map (some gm)) (.int .i64 sh) false).run Tryz.prog V = .ok (.agg #[.int .u8 ya, .int .i64 yo, .int .i64 yk, .int .i64 yc, .int .i64 ym]) V := fun V hV => by
    have := hV.look (x := sh) (by omega) false
    rw [hy] at this
    exact this
  have SW : Hid (∀ U V, Below W.heap.size W U → Kp (blo lo) U V → V.cell? ⟨p, 0, none⟩ = some (.map (some gm)) ∧ V.cell? ⟨w.heap.size, 1, none⟩ = some (.int .i64 sh) ∧ V.cell? ⟨w.heap.size, 2, none⟩ = some (.int .u8 2) ∧ V.cell? ⟨w.heap.size, 4, none⟩ = some (.int .i64 so) ∧ V.cell? ⟨w.heap.size, 5, none⟩ = some (.int .i64 sd) ∧ (LK (.map (some gm)) (.int .i64 sh) false).run Tryz.prog V = .ok (.agg #[.int .u8 ya, .int .i64 yo, .int .i64 yk, .int .i64 yc, .int .i64 ym]) V) := fun U V hU hk => by
    have pv := (HP.out.below hU).kept hk (fun e => (HA.out _ e).1 rfl) (fun e => (HA.out _ e).2.1 rfl) (fun e => (HA.out _ e).2.2 rfl)
    have kv := (KB.out.below hU).kept hk (fun e => by have := LL.out _ e; omega)
    exact ⟨pv.c0, kv.cell 1 _ rfl, kv.cell 2 _ rfl, kv.cell 4 _ rfl, kv.cell 5 _ rfl, LKf V pv⟩
  obtain ⟨U, hU⟩ : ∃ U, (W.alloc (.cells #[.int .u8 0, .int .i64 0, .int .i64 0, .int .i64 0, .int .i64 0] 82)).drew = U := ⟨_, rfl⟩
  have NU : Hid (Below W.heap.size W U) := by rw [← hU]; exact (below_alloc _ _).drew
  have ku : Blk U W.heap.size [.int .u8 0, .int .i64 0, .int .i64 0, .int .i64 0, .int .i64 0] 82 := by rw [← hU]; exact (Blk.newAt W _ _ _ W.heap.size rfl rfl).drewN 1
  obtain ⟨V, s1, k1, hk1⟩ := SVg_run 2 so yk sd 0 ku rfl
  have KS : Hid (Blk V W.heap.size [.int .u8 2, .int .i64 so, .int .i64 yk, .int .i64 sd, .int .i64 0] 82) := hid k1
  have NV : Hid (Below W.heap.size W V) := hid (NU.out.trans (hk1.below NU.out.size (fun k h e => by omega)))
  have ND : Hid (Below W.heap.size W V.drew) := hid (below_next NV.out (below_drewN V 1))
  have SS : Hid (∀ U2 V2, Below V.heap.size V U2 → Kp (blo lo) U2 V2 → (LDg ⟨W.heap.size, 0, none⟩).run Tryz.prog V2 = .ok (.agg #[.int .u8 2, .int .i64 so, .int .i64 yk, .int .i64 sd, .int .i64 0]) V2) := fun U2 V2 hU2 hk2 => LDg_run ((KS.out.below hU2).kept hk2 (fun e => by have := LL.out _ e; have := BW.out.size; omega))
  have DV : Hid (Below V.heap.size V V.drew) := hid (below_drewN V 1)
  have xs := SS.out V.drew V.drew DV.out (Kp.refl _ _)
  clear k1 hk1 ku
  have CB : Hid (∀ W2 g, Below V.heap.size V W2 → V.drew.heap.size ≤ g → Blk W2 g [.int .i64 64, .int .i64 128, .int .u8 2, .int .i64 128] 119 → Calls Tryz.prog 126 #[lpo lo, .agg #[.int .u8 2, .int .i64 so, .int .i64 yk, .int .i64 sd, .int .i64 0], .pointer (some ⟨g, 0, none⟩)] W2 fun e w' => e = .returned (.tuple #[]) ∧ ∃ lo', LT W2 w' lo lo' ((bgE ⟨yk, 2, so, sd, 0⟩).foldl putL L)) := fun W2 g hb hg kg => hbegin2_ok lo L ⟨yk, 2, so, sd, 0⟩ g V.drew.heap.size W2 ((HL.out.below NV.out).below hb) (fun j hj => by have := LL.out j hj; have := BW.out.size; have := NV.out.size; show j < V.heap.size; omega) hg kg HO.out HM40.out HRM.out rfl
  have CG : Hid (∀ V, Calls Tryz.prog 82 #[.agg #[.int .u8 2, .int .i64 so, .int .i64 yk, .int .i64 sd, .int .i64 0]] V fun e w' => ∃ g, e = .returned (algH 64 g) ∧ V.heap.size ≤ g ∧ Blk w' g [.int .i64 64, .int .i64 128, .int .u8 2, .int .i64 128] 119 ∧ Below V.heap.size V w') := fun V => halg_h2 ⟨yk, 2, so, sd, 0⟩ rfl V
  obtain ⟨x0, x1, x2, x3, x4, x5⟩ := SW.out W.drew W.drew (below_drewN W 1) (Kp.refl _ _)
  obtain ⟨y0, y1, y2, y3, y4, y5⟩ := SW.out U U NU.out (Kp.refl _ _)
  obtain ⟨z0, z1, z2, z3, z4, z5⟩ := SW.out V V NV.out (Kp.refl _ _)
  clear hp hl ha hs hm ho hy LKf
  go_enter Tryz.func47, Tryz.ntmps47
  go_wp2_with fail
  clear hW
  go_region_held3 (fun V => V.cell? ⟨p, 0, none⟩ = some (.map (some gm)) ∧ V.cell? ⟨w.heap.size, 1, none⟩ = some (.int .i64 sh) ∧ V.cell? ⟨w.heap.size, 2, none⟩ = some (.int .u8 2) ∧ V.cell? ⟨w.heap.size, 4, none⟩ = some (.int .i64 so) ∧ V.cell? ⟨w.heap.size, 5, none⟩ = some (.int .i64 sd) ∧ (LK (.map (some gm)) (.int .i64 sh) false).run Tryz.prog V = .ok (.agg #[.int .u8 ya, .int .i64 yo, .int .i64 yk, .int .i64 yc, .int .i64 ym]) V) (go_keep) (fail)
  all_goals
    clear hU
    go_wp2_with fail
    go_region_held3 (fun V2 => (LDg ⟨W.heap.size, 0, none⟩).run Tryz.prog V2 = .ok (.agg #[.int .u8 2, .int .i64 so, .int .i64 yk, .int .i64 sd, .int .i64 0]) V2) (go_keep) (first
    | (go_at_call 82; with_reducible refine (CG.out _).mono ?_; rintro e W2 ⟨g, rfl, hg, kg, hb⟩; have N2 : Hid (Below V.heap.size V W2) := hid (below_next DV.out hb); have cb := CB.out W2 g N2.out hg kg; have ys := SS.out W2 W2 N2.out (Kp.refl _ _); clear hb hg kg)
    | (go_at_call 126; with_reducible refine cb.mono ?_; rintro e W3 ⟨rfl, l3, t3⟩; have T3 := hid t3; have zs := SS.out W2 W3 N2.out t3.kp; clear t3 cb))
    have C3 := hid (CT.after (below_next BW.out (below_next NV.out N2.out)) (CT.note ((HP.out.below NV.out).below N2.out) HA.out T3.out))
    have CK := hid (take_ok p gm gk P ⟨yk, 2, so, sd, 0⟩ f hf W3 C3.out.pu)
    go_wp2_with fail
    refine CK.out.mono ?_
    rintro e W4 ⟨rfl, p4, k4⟩
    have C4 := hid (C3.out.trans (CT.map C3.out.led (C3.out.apo HPW.out HA.out) p4 k4))
    clear p4 k4
    go_wp2
    go_end0
    exact ⟨rfl, l3, C4.out⟩
set_option maxRecDepth 8000 in
set_option maxHeartbeats 1600000 in
theorem begin_c (p gm gk : Nat) (P : St) (s : Sk) (lo : Lo) (L : List Rn) (y : He) (f : Nat) (hy : hat P s.h = some y) (hf : fre P = some f) (hk : s.a = 3) (ho : He.Ok ⟨y.key, s.a, s.o, s.d, 0⟩) (hm : Rm L 2) (w : World) (hp : PU w p gm gk P) (hl : LdO w lo L) (ha : Apo lo p gm gk) (hs : Sk.Fit s) :
    Calls Tryz.prog 47 #[.pointer (some ⟨p, 0, none⟩), lpo lo, sv s] w fun e w' => e = .returned (.tuple #[]) ∧ ∃ lo', CT w w' p gm gk (upS P f (some ⟨y.key, s.a, s.o, s.d, 0⟩)) lo lo' ((bgE ⟨y.key, s.a, s.o, s.d, 0⟩).foldl putL L) := by
  obtain ⟨sk, sh, sa, sc, so, sd, sm⟩ := s
  obtain ⟨yk, ya, yo, yc, ym⟩ := y
  have bh : 0 ≤ sh ∧ sh < 64 := ⟨(hat_of hy).1, (hat_of hy).2.1⟩
  obtain rfl : sa = 3 := hk
  have HO : Hid (He.Ok ⟨yk, 3, so, sd, 0⟩) := hid ho
  have HM40 : Hid (((⟨yk, 3, so, sd, 0⟩ : He)).msg ≤ 1000000000000) := hid (by show (0 : Int) ≤ 1000000000000; decide)
  have HRM := hid hm
  have HPW := hid hp
  obtain ⟨W, hW⟩ : ∃ W, w.alloc (.cells #[.int .u8 sk, .int .i64 sh, .int .u8 3, .int .i64 sc, .int .i64 so, .int .i64 sd, .int .i64 sm] 40) = W := ⟨_, rfl⟩
  have BW : Hid (Below w.heap.size w W) := by rw [← hW]; exact below_alloc _ _
  have KB : Hid (Blk W w.heap.size [.int .u8 sk, .int .i64 sh, .int .u8 3, .int .i64 sc, .int .i64 so, .int .i64 sd, .int .i64 sm] 40) := by rw [← hW]; exact Blk.newAt w _ _ _ w.heap.size rfl rfl
  have HP := hid (hp.below BW.out)
  have HL := hid (hl.below BW.out)
  have HA := hid ha
  have GL := hid hp.lt
  have LL : Hid (∀ j, blo lo j → j < w.heap.size) := hl.lt
  have LKf : ∀ V, PU V p gm gk P → (LK (.map (some gm)) (.int .i64 sh) false).run Tryz.prog V = .ok (.agg #[.int .u8 ya, .int .i64 yo, .int .i64 yk, .int .i64 yc, .int .i64 ym]) V := fun V hV => by
    have := hV.look (x := sh) (by omega) false
    rw [hy] at this
    exact this
  have SW : Hid (∀ U V, Below W.heap.size W U → Kp (blo lo) U V → V.cell? ⟨p, 0, none⟩ = some (.map (some gm)) ∧ V.cell? ⟨w.heap.size, 1, none⟩ = some (.int .i64 sh) ∧ V.cell? ⟨w.heap.size, 2, none⟩ = some (.int .u8 3) ∧ V.cell? ⟨w.heap.size, 4, none⟩ = some (.int .i64 so) ∧ V.cell? ⟨w.heap.size, 5, none⟩ = some (.int .i64 sd) ∧ (LK (.map (some gm)) (.int .i64 sh) false).run Tryz.prog V = .ok (.agg #[.int .u8 ya, .int .i64 yo, .int .i64 yk, .int .i64 yc, .int .i64 ym]) V) := fun U V hU hk => by
    have pv := (HP.out.below hU).kept hk (fun e => (HA.out _ e).1 rfl) (fun e => (HA.out _ e).2.1 rfl) (fun e => (HA.out _ e).2.2 rfl)
    have kv := (KB.out.below hU).kept hk (fun e => by have := LL.out _ e; omega)
    exact ⟨pv.c0, kv.cell 1 _ rfl, kv.cell 2 _ rfl, kv.cell 4 _ rfl, kv.cell 5 _ rfl, LKf V pv⟩
  obtain ⟨U, hU⟩ : ∃ U, (W.alloc (.cells #[.int .u8 0, .int .i64 0, .int .i64 0, .int .i64 0, .int .i64 0] 82)).drew = U := ⟨_, rfl⟩
  have NU : Hid (Below W.heap.size W U) := by rw [← hU]; exact (below_alloc _ _).drew
  have ku : Blk U W.heap.size [.int .u8 0, .int .i64 0, .int .i64 0, .int .i64 0, .int .i64 0] 82 := by rw [← hU]; exact (Blk.newAt W _ _ _ W.heap.size rfl rfl).drewN 1
  obtain ⟨V, s1, k1, hk1⟩ := SVg_run 3 so yk sd 0 ku rfl
  have KS : Hid (Blk V W.heap.size [.int .u8 3, .int .i64 so, .int .i64 yk, .int .i64 sd, .int .i64 0] 82) := hid k1
  have NV : Hid (Below W.heap.size W V) := hid (NU.out.trans (hk1.below NU.out.size (fun k h e => by omega)))
  have ND : Hid (Below W.heap.size W V.drew) := hid (below_next NV.out (below_drewN V 1))
  have SS : Hid (∀ U2 V2, Below V.heap.size V U2 → Kp (blo lo) U2 V2 → (LDg ⟨W.heap.size, 0, none⟩).run Tryz.prog V2 = .ok (.agg #[.int .u8 3, .int .i64 so, .int .i64 yk, .int .i64 sd, .int .i64 0]) V2) := fun U2 V2 hU2 hk2 => LDg_run ((KS.out.below hU2).kept hk2 (fun e => by have := LL.out _ e; have := BW.out.size; omega))
  have DV : Hid (Below V.heap.size V V.drew) := hid (below_drewN V 1)
  have xs := SS.out V.drew V.drew DV.out (Kp.refl _ _)
  clear k1 hk1 ku
  have CB : Hid (∀ W2 g, Below V.heap.size V W2 → V.drew.heap.size ≤ g → Blk W2 g [.func (.func 130) #[] #[]] 149 → Calls Tryz.prog 132 #[lpo lo, .agg #[.int .u8 3, .int .i64 so, .int .i64 yk, .int .i64 sd, .int .i64 0], .pointer (some ⟨g, 0, none⟩)] W2 fun e w' => e = .returned (.tuple #[]) ∧ ∃ lo', LT W2 w' lo lo' ((bgE ⟨yk, 3, so, sd, 0⟩).foldl putL L)) := fun W2 g hb hg kg => cbegin_ok lo L ⟨yk, 3, so, sd, 0⟩ g V.drew.heap.size W2 ((HL.out.below NV.out).below hb) (fun j hj => by have := LL.out j hj; have := BW.out.size; have := NV.out.size; show j < V.heap.size; omega) hg kg HO.out HM40.out HRM.out rfl
  have CG : Hid (∀ V, Calls Tryz.prog 82 #[.agg #[.int .u8 3, .int .i64 so, .int .i64 yk, .int .i64 sd, .int .i64 0]] V fun e w' => ∃ g, e = .returned (algC g) ∧ V.heap.size ≤ g ∧ Blk w' g [.func (.func 130) #[] #[]] 149 ∧ Below V.heap.size V w') := fun V => halg_c ⟨yk, 3, so, sd, 0⟩ rfl V
  obtain ⟨x0, x1, x2, x3, x4, x5⟩ := SW.out W.drew W.drew (below_drewN W 1) (Kp.refl _ _)
  obtain ⟨y0, y1, y2, y3, y4, y5⟩ := SW.out U U NU.out (Kp.refl _ _)
  obtain ⟨z0, z1, z2, z3, z4, z5⟩ := SW.out V V NV.out (Kp.refl _ _)
  clear hp hl ha hs hm ho hy LKf
  go_enter Tryz.func47, Tryz.ntmps47
  go_wp2_with fail
  clear hW
  go_region_held3 (fun V => V.cell? ⟨p, 0, none⟩ = some (.map (some gm)) ∧ V.cell? ⟨w.heap.size, 1, none⟩ = some (.int .i64 sh) ∧ V.cell? ⟨w.heap.size, 2, none⟩ = some (.int .u8 3) ∧ V.cell? ⟨w.heap.size, 4, none⟩ = some (.int .i64 so) ∧ V.cell? ⟨w.heap.size, 5, none⟩ = some (.int .i64 sd) ∧ (LK (.map (some gm)) (.int .i64 sh) false).run Tryz.prog V = .ok (.agg #[.int .u8 ya, .int .i64 yo, .int .i64 yk, .int .i64 yc, .int .i64 ym]) V) (go_keep) (fail)
  all_goals
    clear hU
    go_wp2_with fail
    go_region_held3 (fun V2 => (LDg ⟨W.heap.size, 0, none⟩).run Tryz.prog V2 = .ok (.agg #[.int .u8 3, .int .i64 so, .int .i64 yk, .int .i64 sd, .int .i64 0]) V2) (go_keep) (first
    | (go_at_call 82; with_reducible refine (CG.out _).mono ?_; rintro e W2 ⟨g, rfl, hg, kg, hb⟩; have N2 : Hid (Below V.heap.size V W2) := hid (below_next DV.out hb); have cb := CB.out W2 g N2.out hg kg; have ys := SS.out W2 W2 N2.out (Kp.refl _ _); clear hb hg kg)
    | (go_at_call 132; with_reducible refine cb.mono ?_; rintro e W3 ⟨rfl, l3, t3⟩; have T3 := hid t3; have zs := SS.out W2 W3 N2.out t3.kp; clear t3 cb))
    have C3 := hid (CT.after (below_next BW.out (below_next NV.out N2.out)) (CT.note ((HP.out.below NV.out).below N2.out) HA.out T3.out))
    have CK := hid (take_ok p gm gk P ⟨yk, 3, so, sd, 0⟩ f hf W3 C3.out.pu)
    go_wp2_with fail
    refine CK.out.mono ?_
    rintro e W4 ⟨rfl, p4, k4⟩
    have C4 := hid (C3.out.trans (CT.map C3.out.led (C3.out.apo HPW.out HA.out) p4 k4))
    clear p4 k4
    go_wp2
    go_end0
    exact ⟨rfl, l3, C4.out⟩
set_option maxRecDepth 8000 in
set_option maxHeartbeats 1600000 in
theorem begin_k (p gm gk : Nat) (P : St) (s : Sk) (lo : Lo) (L : List Rn) (y : He) (f : Nat) (hy : hat P s.h = some y) (hf : fre P = some f) (hk : 4 ≤ s.a ∧ s.a ≤ 7) (ho : He.Ok ⟨y.key, s.a, s.o, s.d, 0⟩) (hm : Rm L 1) (w : World) (hp : PU w p gm gk P) (hl : LdO w lo L) (ha : Apo lo p gm gk) (hs : Sk.Fit s) :
    Calls Tryz.prog 47 #[.pointer (some ⟨p, 0, none⟩), lpo lo, sv s] w fun e w' => e = .returned (.tuple #[]) ∧ ∃ lo', CT w w' p gm gk (upS P f (some ⟨y.key, s.a, s.o, s.d, 0⟩)) lo lo' ((bgE ⟨y.key, s.a, s.o, s.d, 0⟩).foldl putL L) := by
  obtain ⟨sk, sh, sa, sc, so, sd, sm⟩ := s
  obtain ⟨yk, ya, yo, yc, ym⟩ := y
  have bh : 0 ≤ sh ∧ sh < 64 := ⟨(hat_of hy).1, (hat_of hy).2.1⟩
  have hk : 4 ≤ sa ∧ sa ≤ 7 := hk
  have HO : Hid (He.Ok ⟨yk, sa, so, sd, 0⟩) := hid ho
  have HM40 : Hid (((⟨yk, sa, so, sd, 0⟩ : He)).msg ≤ 1000000000000) := hid (by show (0 : Int) ≤ 1000000000000; decide)
  have HRM := hid hm
  have HPW := hid hp
  have HK := hid hk
  obtain ⟨W, hW⟩ : ∃ W, w.alloc (.cells #[.int .u8 sk, .int .i64 sh, .int .u8 sa, .int .i64 sc, .int .i64 so, .int .i64 sd, .int .i64 sm] 40) = W := ⟨_, rfl⟩
  have BW : Hid (Below w.heap.size w W) := by rw [← hW]; exact below_alloc _ _
  have KB : Hid (Blk W w.heap.size [.int .u8 sk, .int .i64 sh, .int .u8 sa, .int .i64 sc, .int .i64 so, .int .i64 sd, .int .i64 sm] 40) := by rw [← hW]; exact Blk.newAt w _ _ _ w.heap.size rfl rfl
  have HP := hid (hp.below BW.out)
  have HL := hid (hl.below BW.out)
  have HA := hid ha
  have GL := hid hp.lt
  have LL : Hid (∀ j, blo lo j → j < w.heap.size) := hl.lt
  have LKf : ∀ V, PU V p gm gk P → (LK (.map (some gm)) (.int .i64 sh) false).run Tryz.prog V = .ok (.agg #[.int .u8 ya, .int .i64 yo, .int .i64 yk, .int .i64 yc, .int .i64 ym]) V := fun V hV => by
    have := hV.look (x := sh) (by omega) false
    rw [hy] at this
    exact this
  have SW : Hid (∀ U V, Below W.heap.size W U → Kp (blo lo) U V → V.cell? ⟨p, 0, none⟩ = some (.map (some gm)) ∧ V.cell? ⟨w.heap.size, 1, none⟩ = some (.int .i64 sh) ∧ V.cell? ⟨w.heap.size, 2, none⟩ = some (.int .u8 sa) ∧ V.cell? ⟨w.heap.size, 4, none⟩ = some (.int .i64 so) ∧ V.cell? ⟨w.heap.size, 5, none⟩ = some (.int .i64 sd) ∧ (LK (.map (some gm)) (.int .i64 sh) false).run Tryz.prog V = .ok (.agg #[.int .u8 ya, .int .i64 yo, .int .i64 yk, .int .i64 yc, .int .i64 ym]) V) := fun U V hU hk => by
    have pv := (HP.out.below hU).kept hk (fun e => (HA.out _ e).1 rfl) (fun e => (HA.out _ e).2.1 rfl) (fun e => (HA.out _ e).2.2 rfl)
    have kv := (KB.out.below hU).kept hk (fun e => by have := LL.out _ e; omega)
    exact ⟨pv.c0, kv.cell 1 _ rfl, kv.cell 2 _ rfl, kv.cell 4 _ rfl, kv.cell 5 _ rfl, LKf V pv⟩
  obtain ⟨U, hU⟩ : ∃ U, (W.alloc (.cells #[.int .u8 0, .int .i64 0, .int .i64 0, .int .i64 0, .int .i64 0] 82)).drew = U := ⟨_, rfl⟩
  have NU : Hid (Below W.heap.size W U) := by rw [← hU]; exact (below_alloc _ _).drew
  have ku : Blk U W.heap.size [.int .u8 0, .int .i64 0, .int .i64 0, .int .i64 0, .int .i64 0] 82 := by rw [← hU]; exact (Blk.newAt W _ _ _ W.heap.size rfl rfl).drewN 1
  obtain ⟨V, s1, k1, hk1⟩ := SVg_run sa so yk sd 0 ku rfl
  have KS : Hid (Blk V W.heap.size [.int .u8 sa, .int .i64 so, .int .i64 yk, .int .i64 sd, .int .i64 0] 82) := hid k1
  have NV : Hid (Below W.heap.size W V) := hid (NU.out.trans (hk1.below NU.out.size (fun k h e => by omega)))
  have ND : Hid (Below W.heap.size W V.drew) := hid (below_next NV.out (below_drewN V 1))
  have SS : Hid (∀ U2 V2, Below V.heap.size V U2 → Kp (blo lo) U2 V2 → (LDg ⟨W.heap.size, 0, none⟩).run Tryz.prog V2 = .ok (.agg #[.int .u8 sa, .int .i64 so, .int .i64 yk, .int .i64 sd, .int .i64 0]) V2) := fun U2 V2 hU2 hk2 => LDg_run ((KS.out.below hU2).kept hk2 (fun e => by have := LL.out _ e; have := BW.out.size; omega))
  have DV : Hid (Below V.heap.size V V.drew) := hid (below_drewN V 1)
  have xs := SS.out V.drew V.drew DV.out (Kp.refl _ _)
  clear k1 hk1 ku
  have CB : Hid (∀ W2 gp gr gx, Below V.heap.size V W2 → (V.drew.heap.size ≤ gp ∧ V.drew.heap.size ≤ gr ∧ V.drew.heap.size ≤ gx) → Blk W2 gp [.int .u8 3, .int .i64 200] 84 → Blk W2 gr [.int .i64 (rte sa)] 3 → Blk W2 gx [.bool (xof sa)] 4 → Calls Tryz.prog 136 #[lpo lo, .agg #[.int .u8 sa, .int .i64 so, .int .i64 yk, .int .i64 sd, .int .i64 0], .pointer (some ⟨gp, 0, none⟩), .pointer (some ⟨gr, 0, none⟩)] W2 fun e w' => e = .returned (.tuple #[]) ∧ ∃ lo', LT W2 w' lo lo' ((bgE ⟨yk, sa, so, sd, 0⟩).foldl putL L)) := fun W2 gp gr gx hb hg kp kr kx => kbegin_ok lo L ⟨yk, sa, so, sd, 0⟩ gp gr V.drew.heap.size W2 ((HL.out.below NV.out).below hb) (fun j hj => by have := LL.out j hj; have := BW.out.size; have := NV.out.size; show j < V.heap.size; omega) (by omega) kp kr HO.out HM40.out HRM.out HK.out
  have CG : Hid (∀ V, Calls Tryz.prog 82 #[.agg #[.int .u8 sa, .int .i64 so, .int .i64 yk, .int .i64 sd, .int .i64 0]] V fun e w' => ∃ gp gr gx, e = .returned (algK gp gr gx) ∧ (V.heap.size ≤ gp ∧ V.heap.size ≤ gr ∧ V.heap.size ≤ gx) ∧ Blk w' gp [.int .u8 3, .int .i64 200] 84 ∧ Blk w' gr [.int .i64 (rte sa)] 3 ∧ Blk w' gx [.bool (xof sa)] 4 ∧ Below V.heap.size V w') := fun V => halg_k ⟨yk, sa, so, sd, 0⟩ hk V
  obtain ⟨x0, x1, x2, x3, x4, x5⟩ := SW.out W.drew W.drew (below_drewN W 1) (Kp.refl _ _)
  obtain ⟨y0, y1, y2, y3, y4, y5⟩ := SW.out U U NU.out (Kp.refl _ _)
  obtain ⟨z0, z1, z2, z3, z4, z5⟩ := SW.out V V NV.out (Kp.refl _ _)
  clear hp hl ha hs hm ho hk hy LKf
  go_enter Tryz.func47, Tryz.ntmps47
  go_wp2_with fail
  clear hW
  go_region_held3 (fun V => V.cell? ⟨p, 0, none⟩ = some (.map (some gm)) ∧ V.cell? ⟨w.heap.size, 1, none⟩ = some (.int .i64 sh) ∧ V.cell? ⟨w.heap.size, 2, none⟩ = some (.int .u8 sa) ∧ V.cell? ⟨w.heap.size, 4, none⟩ = some (.int .i64 so) ∧ V.cell? ⟨w.heap.size, 5, none⟩ = some (.int .i64 sd) ∧ (LK (.map (some gm)) (.int .i64 sh) false).run Tryz.prog V = .ok (.agg #[.int .u8 ya, .int .i64 yo, .int .i64 yk, .int .i64 yc, .int .i64 ym]) V) (go_keep) (fail)
  all_goals
    clear hU
    go_wp2_with fail
    go_region_held3 (fun V2 => (LDg ⟨W.heap.size, 0, none⟩).run Tryz.prog V2 = .ok (.agg #[.int .u8 sa, .int .i64 so, .int .i64 yk, .int .i64 sd, .int .i64 0]) V2) (go_keep) (first
    | (go_at_call 82; with_reducible refine (CG.out _).mono ?_; rintro e W2 ⟨gp, gr, gx, rfl, hg, kp, kr, kx, hb⟩; have N2 : Hid (Below V.heap.size V W2) := hid (below_next DV.out hb); have cb := CB.out W2 gp gr gx N2.out hg kp kr kx; have ys := SS.out W2 W2 N2.out (Kp.refl _ _); clear hb hg kp kr kx)
    | (go_at_call 136; with_reducible refine cb.mono ?_; rintro e W3 ⟨rfl, l3, t3⟩; have T3 := hid t3; have zs := SS.out W2 W3 N2.out t3.kp; clear t3 cb))
    have C3 := hid (CT.after (below_next BW.out (below_next NV.out N2.out)) (CT.note ((HP.out.below NV.out).below N2.out) HA.out T3.out))
    have CK := hid (take_ok p gm gk P ⟨yk, sa, so, sd, 0⟩ f hf W3 C3.out.pu)
    go_wp2_with fail
    refine CK.out.mono ?_
    rintro e W4 ⟨rfl, p4, k4⟩
    have C4 := hid (C3.out.trans (CT.map C3.out.led (C3.out.apo HPW.out HA.out) p4 k4))
    clear p4 k4
    go_wp2
    go_end0
    exact ⟨rfl, l3, C4.out⟩
end Go.Proofs.YtdmacflcjbkkpaaGreat.Co
