/- What a verification makes. -/
import Derived.Test.YtdmacflcjbkkpaaGreatCdb
namespace Go.Proofs.YtdmacflcjbkkpaaGreat.Co
open Go.ChangeShapes Go.WideShapes Go.ChangeAt Go.RowKit
open Go.Proofs.YtdmacflcjbkkpaaGreat (putL)
open Go.Proofs.YtdmacflcjbkkpaaGreat.Ou (Sk sv sL LDk SVk LDk_run SVk_run)
open Go.Proofs.YtdmacflcjbkkpaaGreat.Tb (Blk Blk.newAt put_all Kp.setCells results_cell1 results_cell2)
set_option maxRecDepth 8000 in
set_option maxHeartbeats 1600000 in
theorem verify_h1 (p gm gk : Nat) (P : St) (s : Sk) (lo : Lo) (L : List Rn) (y : He) (hy : hat P s.h = some y) (hk : y.alg = 1) (ho : y.Ok) (hm40 : y.msg ≤ 1000000000000) (hm : Rm L 1) (hm2 : Rm ((smE y).foldl putL L) 2) (w : World) (hp : PU w p gm gk P) (hl : LdO w lo L) (ha : Apo lo p gm gk) (hs : Sk.Fit s) :
    Calls Tryz.prog 53 #[.pointer (some ⟨p, 0, none⟩), lpo lo, sv s] w fun e w' => e = .returned (.tuple #[]) ∧ ∃ lo', CT w w' p gm gk (upS P s.h.toNat none) lo lo' (putL (putL ((smE y).foldl putL L) ⟨6, y.out, 1⟩) ⟨8, 1024, 1⟩) := by
  obtain ⟨sk, sh, sa, sc, so, sd, sm⟩ := s
  obtain ⟨yk, ya, yo, yc, ym⟩ := y
  obtain ⟨i, rfl⟩ : ∃ i : Nat, sh = i := ⟨sh.toNat, by have := (hat_of hy).1; show sh = ((sh.toNat : Nat) : Int); have : 0 ≤ sh := this; omega⟩
  have bh : 0 ≤ (i : Int) ∧ (i : Int) < 64 := ⟨(hat_of hy).1, (hat_of hy).2.1⟩
  obtain rfl : ya = 1 := hk
  have HO : Hid (He.Ok ⟨yk, 1, yo, yc, ym⟩) := hid ho
  have HM40 : Hid ((⟨yk, 1, yo, yc, ym⟩ : He).msg ≤ 1000000000000) := hid hm40
  have HRM := hid hm
  have HPW := hid hp

  have HM2 := hid hm2
  obtain ⟨W, hW⟩ : ∃ W, w.alloc (.cells #[.int .u8 sk, .int .i64 i, .int .u8 sa, .int .i64 sc, .int .i64 so, .int .i64 sd, .int .i64 sm] 40) = W := ⟨_, rfl⟩
  have BW : Hid (Below w.heap.size w W) := by rw [← hW]; exact below_alloc _ _
  have KB : Hid (Blk W w.heap.size [.int .u8 sk, .int .i64 i, .int .u8 sa, .int .i64 sc, .int .i64 so, .int .i64 sd, .int .i64 sm] 40) := by rw [← hW]; exact Blk.newAt w _ _ _ w.heap.size rfl rfl
  have HP := hid (hp.below BW.out)
  have HL := hid (hl.below BW.out)
  have HA := hid ha
  have GL := hid hp.lt
  have LL : Hid (∀ j, blo lo j → j < w.heap.size) := hl.lt
  have LKf : ∀ V, PU V p gm gk P → (LK (.map (some gm)) (.int .i64 i) false).run Tryz.prog V = .ok (.agg #[.int .u8 1, .int .i64 yo, .int .i64 yk, .int .i64 yc, .int .i64 ym]) V := fun V hV => by
    have := hV.look (x := (i : Int)) (by omega) false
    rw [hy] at this
    exact this
  have SW : Hid (∀ U V, Below W.heap.size W U → Kp (blo lo) U V → V.cell? ⟨p, 0, none⟩ = some (.map (some gm)) ∧ V.cell? ⟨w.heap.size, 1, none⟩ = some (.int .i64 i) ∧ (LK (.map (some gm)) (.int .i64 i) false).run Tryz.prog V = .ok (.agg #[.int .u8 1, .int .i64 yo, .int .i64 yk, .int .i64 yc, .int .i64 ym]) V) := fun U V hU hk => by
    have pv := (HP.out.below hU).kept hk (fun e => (HA.out _ e).1 rfl) (fun e => (HA.out _ e).2.1 rfl) (fun e => (HA.out _ e).2.2 rfl)
    have kv := (KB.out.below hU).kept hk (fun e => by have := LL.out _ e; omega)
    exact ⟨pv.c0, kv.cell 1 _ rfl, LKf V pv⟩
  obtain ⟨U, hU⟩ : ∃ U, (W.alloc (.cells #[.int .u8 0, .int .i64 0, .int .i64 0, .int .i64 0, .int .i64 0] 82)).drew = U := ⟨_, rfl⟩
  have NU : Hid (Below W.heap.size W U) := by rw [← hU]; exact (below_alloc _ _).drew
  have ku : Blk U W.heap.size [.int .u8 0, .int .i64 0, .int .i64 0, .int .i64 0, .int .i64 0] 82 := by rw [← hU]; exact (Blk.newAt W _ _ _ W.heap.size rfl rfl).drewN 1
  obtain ⟨V, s1, k1, hk1⟩ := SVg_run 1 yo yk yc ym ku rfl
  have KS : Hid (Blk V W.heap.size [.int .u8 1, .int .i64 yo, .int .i64 yk, .int .i64 yc, .int .i64 ym] 82) := hid k1
  have NV : Hid (Below W.heap.size W V) := hid (NU.out.trans (hk1.below NU.out.size (fun k h e => by omega)))
  have ND : Hid (Below W.heap.size W V.drew) := hid (below_next NV.out (below_drewN V 1))
  have SS : Hid (∀ U2 V2, Below V.heap.size V U2 → Kp (blo lo) U2 V2 → (LDg ⟨W.heap.size, 0, none⟩).run Tryz.prog V2 = .ok (.agg #[.int .u8 1, .int .i64 yo, .int .i64 yk, .int .i64 yc, .int .i64 ym]) V2) := fun U2 V2 hU2 hk2 => LDg_run ((KS.out.below hU2).kept hk2 (fun e => by have := LL.out _ e; have := BW.out.size; omega))
  have DV : Hid (Below V.heap.size V V.drew) := hid (below_drewN V 1)
  have xs := SS.out V.drew V.drew DV.out (Kp.refl _ _)
  clear k1 hk1 ku
  have CB : Hid (∀ W2 g, Below V.heap.size V W2 → V.drew.heap.size ≤ g → Blk W2 g [.int .i64 32, .int .i64 64, .int .u8 1, .int .i64 64] 119 → Calls Tryz.prog 128 #[lpo lo, .agg #[.int .u8 1, .int .i64 yo, .int .i64 yk, .int .i64 yc, .int .i64 ym], .pointer (some ⟨g, 0, none⟩)] W2 fun e w' => e = .returned (.tuple #[]) ∧ ∃ lo', LT W2 w' lo lo' ((smE ⟨yk, 1, yo, yc, ym⟩).foldl putL L)) := fun W2 g hb hg kg => hsum1_ok lo L ⟨yk, 1, yo, yc, ym⟩ g V.drew.heap.size W2 ((HL.out.below NV.out).below hb) (fun j hj => by have := LL.out j hj; have := BW.out.size; have := NV.out.size; show j < V.heap.size; omega) hg kg HO.out HM40.out HRM.out rfl
  have CG : Hid (∀ V, Calls Tryz.prog 82 #[.agg #[.int .u8 1, .int .i64 yo, .int .i64 yk, .int .i64 yc, .int .i64 ym]] V fun e w' => ∃ g, e = .returned (algH 32 g) ∧ V.heap.size ≤ g ∧ Blk w' g [.int .i64 32, .int .i64 64, .int .u8 1, .int .i64 64] 119 ∧ Below V.heap.size V w') := fun V => halg_h1 ⟨yk, 1, yo, yc, ym⟩ rfl V
  obtain ⟨x0, x1, x2⟩ := SW.out W.drew W.drew (below_drewN W 1) (Kp.refl _ _)
  obtain ⟨y0, y1, y2⟩ := SW.out U U NU.out (Kp.refl _ _)
  obtain ⟨z0, z1, z2⟩ := SW.out V V NV.out (Kp.refl _ _)

  have HI : Hid (i < 64) := hid (by omega)
  clear hp hl ha hs hm ho hm2 hy LKf hm40
  go_enter Tryz.func53, Tryz.ntmps53
  go_wp2_with fail
  clear hW
  go_region_held3 (fun V => V.cell? ⟨p, 0, none⟩ = some (.map (some gm)) ∧ V.cell? ⟨w.heap.size, 1, none⟩ = some (.int .i64 i) ∧ (LK (.map (some gm)) (.int .i64 i) false).run Tryz.prog V = .ok (.agg #[.int .u8 1, .int .i64 yo, .int .i64 yk, .int .i64 yc, .int .i64 ym]) V) (go_keep) (fail)
  all_goals
    clear hU
    go_wp2_with fail
    go_region_held3 (fun V2 => (LDg ⟨W.heap.size, 0, none⟩).run Tryz.prog V2 = .ok (.agg #[.int .u8 1, .int .i64 yo, .int .i64 yk, .int .i64 yc, .int .i64 ym]) V2) (go_keep) (first
    | (go_at_call 82; with_reducible refine (CG.out _).mono ?_; rintro e W2 ⟨g, rfl, hg, kg, hb⟩; have N2 : Hid (Below V.heap.size V W2) := hid (below_next DV.out hb); have cb := CB.out W2 g N2.out hg kg; have ys := SS.out W2 W2 N2.out (Kp.refl _ _); clear hb hg kg)
    | (go_at_call 128; with_reducible refine cb.mono ?_; rintro e W3 ⟨rfl, l3, t3⟩; have T3 := hid t3; have zs := SS.out W2 W3 N2.out t3.kp; clear t3 cb))
    have C3 := hid (CT.after (below_next BW.out (below_next NV.out N2.out)) (CT.note ((HP.out.below NV.out).below N2.out) HA.out T3.out))
    have k3 := (KS.out.below N2.out).kept T3.out.kp (fun e => by have := LL.out _ e; have := BW.out.size; omega)
    have cs1 := k3.cell 1 _ rfl
    have C6 := note_o l3 _ 6 yo W3 C3.out.led (by have := HO.out.o0; have := HO.out.o1; show 0 ≤ (6 : Int) ∧ (6 : Int) < 256 ∧ -9223372036854775808 ≤ yo ∧ yo ≤ 9223372036854775807; have h1 : 0 ≤ yo := HO.out.o0; have h2 : yo ≤ 64 := HO.out.o1; omega) (HM2.out.less (k := 1) (by decide))
    rw [T3.out.ptr] at C6
    have C6 := hid C6
    clear k3
    go_wp2_with fail
    refine C6.out.mono ?_
    rintro e W5 ⟨rfl, l5, t5⟩
    have C5 := hid (C3.out.trans (CT.note C3.out.pu (C3.out.apo HPW.out HA.out) t5))
    have T5 := hid t5
    have kb5 := ((KB.out.below (below_next NV.out N2.out)).kept T3.out.kp (fun e => by have := LL.out _ e; omega)).kept t5.kp (fun e => by
      rcases T3.out.blk _ e with h | h
      · have := LL.out _ h; omega
      · have := KB.out.lt; have := NV.out.size; have := N2.out.size; omega)
    have y2 := kb5.cell 1 _ rfl
    clear t5 kb5
    have CFr := free_ok p gm gk P i HI.out l5 _ W5 C5.out.pu C5.out.led (C5.out.apo HPW.out HA.out) (Rm.put (m := 1) HM2.out (by show (1 : Int) ≤ 1125899906842624; decide))
    rw [T5.out.ptr, T3.out.ptr] at CFr
    have CFr := hid CFr
    go_wp2_with fail
    refine CFr.out.mono ?_
    rintro e W9 ⟨rfl, l9, c9⟩
    have C9 := hid (C5.out.trans c9)
    clear c9
    go_wp2
    go_end0
    exact ⟨rfl, l9, C9.out⟩
set_option maxRecDepth 8000 in
set_option maxHeartbeats 1600000 in
theorem verify_h2 (p gm gk : Nat) (P : St) (s : Sk) (lo : Lo) (L : List Rn) (y : He) (hy : hat P s.h = some y) (hk : y.alg = 2) (ho : y.Ok) (hm40 : y.msg ≤ 1000000000000) (hm : Rm L 1) (hm2 : Rm ((smE y).foldl putL L) 2) (w : World) (hp : PU w p gm gk P) (hl : LdO w lo L) (ha : Apo lo p gm gk) (hs : Sk.Fit s) :
    Calls Tryz.prog 53 #[.pointer (some ⟨p, 0, none⟩), lpo lo, sv s] w fun e w' => e = .returned (.tuple #[]) ∧ ∃ lo', CT w w' p gm gk (upS P s.h.toNat none) lo lo' (putL (putL ((smE y).foldl putL L) ⟨6, y.out, 1⟩) ⟨8, 1024, 1⟩) := by
  obtain ⟨sk, sh, sa, sc, so, sd, sm⟩ := s
  obtain ⟨yk, ya, yo, yc, ym⟩ := y
  obtain ⟨i, rfl⟩ : ∃ i : Nat, sh = i := ⟨sh.toNat, by have := (hat_of hy).1; show sh = ((sh.toNat : Nat) : Int); have : 0 ≤ sh := this; omega⟩
  have bh : 0 ≤ (i : Int) ∧ (i : Int) < 64 := ⟨(hat_of hy).1, (hat_of hy).2.1⟩
  obtain rfl : ya = 2 := hk
  have HO : Hid (He.Ok ⟨yk, 2, yo, yc, ym⟩) := hid ho
  have HM40 : Hid ((⟨yk, 2, yo, yc, ym⟩ : He).msg ≤ 1000000000000) := hid hm40
  have HRM := hid hm
  have HPW := hid hp

  have HM2 := hid hm2
  obtain ⟨W, hW⟩ : ∃ W, w.alloc (.cells #[.int .u8 sk, .int .i64 i, .int .u8 sa, .int .i64 sc, .int .i64 so, .int .i64 sd, .int .i64 sm] 40) = W := ⟨_, rfl⟩
  have BW : Hid (Below w.heap.size w W) := by rw [← hW]; exact below_alloc _ _
  have KB : Hid (Blk W w.heap.size [.int .u8 sk, .int .i64 i, .int .u8 sa, .int .i64 sc, .int .i64 so, .int .i64 sd, .int .i64 sm] 40) := by rw [← hW]; exact Blk.newAt w _ _ _ w.heap.size rfl rfl
  have HP := hid (hp.below BW.out)
  have HL := hid (hl.below BW.out)
  have HA := hid ha
  have GL := hid hp.lt
  have LL : Hid (∀ j, blo lo j → j < w.heap.size) := hl.lt
  have LKf : ∀ V, PU V p gm gk P → (LK (.map (some gm)) (.int .i64 i) false).run Tryz.prog V = .ok (.agg #[.int .u8 2, .int .i64 yo, .int .i64 yk, .int .i64 yc, .int .i64 ym]) V := fun V hV => by
    have := hV.look (x := (i : Int)) (by omega) false
    rw [hy] at this
    exact this
  have SW : Hid (∀ U V, Below W.heap.size W U → Kp (blo lo) U V → V.cell? ⟨p, 0, none⟩ = some (.map (some gm)) ∧ V.cell? ⟨w.heap.size, 1, none⟩ = some (.int .i64 i) ∧ (LK (.map (some gm)) (.int .i64 i) false).run Tryz.prog V = .ok (.agg #[.int .u8 2, .int .i64 yo, .int .i64 yk, .int .i64 yc, .int .i64 ym]) V) := fun U V hU hk => by
    have pv := (HP.out.below hU).kept hk (fun e => (HA.out _ e).1 rfl) (fun e => (HA.out _ e).2.1 rfl) (fun e => (HA.out _ e).2.2 rfl)
    have kv := (KB.out.below hU).kept hk (fun e => by have := LL.out _ e; omega)
    exact ⟨pv.c0, kv.cell 1 _ rfl, LKf V pv⟩
  obtain ⟨U, hU⟩ : ∃ U, (W.alloc (.cells #[.int .u8 0, .int .i64 0, .int .i64 0, .int .i64 0, .int .i64 0] 82)).drew = U := ⟨_, rfl⟩
  have NU : Hid (Below W.heap.size W U) := by rw [← hU]; exact (below_alloc _ _).drew
  have ku : Blk U W.heap.size [.int .u8 0, .int .i64 0, .int .i64 0, .int .i64 0, .int .i64 0] 82 := by rw [← hU]; exact (Blk.newAt W _ _ _ W.heap.size rfl rfl).drewN 1
  obtain ⟨V, s1, k1, hk1⟩ := SVg_run 2 yo yk yc ym ku rfl
  have KS : Hid (Blk V W.heap.size [.int .u8 2, .int .i64 yo, .int .i64 yk, .int .i64 yc, .int .i64 ym] 82) := hid k1
  have NV : Hid (Below W.heap.size W V) := hid (NU.out.trans (hk1.below NU.out.size (fun k h e => by omega)))
  have ND : Hid (Below W.heap.size W V.drew) := hid (below_next NV.out (below_drewN V 1))
  have SS : Hid (∀ U2 V2, Below V.heap.size V U2 → Kp (blo lo) U2 V2 → (LDg ⟨W.heap.size, 0, none⟩).run Tryz.prog V2 = .ok (.agg #[.int .u8 2, .int .i64 yo, .int .i64 yk, .int .i64 yc, .int .i64 ym]) V2) := fun U2 V2 hU2 hk2 => LDg_run ((KS.out.below hU2).kept hk2 (fun e => by have := LL.out _ e; have := BW.out.size; omega))
  have DV : Hid (Below V.heap.size V V.drew) := hid (below_drewN V 1)
  have xs := SS.out V.drew V.drew DV.out (Kp.refl _ _)
  clear k1 hk1 ku
  have CB : Hid (∀ W2 g, Below V.heap.size V W2 → V.drew.heap.size ≤ g → Blk W2 g [.int .i64 64, .int .i64 128, .int .u8 2, .int .i64 128] 119 → Calls Tryz.prog 128 #[lpo lo, .agg #[.int .u8 2, .int .i64 yo, .int .i64 yk, .int .i64 yc, .int .i64 ym], .pointer (some ⟨g, 0, none⟩)] W2 fun e w' => e = .returned (.tuple #[]) ∧ ∃ lo', LT W2 w' lo lo' ((smE ⟨yk, 2, yo, yc, ym⟩).foldl putL L)) := fun W2 g hb hg kg => hsum2_ok lo L ⟨yk, 2, yo, yc, ym⟩ g V.drew.heap.size W2 ((HL.out.below NV.out).below hb) (fun j hj => by have := LL.out j hj; have := BW.out.size; have := NV.out.size; show j < V.heap.size; omega) hg kg HO.out HM40.out HRM.out rfl
  have CG : Hid (∀ V, Calls Tryz.prog 82 #[.agg #[.int .u8 2, .int .i64 yo, .int .i64 yk, .int .i64 yc, .int .i64 ym]] V fun e w' => ∃ g, e = .returned (algH 64 g) ∧ V.heap.size ≤ g ∧ Blk w' g [.int .i64 64, .int .i64 128, .int .u8 2, .int .i64 128] 119 ∧ Below V.heap.size V w') := fun V => halg_h2 ⟨yk, 2, yo, yc, ym⟩ rfl V
  obtain ⟨x0, x1, x2⟩ := SW.out W.drew W.drew (below_drewN W 1) (Kp.refl _ _)
  obtain ⟨y0, y1, y2⟩ := SW.out U U NU.out (Kp.refl _ _)
  obtain ⟨z0, z1, z2⟩ := SW.out V V NV.out (Kp.refl _ _)

  have HI : Hid (i < 64) := hid (by omega)
  clear hp hl ha hs hm ho hm2 hy LKf hm40
  go_enter Tryz.func53, Tryz.ntmps53
  go_wp2_with fail
  clear hW
  go_region_held3 (fun V => V.cell? ⟨p, 0, none⟩ = some (.map (some gm)) ∧ V.cell? ⟨w.heap.size, 1, none⟩ = some (.int .i64 i) ∧ (LK (.map (some gm)) (.int .i64 i) false).run Tryz.prog V = .ok (.agg #[.int .u8 2, .int .i64 yo, .int .i64 yk, .int .i64 yc, .int .i64 ym]) V) (go_keep) (fail)
  all_goals
    clear hU
    go_wp2_with fail
    go_region_held3 (fun V2 => (LDg ⟨W.heap.size, 0, none⟩).run Tryz.prog V2 = .ok (.agg #[.int .u8 2, .int .i64 yo, .int .i64 yk, .int .i64 yc, .int .i64 ym]) V2) (go_keep) (first
    | (go_at_call 82; with_reducible refine (CG.out _).mono ?_; rintro e W2 ⟨g, rfl, hg, kg, hb⟩; have N2 : Hid (Below V.heap.size V W2) := hid (below_next DV.out hb); have cb := CB.out W2 g N2.out hg kg; have ys := SS.out W2 W2 N2.out (Kp.refl _ _); clear hb hg kg)
    | (go_at_call 128; with_reducible refine cb.mono ?_; rintro e W3 ⟨rfl, l3, t3⟩; have T3 := hid t3; have zs := SS.out W2 W3 N2.out t3.kp; clear t3 cb))
    have C3 := hid (CT.after (below_next BW.out (below_next NV.out N2.out)) (CT.note ((HP.out.below NV.out).below N2.out) HA.out T3.out))
    have k3 := (KS.out.below N2.out).kept T3.out.kp (fun e => by have := LL.out _ e; have := BW.out.size; omega)
    have cs1 := k3.cell 1 _ rfl
    have C6 := note_o l3 _ 6 yo W3 C3.out.led (by have := HO.out.o0; have := HO.out.o1; show 0 ≤ (6 : Int) ∧ (6 : Int) < 256 ∧ -9223372036854775808 ≤ yo ∧ yo ≤ 9223372036854775807; have h1 : 0 ≤ yo := HO.out.o0; have h2 : yo ≤ 64 := HO.out.o1; omega) (HM2.out.less (k := 1) (by decide))
    rw [T3.out.ptr] at C6
    have C6 := hid C6
    clear k3
    go_wp2_with fail
    refine C6.out.mono ?_
    rintro e W5 ⟨rfl, l5, t5⟩
    have C5 := hid (C3.out.trans (CT.note C3.out.pu (C3.out.apo HPW.out HA.out) t5))
    have T5 := hid t5
    have kb5 := ((KB.out.below (below_next NV.out N2.out)).kept T3.out.kp (fun e => by have := LL.out _ e; omega)).kept t5.kp (fun e => by
      rcases T3.out.blk _ e with h | h
      · have := LL.out _ h; omega
      · have := KB.out.lt; have := NV.out.size; have := N2.out.size; omega)
    have y2 := kb5.cell 1 _ rfl
    clear t5 kb5
    have CFr := free_ok p gm gk P i HI.out l5 _ W5 C5.out.pu C5.out.led (C5.out.apo HPW.out HA.out) (Rm.put (m := 1) HM2.out (by show (1 : Int) ≤ 1125899906842624; decide))
    rw [T5.out.ptr, T3.out.ptr] at CFr
    have CFr := hid CFr
    go_wp2_with fail
    refine CFr.out.mono ?_
    rintro e W9 ⟨rfl, l9, c9⟩
    have C9 := hid (C5.out.trans c9)
    clear c9
    go_wp2
    go_end0
    exact ⟨rfl, l9, C9.out⟩
set_option maxRecDepth 8000 in
set_option maxHeartbeats 1600000 in
theorem verify_c (p gm gk : Nat) (P : St) (s : Sk) (lo : Lo) (L : List Rn) (y : He) (hy : hat P s.h = some y) (hk : y.alg = 3) (ho : y.Ok) (hm40 : y.msg ≤ 1000000000000) (hm : Rm L 1) (hm2 : Rm ((smE y).foldl putL L) 2) (w : World) (hp : PU w p gm gk P) (hl : LdO w lo L) (ha : Apo lo p gm gk) (hs : Sk.Fit s) :
    Calls Tryz.prog 53 #[.pointer (some ⟨p, 0, none⟩), lpo lo, sv s] w fun e w' => e = .returned (.tuple #[]) ∧ ∃ lo', CT w w' p gm gk (upS P s.h.toNat none) lo lo' (putL (putL ((smE y).foldl putL L) ⟨6, y.out, 1⟩) ⟨8, 1024, 1⟩) := by
  obtain ⟨sk, sh, sa, sc, so, sd, sm⟩ := s
  obtain ⟨yk, ya, yo, yc, ym⟩ := y
  obtain ⟨i, rfl⟩ : ∃ i : Nat, sh = i := ⟨sh.toNat, by have := (hat_of hy).1; show sh = ((sh.toNat : Nat) : Int); have : 0 ≤ sh := this; omega⟩
  have bh : 0 ≤ (i : Int) ∧ (i : Int) < 64 := ⟨(hat_of hy).1, (hat_of hy).2.1⟩
  obtain rfl : ya = 3 := hk
  have HO : Hid (He.Ok ⟨yk, 3, yo, yc, ym⟩) := hid ho
  have HM40 : Hid ((⟨yk, 3, yo, yc, ym⟩ : He).msg ≤ 1000000000000) := hid hm40
  have HRM := hid hm
  have HPW := hid hp

  have HM2 := hid hm2
  obtain ⟨W, hW⟩ : ∃ W, w.alloc (.cells #[.int .u8 sk, .int .i64 i, .int .u8 sa, .int .i64 sc, .int .i64 so, .int .i64 sd, .int .i64 sm] 40) = W := ⟨_, rfl⟩
  have BW : Hid (Below w.heap.size w W) := by rw [← hW]; exact below_alloc _ _
  have KB : Hid (Blk W w.heap.size [.int .u8 sk, .int .i64 i, .int .u8 sa, .int .i64 sc, .int .i64 so, .int .i64 sd, .int .i64 sm] 40) := by rw [← hW]; exact Blk.newAt w _ _ _ w.heap.size rfl rfl
  have HP := hid (hp.below BW.out)
  have HL := hid (hl.below BW.out)
  have HA := hid ha
  have GL := hid hp.lt
  have LL : Hid (∀ j, blo lo j → j < w.heap.size) := hl.lt
  have LKf : ∀ V, PU V p gm gk P → (LK (.map (some gm)) (.int .i64 i) false).run Tryz.prog V = .ok (.agg #[.int .u8 3, .int .i64 yo, .int .i64 yk, .int .i64 yc, .int .i64 ym]) V := fun V hV => by
    have := hV.look (x := (i : Int)) (by omega) false
    rw [hy] at this
    exact this
  have SW : Hid (∀ U V, Below W.heap.size W U → Kp (blo lo) U V → V.cell? ⟨p, 0, none⟩ = some (.map (some gm)) ∧ V.cell? ⟨w.heap.size, 1, none⟩ = some (.int .i64 i) ∧ (LK (.map (some gm)) (.int .i64 i) false).run Tryz.prog V = .ok (.agg #[.int .u8 3, .int .i64 yo, .int .i64 yk, .int .i64 yc, .int .i64 ym]) V) := fun U V hU hk => by
    have pv := (HP.out.below hU).kept hk (fun e => (HA.out _ e).1 rfl) (fun e => (HA.out _ e).2.1 rfl) (fun e => (HA.out _ e).2.2 rfl)
    have kv := (KB.out.below hU).kept hk (fun e => by have := LL.out _ e; omega)
    exact ⟨pv.c0, kv.cell 1 _ rfl, LKf V pv⟩
  obtain ⟨U, hU⟩ : ∃ U, (W.alloc (.cells #[.int .u8 0, .int .i64 0, .int .i64 0, .int .i64 0, .int .i64 0] 82)).drew = U := ⟨_, rfl⟩
  have NU : Hid (Below W.heap.size W U) := by rw [← hU]; exact (below_alloc _ _).drew
  have ku : Blk U W.heap.size [.int .u8 0, .int .i64 0, .int .i64 0, .int .i64 0, .int .i64 0] 82 := by rw [← hU]; exact (Blk.newAt W _ _ _ W.heap.size rfl rfl).drewN 1
  obtain ⟨V, s1, k1, hk1⟩ := SVg_run 3 yo yk yc ym ku rfl
  have KS : Hid (Blk V W.heap.size [.int .u8 3, .int .i64 yo, .int .i64 yk, .int .i64 yc, .int .i64 ym] 82) := hid k1
  have NV : Hid (Below W.heap.size W V) := hid (NU.out.trans (hk1.below NU.out.size (fun k h e => by omega)))
  have ND : Hid (Below W.heap.size W V.drew) := hid (below_next NV.out (below_drewN V 1))
  have SS : Hid (∀ U2 V2, Below V.heap.size V U2 → Kp (blo lo) U2 V2 → (LDg ⟨W.heap.size, 0, none⟩).run Tryz.prog V2 = .ok (.agg #[.int .u8 3, .int .i64 yo, .int .i64 yk, .int .i64 yc, .int .i64 ym]) V2) := fun U2 V2 hU2 hk2 => LDg_run ((KS.out.below hU2).kept hk2 (fun e => by have := LL.out _ e; have := BW.out.size; omega))
  have DV : Hid (Below V.heap.size V V.drew) := hid (below_drewN V 1)
  have xs := SS.out V.drew V.drew DV.out (Kp.refl _ _)
  clear k1 hk1 ku
  have CB : Hid (∀ W2 g, Below V.heap.size V W2 → V.drew.heap.size ≤ g → Blk W2 g [.func (.func 130) #[] #[]] 149 → Calls Tryz.prog 135 #[lpo lo, .agg #[.int .u8 3, .int .i64 yo, .int .i64 yk, .int .i64 yc, .int .i64 ym], .pointer (some ⟨g, 0, none⟩)] W2 fun e w' => e = .returned (.tuple #[]) ∧ ∃ lo', LT W2 w' lo lo' ((smE ⟨yk, 3, yo, yc, ym⟩).foldl putL L)) := fun W2 g hb hg kg => csum_ok lo L ⟨yk, 3, yo, yc, ym⟩ g V.drew.heap.size W2 ((HL.out.below NV.out).below hb) (fun j hj => by have := LL.out j hj; have := BW.out.size; have := NV.out.size; show j < V.heap.size; omega) hg kg HO.out HM40.out HRM.out rfl
  have CG : Hid (∀ V, Calls Tryz.prog 82 #[.agg #[.int .u8 3, .int .i64 yo, .int .i64 yk, .int .i64 yc, .int .i64 ym]] V fun e w' => ∃ g, e = .returned (algC g) ∧ V.heap.size ≤ g ∧ Blk w' g [.func (.func 130) #[] #[]] 149 ∧ Below V.heap.size V w') := fun V => halg_c ⟨yk, 3, yo, yc, ym⟩ rfl V
  obtain ⟨x0, x1, x2⟩ := SW.out W.drew W.drew (below_drewN W 1) (Kp.refl _ _)
  obtain ⟨y0, y1, y2⟩ := SW.out U U NU.out (Kp.refl _ _)
  obtain ⟨z0, z1, z2⟩ := SW.out V V NV.out (Kp.refl _ _)

  have HI : Hid (i < 64) := hid (by omega)
  clear hp hl ha hs hm ho hm2 hy LKf hm40
  go_enter Tryz.func53, Tryz.ntmps53
  go_wp2_with fail
  clear hW
  go_region_held3 (fun V => V.cell? ⟨p, 0, none⟩ = some (.map (some gm)) ∧ V.cell? ⟨w.heap.size, 1, none⟩ = some (.int .i64 i) ∧ (LK (.map (some gm)) (.int .i64 i) false).run Tryz.prog V = .ok (.agg #[.int .u8 3, .int .i64 yo, .int .i64 yk, .int .i64 yc, .int .i64 ym]) V) (go_keep) (fail)
  all_goals
    clear hU
    go_wp2_with fail
    go_region_held3 (fun V2 => (LDg ⟨W.heap.size, 0, none⟩).run Tryz.prog V2 = .ok (.agg #[.int .u8 3, .int .i64 yo, .int .i64 yk, .int .i64 yc, .int .i64 ym]) V2) (go_keep) (first
    | (go_at_call 82; with_reducible refine (CG.out _).mono ?_; rintro e W2 ⟨g, rfl, hg, kg, hb⟩; have N2 : Hid (Below V.heap.size V W2) := hid (below_next DV.out hb); have cb := CB.out W2 g N2.out hg kg; have ys := SS.out W2 W2 N2.out (Kp.refl _ _); clear hb hg kg)
    | (go_at_call 135; with_reducible refine cb.mono ?_; rintro e W3 ⟨rfl, l3, t3⟩; have T3 := hid t3; have zs := SS.out W2 W3 N2.out t3.kp; clear t3 cb))
    have C3 := hid (CT.after (below_next BW.out (below_next NV.out N2.out)) (CT.note ((HP.out.below NV.out).below N2.out) HA.out T3.out))
    have k3 := (KS.out.below N2.out).kept T3.out.kp (fun e => by have := LL.out _ e; have := BW.out.size; omega)
    have cs1 := k3.cell 1 _ rfl
    have C6 := note_o l3 _ 6 yo W3 C3.out.led (by have := HO.out.o0; have := HO.out.o1; show 0 ≤ (6 : Int) ∧ (6 : Int) < 256 ∧ -9223372036854775808 ≤ yo ∧ yo ≤ 9223372036854775807; have h1 : 0 ≤ yo := HO.out.o0; have h2 : yo ≤ 64 := HO.out.o1; omega) (HM2.out.less (k := 1) (by decide))
    rw [T3.out.ptr] at C6
    have C6 := hid C6
    clear k3
    go_wp2_with fail
    refine C6.out.mono ?_
    rintro e W5 ⟨rfl, l5, t5⟩
    have C5 := hid (C3.out.trans (CT.note C3.out.pu (C3.out.apo HPW.out HA.out) t5))
    have T5 := hid t5
    have kb5 := ((KB.out.below (below_next NV.out N2.out)).kept T3.out.kp (fun e => by have := LL.out _ e; omega)).kept t5.kp (fun e => by
      rcases T3.out.blk _ e with h | h
      · have := LL.out _ h; omega
      · have := KB.out.lt; have := NV.out.size; have := N2.out.size; omega)
    have y2 := kb5.cell 1 _ rfl
    clear t5 kb5
    have CFr := free_ok p gm gk P i HI.out l5 _ W5 C5.out.pu C5.out.led (C5.out.apo HPW.out HA.out) (Rm.put (m := 1) HM2.out (by show (1 : Int) ≤ 1125899906842624; decide))
    rw [T5.out.ptr, T3.out.ptr] at CFr
    have CFr := hid CFr
    go_wp2_with fail
    refine CFr.out.mono ?_
    rintro e W9 ⟨rfl, l9, c9⟩
    have C9 := hid (C5.out.trans c9)
    clear c9
    go_wp2
    go_end0
    exact ⟨rfl, l9, C9.out⟩
set_option maxRecDepth 8000 in
set_option maxHeartbeats 1600000 in
theorem verify_k (p gm gk : Nat) (P : St) (s : Sk) (lo : Lo) (L : List Rn) (y : He) (hy : hat P s.h = some y) (hk : 4 ≤ y.alg ∧ y.alg ≤ 7) (ho : y.Ok) (hm40 : y.msg ≤ 1000000000000) (hm : Rm L 1) (hm2 : Rm ((smE y).foldl putL L) 2) (w : World) (hp : PU w p gm gk P) (hl : LdO w lo L) (ha : Apo lo p gm gk) (hs : Sk.Fit s) :
    Calls Tryz.prog 53 #[.pointer (some ⟨p, 0, none⟩), lpo lo, sv s] w fun e w' => e = .returned (.tuple #[]) ∧ ∃ lo', CT w w' p gm gk (upS P s.h.toNat none) lo lo' (putL (putL ((smE y).foldl putL L) ⟨6, y.out, 1⟩) ⟨8, 1024, 1⟩) := by
  obtain ⟨sk, sh, sa, sc, so, sd, sm⟩ := s
  obtain ⟨yk, ya, yo, yc, ym⟩ := y
  obtain ⟨i, rfl⟩ : ∃ i : Nat, sh = i := ⟨sh.toNat, by have := (hat_of hy).1; show sh = ((sh.toNat : Nat) : Int); have : 0 ≤ sh := this; omega⟩
  have bh : 0 ≤ (i : Int) ∧ (i : Int) < 64 := ⟨(hat_of hy).1, (hat_of hy).2.1⟩
  have hk : 4 ≤ ya ∧ ya ≤ 7 := hk
  have HO : Hid (He.Ok ⟨yk, ya, yo, yc, ym⟩) := hid ho
  have HM40 : Hid ((⟨yk, ya, yo, yc, ym⟩ : He).msg ≤ 1000000000000) := hid hm40
  have HRM := hid hm
  have HPW := hid hp
  have HK := hid hk
  have HM2 := hid hm2
  obtain ⟨W, hW⟩ : ∃ W, w.alloc (.cells #[.int .u8 sk, .int .i64 i, .int .u8 sa, .int .i64 sc, .int .i64 so, .int .i64 sd, .int .i64 sm] 40) = W := ⟨_, rfl⟩
  have BW : Hid (Below w.heap.size w W) := by rw [← hW]; exact below_alloc _ _
  have KB : Hid (Blk W w.heap.size [.int .u8 sk, .int .i64 i, .int .u8 sa, .int .i64 sc, .int .i64 so, .int .i64 sd, .int .i64 sm] 40) := by rw [← hW]; exact Blk.newAt w _ _ _ w.heap.size rfl rfl
  have HP := hid (hp.below BW.out)
  have HL := hid (hl.below BW.out)
  have HA := hid ha
  have GL := hid hp.lt
  have LL : Hid (∀ j, blo lo j → j < w.heap.size) := hl.lt
  have LKf : ∀ V, PU V p gm gk P → (LK (.map (some gm)) (.int .i64 i) false).run Tryz.prog V = .ok (.agg #[.int .u8 ya, .int .i64 yo, .int .i64 yk, .int .i64 yc, .int .i64 ym]) V := fun V hV => by
    have := hV.look (x := (i : Int)) (by omega) false
    rw [hy] at this
    exact this
  have SW : Hid (∀ U V, Below W.heap.size W U → Kp (blo lo) U V → V.cell? ⟨p, 0, none⟩ = some (.map (some gm)) ∧ V.cell? ⟨w.heap.size, 1, none⟩ = some (.int .i64 i) ∧ (LK (.map (some gm)) (.int .i64 i) false).run Tryz.prog V = .ok (.agg #[.int .u8 ya, .int .i64 yo, .int .i64 yk, .int .i64 yc, .int .i64 ym]) V) := fun U V hU hk => by
    have pv := (HP.out.below hU).kept hk (fun e => (HA.out _ e).1 rfl) (fun e => (HA.out _ e).2.1 rfl) (fun e => (HA.out _ e).2.2 rfl)
    have kv := (KB.out.below hU).kept hk (fun e => by have := LL.out _ e; omega)
    exact ⟨pv.c0, kv.cell 1 _ rfl, LKf V pv⟩
  obtain ⟨U, hU⟩ : ∃ U, (W.alloc (.cells #[.int .u8 0, .int .i64 0, .int .i64 0, .int .i64 0, .int .i64 0] 82)).drew = U := ⟨_, rfl⟩
  have NU : Hid (Below W.heap.size W U) := by rw [← hU]; exact (below_alloc _ _).drew
  have ku : Blk U W.heap.size [.int .u8 0, .int .i64 0, .int .i64 0, .int .i64 0, .int .i64 0] 82 := by rw [← hU]; exact (Blk.newAt W _ _ _ W.heap.size rfl rfl).drewN 1
  obtain ⟨V, s1, k1, hk1⟩ := SVg_run ya yo yk yc ym ku rfl
  have KS : Hid (Blk V W.heap.size [.int .u8 ya, .int .i64 yo, .int .i64 yk, .int .i64 yc, .int .i64 ym] 82) := hid k1
  have NV : Hid (Below W.heap.size W V) := hid (NU.out.trans (hk1.below NU.out.size (fun k h e => by omega)))
  have ND : Hid (Below W.heap.size W V.drew) := hid (below_next NV.out (below_drewN V 1))
  have SS : Hid (∀ U2 V2, Below V.heap.size V U2 → Kp (blo lo) U2 V2 → (LDg ⟨W.heap.size, 0, none⟩).run Tryz.prog V2 = .ok (.agg #[.int .u8 ya, .int .i64 yo, .int .i64 yk, .int .i64 yc, .int .i64 ym]) V2) := fun U2 V2 hU2 hk2 => LDg_run ((KS.out.below hU2).kept hk2 (fun e => by have := LL.out _ e; have := BW.out.size; omega))
  have DV : Hid (Below V.heap.size V V.drew) := hid (below_drewN V 1)
  have xs := SS.out V.drew V.drew DV.out (Kp.refl _ _)
  clear k1 hk1 ku
  have CB : Hid (∀ W2 gp gr gx, Below V.heap.size V W2 → (V.drew.heap.size ≤ gp ∧ V.drew.heap.size ≤ gr ∧ V.drew.heap.size ≤ gx) → Blk W2 gp [.int .u8 3, .int .i64 200] 84 → Blk W2 gr [.int .i64 (rte ya)] 3 → Blk W2 gx [.bool (xof ya)] 4 → Calls Tryz.prog 140 #[lpo lo, .agg #[.int .u8 ya, .int .i64 yo, .int .i64 yk, .int .i64 yc, .int .i64 ym], .pointer (some ⟨gp, 0, none⟩), .pointer (some ⟨gr, 0, none⟩), .pointer (some ⟨gx, 0, none⟩)] W2 fun e w' => e = .returned (.tuple #[]) ∧ ∃ lo', LT W2 w' lo lo' ((smE ⟨yk, ya, yo, yc, ym⟩).foldl putL L)) := fun W2 gp gr gx hb hg kp kr kx => ksum_ok lo L ⟨yk, ya, yo, yc, ym⟩ gp gr gx V.drew.heap.size (xof ya) rfl W2 ((HL.out.below NV.out).below hb) (fun j hj => by have := LL.out j hj; have := BW.out.size; have := NV.out.size; show j < V.heap.size; omega) (by omega) kp kr kx HO.out HM40.out HRM.out HK.out
  have CG : Hid (∀ V, Calls Tryz.prog 82 #[.agg #[.int .u8 ya, .int .i64 yo, .int .i64 yk, .int .i64 yc, .int .i64 ym]] V fun e w' => ∃ gp gr gx, e = .returned (algK gp gr gx) ∧ (V.heap.size ≤ gp ∧ V.heap.size ≤ gr ∧ V.heap.size ≤ gx) ∧ Blk w' gp [.int .u8 3, .int .i64 200] 84 ∧ Blk w' gr [.int .i64 (rte ya)] 3 ∧ Blk w' gx [.bool (xof ya)] 4 ∧ Below V.heap.size V w') := fun V => halg_k ⟨yk, ya, yo, yc, ym⟩ hk V
  obtain ⟨x0, x1, x2⟩ := SW.out W.drew W.drew (below_drewN W 1) (Kp.refl _ _)
  obtain ⟨y0, y1, y2⟩ := SW.out U U NU.out (Kp.refl _ _)
  obtain ⟨z0, z1, z2⟩ := SW.out V V NV.out (Kp.refl _ _)

  have HI : Hid (i < 64) := hid (by omega)
  clear hp hl ha hs hm ho hk hm2 hy LKf hm40
  go_enter Tryz.func53, Tryz.ntmps53
  go_wp2_with fail
  clear hW
  go_region_held3 (fun V => V.cell? ⟨p, 0, none⟩ = some (.map (some gm)) ∧ V.cell? ⟨w.heap.size, 1, none⟩ = some (.int .i64 i) ∧ (LK (.map (some gm)) (.int .i64 i) false).run Tryz.prog V = .ok (.agg #[.int .u8 ya, .int .i64 yo, .int .i64 yk, .int .i64 yc, .int .i64 ym]) V) (go_keep) (fail)
  all_goals
    clear hU
    go_wp2_with fail
    go_region_held3 (fun V2 => (LDg ⟨W.heap.size, 0, none⟩).run Tryz.prog V2 = .ok (.agg #[.int .u8 ya, .int .i64 yo, .int .i64 yk, .int .i64 yc, .int .i64 ym]) V2) (go_keep) (first
    | (go_at_call 82; with_reducible refine (CG.out _).mono ?_; rintro e W2 ⟨gp, gr, gx, rfl, hg, kp, kr, kx, hb⟩; have N2 : Hid (Below V.heap.size V W2) := hid (below_next DV.out hb); have cb := CB.out W2 gp gr gx N2.out hg kp kr kx; have ys := SS.out W2 W2 N2.out (Kp.refl _ _); clear hb hg kp kr kx)
    | (go_at_call 140; with_reducible refine cb.mono ?_; rintro e W3 ⟨rfl, l3, t3⟩; have T3 := hid t3; have zs := SS.out W2 W3 N2.out t3.kp; clear t3 cb))
    have C3 := hid (CT.after (below_next BW.out (below_next NV.out N2.out)) (CT.note ((HP.out.below NV.out).below N2.out) HA.out T3.out))
    have k3 := (KS.out.below N2.out).kept T3.out.kp (fun e => by have := LL.out _ e; have := BW.out.size; omega)
    have cs1 := k3.cell 1 _ rfl
    have C6 := note_o l3 _ 6 yo W3 C3.out.led (by have := HO.out.o0; have := HO.out.o1; show 0 ≤ (6 : Int) ∧ (6 : Int) < 256 ∧ -9223372036854775808 ≤ yo ∧ yo ≤ 9223372036854775807; have h1 : 0 ≤ yo := HO.out.o0; have h2 : yo ≤ 64 := HO.out.o1; omega) (HM2.out.less (k := 1) (by decide))
    rw [T3.out.ptr] at C6
    have C6 := hid C6
    clear k3
    go_wp2_with fail
    refine C6.out.mono ?_
    rintro e W5 ⟨rfl, l5, t5⟩
    have C5 := hid (C3.out.trans (CT.note C3.out.pu (C3.out.apo HPW.out HA.out) t5))
    have T5 := hid t5
    have kb5 := ((KB.out.below (below_next NV.out N2.out)).kept T3.out.kp (fun e => by have := LL.out _ e; omega)).kept t5.kp (fun e => by
      rcases T3.out.blk _ e with h | h
      · have := LL.out _ h; omega
      · have := KB.out.lt; have := NV.out.size; have := N2.out.size; omega)
    have y2 := kb5.cell 1 _ rfl
    clear t5 kb5
    have CFr := free_ok p gm gk P i HI.out l5 _ W5 C5.out.pu C5.out.led (C5.out.apo HPW.out HA.out) (Rm.put (m := 1) HM2.out (by show (1 : Int) ≤ 1125899906842624; decide))
    rw [T5.out.ptr, T3.out.ptr] at CFr
    have CFr := hid CFr
    go_wp2_with fail
    refine CFr.out.mono ?_
    rintro e W9 ⟨rfl, l9, c9⟩
    have C9 := hid (C5.out.trans c9)
    clear c9
    go_wp2
    go_end0
    exact ⟨rfl, l9, C9.out⟩
end Go.Proofs.YtdmacflcjbkkpaaGreat.Co
