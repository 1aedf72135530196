/- The helper act, call by call: Wipe, Form, Sum. -/
import Derived.Test.YtojldjckpjokcaaGreatDoorZgd
namespace Go.Proofs.YtojldjckpjokcaaGreatDoor.Dg
open Go.ChangeShapes Go.WideShapes Go.ChangeAt Go.RowKit
open Go.Proofs.YtojldjckpjokcaaGreatDoor.By
open Go.Proofs.YtojldjckpjokcaaGreatDoor.Sh (Blk size_alloc)
section
variable {w0 W W' : World} {B : Nat} {K KP KQ : Nat → KD} {pb rb qb : Nat → Nat} {lb mb xb : Nat} {lv mv tv wv tv' wv' : Value} {L M : List Rn} {tl : List TE}
set_option maxRecDepth 4000 in
set_option maxHeartbeats 4000000 in
theorem PW.wipe256 (h : PW w0 B K pb rb qb lb lv mb mv L xb tv wv tl W) (on to al : Int) (pv : Value) (sk : SK) (hK : K (pk on) = some (false, sk)) (hroom : tot L ≤ 100000) :
    Calls Tryz.prog 10 #[.pointer (some ⟨xb, 0, none⟩), .agg #[.int .i64 on, .int .i64 3, .int .i64 to, pv, .int .u8 al]] W fun e w' => e = .returned (.bool true) ∧ ∃ lv' mv', PW w0 B (upd K (pk on) (some (false, none))) pb rb qb lb lv' mb mv' (wiL false L sk) xb tv wv tl w' := by
  obtain ⟨K', hK'⟩ : ∃ x, upd K (pk on) (some (false, none)) = x := ⟨_, rfl⟩
  rw [hK']
  have HK' := hid hK'
  clear hK'
  have HX := hid (Sh.Blk.new W [.int .i64 on, .int .i64 3, .int .i64 to, pv, .int .u8 al] 43)
  have G0 := hid (h.gw.below (below_alloc W (.cells #[.int .i64 on, .int .i64 3, .int .i64 to, pv, .int .u8 al] 43)))
  have R0 := hid (h.rw.kx (Kx.below (below_alloc W (.cells #[.int .i64 on, .int .i64 3, .int .i64 to, pv, .int .u8 al] 43))))
  have HM := hid hroom
  clear hroom
  clear h
  go_enter Tryz.func10, Tryz.ntmps10
  go_wp2_with fail
  obtain ⟨W1, hW1⟩ : ∃ x, W.alloc (.cells #[.int .i64 on, .int .i64 3, .int .i64 to, pv, .int .u8 al] 43) = x := ⟨_, rfl⟩
  obtain ⟨ob, hob⟩ : ∃ x, W.heap.size = x := ⟨_, rfl⟩
  have HX1 : Hid (Blk W1 ob [.int .i64 on, .int .i64 3, .int .i64 to, pv, .int .u8 al] 43) := by rw [← hW1, ← hob]; exact HX.out
  rw [hW1] at G0 R0
  rw [hW1, hob]
  clear hW1 hob HX
  have o0 := HX1.out.cell 0 _ rfl
  have o1 := HX1.out.cell 1 _ rfl
  obtain ⟨k, hk⟩ : ∃ k, pk on = k := ⟨_, rfl⟩
  have hk3 : k < 3 := by rw [← hk]; exact pk_lt on
  rw [hk] at hK HK'
  have HK := hid hK
  refine (pick3 on W1).mono ?_
  rintro e w1 ⟨rfl, rfl⟩
  rw [hk]
  clear hk
  have cp : w1.cell? ⟨xb, k, none⟩ = some (.iface 101 (.agg #[.pointer (some ⟨pb k, 0, none⟩)])) := by have := G0.out.x.cell k _ (xc_p _ _ _ _ _ _ _ _ k hk3); rw [hK] at this; exact this
  have cq : w1.cell? ⟨xb, 3 + k, none⟩ = some (.pointer (some ⟨rb k, 0, none⟩)) := by have := G0.out.x.cell (3 + k) _ (xc_q _ _ _ _ _ _ _ _ k hk3); rw [hK] at this; exact this
  have cl := G0.out.x.cell 6 _ rfl
  have cm := G0.out.x.cell 7 _ rfl
  have hk3' : (k : Int) < 3 := by omega
  clear hK
  go_wp2_with fail
  go_region_held3 (fun W' => W'.cell? ⟨xb, 6, none⟩ = some (.pointer (some ⟨lb, 0, none⟩)) ∧ W'.cell? ⟨xb, 7, none⟩ = some (.pointer (some ⟨mb, 0, none⟩))) (go_keep) (first
    | (go_at_call 139; go_must (refine ((G0.out.below (below_drewN _ 1)).wipeP hk3 HK.out HM.out).mono ?_; rintro e w2 ⟨lv', rfl, hG2, hK2, -⟩; have G2 := hid hG2; have R2 := hid ((R0.out.kx (Kx.below (below_drewN _ 1))).kx hK2); have c62 := hG2.x.cell 6 _ rfl; have c72 := hG2.x.cell 7 _ rfl; clear hG2 hK2))
    | (go_at_call 31; go_must (refine (G2.out.wipeQ hk3 HK.out HM.out).mono ?_; rintro e w3 ⟨mv', rfl, hG3, hK3⟩; have G3 := hid hG3; have R3 := hid (R2.out.kx hK3); have c63 := hG3.x.cell 6 _ rfl; have c73 := hG3.x.cell 7 _ rfl; clear hG3 hK3)))
  go_wp2
  go_ret
  refine ⟨by simp, lv', mv', ?_⟩
  rw [← HK'.out]
  exact ⟨G3.out, R3.out⟩
set_option maxRecDepth 4000 in
set_option maxHeartbeats 4000000 in
theorem PW.form256 (h : PW w0 B K pb rb qb lb lv mb mv L xb tv wv tl W) (on to al : Int) (pv : Value) (sk : SK) (hK : K (pk on) = some (false, sk)) (htl : tl.length ≤ 1000) :
    Calls Tryz.prog 10 #[.pointer (some ⟨xb, 0, none⟩), .agg #[.int .i64 on, .int .i64 4, .int .i64 to, pv, .int .u8 al]] W fun e w' => e = .returned (.bool true) ∧ ∃ tv' wv' a b, PW w0 B K pb rb qb lb lv mb mv L xb tv' wv' (tl ++ [⟨a, b, fmM false sk, fmF false sk⟩]) w' := by
  have HX := hid (Sh.Blk.new W [.int .i64 on, .int .i64 4, .int .i64 to, pv, .int .u8 al] 43)
  have G0 := hid (h.gw.below (below_alloc W (.cells #[.int .i64 on, .int .i64 4, .int .i64 to, pv, .int .u8 al] 43)))
  have R0 := hid (h.rw.kx (Kx.below (below_alloc W (.cells #[.int .i64 on, .int .i64 4, .int .i64 to, pv, .int .u8 al] 43))))
  have HTL := hid htl
  clear htl
  clear h
  go_enter Tryz.func10, Tryz.ntmps10
  go_wp2_with fail
  obtain ⟨W1, hW1⟩ : ∃ x, W.alloc (.cells #[.int .i64 on, .int .i64 4, .int .i64 to, pv, .int .u8 al] 43) = x := ⟨_, rfl⟩
  obtain ⟨ob, hob⟩ : ∃ x, W.heap.size = x := ⟨_, rfl⟩
  have HX1 : Hid (Blk W1 ob [.int .i64 on, .int .i64 4, .int .i64 to, pv, .int .u8 al] 43) := by rw [← hW1, ← hob]; exact HX.out
  rw [hW1] at G0 R0
  rw [hW1, hob]
  clear hW1 hob HX
  have o0 := HX1.out.cell 0 _ rfl
  have o1 := HX1.out.cell 1 _ rfl
  obtain ⟨k, hk⟩ : ∃ k, pk on = k := ⟨_, rfl⟩
  have hk3 : k < 3 := by rw [← hk]; exact pk_lt on
  rw [hk] at hK
  have HK := hid hK
  refine (pick3 on W1).mono ?_
  rintro e w1 ⟨rfl, rfl⟩
  rw [hk]
  clear hk
  have cp : w1.cell? ⟨xb, k, none⟩ = some (.iface 101 (.agg #[.pointer (some ⟨pb k, 0, none⟩)])) := by have := G0.out.x.cell k _ (xc_p _ _ _ _ _ _ _ _ k hk3); rw [hK] at this; exact this
  have cq : w1.cell? ⟨xb, 3 + k, none⟩ = some (.pointer (some ⟨rb k, 0, none⟩)) := by have := G0.out.x.cell (3 + k) _ (xc_q _ _ _ _ _ _ _ _ k hk3); rw [hK] at this; exact this
  have cl := G0.out.x.cell 6 _ rfl
  have cm := G0.out.x.cell 7 _ rfl
  have hk3' : (k : Int) < 3 := by omega
  clear hK
  go_wp2_with fail
  refine (G0.out.formP hk3 HK.out).mono ?_
  rintro e w2 ⟨va, rfl, hva, hb2⟩
  have G2 := hid (G0.out.below hb2)
  have R2 := hid (R0.out.kx (Kx.below hb2))
  have VA := hid hva
  clear hva hb2
  go_wp2_with fail
  refine (G2.out.formQ hk3 HK.out).mono ?_
  rintro e w3 ⟨vb, rfl, hvb, hb3⟩
  have G3 := hid (G2.out.below hb3)
  have R3 := hid (R2.out.kx (Kx.below hb3))
  have VA3 := hid (own_below VA.out hb3)
  have VB3 := hid (Sg.own_mono hvb G2.out.hB)
  clear hvb hb3 VA
  go_wp2_with fail
  refine (G3.out.keep R3.out va vb _ _ _ VA3.out VB3.out G0.out.hB R0.out.tl.old (by have := fmM_le false sk; omega) HTL.out).mono ?_
  rintro e w4 ⟨rfl, tv', wv', hG4, hR4, -⟩
  have G4 := hid hG4
  have R4 := hid hR4
  clear hG4 hR4
  go_wp2
  go_ret
  exact ⟨by simp, tv', wv', _, _, G4.out, R4.out⟩
set_option maxRecDepth 4000 in
set_option maxHeartbeats 4000000 in
theorem PW.sum256 (h : PW w0 B K pb rb qb lb lv mb mv L xb tv wv tl W) (on to al : Int) (pv : Value) (sk : SK) (hK : K (pk on) = some (false, sk)) (htl : tl.length ≤ 1000) (hml : ml sk ≤ 900000) (hroom : tot L ≤ 100000) :
    Calls Tryz.prog 10 #[.pointer (some ⟨xb, 0, none⟩), .agg #[.int .i64 on, .int .i64 1, .int .i64 to, pv, .int .u8 al]] W fun e w' => e = .returned (.bool true) ∧ ∃ lv' mv' tv' wv' a b, PW w0 B K pb rb qb lb lv' mb mv' (evs false L (suN false sk)) xb tv' wv' (tl ++ [⟨a, b, suM false sk, suF false sk⟩]) w' := by
  have HX := hid (Sh.Blk.new W [.int .i64 on, .int .i64 1, .int .i64 to, pv, .int .u8 al] 43)
  have G0 := hid (h.gw.below (below_alloc W (.cells #[.int .i64 on, .int .i64 1, .int .i64 to, pv, .int .u8 al] 43)))
  have R0 := hid (h.rw.kx (Kx.below (below_alloc W (.cells #[.int .i64 on, .int .i64 1, .int .i64 to, pv, .int .u8 al] 43))))
  have HTL := hid htl
  have HML := hid hml
  have HM := hid hroom
  clear htl hml hroom
  clear h
  go_enter Tryz.func10, Tryz.ntmps10
  go_wp2_with fail
  obtain ⟨W1, hW1⟩ : ∃ x, W.alloc (.cells #[.int .i64 on, .int .i64 1, .int .i64 to, pv, .int .u8 al] 43) = x := ⟨_, rfl⟩
  obtain ⟨ob, hob⟩ : ∃ x, W.heap.size = x := ⟨_, rfl⟩
  have HX1 : Hid (Blk W1 ob [.int .i64 on, .int .i64 1, .int .i64 to, pv, .int .u8 al] 43) := by rw [← hW1, ← hob]; exact HX.out
  rw [hW1] at G0 R0
  rw [hW1, hob]
  clear hW1 hob HX
  have o0 := HX1.out.cell 0 _ rfl
  have o1 := HX1.out.cell 1 _ rfl
  obtain ⟨k, hk⟩ : ∃ k, pk on = k := ⟨_, rfl⟩
  have hk3 : k < 3 := by rw [← hk]; exact pk_lt on
  rw [hk] at hK
  have HK := hid hK
  refine (pick3 on W1).mono ?_
  rintro e w1 ⟨rfl, rfl⟩
  rw [hk]
  clear hk
  have cp : w1.cell? ⟨xb, k, none⟩ = some (.iface 101 (.agg #[.pointer (some ⟨pb k, 0, none⟩)])) := by have := G0.out.x.cell k _ (xc_p _ _ _ _ _ _ _ _ k hk3); rw [hK] at this; exact this
  have cq : w1.cell? ⟨xb, 3 + k, none⟩ = some (.pointer (some ⟨rb k, 0, none⟩)) := by have := G0.out.x.cell (3 + k) _ (xc_q _ _ _ _ _ _ _ _ k hk3); rw [hK] at this; exact this
  have cl := G0.out.x.cell 6 _ rfl
  have cm := G0.out.x.cell 7 _ rfl
  have hk3' : (k : Int) < 3 := by omega
  clear hK
  go_wp2_with fail
  go_region_held3 (fun W' => W'.cell? ⟨xb, 6, none⟩ = some (.pointer (some ⟨lb, 0, none⟩))) (go_keep) (first
    | (go_at_call 57; go_must (refine ((G0.out.below (below_drewN _ 1)).sumP hk3 HK.out HML.out HM.out).mono ?_; rintro e w2 ⟨va, lv', rfl, hva, hG2, hK2, -⟩; have G2 := hid hG2; have R2 := hid ((R0.out.kx (Kx.below (below_drewN _ 1))).kx hK2); have VA := hid (show By.Own w2 w1.heap.size va _ _ from hva); have c62 := hG2.x.cell 6 _ rfl; have c72 := hG2.x.cell 7 _ rfl; clear hva hG2 hK2)))
  go_wp2_with fail
  refine (G2.out.sumQ hk3 HK.out HM.out).mono ?_
  rintro e w3 ⟨vb, mv', rfl, hvb, hG3, hK3⟩
  have G3 := hid hG3
  have R3 := hid (R2.out.kx hK3)
  have VA3 := hid (hK3.own VA.out)
  have VB3 := hid (Sg.own_mono hvb G2.out.hB)
  clear hvb hG3 hK3 VA
  go_wp2_with fail
  refine (G3.out.keep R3.out va vb _ _ _ VA3.out VB3.out G0.out.hB R0.out.tl.old (by have := suM_le false sk; omega) HTL.out).mono ?_
  rintro e w4 ⟨rfl, tv', wv', hG4, hR4, -⟩
  have G4 := hid hG4
  have R4 := hid hR4
  clear hG4 hR4
  go_wp2
  go_ret
  exact ⟨by simp, lv', mv', tv', wv', _, _, G4.out, R4.out⟩
set_option maxRecDepth 4000 in
set_option maxHeartbeats 4000000 in
theorem PW.wipe512 (h : PW w0 B K pb rb qb lb lv mb mv L xb tv wv tl W) (on to al : Int) (pv : Value) (sk : SK) (hK : K (pk on) = some (true, sk)) (hroom : tot L ≤ 100000) :
    Calls Tryz.prog 10 #[.pointer (some ⟨xb, 0, none⟩), .agg #[.int .i64 on, .int .i64 3, .int .i64 to, pv, .int .u8 al]] W fun e w' => e = .returned (.bool true) ∧ ∃ lv' mv', PW w0 B (upd K (pk on) (some (true, none))) pb rb qb lb lv' mb mv' (wiL true L sk) xb tv wv tl w' := by
  obtain ⟨K', hK'⟩ : ∃ x, upd K (pk on) (some (true, none)) = x := ⟨_, rfl⟩
  rw [hK']
  have HK' := hid hK'
  clear hK'
  have HX := hid (Sh.Blk.new W [.int .i64 on, .int .i64 3, .int .i64 to, pv, .int .u8 al] 43)
  have G0 := hid (h.gw.below (below_alloc W (.cells #[.int .i64 on, .int .i64 3, .int .i64 to, pv, .int .u8 al] 43)))
  have R0 := hid (h.rw.kx (Kx.below (below_alloc W (.cells #[.int .i64 on, .int .i64 3, .int .i64 to, pv, .int .u8 al] 43))))
  have HM := hid hroom
  clear hroom
  clear h
  go_enter Tryz.func10, Tryz.ntmps10
  go_wp2_with fail
  obtain ⟨W1, hW1⟩ : ∃ x, W.alloc (.cells #[.int .i64 on, .int .i64 3, .int .i64 to, pv, .int .u8 al] 43) = x := ⟨_, rfl⟩
  obtain ⟨ob, hob⟩ : ∃ x, W.heap.size = x := ⟨_, rfl⟩
  have HX1 : Hid (Blk W1 ob [.int .i64 on, .int .i64 3, .int .i64 to, pv, .int .u8 al] 43) := by rw [← hW1, ← hob]; exact HX.out
  rw [hW1] at G0 R0
  rw [hW1, hob]
  clear hW1 hob HX
  have o0 := HX1.out.cell 0 _ rfl
  have o1 := HX1.out.cell 1 _ rfl
  obtain ⟨k, hk⟩ : ∃ k, pk on = k := ⟨_, rfl⟩
  have hk3 : k < 3 := by rw [← hk]; exact pk_lt on
  rw [hk] at hK HK'
  have HK := hid hK
  refine (pick3 on W1).mono ?_
  rintro e w1 ⟨rfl, rfl⟩
  rw [hk]
  clear hk
  have cp : w1.cell? ⟨xb, k, none⟩ = some (.iface 106 (.agg #[.pointer (some ⟨pb k, 0, none⟩)])) := by have := G0.out.x.cell k _ (xc_p _ _ _ _ _ _ _ _ k hk3); rw [hK] at this; exact this
  have cq : w1.cell? ⟨xb, 3 + k, none⟩ = some (.pointer (some ⟨rb k, 0, none⟩)) := by have := G0.out.x.cell (3 + k) _ (xc_q _ _ _ _ _ _ _ _ k hk3); rw [hK] at this; exact this
  have cl := G0.out.x.cell 6 _ rfl
  have cm := G0.out.x.cell 7 _ rfl
  have hk3' : (k : Int) < 3 := by omega
  clear hK
  go_wp2_with fail
  go_region_held3 (fun W' => W'.cell? ⟨xb, 6, none⟩ = some (.pointer (some ⟨lb, 0, none⟩)) ∧ W'.cell? ⟨xb, 7, none⟩ = some (.pointer (some ⟨mb, 0, none⟩))) (go_keep) (first
    | (go_at_call 145; go_must (refine ((G0.out.below (below_drewN _ 1)).wipeP hk3 HK.out HM.out).mono ?_; rintro e w2 ⟨lv', rfl, hG2, hK2, -⟩; have G2 := hid hG2; have R2 := hid ((R0.out.kx (Kx.below (below_drewN _ 1))).kx hK2); have c62 := hG2.x.cell 6 _ rfl; have c72 := hG2.x.cell 7 _ rfl; clear hG2 hK2))
    | (go_at_call 31; go_must (refine (G2.out.wipeQ hk3 HK.out HM.out).mono ?_; rintro e w3 ⟨mv', rfl, hG3, hK3⟩; have G3 := hid hG3; have R3 := hid (R2.out.kx hK3); have c63 := hG3.x.cell 6 _ rfl; have c73 := hG3.x.cell 7 _ rfl; clear hG3 hK3)))
  go_wp2
  go_ret
  refine ⟨by simp, lv', mv', ?_⟩
  rw [← HK'.out]
  exact ⟨G3.out, R3.out⟩
set_option maxRecDepth 4000 in
set_option maxHeartbeats 4000000 in
theorem PW.form512 (h : PW w0 B K pb rb qb lb lv mb mv L xb tv wv tl W) (on to al : Int) (pv : Value) (sk : SK) (hK : K (pk on) = some (true, sk)) (htl : tl.length ≤ 1000) :
    Calls Tryz.prog 10 #[.pointer (some ⟨xb, 0, none⟩), .agg #[.int .i64 on, .int .i64 4, .int .i64 to, pv, .int .u8 al]] W fun e w' => e = .returned (.bool true) ∧ ∃ tv' wv' a b, PW w0 B K pb rb qb lb lv mb mv L xb tv' wv' (tl ++ [⟨a, b, fmM true sk, fmF true sk⟩]) w' := by
  have HX := hid (Sh.Blk.new W [.int .i64 on, .int .i64 4, .int .i64 to, pv, .int .u8 al] 43)
  have G0 := hid (h.gw.below (below_alloc W (.cells #[.int .i64 on, .int .i64 4, .int .i64 to, pv, .int .u8 al] 43)))
  have R0 := hid (h.rw.kx (Kx.below (below_alloc W (.cells #[.int .i64 on, .int .i64 4, .int .i64 to, pv, .int .u8 al] 43))))
  have HTL := hid htl
  clear htl
  clear h
  go_enter Tryz.func10, Tryz.ntmps10
  go_wp2_with fail
  obtain ⟨W1, hW1⟩ : ∃ x, W.alloc (.cells #[.int .i64 on, .int .i64 4, .int .i64 to, pv, .int .u8 al] 43) = x := ⟨_, rfl⟩
  obtain ⟨ob, hob⟩ : ∃ x, W.heap.size = x := ⟨_, rfl⟩
  have HX1 : Hid (Blk W1 ob [.int .i64 on, .int .i64 4, .int .i64 to, pv, .int .u8 al] 43) := by rw [← hW1, ← hob]; exact HX.out
  rw [hW1] at G0 R0
  rw [hW1, hob]
  clear hW1 hob HX
  have o0 := HX1.out.cell 0 _ rfl
  have o1 := HX1.out.cell 1 _ rfl
  obtain ⟨k, hk⟩ : ∃ k, pk on = k := ⟨_, rfl⟩
  have hk3 : k < 3 := by rw [← hk]; exact pk_lt on
  rw [hk] at hK
  have HK := hid hK
  refine (pick3 on W1).mono ?_
  rintro e w1 ⟨rfl, rfl⟩
  rw [hk]
  clear hk
  have cp : w1.cell? ⟨xb, k, none⟩ = some (.iface 106 (.agg #[.pointer (some ⟨pb k, 0, none⟩)])) := by have := G0.out.x.cell k _ (xc_p _ _ _ _ _ _ _ _ k hk3); rw [hK] at this; exact this
  have cq : w1.cell? ⟨xb, 3 + k, none⟩ = some (.pointer (some ⟨rb k, 0, none⟩)) := by have := G0.out.x.cell (3 + k) _ (xc_q _ _ _ _ _ _ _ _ k hk3); rw [hK] at this; exact this
  have cl := G0.out.x.cell 6 _ rfl
  have cm := G0.out.x.cell 7 _ rfl
  have hk3' : (k : Int) < 3 := by omega
  clear hK
  go_wp2_with fail
  refine (G0.out.formP hk3 HK.out).mono ?_
  rintro e w2 ⟨va, rfl, hva, hb2⟩
  have G2 := hid (G0.out.below hb2)
  have R2 := hid (R0.out.kx (Kx.below hb2))
  have VA := hid hva
  clear hva hb2
  go_wp2_with fail
  refine (G2.out.formQ hk3 HK.out).mono ?_
  rintro e w3 ⟨vb, rfl, hvb, hb3⟩
  have G3 := hid (G2.out.below hb3)
  have R3 := hid (R2.out.kx (Kx.below hb3))
  have VA3 := hid (own_below VA.out hb3)
  have VB3 := hid (Sg.own_mono hvb G2.out.hB)
  clear hvb hb3 VA
  go_wp2_with fail
  refine (G3.out.keep R3.out va vb _ _ _ VA3.out VB3.out G0.out.hB R0.out.tl.old (by have := fmM_le true sk; omega) HTL.out).mono ?_
  rintro e w4 ⟨rfl, tv', wv', hG4, hR4, -⟩
  have G4 := hid hG4
  have R4 := hid hR4
  clear hG4 hR4
  go_wp2
  go_ret
  exact ⟨by simp, tv', wv', _, _, G4.out, R4.out⟩
set_option maxRecDepth 4000 in
set_option maxHeartbeats 4000000 in
theorem PW.sum512 (h : PW w0 B K pb rb qb lb lv mb mv L xb tv wv tl W) (on to al : Int) (pv : Value) (sk : SK) (hK : K (pk on) = some (true, sk)) (htl : tl.length ≤ 1000) (hml : ml sk ≤ 900000) (hroom : tot L ≤ 100000) :
    Calls Tryz.prog 10 #[.pointer (some ⟨xb, 0, none⟩), .agg #[.int .i64 on, .int .i64 1, .int .i64 to, pv, .int .u8 al]] W fun e w' => e = .returned (.bool true) ∧ ∃ lv' mv' tv' wv' a b, PW w0 B K pb rb qb lb lv' mb mv' (evs true L (suN true sk)) xb tv' wv' (tl ++ [⟨a, b, suM true sk, suF true sk⟩]) w' := by
  have HX := hid (Sh.Blk.new W [.int .i64 on, .int .i64 1, .int .i64 to, pv, .int .u8 al] 43)
  have G0 := hid (h.gw.below (below_alloc W (.cells #[.int .i64 on, .int .i64 1, .int .i64 to, pv, .int .u8 al] 43)))
  have R0 := hid (h.rw.kx (Kx.below (below_alloc W (.cells #[.int .i64 on, .int .i64 1, .int .i64 to, pv, .int .u8 al] 43))))
  have HTL := hid htl
  have HML := hid hml
  have HM := hid hroom
  clear htl hml hroom
  clear h
  go_enter Tryz.func10, Tryz.ntmps10
  go_wp2_with fail
  obtain ⟨W1, hW1⟩ : ∃ x, W.alloc (.cells #[.int .i64 on, .int .i64 1, .int .i64 to, pv, .int .u8 al] 43) = x := ⟨_, rfl⟩
  obtain ⟨ob, hob⟩ : ∃ x, W.heap.size = x := ⟨_, rfl⟩
  have HX1 : Hid (Blk W1 ob [.int .i64 on, .int .i64 1, .int .i64 to, pv, .int .u8 al] 43) := by rw [← hW1, ← hob]; exact HX.out
  rw [hW1] at G0 R0
  rw [hW1, hob]
  clear hW1 hob HX
  have o0 := HX1.out.cell 0 _ rfl
  have o1 := HX1.out.cell 1 _ rfl
  obtain ⟨k, hk⟩ : ∃ k, pk on = k := ⟨_, rfl⟩
  have hk3 : k < 3 := by rw [← hk]; exact pk_lt on
  rw [hk] at hK
  have HK := hid hK
  refine (pick3 on W1).mono ?_
  rintro e w1 ⟨rfl, rfl⟩
  rw [hk]
  clear hk
  have cp : w1.cell? ⟨xb, k, none⟩ = some (.iface 106 (.agg #[.pointer (some ⟨pb k, 0, none⟩)])) := by have := G0.out.x.cell k _ (xc_p _ _ _ _ _ _ _ _ k hk3); rw [hK] at this; exact this
  have cq : w1.cell? ⟨xb, 3 + k, none⟩ = some (.pointer (some ⟨rb k, 0, none⟩)) := by have := G0.out.x.cell (3 + k) _ (xc_q _ _ _ _ _ _ _ _ k hk3); rw [hK] at this; exact this
  have cl := G0.out.x.cell 6 _ rfl
  have cm := G0.out.x.cell 7 _ rfl
  have hk3' : (k : Int) < 3 := by omega
  clear hK
  go_wp2_with fail
  go_region_held3 (fun W' => W'.cell? ⟨xb, 6, none⟩ = some (.pointer (some ⟨lb, 0, none⟩))) (go_keep) (first
    | (go_at_call 60; go_must (refine ((G0.out.below (below_drewN _ 1)).sumP hk3 HK.out HML.out HM.out).mono ?_; rintro e w2 ⟨va, lv', rfl, hva, hG2, hK2, -⟩; have G2 := hid hG2; have R2 := hid ((R0.out.kx (Kx.below (below_drewN _ 1))).kx hK2); have VA := hid (show By.Own w2 w1.heap.size va _ _ from hva); have c62 := hG2.x.cell 6 _ rfl; have c72 := hG2.x.cell 7 _ rfl; clear hva hG2 hK2)))
  go_wp2_with fail
  refine (G2.out.sumQ hk3 HK.out HM.out).mono ?_
  rintro e w3 ⟨vb, mv', rfl, hvb, hG3, hK3⟩
  have G3 := hid hG3
  have R3 := hid (R2.out.kx hK3)
  have VA3 := hid (hK3.own VA.out)
  have VB3 := hid (Sg.own_mono hvb G2.out.hB)
  clear hvb hG3 hK3 VA
  go_wp2_with fail
  refine (G3.out.keep R3.out va vb _ _ _ VA3.out VB3.out G0.out.hB R0.out.tl.old (by have := suM_le true sk; omega) HTL.out).mono ?_
  rintro e w4 ⟨rfl, tv', wv', hG4, hR4, -⟩
  have G4 := hid hG4
  have R4 := hid hR4
  clear hG4 hR4
  go_wp2
  go_ret
  exact ⟨by simp, lv', mv', tv', wv', _, _, G4.out, R4.out⟩
theorem PW.wipe (h : PW w0 B K pb rb qb lb lv mb mv L xb tv wv tl W) (on to al : Int) (pv : Value) (a : Bool) (sk : SK) (hK : K (pk on) = some (a, sk)) (hroom : tot L ≤ 100000) :
    Calls Tryz.prog 10 #[.pointer (some ⟨xb, 0, none⟩), .agg #[.int .i64 on, .int .i64 3, .int .i64 to, pv, .int .u8 al]] W fun e w' => e = .returned (.bool true) ∧ ∃ lv' mv', PW w0 B (upd K (pk on) (some (a, none))) pb rb qb lb lv' mb mv' (wiL a L sk) xb tv wv tl w' := by
  cases a
  · exact h.wipe256 on to al pv sk hK hroom
  · exact h.wipe512 on to al pv sk hK hroom
theorem PW.form (h : PW w0 B K pb rb qb lb lv mb mv L xb tv wv tl W) (on to al : Int) (pv : Value) (a : Bool) (sk : SK) (hK : K (pk on) = some (a, sk)) (htl : tl.length ≤ 1000) :
    Calls Tryz.prog 10 #[.pointer (some ⟨xb, 0, none⟩), .agg #[.int .i64 on, .int .i64 4, .int .i64 to, pv, .int .u8 al]] W fun e w' => e = .returned (.bool true) ∧ ∃ tv' wv' u v, PW w0 B K pb rb qb lb lv mb mv L xb tv' wv' (tl ++ [⟨u, v, fmM a sk, fmF a sk⟩]) w' := by
  cases a
  · exact h.form256 on to al pv sk hK htl
  · exact h.form512 on to al pv sk hK htl
theorem PW.sum (h : PW w0 B K pb rb qb lb lv mb mv L xb tv wv tl W) (on to al : Int) (pv : Value) (a : Bool) (sk : SK) (hK : K (pk on) = some (a, sk)) (htl : tl.length ≤ 1000) (hml : ml sk ≤ 900000) (hroom : tot L ≤ 100000) :
    Calls Tryz.prog 10 #[.pointer (some ⟨xb, 0, none⟩), .agg #[.int .i64 on, .int .i64 1, .int .i64 to, pv, .int .u8 al]] W fun e w' => e = .returned (.bool true) ∧ ∃ lv' mv' tv' wv' u v, PW w0 B K pb rb qb lb lv' mb mv' (evs a L (suN a sk)) xb tv' wv' (tl ++ [⟨u, v, suM a sk, suF a sk⟩]) w' := by
  cases a
  · exact h.sum256 on to al pv sk hK htl hml hroom
  · exact h.sum512 on to al pv sk hK htl hml hroom
end
end Go.Proofs.YtojldjckpjokcaaGreatDoor.Dg
