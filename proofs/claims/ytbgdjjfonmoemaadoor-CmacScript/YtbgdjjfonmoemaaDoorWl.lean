/- The acts of CmacScript: Write. The acts of CmacScript: Sum. The acts of CmacScript: Reset. The acts of CmacScript: Clone. The acts of CmacScript: Wipe. -/
import Derived.Test.YtbgdjjfonmoemaaDoorWk
namespace Go.Proofs.YtbgdjjfonmoemaaDoor.Vm
open Go.ChangeShapes Go.WideShapes Go.ChangeAt Go.RowKit
open Go.Proofs.YtbgdjjfonmoemaaDoor.By Go.Proofs.YtbgdjjfonmoemaaDoor.Gf Go.Proofs.YtbgdjjfonmoemaaDoor.Ae
open Go.Proofs.YtbgdjjfonmoemaaDoor.Kc (own_kept own_mono own8_type)
section
variable {w0 W : World} {xb lb mb : Nat}
set_option maxRecDepth 4000 in
set_option maxHeartbeats 8000000 in
theorem act0 (T : Nat) (hT : T ≤ 100) (h : SCm w0 xb lb mb T W) (on : Int) (ka da : Option Addr) (kn kc dn dc : Nat) (mute : Bool) (fk fd : Nat → Nat) (hkr : ∀ V, Below w0.heap.size w0 V → By.RB V (.slice ka kn kc) kn (cb fk)) (hdr : ∀ V, Below w0.heap.size w0 V → By.RB V (.slice da dn dc) dn (cb fd)) (hkn : kn ≤ 140737488351232) (hdn : dn ≤ 4000) :
    Calls Tryd.prog 8 #[.pointer (some ⟨xb, 0, none⟩), .agg #[.int .i64 on, .int .i64 0, .slice ka kn kc, .slice da dn dc, .bool mute]] W fun e w' => e = .returned (.bool true) ∧ SCm w0 xb lb mb (T + 1) w' := by
  obtain ⟨tl, lv, mv, tv, wv, cv, rv, cc, D, L, h, htl, hLt, hmd⟩ := h
  have HX := hid (Blk.new W [.int .i64 on, .int .i64 0, .slice ka kn kc, .slice da dn dc, .bool mute] 40)
  have HB := hid (below_alloc W (.cells #[.int .i64 on, .int .i64 0, .slice ka kn kc, .slice da dn dc, .bool mute] 40))
  have G0 := hid (h.below HB.out)
  have HL := hid hLt
  have HMD := hid hmd
  have HTL := hid htl
  have HDR := hid hdr
  have HKR := hid hkr
  clear h hLt hmd htl hdr hkr
  have _ := hT
  have _ := hkn
  have _ := HKR
  go_enter Tryd.func8, Tryd.ntmps8
  go_wp2_with fail
  obtain ⟨W1, hW1⟩ : ∃ x, W.alloc (.cells #[.int .i64 on, .int .i64 0, .slice ka kn kc, .slice da dn dc, .bool mute] 40) = x := ⟨_, rfl⟩
  obtain ⟨ob, hob⟩ : ∃ x, W.heap.size = x := ⟨_, rfl⟩
  have X1 : Hid (Blk W1 ob [.int .i64 on, .int .i64 0, .slice ka kn kc, .slice da dn dc, .bool mute] 40) := by rw [← hW1, ← hob]; exact HX.out
  rw [hW1] at G0
  rw [hW1]
  rw [hob]
  clear hW1 HX HB
  refine (pickN on 2 (by omega) (by omega) W1).mono ?_
  rintro e w1 ⟨⟨k, hk2, rfl⟩, hw1⟩
  subst w1
  have hk2' : (k : Int) < 2 := by omega
  have o1 := X1.out.cell 1 _ rfl
  have o3 := X1.out.cell 3 _ rfl
  have o4 := X1.out.cell 4 _ rfl
  have cl := G0.out.here.cell 4 _ rfl
  have cm := G0.out.here.cell 5 _ rfl
  go_wp2_with fail
  go_region_held3 (fun W => W.cell? ⟨xb, 4, none⟩ = some (.pointer (some ⟨lb, 0, none⟩)) ∧ W.cell? ⟨xb, 5, none⟩ = some (.pointer (some ⟨mb, 0, none⟩))) (go_keep) (fail)
  have G1 := hid (G0.out.below (W' := W1.drew) (below_drewN W1 1))
  have X2 := hid (show Blk W1.drew ob _ 40 from X1.out.below (below_drewN W1 1))
  obtain ⟨V1, hV1⟩ : ∃ x, W1.drew = x := ⟨_, rfl⟩
  rw [hV1] at G1 X2
  rw [hV1]
  clear hV1 G0 X1 cl cm o1 o3 o4
  have o1 := X2.out.cell 1 _ rfl
  have o3 := X2.out.cell 3 _ rfl
  have o4 := X2.out.cell 4 _ rfl
  have LT := hid (lent14 _ dn (cb fd) V1 (HDR.out _ G1.out.bel) (by omega))
  cases mute with
  | false =>
    go_wp2_with fail
    refine LT.out.mono ?_
    rintro e w2 ⟨fu, rfl, ho, hb⟩
    rcases ho.shape with ⟨_, h0⟩ | ⟨gf, cf, rfl, hgb, hgl, hnc, hcm, _, _⟩
    · omega
    have G2 := hid ((G1.out.moved (av1 gf) (fun x hx => .inr (by have e : x = gf := hx; omega))).below hb)
    have O2 := hid ho
    have HGB := hid hgb
    have X3 := hid (X2.out.below hb)
    have BK2 : Hid (∃ cs, Blk w2 gf cs 5) := by
      obtain ⟨c, hc⟩ := own8_type ho (show (Value.slice (some ⟨gf, 0, none⟩) (dn + 6) cf).ownBlock = some gf from rfl)
      exact ⟨c.toList, by show w2.heap[gf]? = _; rw [hc]⟩
    have YG := hid G1.out.yg
    have l1 : (dn : Int) ≤ cf := by omega
    clear hb ho hgb o1 o3 o4
    have o1 := X3.out.cell 1 _ rfl
    have o2 := X3.out.cell 2 _ rfl
    have o3 := X3.out.cell 3 _ rfl
    have cp := G2.out.here.cell k _ (pairM_c _ _ _ _ _ _ k hk2)
    have cq := G2.out.here.cell (2 + k) _ (pairM_r _ _ _ _ _ _ k hk2)
    have RP := hid ((G2.out.below (below_drewN w2 1)).writeP k hk2 false dn fd (fun i => Int.ofNat_lt.1 ((HDR.out _ G2.out.bel).1 i).2) (by omega) (some ⟨gf, 0, none⟩) cf (fun V hV => ((hV.own8 (own_below O2.out (below_drewN w2 1))).reads.first dn (by omega)).congr (HDR.out _ G2.out.bel).1 (fun i hi => by unfold lent; rw [if_pos hi])) HL.out.pos ⟨(HL.out.room (by omega)).2.2.1, by have := HL.out.ln; omega⟩)
    go_wp2_with fail
    go_region_held3 (fun W => W.cell? ⟨xb, k, none⟩ = some (cv k) ∧ W.cell? ⟨xb, 2 + k, none⟩ = some (rv k) ∧ W.cell? ⟨ob, 3, none⟩ = some (.slice da dn dc)) (go_keep) (first | (go_at_call 20; refine RP.out.mono ?_; rintro e w3 ⟨rfl, ⟨lv', hps⟩, hkp⟩; have G3 := hid hps; have O3 := hid (hkp.own8 (own_below O2.out (below_drewN w2 1))); have X4 := hid (hkp _ _ _ (X3.out.below (below_drewN w2 1)) (by decide) (by decide) (by decide) (by decide)); have y1 := hps.here.cell k _ (pairM_c _ _ _ _ _ _ k hk2); have y2 := hps.here.cell (2 + k) _ (pairM_r _ _ _ _ _ _ k hk2); have y5 := X4.out.cell 3 _ rfl; clear hps hkp) | (go_at_call 21; refine (G3.out.writeQ k hk2 false dn fd da dc (HDR.out _ G3.out.bel) (fun x hx => by have e : x = gf := hx; subst e; exact own_blt O3.out rfl) (by have := HMD.out k hk2; omega) ⟨(HL.out.room (by omega)).2.2.1, by have := HL.out.ln; omega⟩).mono ?_; rintro e w4 ⟨rfl, ⟨mv', hps⟩, hkp⟩; have G9 := hid hps; have O9 := hid (hkp.own8 O3.out); have X9 := hid (hkp _ _ _ X4.out (by decide) (by decide) (by decide)); have y3 := hps.here.cell k _ (pairM_c _ _ _ _ _ _ k hk2); have y4 := hps.here.cell (2 + k) _ (pairM_r _ _ _ _ _ _ k hk2); have y6 := X9.out.cell 3 _ rfl; clear hps hkp))
    all_goals
      have o3 := X9.out.cell 3 _ rfl
      go_wp2_with fail
      refine (kept17 _ _ dn (cb fd) _ O9.out.reads (HDR.out _ G9.out.bel) (by omega)).mono ?_
      rintro e wY ⟨rfl, hbY⟩
      have GY := hid (G9.out.below hbY)
      have OY := hid (own_below O9.out hbY)
      clear hbY
      go_wp2_with fail
      refine (over18 gf cf (dn + 6) _ _ wY OY.out (by omega)).mono ?_
      rintro e wZ ⟨rfl, -, hgZ⟩
      obtain ⟨c, hc⟩ := own8_type OY.out (show (Value.slice (some ⟨gf, 0, none⟩) (dn + 6) cf).ownBlock = some gf from rfl)
      have hbk : Blk wY gf c.toList 5 := by show wY.heap[gf]? = _; rw [hc]
      have hkZ : Kp (fun j => j = gf) wY wZ := (Kp.of_grown hgZ).mono (fun j _ e => (Option.some.inj e).symm)
      have GZ := hid ((GY.out.over (g := gf) rfl hbk (Nat.le_trans G1.out.size HGB.out) hkZ (YG.out _ _ gf HGB.out hkZ GY.out.ex)).moved av0 (fun x hx => hx.elim))
      clear hbk hkZ hgZ hc
      go_wp2_with fail
      go_ret
      exact ⟨by simp, tl, lv', mv', tv, wv, cv, rv, cc, _, _, GZ.out, by have := HTL.out; omega, Lt.sel false HL.out (lt_wr HL.out hT dn hdn _), mdW_le HMD.out k dn fd hdn⟩
  | true =>
    go_wp2_with fail
    refine LT.out.mono ?_
    rintro e w2 ⟨fu, rfl, ho, hb⟩
    rcases ho.shape with ⟨_, h0⟩ | ⟨gf, cf, rfl, hgb, hgl, hnc, hcm, _, _⟩
    · omega
    have G2 := hid ((G1.out.moved (av1 gf) (fun x hx => .inr (by have e : x = gf := hx; omega))).below hb)
    have O2 := hid ho
    have HGB := hid hgb
    have X3 := hid (X2.out.below hb)
    have BK2 : Hid (∃ cs, Blk w2 gf cs 5) := by
      obtain ⟨c, hc⟩ := own8_type ho (show (Value.slice (some ⟨gf, 0, none⟩) (dn + 6) cf).ownBlock = some gf from rfl)
      exact ⟨c.toList, by show w2.heap[gf]? = _; rw [hc]⟩
    have YG := hid G1.out.yg
    have l1 : (dn : Int) ≤ cf := by omega
    clear hb ho hgb o1 o3 o4
    have o1 := X3.out.cell 1 _ rfl
    have o2 := X3.out.cell 2 _ rfl
    have o3 := X3.out.cell 3 _ rfl
    have cp := G2.out.here.cell k _ (pairM_c _ _ _ _ _ _ k hk2)
    have cq := G2.out.here.cell (2 + k) _ (pairM_r _ _ _ _ _ _ k hk2)
    have RP := hid ((G2.out.below (below_drewN w2 1)).writeP k hk2 true dn fd (fun i => Int.ofNat_lt.1 ((HDR.out _ G2.out.bel).1 i).2) (by omega) (some ⟨gf, 0, none⟩) cf (fun V hV => ((hV.own8 (own_below O2.out (below_drewN w2 1))).reads.first dn (by omega)).congr (HDR.out _ G2.out.bel).1 (fun i hi => by unfold lent; rw [if_pos hi])) HL.out.pos ⟨(HL.out.room (by omega)).2.2.1, by have := HL.out.ln; omega⟩)
    go_wp2_with fail
    go_region_held3 (fun W => W.cell? ⟨xb, k, none⟩ = some (cv k) ∧ W.cell? ⟨xb, 2 + k, none⟩ = some (rv k) ∧ W.cell? ⟨ob, 3, none⟩ = some (.slice da dn dc)) (go_keep) (first | (go_at_call 20; refine RP.out.mono ?_; rintro e w3 ⟨rfl, ⟨lv', hps⟩, hkp⟩; have G3 := hid hps; have O3 := hid (hkp.own8 (own_below O2.out (below_drewN w2 1))); have X4 := hid (hkp _ _ _ (X3.out.below (below_drewN w2 1)) (by decide) (by decide) (by decide) (by decide)); have y1 := hps.here.cell k _ (pairM_c _ _ _ _ _ _ k hk2); have y2 := hps.here.cell (2 + k) _ (pairM_r _ _ _ _ _ _ k hk2); have y5 := X4.out.cell 3 _ rfl; clear hps hkp) | (go_at_call 21; refine (G3.out.writeQ k hk2 true dn fd da dc (HDR.out _ G3.out.bel) (fun x hx => by have e : x = gf := hx; subst e; exact own_blt O3.out rfl) (by have := HMD.out k hk2; omega) ⟨(HL.out.room (by omega)).2.2.1, by have := HL.out.ln; omega⟩).mono ?_; rintro e w4 ⟨rfl, ⟨mv', hps⟩, hkp⟩; have G9 := hid hps; have O9 := hid (hkp.own8 O3.out); have X9 := hid (hkp _ _ _ X4.out (by decide) (by decide) (by decide)); have y3 := hps.here.cell k _ (pairM_c _ _ _ _ _ _ k hk2); have y4 := hps.here.cell (2 + k) _ (pairM_r _ _ _ _ _ _ k hk2); have y6 := X9.out.cell 3 _ rfl; clear hps hkp))
    all_goals
      have o3 := X9.out.cell 3 _ rfl
      go_wp2_with fail
      refine (kept17 _ _ dn (cb fd) _ O9.out.reads (HDR.out _ G9.out.bel) (by omega)).mono ?_
      rintro e wY ⟨rfl, hbY⟩
      have GY := hid (G9.out.below hbY)
      have OY := hid (own_below O9.out hbY)
      clear hbY
      go_wp2_with fail
      refine (over18 gf cf (dn + 6) _ _ wY OY.out (by omega)).mono ?_
      rintro e wZ ⟨rfl, -, hgZ⟩
      obtain ⟨c, hc⟩ := own8_type OY.out (show (Value.slice (some ⟨gf, 0, none⟩) (dn + 6) cf).ownBlock = some gf from rfl)
      have hbk : Blk wY gf c.toList 5 := by show wY.heap[gf]? = _; rw [hc]
      have hkZ : Kp (fun j => j = gf) wY wZ := (Kp.of_grown hgZ).mono (fun j _ e => (Option.some.inj e).symm)
      have GZ := hid ((GY.out.over (g := gf) rfl hbk (Nat.le_trans G1.out.size HGB.out) hkZ (YG.out _ _ gf HGB.out hkZ GY.out.ex)).moved av0 (fun x hx => hx.elim))
      clear hbk hkZ hgZ hc
      go_wp2_with fail
      go_ret
      exact ⟨by simp, tl, lv', mv', tv, wv, cv, rv, cc, _, _, GZ.out, by have := HTL.out; omega, Lt.sel true HL.out (lt_wr HL.out hT dn hdn _), mdW_le HMD.out k dn fd hdn⟩
end
end Go.Proofs.YtbgdjjfonmoemaaDoor.Vm
namespace Go.Proofs.YtbgdjjfonmoemaaDoor.Vm
open Go.ChangeShapes Go.WideShapes Go.ChangeAt Go.RowKit
open Go.Proofs.YtbgdjjfonmoemaaDoor.By Go.Proofs.YtbgdjjfonmoemaaDoor.Gf Go.Proofs.YtbgdjjfonmoemaaDoor.Ae
open Go.Proofs.YtbgdjjfonmoemaaDoor.Kc (own_kept own_mono own8_type)
section
variable {w0 W : World} {xb lb mb : Nat}
set_option maxRecDepth 4000 in
set_option maxHeartbeats 8000000 in
theorem act1 (T : Nat) (hT : T ≤ 100) (h : SCm w0 xb lb mb T W) (on : Int) (ka da : Option Addr) (kn kc dn dc : Nat) (mute : Bool) (fk fd : Nat → Nat) (hkr : ∀ V, Below w0.heap.size w0 V → By.RB V (.slice ka kn kc) kn (cb fk)) (hdr : ∀ V, Below w0.heap.size w0 V → By.RB V (.slice da dn dc) dn (cb fd)) (hkn : kn ≤ 140737488351232) (hdn : dn ≤ 4000) :
    Calls Tryd.prog 8 #[.pointer (some ⟨xb, 0, none⟩), .agg #[.int .i64 on, .int .i64 1, .slice ka kn kc, .slice da dn dc, .bool mute]] W fun e w' => e = .returned (.bool true) ∧ SCm w0 xb lb mb (T + 1) w' := by
  obtain ⟨tl, lv, mv, tv, wv, cv, rv, cc, D, L, h, htl, hLt, hmd⟩ := h
  have HX := hid (Blk.new W [.int .i64 on, .int .i64 1, .slice ka kn kc, .slice da dn dc, .bool mute] 40)
  have HB := hid (below_alloc W (.cells #[.int .i64 on, .int .i64 1, .slice ka kn kc, .slice da dn dc, .bool mute] 40))
  have G0 := hid (h.below HB.out)
  have HL := hid hLt
  have HMD := hid hmd
  have HTL := hid htl
  have HDR := hid hdr
  have HKR := hid hkr
  clear h hLt hmd htl hdr hkr
  have _ := hT
  have _ := hkn
  have _ := HKR
  go_enter Tryd.func8, Tryd.ntmps8
  go_wp2_with fail
  obtain ⟨W1, hW1⟩ : ∃ x, W.alloc (.cells #[.int .i64 on, .int .i64 1, .slice ka kn kc, .slice da dn dc, .bool mute] 40) = x := ⟨_, rfl⟩
  obtain ⟨ob, hob⟩ : ∃ x, W.heap.size = x := ⟨_, rfl⟩
  have X1 : Hid (Blk W1 ob [.int .i64 on, .int .i64 1, .slice ka kn kc, .slice da dn dc, .bool mute] 40) := by rw [← hW1, ← hob]; exact HX.out
  rw [hW1] at G0
  rw [hW1]
  rw [hob]
  clear hW1 HX HB
  refine (pickN on 2 (by omega) (by omega) W1).mono ?_
  rintro e w1 ⟨⟨k, hk2, rfl⟩, hw1⟩
  subst w1
  have hk2' : (k : Int) < 2 := by omega
  have o1 := X1.out.cell 1 _ rfl
  have o3 := X1.out.cell 3 _ rfl
  have o4 := X1.out.cell 4 _ rfl
  have cl := G0.out.here.cell 4 _ rfl
  have cm := G0.out.here.cell 5 _ rfl
  go_wp2_with fail
  go_region_held3 (fun W => W.cell? ⟨xb, 4, none⟩ = some (.pointer (some ⟨lb, 0, none⟩)) ∧ W.cell? ⟨xb, 5, none⟩ = some (.pointer (some ⟨mb, 0, none⟩))) (go_keep) (fail)
  have G1 := hid (G0.out.below (W' := W1.drew) (below_drewN W1 1))
  have X2 := hid (show Blk W1.drew ob _ 40 from X1.out.below (below_drewN W1 1))
  obtain ⟨V1, hV1⟩ : ∃ x, W1.drew = x := ⟨_, rfl⟩
  rw [hV1] at G1 X2
  rw [hV1]
  clear hV1 G0 X1 cl cm o1 o3 o4
  have o1 := X2.out.cell 1 _ rfl
  have o3 := X2.out.cell 3 _ rfl
  have o4 := X2.out.cell 4 _ rfl
  have LT := hid (lent14 _ dn (cb fd) V1 (HDR.out _ G1.out.bel) (by omega))
  cases mute with
  | false =>
    go_wp2_with fail
    refine LT.out.mono ?_
    rintro e w2 ⟨fu, rfl, ho, hb⟩
    rcases ho.shape with ⟨_, h0⟩ | ⟨gf, cf, rfl, hgb, hgl, hnc, hcm, _, _⟩
    · omega
    have G2 := hid ((G1.out.moved (av1 gf) (fun x hx => .inr (by have e : x = gf := hx; omega))).below hb)
    have O2 := hid ho
    have HGB := hid hgb
    have X3 := hid (X2.out.below hb)
    have BK2 : Hid (∃ cs, Blk w2 gf cs 5) := by
      obtain ⟨c, hc⟩ := own8_type ho (show (Value.slice (some ⟨gf, 0, none⟩) (dn + 6) cf).ownBlock = some gf from rfl)
      exact ⟨c.toList, by show w2.heap[gf]? = _; rw [hc]⟩
    have YG := hid G1.out.yg
    have l1 : (dn : Int) ≤ cf := by omega
    clear hb ho hgb o1 o3 o4
    have o1 := X3.out.cell 1 _ rfl
    have o2 := X3.out.cell 2 _ rfl
    have o3 := X3.out.cell 3 _ rfl
    have cp := G2.out.here.cell k _ (pairM_c _ _ _ _ _ _ k hk2)
    have cq := G2.out.here.cell (2 + k) _ (pairM_r _ _ _ _ _ _ k hk2)
    have SPC := hid (G2.out.sumP k hk2 false (HL.out.room (by omega)).1)
    go_wp2_with fail
    refine SPC.out.mono ?_
    rintro e w3 ⟨v1, rfl, ht1, ⟨lv', hps⟩, hkp⟩
    have G3 := hid hps
    have T1 := hid ht1
    have O3 := hid (hkp.own8 O2.out)
    have X4 := hid (hkp _ _ _ X3.out (by decide) (by decide) (by decide) (by decide))
    have cq3 := hps.here.cell (2 + k) _ (pairM_r _ _ _ _ _ _ k hk2)
    have SQ := hid (hps.sumQ k hk2 false (by have := HMD.out k hk2; omega) ⟨by have := HL.out.tt; omega, by have := HL.out.ln; omega⟩)
    clear hps ht1 hkp SPC cp cq o1 o2 o3
    go_wp2_with fail
    refine SQ.out.mono ?_
    rintro e w4 ⟨v2, rfl, ht2, ⟨mv', hps⟩, hkp⟩
    obtain ⟨n, f, hn, hoa, how⟩ := tg_pair T1.out ht2
    have NE := hid (show ∀ q ∈ tl ++ [TE.mk v1 v2 n f], q.a.ownBlock ≠ some gf ∧ q.b.ownBlock ≠ some gf from fun q hq => by
      rcases List.mem_append.1 hq with hq | hq
      · exact ⟨fun e => by have := TL.old (RW.tl G1.out.ex) q hq gf e; have := HGB.out; omega, fun e => by have := own_blt ((RW.tl G1.out.ex).own q hq).2 e; have := HGB.out; omega⟩
      · rw [List.mem_singleton.1 hq]
        exact ⟨fun e => by have := (hoa.blk e).1; have := own_blt O2.out (g := gf) rfl; omega, fun e => by have := own_ge how e; have := own_blt O3.out (g := gf) rfl; omega⟩)
    have O5 := hid (hkp.own8 O3.out)
    have X5 := hid (hkp _ _ _ X4.out (by decide) (by decide) (by decide))
    have TE1 := hid (hps.tell (by have := HTL.out; omega) v1 v2 n w2.heap.size f (hoa.kz hkp.kz) (own_mono how G3.out.size) G2.out.size (fun q hq g hg => by have := TL.old (RW.tl G2.out.ex) q hq g hg; exact this) hn)
    clear hps ht2 hkp SQ cq3 hoa how
    go_wp2_with fail
    refine TE1.out.mono ?_
    rintro e w5 ⟨rfl, ⟨tv', wv', hps⟩, hko, hka⟩
    have G9 := hid hps
    have O9 := hid (hko _ _ _ _ O5.out)
    have X9 := hid (hka _ _ X5.out)
    clear hps hko hka TE1
    all_goals
      have o3 := X9.out.cell 3 _ rfl
      go_wp2_with fail
      refine (kept17 _ _ dn (cb fd) _ O9.out.reads (HDR.out _ G9.out.bel) (by omega)).mono ?_
      rintro e wY ⟨rfl, hbY⟩
      have GY := hid (G9.out.below hbY)
      have OY := hid (own_below O9.out hbY)
      clear hbY
      go_wp2_with fail
      refine (over18 gf cf (dn + 6) _ _ wY OY.out (by omega)).mono ?_
      rintro e wZ ⟨rfl, -, hgZ⟩
      obtain ⟨c, hc⟩ := own8_type OY.out (show (Value.slice (some ⟨gf, 0, none⟩) (dn + 6) cf).ownBlock = some gf from rfl)
      have hbk : Blk wY gf c.toList 5 := by show wY.heap[gf]? = _; rw [hc]
      have hkZ : Kp (fun j => j = gf) wY wZ := (Kp.of_grown hgZ).mono (fun j _ e => (Option.some.inj e).symm)
      have GZ := hid ((GY.out.over (g := gf) rfl hbk (Nat.le_trans G1.out.size HGB.out) hkZ (RX.over GY.out.ex hbk hkZ NE.out)).moved av0 (fun x hx => hx.elim))
      clear hbk hkZ hgZ hc
      go_wp2_with fail
      go_ret
      exact ⟨by simp, _, lv', mv', tv', wv', cv, rv, cc, D, _, GZ.out, by have := HTL.out; simp; omega, Lt.sel false HL.out (lt_s HL.out hT _), md_next HMD.out⟩
  | true =>
    go_wp2_with fail
    refine LT.out.mono ?_
    rintro e w2 ⟨fu, rfl, ho, hb⟩
    rcases ho.shape with ⟨_, h0⟩ | ⟨gf, cf, rfl, hgb, hgl, hnc, hcm, _, _⟩
    · omega
    have G2 := hid ((G1.out.moved (av1 gf) (fun x hx => .inr (by have e : x = gf := hx; omega))).below hb)
    have O2 := hid ho
    have HGB := hid hgb
    have X3 := hid (X2.out.below hb)
    have BK2 : Hid (∃ cs, Blk w2 gf cs 5) := by
      obtain ⟨c, hc⟩ := own8_type ho (show (Value.slice (some ⟨gf, 0, none⟩) (dn + 6) cf).ownBlock = some gf from rfl)
      exact ⟨c.toList, by show w2.heap[gf]? = _; rw [hc]⟩
    have YG := hid G1.out.yg
    have l1 : (dn : Int) ≤ cf := by omega
    clear hb ho hgb o1 o3 o4
    have o1 := X3.out.cell 1 _ rfl
    have o2 := X3.out.cell 2 _ rfl
    have o3 := X3.out.cell 3 _ rfl
    have cp := G2.out.here.cell k _ (pairM_c _ _ _ _ _ _ k hk2)
    have cq := G2.out.here.cell (2 + k) _ (pairM_r _ _ _ _ _ _ k hk2)
    have SPC := hid (G2.out.sumP k hk2 true (HL.out.room (by omega)).1)
    go_wp2_with fail
    refine SPC.out.mono ?_
    rintro e w3 ⟨v1, rfl, ht1, ⟨lv', hps⟩, hkp⟩
    have G3 := hid hps
    have T1 := hid ht1
    have O3 := hid (hkp.own8 O2.out)
    have X4 := hid (hkp _ _ _ X3.out (by decide) (by decide) (by decide) (by decide))
    have cq3 := hps.here.cell (2 + k) _ (pairM_r _ _ _ _ _ _ k hk2)
    have SQ := hid (hps.sumQ k hk2 true (by have := HMD.out k hk2; omega) ⟨by have := HL.out.tt; omega, by have := HL.out.ln; omega⟩)
    clear hps ht1 hkp SPC cp cq o1 o2 o3
    go_wp2_with fail
    refine SQ.out.mono ?_
    rintro e w4 ⟨v2, rfl, ht2, ⟨mv', hps⟩, hkp⟩
    obtain ⟨n, f, hn, hoa, how⟩ := tg_pair T1.out ht2
    have NE := hid (show ∀ q ∈ tl ++ [TE.mk v1 v2 n f], q.a.ownBlock ≠ some gf ∧ q.b.ownBlock ≠ some gf from fun q hq => by
      rcases List.mem_append.1 hq with hq | hq
      · exact ⟨fun e => by have := TL.old (RW.tl G1.out.ex) q hq gf e; have := HGB.out; omega, fun e => by have := own_blt ((RW.tl G1.out.ex).own q hq).2 e; have := HGB.out; omega⟩
      · rw [List.mem_singleton.1 hq]
        exact ⟨fun e => by have := (hoa.blk e).1; have := own_blt O2.out (g := gf) rfl; omega, fun e => by have := own_ge how e; have := own_blt O3.out (g := gf) rfl; omega⟩)
    have O5 := hid (hkp.own8 O3.out)
    have X5 := hid (hkp _ _ _ X4.out (by decide) (by decide) (by decide))
    have TE1 := hid (hps.tell (by have := HTL.out; omega) v1 v2 n w2.heap.size f (hoa.kz hkp.kz) (own_mono how G3.out.size) G2.out.size (fun q hq g hg => by have := TL.old (RW.tl G2.out.ex) q hq g hg; exact this) hn)
    clear hps ht2 hkp SQ cq3 hoa how
    go_wp2_with fail
    refine TE1.out.mono ?_
    rintro e w5 ⟨rfl, ⟨tv', wv', hps⟩, hko, hka⟩
    have G9 := hid hps
    have O9 := hid (hko _ _ _ _ O5.out)
    have X9 := hid (hka _ _ X5.out)
    clear hps hko hka TE1
    all_goals
      have o3 := X9.out.cell 3 _ rfl
      go_wp2_with fail
      refine (kept17 _ _ dn (cb fd) _ O9.out.reads (HDR.out _ G9.out.bel) (by omega)).mono ?_
      rintro e wY ⟨rfl, hbY⟩
      have GY := hid (G9.out.below hbY)
      have OY := hid (own_below O9.out hbY)
      clear hbY
      go_wp2_with fail
      refine (over18 gf cf (dn + 6) _ _ wY OY.out (by omega)).mono ?_
      rintro e wZ ⟨rfl, -, hgZ⟩
      obtain ⟨c, hc⟩ := own8_type OY.out (show (Value.slice (some ⟨gf, 0, none⟩) (dn + 6) cf).ownBlock = some gf from rfl)
      have hbk : Blk wY gf c.toList 5 := by show wY.heap[gf]? = _; rw [hc]
      have hkZ : Kp (fun j => j = gf) wY wZ := (Kp.of_grown hgZ).mono (fun j _ e => (Option.some.inj e).symm)
      have GZ := hid ((GY.out.over (g := gf) rfl hbk (Nat.le_trans G1.out.size HGB.out) hkZ (RX.over GY.out.ex hbk hkZ NE.out)).moved av0 (fun x hx => hx.elim))
      clear hbk hkZ hgZ hc
      go_wp2_with fail
      go_ret
      exact ⟨by simp, _, lv', mv', tv', wv', cv, rv, cc, D, _, GZ.out, by have := HTL.out; simp; omega, Lt.sel true HL.out (lt_s HL.out hT _), md_next HMD.out⟩
end
end Go.Proofs.YtbgdjjfonmoemaaDoor.Vm
namespace Go.Proofs.YtbgdjjfonmoemaaDoor.Vm
open Go.ChangeShapes Go.WideShapes Go.ChangeAt Go.RowKit
open Go.Proofs.YtbgdjjfonmoemaaDoor.By Go.Proofs.YtbgdjjfonmoemaaDoor.Gf Go.Proofs.YtbgdjjfonmoemaaDoor.Ae
open Go.Proofs.YtbgdjjfonmoemaaDoor.Kc (own_kept own_mono own8_type)
section
variable {w0 W : World} {xb lb mb : Nat}
set_option maxRecDepth 4000 in
set_option maxHeartbeats 8000000 in
theorem act2 (T : Nat) (hT : T ≤ 100) (h : SCm w0 xb lb mb T W) (on : Int) (ka da : Option Addr) (kn kc dn dc : Nat) (mute : Bool) (fk fd : Nat → Nat) (hkr : ∀ V, Below w0.heap.size w0 V → By.RB V (.slice ka kn kc) kn (cb fk)) (hdr : ∀ V, Below w0.heap.size w0 V → By.RB V (.slice da dn dc) dn (cb fd)) (hkn : kn ≤ 140737488351232) (hdn : dn ≤ 4000) :
    Calls Tryd.prog 8 #[.pointer (some ⟨xb, 0, none⟩), .agg #[.int .i64 on, .int .i64 2, .slice ka kn kc, .slice da dn dc, .bool mute]] W fun e w' => e = .returned (.bool true) ∧ SCm w0 xb lb mb (T + 1) w' := by
  obtain ⟨tl, lv, mv, tv, wv, cv, rv, cc, D, L, h, htl, hLt, hmd⟩ := h
  have HX := hid (Blk.new W [.int .i64 on, .int .i64 2, .slice ka kn kc, .slice da dn dc, .bool mute] 40)
  have HB := hid (below_alloc W (.cells #[.int .i64 on, .int .i64 2, .slice ka kn kc, .slice da dn dc, .bool mute] 40))
  have G0 := hid (h.below HB.out)
  have HL := hid hLt
  have HMD := hid hmd
  have HTL := hid htl
  have HDR := hid hdr
  have HKR := hid hkr
  clear h hLt hmd htl hdr hkr
  have _ := hT
  have _ := hkn
  have _ := HKR
  go_enter Tryd.func8, Tryd.ntmps8
  go_wp2_with fail
  obtain ⟨W1, hW1⟩ : ∃ x, W.alloc (.cells #[.int .i64 on, .int .i64 2, .slice ka kn kc, .slice da dn dc, .bool mute] 40) = x := ⟨_, rfl⟩
  obtain ⟨ob, hob⟩ : ∃ x, W.heap.size = x := ⟨_, rfl⟩
  have X1 : Hid (Blk W1 ob [.int .i64 on, .int .i64 2, .slice ka kn kc, .slice da dn dc, .bool mute] 40) := by rw [← hW1, ← hob]; exact HX.out
  rw [hW1] at G0
  rw [hW1]
  rw [hob]
  clear hW1 HX HB
  refine (pickN on 2 (by omega) (by omega) W1).mono ?_
  rintro e w1 ⟨⟨k, hk2, rfl⟩, hw1⟩
  subst w1
  have hk2' : (k : Int) < 2 := by omega
  have o1 := X1.out.cell 1 _ rfl
  have o3 := X1.out.cell 3 _ rfl
  have o4 := X1.out.cell 4 _ rfl
  have cl := G0.out.here.cell 4 _ rfl
  have cm := G0.out.here.cell 5 _ rfl
  go_wp2_with fail
  go_region_held3 (fun W => W.cell? ⟨xb, 4, none⟩ = some (.pointer (some ⟨lb, 0, none⟩)) ∧ W.cell? ⟨xb, 5, none⟩ = some (.pointer (some ⟨mb, 0, none⟩))) (go_keep) (fail)
  have G1 := hid (G0.out.below (W' := W1.drew) (below_drewN W1 1))
  have X2 := hid (show Blk W1.drew ob _ 40 from X1.out.below (below_drewN W1 1))
  obtain ⟨V1, hV1⟩ : ∃ x, W1.drew = x := ⟨_, rfl⟩
  rw [hV1] at G1 X2
  rw [hV1]
  clear hV1 G0 X1 cl cm o1 o3 o4
  have o1 := X2.out.cell 1 _ rfl
  have o3 := X2.out.cell 3 _ rfl
  have o4 := X2.out.cell 4 _ rfl
  have LT := hid (lent14 _ dn (cb fd) V1 (HDR.out _ G1.out.bel) (by omega))
  cases mute with
  | false =>
    go_wp2_with fail
    refine LT.out.mono ?_
    rintro e w2 ⟨fu, rfl, ho, hb⟩
    rcases ho.shape with ⟨_, h0⟩ | ⟨gf, cf, rfl, hgb, hgl, hnc, hcm, _, _⟩
    · omega
    have G2 := hid ((G1.out.moved (av1 gf) (fun x hx => .inr (by have e : x = gf := hx; omega))).below hb)
    have O2 := hid ho
    have HGB := hid hgb
    have X3 := hid (X2.out.below hb)
    have BK2 : Hid (∃ cs, Blk w2 gf cs 5) := by
      obtain ⟨c, hc⟩ := own8_type ho (show (Value.slice (some ⟨gf, 0, none⟩) (dn + 6) cf).ownBlock = some gf from rfl)
      exact ⟨c.toList, by show w2.heap[gf]? = _; rw [hc]⟩
    have YG := hid G1.out.yg
    have l1 : (dn : Int) ≤ cf := by omega
    clear hb ho hgb o1 o3 o4
    have o1 := X3.out.cell 1 _ rfl
    have o2 := X3.out.cell 2 _ rfl
    have o3 := X3.out.cell 3 _ rfl
    have cp := G2.out.here.cell k _ (pairM_c _ _ _ _ _ _ k hk2)
    have cq := G2.out.here.cell (2 + k) _ (pairM_r _ _ _ _ _ _ k hk2)
    have RP := hid ((G2.out.below (below_drewN w2 1)).resetP k hk2)
    go_wp2_with fail
    go_region_held3 (fun W => W.cell? ⟨xb, k, none⟩ = some (cv k) ∧ W.cell? ⟨xb, 2 + k, none⟩ = some (rv k)) (go_keep) (first | (go_at_call 25; refine RP.out.mono ?_; rintro e w3 ⟨rfl, ⟨lv', hps⟩, hkp⟩; have G3 := hid hps; have O3 := hid (hkp.own8 (own_below O2.out (below_drewN w2 1))); have X4 := hid (hkp _ _ _ (X3.out.below (below_drewN w2 1)) (by decide) (by decide) (by decide) (by decide)); have y1 := hps.here.cell k _ (pairM_c _ _ _ _ _ _ k hk2); have y2 := hps.here.cell (2 + k) _ (pairM_r _ _ _ _ _ _ k hk2); have y5 := X4.out.cell 3 _ rfl; clear hps hkp) | (go_at_call 26; refine (G3.out.resetQ k hk2).mono ?_; rintro e w4 ⟨rfl, ⟨mv', hps⟩, hkp⟩; have G9 := hid hps; have O9 := hid (hkp.own8 O3.out); have X9 := hid (hkp _ _ _ X4.out (by decide) (by decide) (by decide)); have y3 := hps.here.cell k _ (pairM_c _ _ _ _ _ _ k hk2); have y4 := hps.here.cell (2 + k) _ (pairM_r _ _ _ _ _ _ k hk2); have y6 := X9.out.cell 3 _ rfl; clear hps hkp))
    all_goals
      have o3 := X9.out.cell 3 _ rfl
      go_wp2_with fail
      refine (kept17 _ _ dn (cb fd) _ O9.out.reads (HDR.out _ G9.out.bel) (by omega)).mono ?_
      rintro e wY ⟨rfl, hbY⟩
      have GY := hid (G9.out.below hbY)
      have OY := hid (own_below O9.out hbY)
      clear hbY
      go_wp2_with fail
      refine (over18 gf cf (dn + 6) _ _ wY OY.out (by omega)).mono ?_
      rintro e wZ ⟨rfl, -, hgZ⟩
      obtain ⟨c, hc⟩ := own8_type OY.out (show (Value.slice (some ⟨gf, 0, none⟩) (dn + 6) cf).ownBlock = some gf from rfl)
      have hbk : Blk wY gf c.toList 5 := by show wY.heap[gf]? = _; rw [hc]
      have hkZ : Kp (fun j => j = gf) wY wZ := (Kp.of_grown hgZ).mono (fun j _ e => (Option.some.inj e).symm)
      have GZ := hid ((GY.out.over (g := gf) rfl hbk (Nat.le_trans G1.out.size HGB.out) hkZ (YG.out _ _ gf HGB.out hkZ GY.out.ex)).moved av0 (fun x hx => hx.elim))
      clear hbk hkZ hgZ hc
      go_wp2_with fail
      go_ret
      exact ⟨by simp, tl, lv', mv', tv, wv, cv, rv, cc, _, _, GZ.out, by have := HTL.out; omega, HL.out.next, mdO_le HMD.out k _ (by cases hd : D k <;> simp [mdR, mdN])⟩
  | true =>
    go_wp2_with fail
    refine LT.out.mono ?_
    rintro e w2 ⟨fu, rfl, ho, hb⟩
    rcases ho.shape with ⟨_, h0⟩ | ⟨gf, cf, rfl, hgb, hgl, hnc, hcm, _, _⟩
    · omega
    have G2 := hid ((G1.out.moved (av1 gf) (fun x hx => .inr (by have e : x = gf := hx; omega))).below hb)
    have O2 := hid ho
    have HGB := hid hgb
    have X3 := hid (X2.out.below hb)
    have BK2 : Hid (∃ cs, Blk w2 gf cs 5) := by
      obtain ⟨c, hc⟩ := own8_type ho (show (Value.slice (some ⟨gf, 0, none⟩) (dn + 6) cf).ownBlock = some gf from rfl)
      exact ⟨c.toList, by show w2.heap[gf]? = _; rw [hc]⟩
    have YG := hid G1.out.yg
    have l1 : (dn : Int) ≤ cf := by omega
    clear hb ho hgb o1 o3 o4
    have o1 := X3.out.cell 1 _ rfl
    have o2 := X3.out.cell 2 _ rfl
    have o3 := X3.out.cell 3 _ rfl
    have cp := G2.out.here.cell k _ (pairM_c _ _ _ _ _ _ k hk2)
    have cq := G2.out.here.cell (2 + k) _ (pairM_r _ _ _ _ _ _ k hk2)
    have RP := hid ((G2.out.below (below_drewN w2 1)).resetP k hk2)
    go_wp2_with fail
    go_region_held3 (fun W => W.cell? ⟨xb, k, none⟩ = some (cv k) ∧ W.cell? ⟨xb, 2 + k, none⟩ = some (rv k)) (go_keep) (first | (go_at_call 25; refine RP.out.mono ?_; rintro e w3 ⟨rfl, ⟨lv', hps⟩, hkp⟩; have G3 := hid hps; have O3 := hid (hkp.own8 (own_below O2.out (below_drewN w2 1))); have X4 := hid (hkp _ _ _ (X3.out.below (below_drewN w2 1)) (by decide) (by decide) (by decide) (by decide)); have y1 := hps.here.cell k _ (pairM_c _ _ _ _ _ _ k hk2); have y2 := hps.here.cell (2 + k) _ (pairM_r _ _ _ _ _ _ k hk2); have y5 := X4.out.cell 3 _ rfl; clear hps hkp) | (go_at_call 26; refine (G3.out.resetQ k hk2).mono ?_; rintro e w4 ⟨rfl, ⟨mv', hps⟩, hkp⟩; have G9 := hid hps; have O9 := hid (hkp.own8 O3.out); have X9 := hid (hkp _ _ _ X4.out (by decide) (by decide) (by decide)); have y3 := hps.here.cell k _ (pairM_c _ _ _ _ _ _ k hk2); have y4 := hps.here.cell (2 + k) _ (pairM_r _ _ _ _ _ _ k hk2); have y6 := X9.out.cell 3 _ rfl; clear hps hkp))
    all_goals
      have o3 := X9.out.cell 3 _ rfl
      go_wp2_with fail
      refine (kept17 _ _ dn (cb fd) _ O9.out.reads (HDR.out _ G9.out.bel) (by omega)).mono ?_
      rintro e wY ⟨rfl, hbY⟩
      have GY := hid (G9.out.below hbY)
      have OY := hid (own_below O9.out hbY)
      clear hbY
      go_wp2_with fail
      refine (over18 gf cf (dn + 6) _ _ wY OY.out (by omega)).mono ?_
      rintro e wZ ⟨rfl, -, hgZ⟩
      obtain ⟨c, hc⟩ := own8_type OY.out (show (Value.slice (some ⟨gf, 0, none⟩) (dn + 6) cf).ownBlock = some gf from rfl)
      have hbk : Blk wY gf c.toList 5 := by show wY.heap[gf]? = _; rw [hc]
      have hkZ : Kp (fun j => j = gf) wY wZ := (Kp.of_grown hgZ).mono (fun j _ e => (Option.some.inj e).symm)
      have GZ := hid ((GY.out.over (g := gf) rfl hbk (Nat.le_trans G1.out.size HGB.out) hkZ (YG.out _ _ gf HGB.out hkZ GY.out.ex)).moved av0 (fun x hx => hx.elim))
      clear hbk hkZ hgZ hc
      go_wp2_with fail
      go_ret
      exact ⟨by simp, tl, lv', mv', tv, wv, cv, rv, cc, _, _, GZ.out, by have := HTL.out; omega, HL.out.next, mdO_le HMD.out k _ (by cases hd : D k <;> simp [mdR, mdN])⟩
end
end Go.Proofs.YtbgdjjfonmoemaaDoor.Vm
namespace Go.Proofs.YtbgdjjfonmoemaaDoor.Vm
open Go.ChangeShapes Go.WideShapes Go.ChangeAt Go.RowKit
open Go.Proofs.YtbgdjjfonmoemaaDoor.By Go.Proofs.YtbgdjjfonmoemaaDoor.Gf Go.Proofs.YtbgdjjfonmoemaaDoor.Ae
open Go.Proofs.YtbgdjjfonmoemaaDoor.Kc (own_kept own_mono own8_type)
section
variable {w0 W : World} {xb lb mb : Nat}
set_option maxRecDepth 4000 in
set_option maxHeartbeats 8000000 in
theorem act3 (T : Nat) (hT : T ≤ 100) (h : SCm w0 xb lb mb T W) (on : Int) (ka da : Option Addr) (kn kc dn dc : Nat) (mute : Bool) (fk fd : Nat → Nat) (hkr : ∀ V, Below w0.heap.size w0 V → By.RB V (.slice ka kn kc) kn (cb fk)) (hdr : ∀ V, Below w0.heap.size w0 V → By.RB V (.slice da dn dc) dn (cb fd)) (hkn : kn ≤ 140737488351232) (hdn : dn ≤ 4000) :
    Calls Tryd.prog 8 #[.pointer (some ⟨xb, 0, none⟩), .agg #[.int .i64 on, .int .i64 3, .slice ka kn kc, .slice da dn dc, .bool mute]] W fun e w' => e = .returned (.bool true) ∧ SCm w0 xb lb mb (T + 1) w' := by
  obtain ⟨tl, lv, mv, tv, wv, cv, rv, cc, D, L, h, htl, hLt, hmd⟩ := h
  have HX := hid (Blk.new W [.int .i64 on, .int .i64 3, .slice ka kn kc, .slice da dn dc, .bool mute] 40)
  have HB := hid (below_alloc W (.cells #[.int .i64 on, .int .i64 3, .slice ka kn kc, .slice da dn dc, .bool mute] 40))
  have G0 := hid (h.below HB.out)
  have HL := hid hLt
  have HMD := hid hmd
  have HTL := hid htl
  have HDR := hid hdr
  have HKR := hid hkr
  clear h hLt hmd htl hdr hkr
  have _ := hT
  have _ := hkn
  have _ := HKR
  go_enter Tryd.func8, Tryd.ntmps8
  go_wp2_with fail
  obtain ⟨W1, hW1⟩ : ∃ x, W.alloc (.cells #[.int .i64 on, .int .i64 3, .slice ka kn kc, .slice da dn dc, .bool mute] 40) = x := ⟨_, rfl⟩
  obtain ⟨ob, hob⟩ : ∃ x, W.heap.size = x := ⟨_, rfl⟩
  have X1 : Hid (Blk W1 ob [.int .i64 on, .int .i64 3, .slice ka kn kc, .slice da dn dc, .bool mute] 40) := by rw [← hW1, ← hob]; exact HX.out
  rw [hW1] at G0
  rw [hW1]
  rw [hob]
  clear hW1 HX HB
  refine (pickN on 2 (by omega) (by omega) W1).mono ?_
  rintro e w1 ⟨⟨k, hk2, rfl⟩, hw1⟩
  subst w1
  have hk2' : (k : Int) < 2 := by omega
  have o1 := X1.out.cell 1 _ rfl
  have o3 := X1.out.cell 3 _ rfl
  have o4 := X1.out.cell 4 _ rfl
  have cl := G0.out.here.cell 4 _ rfl
  have cm := G0.out.here.cell 5 _ rfl
  go_wp2_with fail
  go_region_held3 (fun W => W.cell? ⟨xb, 4, none⟩ = some (.pointer (some ⟨lb, 0, none⟩)) ∧ W.cell? ⟨xb, 5, none⟩ = some (.pointer (some ⟨mb, 0, none⟩))) (go_keep) (fail)
  have G1 := hid (G0.out.below (W' := W1.drew) (below_drewN W1 1))
  have X2 := hid (show Blk W1.drew ob _ 40 from X1.out.below (below_drewN W1 1))
  obtain ⟨V1, hV1⟩ : ∃ x, W1.drew = x := ⟨_, rfl⟩
  rw [hV1] at G1 X2
  rw [hV1]
  clear hV1 G0 X1 cl cm o1 o3 o4
  have o1 := X2.out.cell 1 _ rfl
  have o3 := X2.out.cell 3 _ rfl
  have o4 := X2.out.cell 4 _ rfl
  have LT := hid (lent14 _ dn (cb fd) V1 (HDR.out _ G1.out.bel) (by omega))
  cases mute with
  | false =>
    go_wp2_with fail
    refine LT.out.mono ?_
    rintro e w2 ⟨fu, rfl, ho, hb⟩
    rcases ho.shape with ⟨_, h0⟩ | ⟨gf, cf, rfl, hgb, hgl, hnc, hcm, _, _⟩
    · omega
    have G2 := hid ((G1.out.moved (av1 gf) (fun x hx => .inr (by have e : x = gf := hx; omega))).below hb)
    have O2 := hid ho
    have HGB := hid hgb
    have X3 := hid (X2.out.below hb)
    have BK2 : Hid (∃ cs, Blk w2 gf cs 5) := by
      obtain ⟨c, hc⟩ := own8_type ho (show (Value.slice (some ⟨gf, 0, none⟩) (dn + 6) cf).ownBlock = some gf from rfl)
      exact ⟨c.toList, by show w2.heap[gf]? = _; rw [hc]⟩
    have YG := hid G1.out.yg
    have l1 : (dn : Int) ≤ cf := by omega
    clear hb ho hgb o1 o3 o4
    have o1 := X3.out.cell 1 _ rfl
    have o2 := X3.out.cell 2 _ rfl
    have o3 := X3.out.cell 3 _ rfl
    have cp := G2.out.here.cell k _ (pairM_c _ _ _ _ _ _ k hk2)
    have cq := G2.out.here.cell (2 + k) _ (pairM_r _ _ _ _ _ _ k hk2)
    have CPC := hid (G2.out.cloneP k hk2)
    go_wp2_with fail
    refine CPC.out.mono ?_
    rintro e w3 ⟨v1, c1, rfl, hn1, hb3⟩
    have G3 := hid (G2.out.below hb3)
    have N1 := hid hn1
    have O3 := hid (own_below O2.out hb3)
    have X4 := hid (X3.out.below hb3)
    have CQ := hid (G3.out.cloneQ k hk2)
    clear hn1 hb3 CPC cp cq o1 o2 o3
    have cq := G3.out.here.cell (2 + k) _ (pairM_r _ _ _ _ _ _ k hk2)
    go_wp2_with fail
    refine CQ.out.mono ?_
    rintro e w4 ⟨v2, rfl, hn2, hb4⟩
    have G4 := hid (G3.out.below hb4)
    have O5 := hid (own_below O3.out hb4)
    have X5 := hid (X4.out.below hb4)
    obtain ⟨m, hm⟩ : ∃ m, 1 - k = m := ⟨_, rfl⟩
    have hm1 : (1 : Int) - (k : Int) = (m : Int) := by omega
    have hm2 : m < 2 := by omega
    have hm3 : (m : Int) < 2 := by omega
    have hmk : 1 - m = k := by omega
    rcases hd : D k with _ | ⟨kk, key, nn, mm⟩
    · rw [hd] at N1 hn2
      obtain rfl : v1 = .pointer none := N1.out
      obtain rfl : v2 = .pointer none := hn2
      have G9 := hid G4.out
      have O9 := hid O5.out
      have X9 := hid X5.out
      clear hb4 CQ cq N1
      simp only [mdC]
      all_goals
        have o3 := X9.out.cell 3 _ rfl
        go_wp2_with fail
        refine (kept17 _ _ dn (cb fd) _ O9.out.reads (HDR.out _ G9.out.bel) (by omega)).mono ?_
        rintro e wY ⟨rfl, hbY⟩
        have GY := hid (G9.out.below hbY)
        have OY := hid (own_below O9.out hbY)
        clear hbY
        go_wp2_with fail
        refine (over18 gf cf (dn + 6) _ _ wY OY.out (by omega)).mono ?_
        rintro e wZ ⟨rfl, -, hgZ⟩
        obtain ⟨c, hc⟩ := own8_type OY.out (show (Value.slice (some ⟨gf, 0, none⟩) (dn + 6) cf).ownBlock = some gf from rfl)
        have hbk : Blk wY gf c.toList 5 := by show wY.heap[gf]? = _; rw [hc]
        have hkZ : Kp (fun j => j = gf) wY wZ := (Kp.of_grown hgZ).mono (fun j _ e => (Option.some.inj e).symm)
        have GZ := hid ((GY.out.over (g := gf) rfl hbk (Nat.le_trans G1.out.size HGB.out) hkZ (YG.out _ _ gf HGB.out hkZ GY.out.ex)).moved av0 (fun x hx => hx.elim))
        clear hbk hkZ hgZ hc
        go_wp2_with fail
        go_ret
        exact ⟨by simp, tl, lv, mv, tv, wv, cv, rv, cc, D, L, GZ.out, by have := HTL.out; omega, HL.out.next, md_next HMD.out⟩
    · rw [hd] at N1 hn2
      obtain ⟨g1, hv1, hg1, hc1, hmc⟩ := N1.out
      subst hv1
      obtain ⟨g2, kv2, mv2, hv2, hg2, hrm, ha1, ha2⟩ := hn2
      subst hv2
      have P4 := hid (show PMm w4 (.pointer (some ⟨g1, 0, none⟩)) c1 (some (kk, key, nn, mm)) from ⟨g1, rfl, hmc.below hb4⟩)
      have Q4 := hid (show QMm (av1 gf) w4 (.pointer (some ⟨g2, 0, none⟩)) (some (kk, key, nn, mm)) from ⟨g2, kv2, mv2, rfl, hrm, ha1, ha2⟩)
      have F1 := hid (show w0.heap.size ≤ g1 ∧ cv (1 - m) ≠ .pointer (some ⟨g1, 0, none⟩) from ⟨Nat.le_trans G2.out.size hg1, fun e' => by
        obtain ⟨cs, hc⟩ := (G2.out.pc (1 - m) (by omega)).blk e'
        have := hc.lt
        omega⟩)
      have FC := hid (show w0.heap.size ≤ c1 ∧ (D (1 - m) ≠ none → cc (1 - m) ≠ c1) from ⟨Nat.le_trans G2.out.size hc1, fun hdd e' => by
        obtain ⟨cs, hc⟩ := (G2.out.pc (1 - m) (by omega)).cblk hdd
        have := hc.lt
        omega⟩)
      have F2 := hid (show w0.heap.size ≤ g2 ∧ rv (1 - m) ≠ .pointer (some ⟨g2, 0, none⟩) from ⟨Nat.le_trans G3.out.size hg2, fun e' => by
        obtain ⟨cs, hc⟩ := (G3.out.qc (1 - m) (by omega)).blk e'
        have := hc.lt
        omega⟩)
      have f1 := G4.out.here.frozen m
      have f2 := G4.out.here.frozen (2 + m)
      have x1 := G4.out.here.cell m _ (pairM_c _ _ _ _ _ _ m hm2)
      have x2 := G4.out.here.cell (2 + m) _ (pairM_r _ _ _ _ _ _ m hm2)
      have G9 := hid (G4.out.slot m hm2 (.pointer (some ⟨g1, 0, none⟩)) (.pointer (some ⟨g2, 0, none⟩)) c1 (some (kk, key, nn, mm)) P4.out Q4.out (fun g e => by simp at e; subst e; exact F1.out) (fun _ => FC.out) (fun g e => by simp at e; subst e; exact F2.out))
      have kx : Kp (fun j => j = xb) w4 ((w4.setCell ⟨xb, m, none⟩ (.pointer (some ⟨g1, 0, none⟩))).setCell ⟨xb, 2 + m, none⟩ (.pointer (some ⟨g2, 0, none⟩))) := (Kp.setCell xb m _).trans (Kp.setCell xb (2 + m) _) (fun _ _ e => e)
      have O9 := hid (own_kept O5.out kx (fun x hx e => by have e' : x = xb := e; subst e'; exact own_ne8 O5.out G4.out.here (by decide) hx))
      have X9 := hid (X5.out.kept kx (fun e => by have e' : ob = xb := e; subst e'; exact absurd (blk_ty X5.out G4.out.here) (by decide)))
      obtain ⟨WS, hWS⟩ : ∃ x, (w4.setCell ⟨xb, m, none⟩ (.pointer (some ⟨g1, 0, none⟩))).setCell ⟨xb, 2 + m, none⟩ (.pointer (some ⟨g2, 0, none⟩)) = x := ⟨_, rfl⟩
      rw [hWS] at G9 O9 X9
      clear hb4 CQ cq N1 kx hmc hg1 hc1 hg2 hrm ha1 ha2
      simp only [mdC]
      all_goals
        have o3 := X9.out.cell 3 _ rfl
        go_wp2_with fail
        refine (kept17 _ _ dn (cb fd) _ O9.out.reads (HDR.out _ G9.out.bel) (by omega)).mono ?_
        rintro e wY ⟨rfl, hbY⟩
        have GY := hid (G9.out.below hbY)
        have OY := hid (own_below O9.out hbY)
        clear hbY
        go_wp2_with fail
        refine (over18 gf cf (dn + 6) _ _ wY OY.out (by omega)).mono ?_
        rintro e wZ ⟨rfl, -, hgZ⟩
        obtain ⟨c, hc⟩ := own8_type OY.out (show (Value.slice (some ⟨gf, 0, none⟩) (dn + 6) cf).ownBlock = some gf from rfl)
        have hbk : Blk wY gf c.toList 5 := by show wY.heap[gf]? = _; rw [hc]
        have hkZ : Kp (fun j => j = gf) wY wZ := (Kp.of_grown hgZ).mono (fun j _ e => (Option.some.inj e).symm)
        have GZ := hid ((GY.out.over (g := gf) rfl hbk (Nat.le_trans G1.out.size HGB.out) hkZ (YG.out _ _ gf HGB.out hkZ GY.out.ex)).moved av0 (fun x hx => hx.elim))
        clear hbk hkZ hgZ hc
        go_wp2_with fail
        go_ret
        exact ⟨by simp, tl, lv, mv, tv, wv, _, _, _, _, L, GZ.out, by have := HTL.out; omega, HL.out.next, mdO_le HMD.out m _ (by have := HMD.out k hk2; rw [hd] at this; exact this)⟩
  | true =>
    go_wp2_with fail
    refine LT.out.mono ?_
    rintro e w2 ⟨fu, rfl, ho, hb⟩
    rcases ho.shape with ⟨_, h0⟩ | ⟨gf, cf, rfl, hgb, hgl, hnc, hcm, _, _⟩
    · omega
    have G2 := hid ((G1.out.moved (av1 gf) (fun x hx => .inr (by have e : x = gf := hx; omega))).below hb)
    have O2 := hid ho
    have HGB := hid hgb
    have X3 := hid (X2.out.below hb)
    have BK2 : Hid (∃ cs, Blk w2 gf cs 5) := by
      obtain ⟨c, hc⟩ := own8_type ho (show (Value.slice (some ⟨gf, 0, none⟩) (dn + 6) cf).ownBlock = some gf from rfl)
      exact ⟨c.toList, by show w2.heap[gf]? = _; rw [hc]⟩
    have YG := hid G1.out.yg
    have l1 : (dn : Int) ≤ cf := by omega
    clear hb ho hgb o1 o3 o4
    have o1 := X3.out.cell 1 _ rfl
    have o2 := X3.out.cell 2 _ rfl
    have o3 := X3.out.cell 3 _ rfl
    have cp := G2.out.here.cell k _ (pairM_c _ _ _ _ _ _ k hk2)
    have cq := G2.out.here.cell (2 + k) _ (pairM_r _ _ _ _ _ _ k hk2)
    have CPC := hid (G2.out.cloneP k hk2)
    go_wp2_with fail
    refine CPC.out.mono ?_
    rintro e w3 ⟨v1, c1, rfl, hn1, hb3⟩
    have G3 := hid (G2.out.below hb3)
    have N1 := hid hn1
    have O3 := hid (own_below O2.out hb3)
    have X4 := hid (X3.out.below hb3)
    have CQ := hid (G3.out.cloneQ k hk2)
    clear hn1 hb3 CPC cp cq o1 o2 o3
    have cq := G3.out.here.cell (2 + k) _ (pairM_r _ _ _ _ _ _ k hk2)
    go_wp2_with fail
    refine CQ.out.mono ?_
    rintro e w4 ⟨v2, rfl, hn2, hb4⟩
    have G4 := hid (G3.out.below hb4)
    have O5 := hid (own_below O3.out hb4)
    have X5 := hid (X4.out.below hb4)
    obtain ⟨m, hm⟩ : ∃ m, 1 - k = m := ⟨_, rfl⟩
    have hm1 : (1 : Int) - (k : Int) = (m : Int) := by omega
    have hm2 : m < 2 := by omega
    have hm3 : (m : Int) < 2 := by omega
    have hmk : 1 - m = k := by omega
    rcases hd : D k with _ | ⟨kk, key, nn, mm⟩
    · rw [hd] at N1 hn2
      obtain rfl : v1 = .pointer none := N1.out
      obtain rfl : v2 = .pointer none := hn2
      have G9 := hid G4.out
      have O9 := hid O5.out
      have X9 := hid X5.out
      clear hb4 CQ cq N1
      simp only [mdC]
      all_goals
        have o3 := X9.out.cell 3 _ rfl
        go_wp2_with fail
        refine (kept17 _ _ dn (cb fd) _ O9.out.reads (HDR.out _ G9.out.bel) (by omega)).mono ?_
        rintro e wY ⟨rfl, hbY⟩
        have GY := hid (G9.out.below hbY)
        have OY := hid (own_below O9.out hbY)
        clear hbY
        go_wp2_with fail
        refine (over18 gf cf (dn + 6) _ _ wY OY.out (by omega)).mono ?_
        rintro e wZ ⟨rfl, -, hgZ⟩
        obtain ⟨c, hc⟩ := own8_type OY.out (show (Value.slice (some ⟨gf, 0, none⟩) (dn + 6) cf).ownBlock = some gf from rfl)
        have hbk : Blk wY gf c.toList 5 := by show wY.heap[gf]? = _; rw [hc]
        have hkZ : Kp (fun j => j = gf) wY wZ := (Kp.of_grown hgZ).mono (fun j _ e => (Option.some.inj e).symm)
        have GZ := hid ((GY.out.over (g := gf) rfl hbk (Nat.le_trans G1.out.size HGB.out) hkZ (YG.out _ _ gf HGB.out hkZ GY.out.ex)).moved av0 (fun x hx => hx.elim))
        clear hbk hkZ hgZ hc
        go_wp2_with fail
        go_ret
        exact ⟨by simp, tl, lv, mv, tv, wv, cv, rv, cc, D, L, GZ.out, by have := HTL.out; omega, HL.out.next, md_next HMD.out⟩
    · rw [hd] at N1 hn2
      obtain ⟨g1, hv1, hg1, hc1, hmc⟩ := N1.out
      subst hv1
      obtain ⟨g2, kv2, mv2, hv2, hg2, hrm, ha1, ha2⟩ := hn2
      subst hv2
      have P4 := hid (show PMm w4 (.pointer (some ⟨g1, 0, none⟩)) c1 (some (kk, key, nn, mm)) from ⟨g1, rfl, hmc.below hb4⟩)
      have Q4 := hid (show QMm (av1 gf) w4 (.pointer (some ⟨g2, 0, none⟩)) (some (kk, key, nn, mm)) from ⟨g2, kv2, mv2, rfl, hrm, ha1, ha2⟩)
      have F1 := hid (show w0.heap.size ≤ g1 ∧ cv (1 - m) ≠ .pointer (some ⟨g1, 0, none⟩) from ⟨Nat.le_trans G2.out.size hg1, fun e' => by
        obtain ⟨cs, hc⟩ := (G2.out.pc (1 - m) (by omega)).blk e'
        have := hc.lt
        omega⟩)
      have FC := hid (show w0.heap.size ≤ c1 ∧ (D (1 - m) ≠ none → cc (1 - m) ≠ c1) from ⟨Nat.le_trans G2.out.size hc1, fun hdd e' => by
        obtain ⟨cs, hc⟩ := (G2.out.pc (1 - m) (by omega)).cblk hdd
        have := hc.lt
        omega⟩)
      have F2 := hid (show w0.heap.size ≤ g2 ∧ rv (1 - m) ≠ .pointer (some ⟨g2, 0, none⟩) from ⟨Nat.le_trans G3.out.size hg2, fun e' => by
        obtain ⟨cs, hc⟩ := (G3.out.qc (1 - m) (by omega)).blk e'
        have := hc.lt
        omega⟩)
      have f1 := G4.out.here.frozen m
      have f2 := G4.out.here.frozen (2 + m)
      have x1 := G4.out.here.cell m _ (pairM_c _ _ _ _ _ _ m hm2)
      have x2 := G4.out.here.cell (2 + m) _ (pairM_r _ _ _ _ _ _ m hm2)
      have G9 := hid (G4.out.slot m hm2 (.pointer (some ⟨g1, 0, none⟩)) (.pointer (some ⟨g2, 0, none⟩)) c1 (some (kk, key, nn, mm)) P4.out Q4.out (fun g e => by simp at e; subst e; exact F1.out) (fun _ => FC.out) (fun g e => by simp at e; subst e; exact F2.out))
      have kx : Kp (fun j => j = xb) w4 ((w4.setCell ⟨xb, m, none⟩ (.pointer (some ⟨g1, 0, none⟩))).setCell ⟨xb, 2 + m, none⟩ (.pointer (some ⟨g2, 0, none⟩))) := (Kp.setCell xb m _).trans (Kp.setCell xb (2 + m) _) (fun _ _ e => e)
      have O9 := hid (own_kept O5.out kx (fun x hx e => by have e' : x = xb := e; subst e'; exact own_ne8 O5.out G4.out.here (by decide) hx))
      have X9 := hid (X5.out.kept kx (fun e => by have e' : ob = xb := e; subst e'; exact absurd (blk_ty X5.out G4.out.here) (by decide)))
      obtain ⟨WS, hWS⟩ : ∃ x, (w4.setCell ⟨xb, m, none⟩ (.pointer (some ⟨g1, 0, none⟩))).setCell ⟨xb, 2 + m, none⟩ (.pointer (some ⟨g2, 0, none⟩)) = x := ⟨_, rfl⟩
      rw [hWS] at G9 O9 X9
      clear hb4 CQ cq N1 kx hmc hg1 hc1 hg2 hrm ha1 ha2
      simp only [mdC]
      all_goals
        have o3 := X9.out.cell 3 _ rfl
        go_wp2_with fail
        refine (kept17 _ _ dn (cb fd) _ O9.out.reads (HDR.out _ G9.out.bel) (by omega)).mono ?_
        rintro e wY ⟨rfl, hbY⟩
        have GY := hid (G9.out.below hbY)
        have OY := hid (own_below O9.out hbY)
        clear hbY
        go_wp2_with fail
        refine (over18 gf cf (dn + 6) _ _ wY OY.out (by omega)).mono ?_
        rintro e wZ ⟨rfl, -, hgZ⟩
        obtain ⟨c, hc⟩ := own8_type OY.out (show (Value.slice (some ⟨gf, 0, none⟩) (dn + 6) cf).ownBlock = some gf from rfl)
        have hbk : Blk wY gf c.toList 5 := by show wY.heap[gf]? = _; rw [hc]
        have hkZ : Kp (fun j => j = gf) wY wZ := (Kp.of_grown hgZ).mono (fun j _ e => (Option.some.inj e).symm)
        have GZ := hid ((GY.out.over (g := gf) rfl hbk (Nat.le_trans G1.out.size HGB.out) hkZ (YG.out _ _ gf HGB.out hkZ GY.out.ex)).moved av0 (fun x hx => hx.elim))
        clear hbk hkZ hgZ hc
        go_wp2_with fail
        go_ret
        exact ⟨by simp, tl, lv, mv, tv, wv, _, _, _, _, L, GZ.out, by have := HTL.out; omega, HL.out.next, mdO_le HMD.out m _ (by have := HMD.out k hk2; rw [hd] at this; exact this)⟩
end
end Go.Proofs.YtbgdjjfonmoemaaDoor.Vm
namespace Go.Proofs.YtbgdjjfonmoemaaDoor.Vm
open Go.ChangeShapes Go.WideShapes Go.ChangeAt Go.RowKit
open Go.Proofs.YtbgdjjfonmoemaaDoor.By Go.Proofs.YtbgdjjfonmoemaaDoor.Gf Go.Proofs.YtbgdjjfonmoemaaDoor.Ae
open Go.Proofs.YtbgdjjfonmoemaaDoor.Kc (own_kept own_mono own8_type)
section
variable {w0 W : World} {xb lb mb : Nat}
set_option maxRecDepth 4000 in
set_option maxHeartbeats 8000000 in
theorem act4 (T : Nat) (hT : T ≤ 100) (h : SCm w0 xb lb mb T W) (on : Int) (ka da : Option Addr) (kn kc dn dc : Nat) (mute : Bool) (fk fd : Nat → Nat) (hkr : ∀ V, Below w0.heap.size w0 V → By.RB V (.slice ka kn kc) kn (cb fk)) (hdr : ∀ V, Below w0.heap.size w0 V → By.RB V (.slice da dn dc) dn (cb fd)) (hkn : kn ≤ 140737488351232) (hdn : dn ≤ 4000) :
    Calls Tryd.prog 8 #[.pointer (some ⟨xb, 0, none⟩), .agg #[.int .i64 on, .int .i64 4, .slice ka kn kc, .slice da dn dc, .bool mute]] W fun e w' => e = .returned (.bool true) ∧ SCm w0 xb lb mb (T + 1) w' := by
  obtain ⟨tl, lv, mv, tv, wv, cv, rv, cc, D, L, h, htl, hLt, hmd⟩ := h
  have HX := hid (Blk.new W [.int .i64 on, .int .i64 4, .slice ka kn kc, .slice da dn dc, .bool mute] 40)
  have HB := hid (below_alloc W (.cells #[.int .i64 on, .int .i64 4, .slice ka kn kc, .slice da dn dc, .bool mute] 40))
  have G0 := hid (h.below HB.out)
  have HL := hid hLt
  have HMD := hid hmd
  have HTL := hid htl
  have HDR := hid hdr
  have HKR := hid hkr
  clear h hLt hmd htl hdr hkr
  have _ := hT
  have _ := hkn
  have _ := HKR
  go_enter Tryd.func8, Tryd.ntmps8
  go_wp2_with fail
  obtain ⟨W1, hW1⟩ : ∃ x, W.alloc (.cells #[.int .i64 on, .int .i64 4, .slice ka kn kc, .slice da dn dc, .bool mute] 40) = x := ⟨_, rfl⟩
  obtain ⟨ob, hob⟩ : ∃ x, W.heap.size = x := ⟨_, rfl⟩
  have X1 : Hid (Blk W1 ob [.int .i64 on, .int .i64 4, .slice ka kn kc, .slice da dn dc, .bool mute] 40) := by rw [← hW1, ← hob]; exact HX.out
  rw [hW1] at G0
  rw [hW1]
  rw [hob]
  clear hW1 HX HB
  refine (pickN on 2 (by omega) (by omega) W1).mono ?_
  rintro e w1 ⟨⟨k, hk2, rfl⟩, hw1⟩
  subst w1
  have hk2' : (k : Int) < 2 := by omega
  have o1 := X1.out.cell 1 _ rfl
  have o3 := X1.out.cell 3 _ rfl
  have o4 := X1.out.cell 4 _ rfl
  have cl := G0.out.here.cell 4 _ rfl
  have cm := G0.out.here.cell 5 _ rfl
  go_wp2_with fail
  go_region_held3 (fun W => W.cell? ⟨xb, 4, none⟩ = some (.pointer (some ⟨lb, 0, none⟩)) ∧ W.cell? ⟨xb, 5, none⟩ = some (.pointer (some ⟨mb, 0, none⟩))) (go_keep) (fail)
  have G1 := hid (G0.out.below (W' := W1.drew) (below_drewN W1 1))
  have X2 := hid (show Blk W1.drew ob _ 40 from X1.out.below (below_drewN W1 1))
  obtain ⟨V1, hV1⟩ : ∃ x, W1.drew = x := ⟨_, rfl⟩
  rw [hV1] at G1 X2
  rw [hV1]
  clear hV1 G0 X1 cl cm o1 o3 o4
  have o1 := X2.out.cell 1 _ rfl
  have o3 := X2.out.cell 3 _ rfl
  have o4 := X2.out.cell 4 _ rfl
  have LT := hid (lent14 _ dn (cb fd) V1 (HDR.out _ G1.out.bel) (by omega))
  cases mute with
  | false =>
    go_wp2_with fail
    refine LT.out.mono ?_
    rintro e w2 ⟨fu, rfl, ho, hb⟩
    rcases ho.shape with ⟨_, h0⟩ | ⟨gf, cf, rfl, hgb, hgl, hnc, hcm, _, _⟩
    · omega
    have G2 := hid ((G1.out.moved (av1 gf) (fun x hx => .inr (by have e : x = gf := hx; omega))).below hb)
    have O2 := hid ho
    have HGB := hid hgb
    have X3 := hid (X2.out.below hb)
    have BK2 : Hid (∃ cs, Blk w2 gf cs 5) := by
      obtain ⟨c, hc⟩ := own8_type ho (show (Value.slice (some ⟨gf, 0, none⟩) (dn + 6) cf).ownBlock = some gf from rfl)
      exact ⟨c.toList, by show w2.heap[gf]? = _; rw [hc]⟩
    have YG := hid G1.out.yg
    have l1 : (dn : Int) ≤ cf := by omega
    clear hb ho hgb o1 o3 o4
    have o1 := X3.out.cell 1 _ rfl
    have o2 := X3.out.cell 2 _ rfl
    have o3 := X3.out.cell 3 _ rfl
    have cp := G2.out.here.cell k _ (pairM_c _ _ _ _ _ _ k hk2)
    have cq := G2.out.here.cell (2 + k) _ (pairM_r _ _ _ _ _ _ k hk2)
    have RP := hid ((G2.out.below (below_drewN w2 1)).wipeP k hk2 false (HL.out.room (by omega)).1)
    go_wp2_with fail
    go_region_held3 (fun W => W.cell? ⟨xb, k, none⟩ = some (cv k) ∧ W.cell? ⟨xb, 2 + k, none⟩ = some (rv k)) (go_keep) (first | (go_at_call 29; refine RP.out.mono ?_; rintro e w3 ⟨rfl, ⟨lv', hps⟩, hkp⟩; have G3 := hid hps; have O3 := hid (hkp.own8 (own_below O2.out (below_drewN w2 1))); have X4 := hid (hkp _ _ _ (X3.out.below (below_drewN w2 1)) (by decide) (by decide) (by decide) (by decide)); have y1 := hps.here.cell k _ (pairM_c _ _ _ _ _ _ k hk2); have y2 := hps.here.cell (2 + k) _ (pairM_r _ _ _ _ _ _ k hk2); have y5 := X4.out.cell 3 _ rfl; clear hps hkp) | (go_at_call 30; refine (G3.out.wipeQ k hk2 false (by have := HMD.out k hk2; omega) (HL.out.room (by omega)).1).mono ?_; rintro e w4 ⟨rfl, ⟨mv', hps⟩, hkp⟩; have G9 := hid hps; have O9 := hid (hkp.own8 O3.out); have X9 := hid (hkp _ _ _ X4.out (by decide) (by decide) (by decide)); have y3 := hps.here.cell k _ (pairM_c _ _ _ _ _ _ k hk2); have y4 := hps.here.cell (2 + k) _ (pairM_r _ _ _ _ _ _ k hk2); have y6 := X9.out.cell 3 _ rfl; clear hps hkp))
    all_goals
      have o3 := X9.out.cell 3 _ rfl
      go_wp2_with fail
      refine (kept17 _ _ dn (cb fd) _ O9.out.reads (HDR.out _ G9.out.bel) (by omega)).mono ?_
      rintro e wY ⟨rfl, hbY⟩
      have GY := hid (G9.out.below hbY)
      have OY := hid (own_below O9.out hbY)
      clear hbY
      go_wp2_with fail
      refine (over18 gf cf (dn + 6) _ _ wY OY.out (by omega)).mono ?_
      rintro e wZ ⟨rfl, -, hgZ⟩
      obtain ⟨c, hc⟩ := own8_type OY.out (show (Value.slice (some ⟨gf, 0, none⟩) (dn + 6) cf).ownBlock = some gf from rfl)
      have hbk : Blk wY gf c.toList 5 := by show wY.heap[gf]? = _; rw [hc]
      have hkZ : Kp (fun j => j = gf) wY wZ := (Kp.of_grown hgZ).mono (fun j _ e => (Option.some.inj e).symm)
      have GZ := hid ((GY.out.over (g := gf) rfl hbk (Nat.le_trans G1.out.size HGB.out) hkZ (YG.out _ _ gf HGB.out hkZ GY.out.ex)).moved av0 (fun x hx => hx.elim))
      clear hbk hkZ hgZ hc
      go_wp2_with fail
      go_ret
      exact ⟨by simp, tl, lv', mv', tv, wv, cv, rv, cc, _, _, GZ.out, by have := HTL.out; omega, Lt.sel false HL.out (lt_wi HL.out hT _), mdO_le HMD.out k none (Nat.zero_le _)⟩
  | true =>
    go_wp2_with fail
    refine LT.out.mono ?_
    rintro e w2 ⟨fu, rfl, ho, hb⟩
    rcases ho.shape with ⟨_, h0⟩ | ⟨gf, cf, rfl, hgb, hgl, hnc, hcm, _, _⟩
    · omega
    have G2 := hid ((G1.out.moved (av1 gf) (fun x hx => .inr (by have e : x = gf := hx; omega))).below hb)
    have O2 := hid ho
    have HGB := hid hgb
    have X3 := hid (X2.out.below hb)
    have BK2 : Hid (∃ cs, Blk w2 gf cs 5) := by
      obtain ⟨c, hc⟩ := own8_type ho (show (Value.slice (some ⟨gf, 0, none⟩) (dn + 6) cf).ownBlock = some gf from rfl)
      exact ⟨c.toList, by show w2.heap[gf]? = _; rw [hc]⟩
    have YG := hid G1.out.yg
    have l1 : (dn : Int) ≤ cf := by omega
    clear hb ho hgb o1 o3 o4
    have o1 := X3.out.cell 1 _ rfl
    have o2 := X3.out.cell 2 _ rfl
    have o3 := X3.out.cell 3 _ rfl
    have cp := G2.out.here.cell k _ (pairM_c _ _ _ _ _ _ k hk2)
    have cq := G2.out.here.cell (2 + k) _ (pairM_r _ _ _ _ _ _ k hk2)
    have RP := hid ((G2.out.below (below_drewN w2 1)).wipeP k hk2 true (HL.out.room (by omega)).1)
    go_wp2_with fail
    go_region_held3 (fun W => W.cell? ⟨xb, k, none⟩ = some (cv k) ∧ W.cell? ⟨xb, 2 + k, none⟩ = some (rv k)) (go_keep) (first | (go_at_call 29; refine RP.out.mono ?_; rintro e w3 ⟨rfl, ⟨lv', hps⟩, hkp⟩; have G3 := hid hps; have O3 := hid (hkp.own8 (own_below O2.out (below_drewN w2 1))); have X4 := hid (hkp _ _ _ (X3.out.below (below_drewN w2 1)) (by decide) (by decide) (by decide) (by decide)); have y1 := hps.here.cell k _ (pairM_c _ _ _ _ _ _ k hk2); have y2 := hps.here.cell (2 + k) _ (pairM_r _ _ _ _ _ _ k hk2); have y5 := X4.out.cell 3 _ rfl; clear hps hkp) | (go_at_call 30; refine (G3.out.wipeQ k hk2 true (by have := HMD.out k hk2; omega) (HL.out.room (by omega)).1).mono ?_; rintro e w4 ⟨rfl, ⟨mv', hps⟩, hkp⟩; have G9 := hid hps; have O9 := hid (hkp.own8 O3.out); have X9 := hid (hkp _ _ _ X4.out (by decide) (by decide) (by decide)); have y3 := hps.here.cell k _ (pairM_c _ _ _ _ _ _ k hk2); have y4 := hps.here.cell (2 + k) _ (pairM_r _ _ _ _ _ _ k hk2); have y6 := X9.out.cell 3 _ rfl; clear hps hkp))
    all_goals
      have o3 := X9.out.cell 3 _ rfl
      go_wp2_with fail
      refine (kept17 _ _ dn (cb fd) _ O9.out.reads (HDR.out _ G9.out.bel) (by omega)).mono ?_
      rintro e wY ⟨rfl, hbY⟩
      have GY := hid (G9.out.below hbY)
      have OY := hid (own_below O9.out hbY)
      clear hbY
      go_wp2_with fail
      refine (over18 gf cf (dn + 6) _ _ wY OY.out (by omega)).mono ?_
      rintro e wZ ⟨rfl, -, hgZ⟩
      obtain ⟨c, hc⟩ := own8_type OY.out (show (Value.slice (some ⟨gf, 0, none⟩) (dn + 6) cf).ownBlock = some gf from rfl)
      have hbk : Blk wY gf c.toList 5 := by show wY.heap[gf]? = _; rw [hc]
      have hkZ : Kp (fun j => j = gf) wY wZ := (Kp.of_grown hgZ).mono (fun j _ e => (Option.some.inj e).symm)
      have GZ := hid ((GY.out.over (g := gf) rfl hbk (Nat.le_trans G1.out.size HGB.out) hkZ (YG.out _ _ gf HGB.out hkZ GY.out.ex)).moved av0 (fun x hx => hx.elim))
      clear hbk hkZ hgZ hc
      go_wp2_with fail
      go_ret
      exact ⟨by simp, tl, lv', mv', tv, wv, cv, rv, cc, _, _, GZ.out, by have := HTL.out; omega, Lt.sel true HL.out (lt_wi HL.out hT _), mdO_le HMD.out k none (Nat.zero_le _)⟩
end
end Go.Proofs.YtbgdjjfonmoemaaDoor.Vm
