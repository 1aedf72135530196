/- The acts of CmacScript: Form. The acts of CmacScript: Tag. The acts of CmacScript: New. The acts of CmacScript: another kind. Any act of CmacScript. -/
import Derived.Test.YtbgdjjfonmoemaaDoorWk
import Derived.Test.YtbgdjjfonmoemaaDoorWl
namespace Go.Proofs.YtbgdjjfonmoemaaDoor.Vm
open Go.ChangeShapes Go.WideShapes Go.ChangeAt Go.RowKit
open Go.Proofs.YtbgdjjfonmoemaaDoor.By Go.Proofs.YtbgdjjfonmoemaaDoor.Gf Go.Proofs.YtbgdjjfonmoemaaDoor.Ae
open Go.Proofs.YtbgdjjfonmoemaaDoor.Kc (own_kept own_mono own8_type)
section
variable {w0 W : World} {xb lb mb : Nat}
set_option maxRecDepth 4000 in
set_option maxHeartbeats 8000000 in
theorem act5 (T : Nat) (hT : T ≤ 100) (h : SCm w0 xb lb mb T W) (on : Int) (ka da : Option Addr) (kn kc dn dc : Nat) (mute : Bool) (fk fd : Nat → Nat) (hkr : ∀ V, Below w0.heap.size w0 V → By.RB V (.slice ka kn kc) kn (cb fk)) (hdr : ∀ V, Below w0.heap.size w0 V → By.RB V (.slice da dn dc) dn (cb fd)) (hkn : kn ≤ 140737488351232) (hdn : dn ≤ 4000) :
    Calls Tryd.prog 8 #[.pointer (some ⟨xb, 0, none⟩), .agg #[.int .i64 on, .int .i64 5, .slice ka kn kc, .slice da dn dc, .bool mute]] W fun e w' => e = .returned (.bool true) ∧ SCm w0 xb lb mb (T + 1) w' := by
  obtain ⟨tl, lv, mv, tv, wv, cv, rv, cc, D, L, h, htl, hLt, hmd⟩ := h
  have HX := hid (Blk.new W [.int .i64 on, .int .i64 5, .slice ka kn kc, .slice da dn dc, .bool mute] 40)
  have HB := hid (below_alloc W (.cells #[.int .i64 on, .int .i64 5, .slice ka kn kc, .slice da dn dc, .bool mute] 40))
  have G0 := hid (h.below HB.out)
  have HL := hid hLt
  have HMD := hid hmd
  have HTL := hid htl
  have HDR := hid hdr
  have HKR := hid hkr
  clear h hLt hmd htl hdr hkr
  have _ := hT
  have _ := hkn
  have _ := HKR
  go_enter Tryd.func8, Tryd.ntmps8
  go_wp2_with fail
  obtain ⟨W1, hW1⟩ : ∃ x, W.alloc (.cells #[.int .i64 on, .int .i64 5, .slice ka kn kc, .slice da dn dc, .bool mute] 40) = x := ⟨_, rfl⟩
  obtain ⟨ob, hob⟩ : ∃ x, W.heap.size = x := ⟨_, rfl⟩
  have X1 : Hid (Blk W1 ob [.int .i64 on, .int .i64 5, .slice ka kn kc, .slice da dn dc, .bool mute] 40) := by rw [← hW1, ← hob]; exact HX.out
  rw [hW1] at G0
  rw [hW1]
  rw [hob]
  clear hW1 HX HB
  refine (pickN on 2 (by omega) (by omega) W1).mono ?_
  rintro e w1 ⟨⟨k, hk2, rfl⟩, hw1⟩
  subst w1
  have hk2' : (k : Int) < 2 := by omega
  have o1 := X1.out.cell 1 _ rfl
  have o3 := X1.out.cell 3 _ rfl
  have o4 := X1.out.cell 4 _ rfl
  have cl := G0.out.here.cell 4 _ rfl
  have cm := G0.out.here.cell 5 _ rfl
  go_wp2_with fail
  go_region_held3 (fun W => W.cell? ⟨xb, 4, none⟩ = some (.pointer (some ⟨lb, 0, none⟩)) ∧ W.cell? ⟨xb, 5, none⟩ = some (.pointer (some ⟨mb, 0, none⟩))) (go_keep) (fail)
  have G1 := hid (G0.out.below (W' := W1.drew) (below_drewN W1 1))
  have X2 := hid (show Blk W1.drew ob _ 40 from X1.out.below (below_drewN W1 1))
  obtain ⟨V1, hV1⟩ : ∃ x, W1.drew = x := ⟨_, rfl⟩
  rw [hV1] at G1 X2
  rw [hV1]
  clear hV1 G0 X1 cl cm o1 o3 o4
  have o1 := X2.out.cell 1 _ rfl
  have o3 := X2.out.cell 3 _ rfl
  have o4 := X2.out.cell 4 _ rfl
  have LT := hid (lent14 _ dn (cb fd) V1 (HDR.out _ G1.out.bel) (by omega))
  cases mute with
  | false =>
    go_wp2_with fail
    refine LT.out.mono ?_
    rintro e w2 ⟨fu, rfl, ho, hb⟩
    rcases ho.shape with ⟨_, h0⟩ | ⟨gf, cf, rfl, hgb, hgl, hnc, hcm, _, _⟩
    · omega
    have G2 := hid ((G1.out.moved (av1 gf) (fun x hx => .inr (by have e : x = gf := hx; omega))).below hb)
    have O2 := hid ho
    have HGB := hid hgb
    have X3 := hid (X2.out.below hb)
    have BK2 : Hid (∃ cs, Blk w2 gf cs 5) := by
      obtain ⟨c, hc⟩ := own8_type ho (show (Value.slice (some ⟨gf, 0, none⟩) (dn + 6) cf).ownBlock = some gf from rfl)
      exact ⟨c.toList, by show w2.heap[gf]? = _; rw [hc]⟩
    have YG := hid G1.out.yg
    have l1 : (dn : Int) ≤ cf := by omega
    clear hb ho hgb o1 o3 o4
    have o1 := X3.out.cell 1 _ rfl
    have o2 := X3.out.cell 2 _ rfl
    have o3 := X3.out.cell 3 _ rfl
    have cp := G2.out.here.cell k _ (pairM_c _ _ _ _ _ _ k hk2)
    have cq := G2.out.here.cell (2 + k) _ (pairM_r _ _ _ _ _ _ k hk2)
    have HK8 := hid (show ∀ kk key n m, D k = some (kk, key, n, m) → kk ≤ 8 from fun kk key n m hd => by
      have := G2.out.qc k hk2
      rw [hd] at this
      obtain ⟨g, kv, mv0, _, hm, _⟩ := this
      have := hm.kk
      omega)
    have FPC := hid ((G2.out.below (below_drewN w2 1)).formP k hk2)
    go_wp2_with fail
    go_region_held3 (fun W => W.cell? ⟨xb, k, none⟩ = some (cv k) ∧ W.cell? ⟨xb, 2 + k, none⟩ = some (rv k)) (go_keep) (first
      | (go_at_call 31; refine FPC.out.mono ?_; rintro e w3 ⟨v1, rfl, ht1, hb3⟩; have K3 := hid (below_next (below_drewN w2 1) hb3); have G3 := hid ((G2.out.below (below_drewN w2 1)).below hb3); have T1 := hid (show FmP w2.heap.size w3 v1 (D k) from ht1); have O3 := hid (own_below O2.out K3.out); have X4 := hid (X3.out.below K3.out); have y1 := G3.out.here.cell k _ (pairM_c _ _ _ _ _ _ k hk2); have y2 := G3.out.here.cell (2 + k) _ (pairM_r _ _ _ _ _ _ k hk2); clear ht1 hb3)
      | (go_at_call 32; refine (G3.out.formQ k hk2 (by have := HMD.out k hk2; omega)).mono ?_; rintro e w4 ⟨v2, rfl, ht2, hb4⟩; obtain ⟨n, f, hn, hoa, how⟩ := fm_pair T1.out ht2 HK8.out; have G4 := hid (G3.out.below hb4); have OA4 := hid (hoa.kz (Kz.below hb4)); have OW4 := hid how; have HN := hid hn; have O5 := hid (own_below O3.out hb4); have X5 := hid (X4.out.below hb4); have y3 := G4.out.here.cell k _ (pairM_c _ _ _ _ _ _ k hk2); have y4 := G4.out.here.cell (2 + k) _ (pairM_r _ _ _ _ _ _ k hk2); clear ht2 hb4 hoa how hn)
      | (go_at_call 24; refine (G4.out.tell (by have := HTL.out; omega) v1 v2 n w2.heap.size f OA4.out (own_mono OW4.out G3.out.size) G2.out.size (fun q hq g hg => TL.old (RW.tl G2.out.ex) q hq g hg) HN.out).mono ?_; rintro e w5 ⟨rfl, ⟨tv', wv', hps⟩, hko, hka⟩; have G9 := hid hps; have O9 := hid (hko _ _ _ _ O5.out); have X9 := hid (hka _ _ X5.out); have y5 := hps.here.cell k _ (pairM_c _ _ _ _ _ _ k hk2); have y6 := hps.here.cell (2 + k) _ (pairM_r _ _ _ _ _ _ k hk2); clear hps hko hka))
    all_goals
      have NE := hid (show ∀ q ∈ tl ++ [TE.mk v1 v2 n f], q.a.ownBlock ≠ some gf ∧ q.b.ownBlock ≠ some gf from fun q hq => by
        rcases List.mem_append.1 hq with hq | hq
        · exact ⟨fun e => by have := TL.old (RW.tl G1.out.ex) q hq gf e; have := HGB.out; omega, fun e => by have := own_blt ((RW.tl G1.out.ex).own q hq).2 e; have := HGB.out; omega⟩
        · rw [List.mem_singleton.1 hq]
          exact ⟨fun e => by have := (OA4.out.blk e).1; have := own_blt O2.out (g := gf) rfl; omega, fun e => by have := own_ge OW4.out e; have := own_blt O3.out (g := gf) rfl; omega⟩)
      have o3 := X9.out.cell 3 _ rfl
      go_wp2_with fail
      refine (kept17 _ _ dn (cb fd) _ O9.out.reads (HDR.out _ G9.out.bel) (by omega)).mono ?_
      rintro e wY ⟨rfl, hbY⟩
      have GY := hid (G9.out.below hbY)
      have OY := hid (own_below O9.out hbY)
      clear hbY
      go_wp2_with fail
      refine (over18 gf cf (dn + 6) _ _ wY OY.out (by omega)).mono ?_
      rintro e wZ ⟨rfl, -, hgZ⟩
      obtain ⟨c, hc⟩ := own8_type OY.out (show (Value.slice (some ⟨gf, 0, none⟩) (dn + 6) cf).ownBlock = some gf from rfl)
      have hbk : Blk wY gf c.toList 5 := by show wY.heap[gf]? = _; rw [hc]
      have hkZ : Kp (fun j => j = gf) wY wZ := (Kp.of_grown hgZ).mono (fun j _ e => (Option.some.inj e).symm)
      have GZ := hid ((GY.out.over (g := gf) rfl hbk (Nat.le_trans G1.out.size HGB.out) hkZ (RX.over GY.out.ex hbk hkZ NE.out)).moved av0 (fun x hx => hx.elim))
      clear hbk hkZ hgZ hc
      go_wp2_with fail
      go_ret
      exact ⟨by simp, _, lv, mv, tv', wv', cv, rv, cc, D, L, GZ.out, by have := HTL.out; simp; omega, HL.out.next, md_next HMD.out⟩
  | true =>
    go_wp2_with fail
    refine LT.out.mono ?_
    rintro e w2 ⟨fu, rfl, ho, hb⟩
    rcases ho.shape with ⟨_, h0⟩ | ⟨gf, cf, rfl, hgb, hgl, hnc, hcm, _, _⟩
    · omega
    have G2 := hid ((G1.out.moved (av1 gf) (fun x hx => .inr (by have e : x = gf := hx; omega))).below hb)
    have O2 := hid ho
    have HGB := hid hgb
    have X3 := hid (X2.out.below hb)
    have BK2 : Hid (∃ cs, Blk w2 gf cs 5) := by
      obtain ⟨c, hc⟩ := own8_type ho (show (Value.slice (some ⟨gf, 0, none⟩) (dn + 6) cf).ownBlock = some gf from rfl)
      exact ⟨c.toList, by show w2.heap[gf]? = _; rw [hc]⟩
    have YG := hid G1.out.yg
    have l1 : (dn : Int) ≤ cf := by omega
    clear hb ho hgb o1 o3 o4
    have o1 := X3.out.cell 1 _ rfl
    have o2 := X3.out.cell 2 _ rfl
    have o3 := X3.out.cell 3 _ rfl
    have cp := G2.out.here.cell k _ (pairM_c _ _ _ _ _ _ k hk2)
    have cq := G2.out.here.cell (2 + k) _ (pairM_r _ _ _ _ _ _ k hk2)
    have HK8 := hid (show ∀ kk key n m, D k = some (kk, key, n, m) → kk ≤ 8 from fun kk key n m hd => by
      have := G2.out.qc k hk2
      rw [hd] at this
      obtain ⟨g, kv, mv0, _, hm, _⟩ := this
      have := hm.kk
      omega)
    have FPC := hid ((G2.out.below (below_drewN w2 1)).formP k hk2)
    go_wp2_with fail
    go_region_held3 (fun W => W.cell? ⟨xb, k, none⟩ = some (cv k) ∧ W.cell? ⟨xb, 2 + k, none⟩ = some (rv k)) (go_keep) (first
      | (go_at_call 31; refine FPC.out.mono ?_; rintro e w3 ⟨v1, rfl, ht1, hb3⟩; have K3 := hid (below_next (below_drewN w2 1) hb3); have G3 := hid ((G2.out.below (below_drewN w2 1)).below hb3); have T1 := hid (show FmP w2.heap.size w3 v1 (D k) from ht1); have O3 := hid (own_below O2.out K3.out); have X4 := hid (X3.out.below K3.out); have y1 := G3.out.here.cell k _ (pairM_c _ _ _ _ _ _ k hk2); have y2 := G3.out.here.cell (2 + k) _ (pairM_r _ _ _ _ _ _ k hk2); clear ht1 hb3)
      | (go_at_call 32; refine (G3.out.formQ k hk2 (by have := HMD.out k hk2; omega)).mono ?_; rintro e w4 ⟨v2, rfl, ht2, hb4⟩; obtain ⟨n, f, hn, hoa, how⟩ := fm_pair T1.out ht2 HK8.out; have G4 := hid (G3.out.below hb4); have OA4 := hid (hoa.kz (Kz.below hb4)); have OW4 := hid how; have HN := hid hn; have O5 := hid (own_below O3.out hb4); have X5 := hid (X4.out.below hb4); have y3 := G4.out.here.cell k _ (pairM_c _ _ _ _ _ _ k hk2); have y4 := G4.out.here.cell (2 + k) _ (pairM_r _ _ _ _ _ _ k hk2); clear ht2 hb4 hoa how hn)
      | (go_at_call 24; refine (G4.out.tell (by have := HTL.out; omega) v1 v2 n w2.heap.size f OA4.out (own_mono OW4.out G3.out.size) G2.out.size (fun q hq g hg => TL.old (RW.tl G2.out.ex) q hq g hg) HN.out).mono ?_; rintro e w5 ⟨rfl, ⟨tv', wv', hps⟩, hko, hka⟩; have G9 := hid hps; have O9 := hid (hko _ _ _ _ O5.out); have X9 := hid (hka _ _ X5.out); have y5 := hps.here.cell k _ (pairM_c _ _ _ _ _ _ k hk2); have y6 := hps.here.cell (2 + k) _ (pairM_r _ _ _ _ _ _ k hk2); clear hps hko hka))
    all_goals
      have NE := hid (show ∀ q ∈ tl ++ [TE.mk v1 v2 n f], q.a.ownBlock ≠ some gf ∧ q.b.ownBlock ≠ some gf from fun q hq => by
        rcases List.mem_append.1 hq with hq | hq
        · exact ⟨fun e => by have := TL.old (RW.tl G1.out.ex) q hq gf e; have := HGB.out; omega, fun e => by have := own_blt ((RW.tl G1.out.ex).own q hq).2 e; have := HGB.out; omega⟩
        · rw [List.mem_singleton.1 hq]
          exact ⟨fun e => by have := (OA4.out.blk e).1; have := own_blt O2.out (g := gf) rfl; omega, fun e => by have := own_ge OW4.out e; have := own_blt O3.out (g := gf) rfl; omega⟩)
      have o3 := X9.out.cell 3 _ rfl
      go_wp2_with fail
      refine (kept17 _ _ dn (cb fd) _ O9.out.reads (HDR.out _ G9.out.bel) (by omega)).mono ?_
      rintro e wY ⟨rfl, hbY⟩
      have GY := hid (G9.out.below hbY)
      have OY := hid (own_below O9.out hbY)
      clear hbY
      go_wp2_with fail
      refine (over18 gf cf (dn + 6) _ _ wY OY.out (by omega)).mono ?_
      rintro e wZ ⟨rfl, -, hgZ⟩
      obtain ⟨c, hc⟩ := own8_type OY.out (show (Value.slice (some ⟨gf, 0, none⟩) (dn + 6) cf).ownBlock = some gf from rfl)
      have hbk : Blk wY gf c.toList 5 := by show wY.heap[gf]? = _; rw [hc]
      have hkZ : Kp (fun j => j = gf) wY wZ := (Kp.of_grown hgZ).mono (fun j _ e => (Option.some.inj e).symm)
      have GZ := hid ((GY.out.over (g := gf) rfl hbk (Nat.le_trans G1.out.size HGB.out) hkZ (RX.over GY.out.ex hbk hkZ NE.out)).moved av0 (fun x hx => hx.elim))
      clear hbk hkZ hgZ hc
      go_wp2_with fail
      go_ret
      exact ⟨by simp, _, lv, mv, tv', wv', cv, rv, cc, D, L, GZ.out, by have := HTL.out; simp; omega, HL.out.next, md_next HMD.out⟩
end
end Go.Proofs.YtbgdjjfonmoemaaDoor.Vm
namespace Go.Proofs.YtbgdjjfonmoemaaDoor.Vm
open Go.ChangeShapes Go.WideShapes Go.ChangeAt Go.RowKit
open Go.Proofs.YtbgdjjfonmoemaaDoor.By Go.Proofs.YtbgdjjfonmoemaaDoor.Gf Go.Proofs.YtbgdjjfonmoemaaDoor.Ae
open Go.Proofs.YtbgdjjfonmoemaaDoor.Kc (own_kept own_mono own8_type)
section
variable {w0 W : World} {xb lb mb : Nat}
set_option maxRecDepth 4000 in
set_option maxHeartbeats 8000000 in
theorem act6 (T : Nat) (hT : T ≤ 100) (h : SCm w0 xb lb mb T W) (on : Int) (ka da : Option Addr) (kn kc dn dc : Nat) (mute : Bool) (fk fd : Nat → Nat) (hkr : ∀ V, Below w0.heap.size w0 V → By.RB V (.slice ka kn kc) kn (cb fk)) (hdr : ∀ V, Below w0.heap.size w0 V → By.RB V (.slice da dn dc) dn (cb fd)) (hkn : kn ≤ 140737488351232) (hdn : dn ≤ 4000) :
    Calls Tryd.prog 8 #[.pointer (some ⟨xb, 0, none⟩), .agg #[.int .i64 on, .int .i64 6, .slice ka kn kc, .slice da dn dc, .bool mute]] W fun e w' => e = .returned (.bool true) ∧ SCm w0 xb lb mb (T + 1) w' := by
  obtain ⟨tl, lv, mv, tv, wv, cv, rv, cc, D, L, h, htl, hLt, hmd⟩ := h
  have HX := hid (Blk.new W [.int .i64 on, .int .i64 6, .slice ka kn kc, .slice da dn dc, .bool mute] 40)
  have HB := hid (below_alloc W (.cells #[.int .i64 on, .int .i64 6, .slice ka kn kc, .slice da dn dc, .bool mute] 40))
  have G0 := hid (h.below HB.out)
  have HL := hid hLt
  have HMD := hid hmd
  have HTL := hid htl
  have HDR := hid hdr
  have HKR := hid hkr
  clear h hLt hmd htl hdr hkr
  have _ := hT
  have _ := hkn
  have _ := HKR
  go_enter Tryd.func8, Tryd.ntmps8
  go_wp2_with fail
  obtain ⟨W1, hW1⟩ : ∃ x, W.alloc (.cells #[.int .i64 on, .int .i64 6, .slice ka kn kc, .slice da dn dc, .bool mute] 40) = x := ⟨_, rfl⟩
  obtain ⟨ob, hob⟩ : ∃ x, W.heap.size = x := ⟨_, rfl⟩
  have X1 : Hid (Blk W1 ob [.int .i64 on, .int .i64 6, .slice ka kn kc, .slice da dn dc, .bool mute] 40) := by rw [← hW1, ← hob]; exact HX.out
  rw [hW1] at G0
  rw [hW1]
  rw [hob]
  clear hW1 HX HB
  refine (pickN on 2 (by omega) (by omega) W1).mono ?_
  rintro e w1 ⟨⟨k, hk2, rfl⟩, hw1⟩
  subst w1
  have hk2' : (k : Int) < 2 := by omega
  have o1 := X1.out.cell 1 _ rfl
  have o3 := X1.out.cell 3 _ rfl
  have o4 := X1.out.cell 4 _ rfl
  have cl := G0.out.here.cell 4 _ rfl
  have cm := G0.out.here.cell 5 _ rfl
  go_wp2_with fail
  go_region_held3 (fun W => W.cell? ⟨xb, 4, none⟩ = some (.pointer (some ⟨lb, 0, none⟩)) ∧ W.cell? ⟨xb, 5, none⟩ = some (.pointer (some ⟨mb, 0, none⟩))) (go_keep) (fail)
  have G1 := hid (G0.out.below (W' := W1.drew) (below_drewN W1 1))
  have X2 := hid (show Blk W1.drew ob _ 40 from X1.out.below (below_drewN W1 1))
  obtain ⟨V1, hV1⟩ : ∃ x, W1.drew = x := ⟨_, rfl⟩
  rw [hV1] at G1 X2
  rw [hV1]
  clear hV1 G0 X1 cl cm o1 o3 o4
  have o1 := X2.out.cell 1 _ rfl
  have o3 := X2.out.cell 3 _ rfl
  have o4 := X2.out.cell 4 _ rfl
  have LT := hid (lent14 _ dn (cb fd) V1 (HDR.out _ G1.out.bel) (by omega))
  cases mute with
  | false =>
    go_wp2_with fail
    refine LT.out.mono ?_
    rintro e w2 ⟨fu, rfl, ho, hb⟩
    rcases ho.shape with ⟨_, h0⟩ | ⟨gf, cf, rfl, hgb, hgl, hnc, hcm, _, _⟩
    · omega
    have G2 := hid ((G1.out.moved (av1 gf) (fun x hx => .inr (by have e : x = gf := hx; omega))).below hb)
    have O2 := hid ho
    have HGB := hid hgb
    have X3 := hid (X2.out.below hb)
    have BK2 : Hid (∃ cs, Blk w2 gf cs 5) := by
      obtain ⟨c, hc⟩ := own8_type ho (show (Value.slice (some ⟨gf, 0, none⟩) (dn + 6) cf).ownBlock = some gf from rfl)
      exact ⟨c.toList, by show w2.heap[gf]? = _; rw [hc]⟩
    have YG := hid G1.out.yg
    have l1 : (dn : Int) ≤ cf := by omega
    clear hb ho hgb o1 o3 o4
    have o1 := X3.out.cell 1 _ rfl
    have o2 := X3.out.cell 2 _ rfl
    have o3 := X3.out.cell 3 _ rfl
    have cp := G2.out.here.cell k _ (pairM_c _ _ _ _ _ _ k hk2)
    have cq := G2.out.here.cell (2 + k) _ (pairM_r _ _ _ _ _ _ k hk2)
    have TPC := hid (G2.out.tagP false kn fk ka kc HKR.out dn fd (some ⟨gf, 0, none⟩) cf (by omega) (fun V hV => ((hV.own8 O2.out).reads.first dn (by omega)).congr (HDR.out _ G2.out.bel).1 (fun i hi => by unfold lent; rw [if_pos hi])) HL.out.pos (HL.out.room (by omega)).2.1)
    go_wp2_with fail
    refine TPC.out.mono ?_
    rintro e w3 ⟨v1, rfl, ht1, ⟨lv', hps⟩, hkp⟩
    have G3 := hid hps
    have T1 := hid ht1
    have O3 := hid (hkp.own8 O2.out)
    have X4 := hid (hkp _ _ _ X3.out (by decide) (by decide) (by decide) (by decide))
    have SQ := hid (hps.tagQ false kn fk ka kc (HKR.out _ hps.bel) dn fd da dc (by omega) HDR.out HL.out.pos (HL.out.room (by omega)).2.1)
    clear hps ht1 hkp TPC cp cq o1 o2 o3
    have o2 := X4.out.cell 2 _ rfl
    have o3 := X4.out.cell 3 _ rfl
    go_wp2_with fail
    refine SQ.out.mono ?_
    rintro e w4 ⟨v2, rfl, ht2, ⟨mv', hps⟩, hkp⟩
    obtain ⟨n, f, hn, hoa, how⟩ := tg_pair T1.out ht2
    have NE := hid (show ∀ q ∈ tl ++ [TE.mk v1 v2 n f], q.a.ownBlock ≠ some gf ∧ q.b.ownBlock ≠ some gf from fun q hq => by
      rcases List.mem_append.1 hq with hq | hq
      · exact ⟨fun e => by have := TL.old (RW.tl G1.out.ex) q hq gf e; have := HGB.out; omega, fun e => by have := own_blt ((RW.tl G1.out.ex).own q hq).2 e; have := HGB.out; omega⟩
      · rw [List.mem_singleton.1 hq]
        exact ⟨fun e => by have := (hoa.blk e).1; have := own_blt O2.out (g := gf) rfl; omega, fun e => by have := own_ge how e; have := own_blt O3.out (g := gf) rfl; omega⟩)
    have O5 := hid (hkp.own8 O3.out)
    have X5 := hid (hkp _ _ _ X4.out (by decide) (by decide) (by decide))
    have TE1 := hid (hps.tell (by have := HTL.out; omega) v1 v2 n w2.heap.size f (hoa.kz hkp.kz) (own_mono how G3.out.size) G2.out.size (fun q hq g hg => by have := TL.old (RW.tl G2.out.ex) q hq g hg; exact this) hn)
    clear hps ht2 hkp SQ hoa how o2 o3
    go_wp2_with fail
    refine TE1.out.mono ?_
    rintro e w5 ⟨rfl, ⟨tv', wv', hps⟩, hko, hka⟩
    have G9 := hid hps
    have O9 := hid (hko _ _ _ _ O5.out)
    have X9 := hid (hka _ _ X5.out)
    clear hps hko hka TE1
    all_goals
      have o3 := X9.out.cell 3 _ rfl
      go_wp2_with fail
      refine (kept17 _ _ dn (cb fd) _ O9.out.reads (HDR.out _ G9.out.bel) (by omega)).mono ?_
      rintro e wY ⟨rfl, hbY⟩
      have GY := hid (G9.out.below hbY)
      have OY := hid (own_below O9.out hbY)
      clear hbY
      go_wp2_with fail
      refine (over18 gf cf (dn + 6) _ _ wY OY.out (by omega)).mono ?_
      rintro e wZ ⟨rfl, -, hgZ⟩
      obtain ⟨c, hc⟩ := own8_type OY.out (show (Value.slice (some ⟨gf, 0, none⟩) (dn + 6) cf).ownBlock = some gf from rfl)
      have hbk : Blk wY gf c.toList 5 := by show wY.heap[gf]? = _; rw [hc]
      have hkZ : Kp (fun j => j = gf) wY wZ := (Kp.of_grown hgZ).mono (fun j _ e => (Option.some.inj e).symm)
      have GZ := hid ((GY.out.over (g := gf) rfl hbk (Nat.le_trans G1.out.size HGB.out) hkZ (RX.over GY.out.ex hbk hkZ NE.out)).moved av0 (fun x hx => hx.elim))
      clear hbk hkZ hgZ hc
      go_wp2_with fail
      go_ret
      exact ⟨by simp, _, lv', mv', tv', wv', cv, rv, cc, D, _, GZ.out, by have := HTL.out; simp; omega, Lt.sel false HL.out (lt_tg HL.out hT dn hdn _), md_next HMD.out⟩
  | true =>
    go_wp2_with fail
    refine LT.out.mono ?_
    rintro e w2 ⟨fu, rfl, ho, hb⟩
    rcases ho.shape with ⟨_, h0⟩ | ⟨gf, cf, rfl, hgb, hgl, hnc, hcm, _, _⟩
    · omega
    have G2 := hid ((G1.out.moved (av1 gf) (fun x hx => .inr (by have e : x = gf := hx; omega))).below hb)
    have O2 := hid ho
    have HGB := hid hgb
    have X3 := hid (X2.out.below hb)
    have BK2 : Hid (∃ cs, Blk w2 gf cs 5) := by
      obtain ⟨c, hc⟩ := own8_type ho (show (Value.slice (some ⟨gf, 0, none⟩) (dn + 6) cf).ownBlock = some gf from rfl)
      exact ⟨c.toList, by show w2.heap[gf]? = _; rw [hc]⟩
    have YG := hid G1.out.yg
    have l1 : (dn : Int) ≤ cf := by omega
    clear hb ho hgb o1 o3 o4
    have o1 := X3.out.cell 1 _ rfl
    have o2 := X3.out.cell 2 _ rfl
    have o3 := X3.out.cell 3 _ rfl
    have cp := G2.out.here.cell k _ (pairM_c _ _ _ _ _ _ k hk2)
    have cq := G2.out.here.cell (2 + k) _ (pairM_r _ _ _ _ _ _ k hk2)
    have TPC := hid (G2.out.tagP true kn fk ka kc HKR.out dn fd (some ⟨gf, 0, none⟩) cf (by omega) (fun V hV => ((hV.own8 O2.out).reads.first dn (by omega)).congr (HDR.out _ G2.out.bel).1 (fun i hi => by unfold lent; rw [if_pos hi])) HL.out.pos (HL.out.room (by omega)).2.1)
    go_wp2_with fail
    refine TPC.out.mono ?_
    rintro e w3 ⟨v1, rfl, ht1, ⟨lv', hps⟩, hkp⟩
    have G3 := hid hps
    have T1 := hid ht1
    have O3 := hid (hkp.own8 O2.out)
    have X4 := hid (hkp _ _ _ X3.out (by decide) (by decide) (by decide) (by decide))
    have SQ := hid (hps.tagQ true kn fk ka kc (HKR.out _ hps.bel) dn fd da dc (by omega) HDR.out HL.out.pos (HL.out.room (by omega)).2.1)
    clear hps ht1 hkp TPC cp cq o1 o2 o3
    have o2 := X4.out.cell 2 _ rfl
    have o3 := X4.out.cell 3 _ rfl
    go_wp2_with fail
    refine SQ.out.mono ?_
    rintro e w4 ⟨v2, rfl, ht2, ⟨mv', hps⟩, hkp⟩
    obtain ⟨n, f, hn, hoa, how⟩ := tg_pair T1.out ht2
    have NE := hid (show ∀ q ∈ tl ++ [TE.mk v1 v2 n f], q.a.ownBlock ≠ some gf ∧ q.b.ownBlock ≠ some gf from fun q hq => by
      rcases List.mem_append.1 hq with hq | hq
      · exact ⟨fun e => by have := TL.old (RW.tl G1.out.ex) q hq gf e; have := HGB.out; omega, fun e => by have := own_blt ((RW.tl G1.out.ex).own q hq).2 e; have := HGB.out; omega⟩
      · rw [List.mem_singleton.1 hq]
        exact ⟨fun e => by have := (hoa.blk e).1; have := own_blt O2.out (g := gf) rfl; omega, fun e => by have := own_ge how e; have := own_blt O3.out (g := gf) rfl; omega⟩)
    have O5 := hid (hkp.own8 O3.out)
    have X5 := hid (hkp _ _ _ X4.out (by decide) (by decide) (by decide))
    have TE1 := hid (hps.tell (by have := HTL.out; omega) v1 v2 n w2.heap.size f (hoa.kz hkp.kz) (own_mono how G3.out.size) G2.out.size (fun q hq g hg => by have := TL.old (RW.tl G2.out.ex) q hq g hg; exact this) hn)
    clear hps ht2 hkp SQ hoa how o2 o3
    go_wp2_with fail
    refine TE1.out.mono ?_
    rintro e w5 ⟨rfl, ⟨tv', wv', hps⟩, hko, hka⟩
    have G9 := hid hps
    have O9 := hid (hko _ _ _ _ O5.out)
    have X9 := hid (hka _ _ X5.out)
    clear hps hko hka TE1
    all_goals
      have o3 := X9.out.cell 3 _ rfl
      go_wp2_with fail
      refine (kept17 _ _ dn (cb fd) _ O9.out.reads (HDR.out _ G9.out.bel) (by omega)).mono ?_
      rintro e wY ⟨rfl, hbY⟩
      have GY := hid (G9.out.below hbY)
      have OY := hid (own_below O9.out hbY)
      clear hbY
      go_wp2_with fail
      refine (over18 gf cf (dn + 6) _ _ wY OY.out (by omega)).mono ?_
      rintro e wZ ⟨rfl, -, hgZ⟩
      obtain ⟨c, hc⟩ := own8_type OY.out (show (Value.slice (some ⟨gf, 0, none⟩) (dn + 6) cf).ownBlock = some gf from rfl)
      have hbk : Blk wY gf c.toList 5 := by show wY.heap[gf]? = _; rw [hc]
      have hkZ : Kp (fun j => j = gf) wY wZ := (Kp.of_grown hgZ).mono (fun j _ e => (Option.some.inj e).symm)
      have GZ := hid ((GY.out.over (g := gf) rfl hbk (Nat.le_trans G1.out.size HGB.out) hkZ (RX.over GY.out.ex hbk hkZ NE.out)).moved av0 (fun x hx => hx.elim))
      clear hbk hkZ hgZ hc
      go_wp2_with fail
      go_ret
      exact ⟨by simp, _, lv', mv', tv', wv', cv, rv, cc, D, _, GZ.out, by have := HTL.out; simp; omega, Lt.sel true HL.out (lt_tg HL.out hT dn hdn _), md_next HMD.out⟩
end
end Go.Proofs.YtbgdjjfonmoemaaDoor.Vm
namespace Go.Proofs.YtbgdjjfonmoemaaDoor.Vm
open Go.ChangeShapes Go.WideShapes Go.ChangeAt Go.RowKit
open Go.Proofs.YtbgdjjfonmoemaaDoor.By Go.Proofs.YtbgdjjfonmoemaaDoor.Gf Go.Proofs.YtbgdjjfonmoemaaDoor.Ae
open Go.Proofs.YtbgdjjfonmoemaaDoor.Kc (own_kept own_mono own8_type)
section
variable {w0 W : World} {xb lb mb : Nat}
set_option maxRecDepth 4000 in
set_option maxHeartbeats 8000000 in
theorem act7 (T : Nat) (hT : T ≤ 100) (h : SCm w0 xb lb mb T W) (on : Int) (ka da : Option Addr) (kn kc dn dc : Nat) (mute : Bool) (fk fd : Nat → Nat) (hkr : ∀ V, Below w0.heap.size w0 V → By.RB V (.slice ka kn kc) kn (cb fk)) (hdr : ∀ V, Below w0.heap.size w0 V → By.RB V (.slice da dn dc) dn (cb fd)) (hkn : kn ≤ 140737488351232) (hdn : dn ≤ 4000) :
    Calls Tryd.prog 8 #[.pointer (some ⟨xb, 0, none⟩), .agg #[.int .i64 on, .int .i64 7, .slice ka kn kc, .slice da dn dc, .bool mute]] W fun e w' => e = .returned (.bool true) ∧ SCm w0 xb lb mb (T + 1) w' := by
  obtain ⟨tl, lv, mv, tv, wv, cv, rv, cc, D, L, h, htl, hLt, hmd⟩ := h
  have HX := hid (Blk.new W [.int .i64 on, .int .i64 7, .slice ka kn kc, .slice da dn dc, .bool mute] 40)
  have HB := hid (below_alloc W (.cells #[.int .i64 on, .int .i64 7, .slice ka kn kc, .slice da dn dc, .bool mute] 40))
  have G0 := hid (h.below HB.out)
  have HL := hid hLt
  have HMD := hid hmd
  have HTL := hid htl
  have HDR := hid hdr
  have HKR := hid hkr
  clear h hLt hmd htl hdr hkr
  have _ := hT
  have _ := hkn
  have _ := HKR
  go_enter Tryd.func8, Tryd.ntmps8
  go_wp2_with fail
  obtain ⟨W1, hW1⟩ : ∃ x, W.alloc (.cells #[.int .i64 on, .int .i64 7, .slice ka kn kc, .slice da dn dc, .bool mute] 40) = x := ⟨_, rfl⟩
  obtain ⟨ob, hob⟩ : ∃ x, W.heap.size = x := ⟨_, rfl⟩
  have X1 : Hid (Blk W1 ob [.int .i64 on, .int .i64 7, .slice ka kn kc, .slice da dn dc, .bool mute] 40) := by rw [← hW1, ← hob]; exact HX.out
  rw [hW1] at G0
  rw [hW1]
  rw [hob]
  clear hW1 HX HB
  refine (pickN on 2 (by omega) (by omega) W1).mono ?_
  rintro e w1 ⟨⟨k, hk2, rfl⟩, hw1⟩
  subst w1
  have hk2' : (k : Int) < 2 := by omega
  have o1 := X1.out.cell 1 _ rfl
  have o3 := X1.out.cell 3 _ rfl
  have o4 := X1.out.cell 4 _ rfl
  have cl := G0.out.here.cell 4 _ rfl
  have cm := G0.out.here.cell 5 _ rfl
  go_wp2_with fail
  go_region_held3 (fun W => W.cell? ⟨xb, 4, none⟩ = some (.pointer (some ⟨lb, 0, none⟩)) ∧ W.cell? ⟨xb, 5, none⟩ = some (.pointer (some ⟨mb, 0, none⟩))) (go_keep) (fail)
  have G1 := hid (G0.out.below (W' := W1.drew) (below_drewN W1 1))
  have X2 := hid (show Blk W1.drew ob _ 40 from X1.out.below (below_drewN W1 1))
  obtain ⟨V1, hV1⟩ : ∃ x, W1.drew = x := ⟨_, rfl⟩
  rw [hV1] at G1 X2
  rw [hV1]
  clear hV1 G0 X1 cl cm o1 o3 o4
  have o1 := X2.out.cell 1 _ rfl
  have o3 := X2.out.cell 3 _ rfl
  have o4 := X2.out.cell 4 _ rfl
  have LT := hid (lent14 _ dn (cb fd) V1 (HDR.out _ G1.out.bel) (by omega))
  cases mute with
  | false =>
    go_wp2_with fail
    refine LT.out.mono ?_
    rintro e w2 ⟨fu, rfl, ho, hb⟩
    rcases ho.shape with ⟨_, h0⟩ | ⟨gf, cf, rfl, hgb, hgl, hnc, hcm, _, _⟩
    · omega
    have G2 := hid ((G1.out.moved (av1 gf) (fun x hx => .inr (by have e : x = gf := hx; omega))).below hb)
    have O2 := hid ho
    have HGB := hid hgb
    have X3 := hid (X2.out.below hb)
    have BK2 : Hid (∃ cs, Blk w2 gf cs 5) := by
      obtain ⟨c, hc⟩ := own8_type ho (show (Value.slice (some ⟨gf, 0, none⟩) (dn + 6) cf).ownBlock = some gf from rfl)
      exact ⟨c.toList, by show w2.heap[gf]? = _; rw [hc]⟩
    have YG := hid G1.out.yg
    have l1 : (dn : Int) ≤ cf := by omega
    clear hb ho hgb o1 o3 o4
    have o1 := X3.out.cell 1 _ rfl
    have o2 := X3.out.cell 2 _ rfl
    have o3 := X3.out.cell 3 _ rfl
    have cp := G2.out.here.cell k _ (pairM_c _ _ _ _ _ _ k hk2)
    have cq := G2.out.here.cell (2 + k) _ (pairM_r _ _ _ _ _ _ k hk2)
    have MK := hid (G2.out.make k hk2 ka kn kc fk HKR.out hkn false HL.out.pos (HL.out.room (by omega)).2.2 (fun x hx => by have e : x = gf := hx; subst e; exact BK2.out) G2.out.yg)
    go_wp2_with fail
    refine MK.out.mono ?_
    rintro e w3 ⟨rfl, ⟨lv', mv', cv', rv', cc', D', hps, hmd'⟩, hko, hka⟩
    have G9 := hid hps
    have O9 := hid (hko _ _ _ _ O2.out)
    have X9 := hid (hka _ _ X3.out)
    clear hps hko hka MK o1 o2 o3 cp cq
    all_goals
      have o3 := X9.out.cell 3 _ rfl
      go_wp2_with fail
      refine (kept17 _ _ dn (cb fd) _ O9.out.reads (HDR.out _ G9.out.bel) (by omega)).mono ?_
      rintro e wY ⟨rfl, hbY⟩
      have GY := hid (G9.out.below hbY)
      have OY := hid (own_below O9.out hbY)
      clear hbY
      go_wp2_with fail
      refine (over18 gf cf (dn + 6) _ _ wY OY.out (by omega)).mono ?_
      rintro e wZ ⟨rfl, -, hgZ⟩
      obtain ⟨c, hc⟩ := own8_type OY.out (show (Value.slice (some ⟨gf, 0, none⟩) (dn + 6) cf).ownBlock = some gf from rfl)
      have hbk : Blk wY gf c.toList 5 := by show wY.heap[gf]? = _; rw [hc]
      have hkZ : Kp (fun j => j = gf) wY wZ := (Kp.of_grown hgZ).mono (fun j _ e => (Option.some.inj e).symm)
      have GZ := hid ((GY.out.over (g := gf) rfl hbk (Nat.le_trans G1.out.size HGB.out) hkZ (YG.out _ _ gf HGB.out hkZ GY.out.ex)).moved av0 (fun x hx => hx.elim))
      clear hbk hkZ hgZ hc
      go_wp2_with fail
      go_ret
      exact ⟨by simp, tl, lv', mv', tv, wv, cv', rv', cc', D', _, GZ.out, by have := HTL.out; omega, Lt.sel false HL.out (lt_nw HL.out hT _), fun i hi => by have := hmd' i hi; have := HMD.out i hi; omega⟩
  | true =>
    go_wp2_with fail
    refine LT.out.mono ?_
    rintro e w2 ⟨fu, rfl, ho, hb⟩
    rcases ho.shape with ⟨_, h0⟩ | ⟨gf, cf, rfl, hgb, hgl, hnc, hcm, _, _⟩
    · omega
    have G2 := hid ((G1.out.moved (av1 gf) (fun x hx => .inr (by have e : x = gf := hx; omega))).below hb)
    have O2 := hid ho
    have HGB := hid hgb
    have X3 := hid (X2.out.below hb)
    have BK2 : Hid (∃ cs, Blk w2 gf cs 5) := by
      obtain ⟨c, hc⟩ := own8_type ho (show (Value.slice (some ⟨gf, 0, none⟩) (dn + 6) cf).ownBlock = some gf from rfl)
      exact ⟨c.toList, by show w2.heap[gf]? = _; rw [hc]⟩
    have YG := hid G1.out.yg
    have l1 : (dn : Int) ≤ cf := by omega
    clear hb ho hgb o1 o3 o4
    have o1 := X3.out.cell 1 _ rfl
    have o2 := X3.out.cell 2 _ rfl
    have o3 := X3.out.cell 3 _ rfl
    have cp := G2.out.here.cell k _ (pairM_c _ _ _ _ _ _ k hk2)
    have cq := G2.out.here.cell (2 + k) _ (pairM_r _ _ _ _ _ _ k hk2)
    have MK := hid (G2.out.make k hk2 ka kn kc fk HKR.out hkn true HL.out.pos (HL.out.room (by omega)).2.2 (fun x hx => by have e : x = gf := hx; subst e; exact BK2.out) G2.out.yg)
    go_wp2_with fail
    refine MK.out.mono ?_
    rintro e w3 ⟨rfl, ⟨lv', mv', cv', rv', cc', D', hps, hmd'⟩, hko, hka⟩
    have G9 := hid hps
    have O9 := hid (hko _ _ _ _ O2.out)
    have X9 := hid (hka _ _ X3.out)
    clear hps hko hka MK o1 o2 o3 cp cq
    all_goals
      have o3 := X9.out.cell 3 _ rfl
      go_wp2_with fail
      refine (kept17 _ _ dn (cb fd) _ O9.out.reads (HDR.out _ G9.out.bel) (by omega)).mono ?_
      rintro e wY ⟨rfl, hbY⟩
      have GY := hid (G9.out.below hbY)
      have OY := hid (own_below O9.out hbY)
      clear hbY
      go_wp2_with fail
      refine (over18 gf cf (dn + 6) _ _ wY OY.out (by omega)).mono ?_
      rintro e wZ ⟨rfl, -, hgZ⟩
      obtain ⟨c, hc⟩ := own8_type OY.out (show (Value.slice (some ⟨gf, 0, none⟩) (dn + 6) cf).ownBlock = some gf from rfl)
      have hbk : Blk wY gf c.toList 5 := by show wY.heap[gf]? = _; rw [hc]
      have hkZ : Kp (fun j => j = gf) wY wZ := (Kp.of_grown hgZ).mono (fun j _ e => (Option.some.inj e).symm)
      have GZ := hid ((GY.out.over (g := gf) rfl hbk (Nat.le_trans G1.out.size HGB.out) hkZ (YG.out _ _ gf HGB.out hkZ GY.out.ex)).moved av0 (fun x hx => hx.elim))
      clear hbk hkZ hgZ hc
      go_wp2_with fail
      go_ret
      exact ⟨by simp, tl, lv', mv', tv, wv, cv', rv', cc', D', _, GZ.out, by have := HTL.out; omega, Lt.sel true HL.out (lt_nw HL.out hT _), fun i hi => by have := hmd' i hi; have := HMD.out i hi; omega⟩
end
end Go.Proofs.YtbgdjjfonmoemaaDoor.Vm
namespace Go.Proofs.YtbgdjjfonmoemaaDoor.Vm
open Go.ChangeShapes Go.WideShapes Go.ChangeAt Go.RowKit
open Go.Proofs.YtbgdjjfonmoemaaDoor.By Go.Proofs.YtbgdjjfonmoemaaDoor.Gf Go.Proofs.YtbgdjjfonmoemaaDoor.Ae
open Go.Proofs.YtbgdjjfonmoemaaDoor.Kc (own_kept own_mono own8_type)
section
variable {w0 W : World} {xb lb mb : Nat}
set_option maxRecDepth 4000 in
set_option maxHeartbeats 8000000 in
theorem act8 (T : Nat) (hT : T ≤ 100) (h : SCm w0 xb lb mb T W) (on : Int) (ka da : Option Addr) (kn kc dn dc : Nat) (mute : Bool) (fk fd : Nat → Nat) (hkr : ∀ V, Below w0.heap.size w0 V → By.RB V (.slice ka kn kc) kn (cb fk)) (hdr : ∀ V, Below w0.heap.size w0 V → By.RB V (.slice da dn dc) dn (cb fd)) (hkn : kn ≤ 140737488351232) (hdn : dn ≤ 4000) (kd : Int) (hkd : kd < 0 ∨ 7 < kd) :
    Calls Tryd.prog 8 #[.pointer (some ⟨xb, 0, none⟩), .agg #[.int .i64 on, .int .i64 kd, .slice ka kn kc, .slice da dn dc, .bool mute]] W fun e w' => e = .returned (.bool true) ∧ SCm w0 xb lb mb (T + 1) w' := by
  obtain ⟨tl, lv, mv, tv, wv, cv, rv, cc, D, L, h, htl, hLt, hmd⟩ := h
  have HX := hid (Blk.new W [.int .i64 on, .int .i64 kd, .slice ka kn kc, .slice da dn dc, .bool mute] 40)
  have HB := hid (below_alloc W (.cells #[.int .i64 on, .int .i64 kd, .slice ka kn kc, .slice da dn dc, .bool mute] 40))
  have G0 := hid (h.below HB.out)
  have HL := hid hLt
  have HMD := hid hmd
  have HTL := hid htl
  have HDR := hid hdr
  have HKR := hid hkr
  clear h hLt hmd htl hdr hkr
  have HKD := hid hkd
  clear hkd
  have _ := hT
  have _ := hkn
  have _ := HKR
  go_enter Tryd.func8, Tryd.ntmps8
  go_wp2_with fail
  obtain ⟨W1, hW1⟩ : ∃ x, W.alloc (.cells #[.int .i64 on, .int .i64 kd, .slice ka kn kc, .slice da dn dc, .bool mute] 40) = x := ⟨_, rfl⟩
  obtain ⟨ob, hob⟩ : ∃ x, W.heap.size = x := ⟨_, rfl⟩
  have X1 : Hid (Blk W1 ob [.int .i64 on, .int .i64 kd, .slice ka kn kc, .slice da dn dc, .bool mute] 40) := by rw [← hW1, ← hob]; exact HX.out
  rw [hW1] at G0
  rw [hW1]
  rw [hob]
  clear hW1 HX HB
  refine (pickN on 2 (by omega) (by omega) W1).mono ?_
  rintro e w1 ⟨⟨k, hk2, rfl⟩, hw1⟩
  subst w1
  have hk2' : (k : Int) < 2 := by omega
  have o1 := X1.out.cell 1 _ rfl
  have o3 := X1.out.cell 3 _ rfl
  have o4 := X1.out.cell 4 _ rfl
  have cl := G0.out.here.cell 4 _ rfl
  have cm := G0.out.here.cell 5 _ rfl
  go_wp2_with fail
  go_region_held3 (fun W => W.cell? ⟨xb, 4, none⟩ = some (.pointer (some ⟨lb, 0, none⟩)) ∧ W.cell? ⟨xb, 5, none⟩ = some (.pointer (some ⟨mb, 0, none⟩))) (go_keep) (fail)
  have G1 := hid (G0.out.below (W' := W1.drew) (below_drewN W1 1))
  have X2 := hid (show Blk W1.drew ob _ 40 from X1.out.below (below_drewN W1 1))
  obtain ⟨V1, hV1⟩ : ∃ x, W1.drew = x := ⟨_, rfl⟩
  rw [hV1] at G1 X2
  rw [hV1]
  clear hV1 G0 X1 cl cm o1 o3 o4
  have o1 := X2.out.cell 1 _ rfl
  have o3 := X2.out.cell 3 _ rfl
  have o4 := X2.out.cell 4 _ rfl
  have LT := hid (lent14 _ dn (cb fd) V1 (HDR.out _ G1.out.bel) (by omega))
  cases mute with
  | false =>
    go_wp2_with fail
    refine LT.out.mono ?_
    rintro e w2 ⟨fu, rfl, ho, hb⟩
    rcases ho.shape with ⟨_, h0⟩ | ⟨gf, cf, rfl, hgb, hgl, hnc, hcm, _, _⟩
    · omega
    have G2 := hid ((G1.out.moved (av1 gf) (fun x hx => .inr (by have e : x = gf := hx; omega))).below hb)
    have O2 := hid ho
    have HGB := hid hgb
    have X3 := hid (X2.out.below hb)
    have BK2 : Hid (∃ cs, Blk w2 gf cs 5) := by
      obtain ⟨c, hc⟩ := own8_type ho (show (Value.slice (some ⟨gf, 0, none⟩) (dn + 6) cf).ownBlock = some gf from rfl)
      exact ⟨c.toList, by show w2.heap[gf]? = _; rw [hc]⟩
    have YG := hid G1.out.yg
    have l1 : (dn : Int) ≤ cf := by omega
    clear hb ho hgb o1 o3 o4
    have o1 := X3.out.cell 1 _ rfl
    have o2 := X3.out.cell 2 _ rfl
    have o3 := X3.out.cell 3 _ rfl
    have cp := G2.out.here.cell k _ (pairM_c _ _ _ _ _ _ k hk2)
    have cq := G2.out.here.cell (2 + k) _ (pairM_r _ _ _ _ _ _ k hk2)
    have hq := HKD.out
    have b0 : (kd == 0) = false := by rw [beq_eq_false_iff_ne]; omega
    have b1 : (kd == 1) = false := by rw [beq_eq_false_iff_ne]; omega
    have b2 : (kd == 2) = false := by rw [beq_eq_false_iff_ne]; omega
    have b3 : (kd == 3) = false := by rw [beq_eq_false_iff_ne]; omega
    have b4 : (kd == 4) = false := by rw [beq_eq_false_iff_ne]; omega
    have b5 : (kd == 5) = false := by rw [beq_eq_false_iff_ne]; omega
    have b6 : (kd == 6) = false := by rw [beq_eq_false_iff_ne]; omega
    have b7 : (kd == 7) = false := by rw [beq_eq_false_iff_ne]; omega
    have c0 : ¬ kd = 0 := by omega
    have c1 : ¬ kd = 1 := by omega
    have c2 : ¬ kd = 2 := by omega
    have c3 : ¬ kd = 3 := by omega
    have c4 : ¬ kd = 4 := by omega
    have c5 : ¬ kd = 5 := by omega
    have c6 : ¬ kd = 6 := by omega
    have c7 : ¬ kd = 7 := by omega
    clear hq
    have G9 := hid G2.out
    have O9 := hid O2.out
    have X9 := hid X3.out
    all_goals
      go_wp2_with fail
      refine (kept17 _ _ dn (cb fd) _ O9.out.reads (HDR.out _ G9.out.bel) (by omega)).mono ?_
      rintro e wY ⟨rfl, hbY⟩
      have GY := hid (G9.out.below hbY)
      have OY := hid (own_below O9.out hbY)
      clear hbY
      go_wp2_with fail
      refine (over18 gf cf (dn + 6) _ _ wY OY.out (by omega)).mono ?_
      rintro e wZ ⟨rfl, -, hgZ⟩
      obtain ⟨c, hc⟩ := own8_type OY.out (show (Value.slice (some ⟨gf, 0, none⟩) (dn + 6) cf).ownBlock = some gf from rfl)
      have hbk : Blk wY gf c.toList 5 := by show wY.heap[gf]? = _; rw [hc]
      have hkZ : Kp (fun j => j = gf) wY wZ := (Kp.of_grown hgZ).mono (fun j _ e => (Option.some.inj e).symm)
      have GZ := hid ((GY.out.over (g := gf) rfl hbk (Nat.le_trans G1.out.size HGB.out) hkZ (YG.out _ _ gf HGB.out hkZ GY.out.ex)).moved av0 (fun x hx => hx.elim))
      clear hbk hkZ hgZ hc
      go_wp2_with fail
      go_ret
      exact ⟨by simp, tl, lv, mv, tv, wv, cv, rv, cc, D, L, GZ.out, by have := HTL.out; omega, HL.out.next, md_next HMD.out⟩
  | true =>
    go_wp2_with fail
    refine LT.out.mono ?_
    rintro e w2 ⟨fu, rfl, ho, hb⟩
    rcases ho.shape with ⟨_, h0⟩ | ⟨gf, cf, rfl, hgb, hgl, hnc, hcm, _, _⟩
    · omega
    have G2 := hid ((G1.out.moved (av1 gf) (fun x hx => .inr (by have e : x = gf := hx; omega))).below hb)
    have O2 := hid ho
    have HGB := hid hgb
    have X3 := hid (X2.out.below hb)
    have BK2 : Hid (∃ cs, Blk w2 gf cs 5) := by
      obtain ⟨c, hc⟩ := own8_type ho (show (Value.slice (some ⟨gf, 0, none⟩) (dn + 6) cf).ownBlock = some gf from rfl)
      exact ⟨c.toList, by show w2.heap[gf]? = _; rw [hc]⟩
    have YG := hid G1.out.yg
    have l1 : (dn : Int) ≤ cf := by omega
    clear hb ho hgb o1 o3 o4
    have o1 := X3.out.cell 1 _ rfl
    have o2 := X3.out.cell 2 _ rfl
    have o3 := X3.out.cell 3 _ rfl
    have cp := G2.out.here.cell k _ (pairM_c _ _ _ _ _ _ k hk2)
    have cq := G2.out.here.cell (2 + k) _ (pairM_r _ _ _ _ _ _ k hk2)
    have hq := HKD.out
    have b0 : (kd == 0) = false := by rw [beq_eq_false_iff_ne]; omega
    have b1 : (kd == 1) = false := by rw [beq_eq_false_iff_ne]; omega
    have b2 : (kd == 2) = false := by rw [beq_eq_false_iff_ne]; omega
    have b3 : (kd == 3) = false := by rw [beq_eq_false_iff_ne]; omega
    have b4 : (kd == 4) = false := by rw [beq_eq_false_iff_ne]; omega
    have b5 : (kd == 5) = false := by rw [beq_eq_false_iff_ne]; omega
    have b6 : (kd == 6) = false := by rw [beq_eq_false_iff_ne]; omega
    have b7 : (kd == 7) = false := by rw [beq_eq_false_iff_ne]; omega
    have c0 : ¬ kd = 0 := by omega
    have c1 : ¬ kd = 1 := by omega
    have c2 : ¬ kd = 2 := by omega
    have c3 : ¬ kd = 3 := by omega
    have c4 : ¬ kd = 4 := by omega
    have c5 : ¬ kd = 5 := by omega
    have c6 : ¬ kd = 6 := by omega
    have c7 : ¬ kd = 7 := by omega
    clear hq
    have G9 := hid G2.out
    have O9 := hid O2.out
    have X9 := hid X3.out
    all_goals
      go_wp2_with fail
      refine (kept17 _ _ dn (cb fd) _ O9.out.reads (HDR.out _ G9.out.bel) (by omega)).mono ?_
      rintro e wY ⟨rfl, hbY⟩
      have GY := hid (G9.out.below hbY)
      have OY := hid (own_below O9.out hbY)
      clear hbY
      go_wp2_with fail
      refine (over18 gf cf (dn + 6) _ _ wY OY.out (by omega)).mono ?_
      rintro e wZ ⟨rfl, -, hgZ⟩
      obtain ⟨c, hc⟩ := own8_type OY.out (show (Value.slice (some ⟨gf, 0, none⟩) (dn + 6) cf).ownBlock = some gf from rfl)
      have hbk : Blk wY gf c.toList 5 := by show wY.heap[gf]? = _; rw [hc]
      have hkZ : Kp (fun j => j = gf) wY wZ := (Kp.of_grown hgZ).mono (fun j _ e => (Option.some.inj e).symm)
      have GZ := hid ((GY.out.over (g := gf) rfl hbk (Nat.le_trans G1.out.size HGB.out) hkZ (YG.out _ _ gf HGB.out hkZ GY.out.ex)).moved av0 (fun x hx => hx.elim))
      clear hbk hkZ hgZ hc
      go_wp2_with fail
      go_ret
      exact ⟨by simp, tl, lv, mv, tv, wv, cv, rv, cc, D, L, GZ.out, by have := HTL.out; omega, HL.out.next, md_next HMD.out⟩
end
end Go.Proofs.YtbgdjjfonmoemaaDoor.Vm
namespace Go.Proofs.YtbgdjjfonmoemaaDoor.Vm
open Go.ChangeShapes Go.WideShapes Go.ChangeAt Go.RowKit
open Go.Proofs.YtbgdjjfonmoemaaDoor.By Go.Proofs.YtbgdjjfonmoemaaDoor.Gf Go.Proofs.YtbgdjjfonmoemaaDoor.Ae
theorem actAny {w0 W : World} {xb lb mb : Nat} (T : Nat) (hT : T ≤ 100) (h : SCm w0 xb lb mb T W) (on kd : Int) (ka da : Option Addr) (kn kc dn dc : Nat) (mute : Bool) (fk fd : Nat → Nat) (hkr : ∀ V, Below w0.heap.size w0 V → By.RB V (.slice ka kn kc) kn (cb fk)) (hdr : ∀ V, Below w0.heap.size w0 V → By.RB V (.slice da dn dc) dn (cb fd)) (hkn : kn ≤ 140737488351232) (hdn : dn ≤ 4000) :
    Calls Tryd.prog 8 #[.pointer (some ⟨xb, 0, none⟩), .agg #[.int .i64 on, .int .i64 kd, .slice ka kn kc, .slice da dn dc, .bool mute]] W fun e w' => e = .returned (.bool true) ∧ SCm w0 xb lb mb (T + 1) w' := by
  by_cases hk : kd < 0 ∨ 7 < kd
  · exact act8 T hT h on ka da kn kc dn dc mute fk fd hkr hdr hkn hdn kd hk
  · rcases (show kd = 0 ∨ kd = 1 ∨ kd = 2 ∨ kd = 3 ∨ kd = 4 ∨ kd = 5 ∨ kd = 6 ∨ kd = 7 by omega) with rfl | rfl | rfl | rfl | rfl | rfl | rfl | rfl
    · exact act0 T hT h on ka da kn kc dn dc mute fk fd hkr hdr hkn hdn
    · exact act1 T hT h on ka da kn kc dn dc mute fk fd hkr hdr hkn hdn
    · exact act2 T hT h on ka da kn kc dn dc mute fk fd hkr hdr hkn hdn
    · exact act3 T hT h on ka da kn kc dn dc mute fk fd hkr hdr hkn hdn
    · exact act4 T hT h on ka da kn kc dn dc mute fk fd hkr hdr hkn hdn
    · exact act5 T hT h on ka da kn kc dn dc mute fk fd hkr hdr hkn hdn
    · exact act6 T hT h on ka da kn kc dn dc mute fk fd hkr hdr hkn hdn
    · exact act7 T hT h on ka da kn kc dn dc mute fk fd hkr hdr hkn hdn
end Go.Proofs.YtbgdjjfonmoemaaDoor.Vm
