/- The helper act: Write The helper act: Sum The helper act: Clone The helper act: Wipe The helper act: Form The helper act: Strength The helper act: any call. -/
import Derived.Test.YtnhhkoekghjogaaGreatDoorKj
namespace Go.Proofs.YtnhhkoekghjogaaGreatDoor.Kc
open Go.ChangeShapes Go.WideShapes Go.ChangeAt Go.RowKit
open Go.Proofs.YtnhhkoekghjogaaGreatDoor.By Go.Proofs.YtnhhkoekghjogaaGreatDoor.Wd
set_option maxRecDepth 4000 in
set_option maxHeartbeats 4000000 in
theorem PK.act0 {w0 W : World} {xb lb mb : Nat} {L : List Rn} {tl : List TE} (h : PK w0 xb lb mb L tl W) (on tgt n : Int) (pa : Option Addr) (pn pcp : Nat) (xof : Bool) (g : Nat → Int) (hp : ∀ W', Below w0.heap.size w0 W' → By.RB W' (.slice pa pn pcp) pn g) (hpn : pn ≤ 4000) (_htl : tl.length ≤ 900) (hT : Tiny L) :
    Calls Tryz.prog 9 #[.pointer (some ⟨xb, 0, none⟩), .agg #[.int .i64 on, .int .i64 0, .int .i64 tgt, .slice pa pn pcp, .int .i64 n, .bool xof]] W fun e w' => e = .returned (.bool true) ∧ ∃ L' tl', PK w0 xb lb mb L' tl' w' ∧ More L L' 90000 ∧ tl'.length ≤ tl.length + 1 := by
  obtain ⟨lv, mv, tv, wv, pv, qv, pc, qc, D, hPS, hRW⟩ := h
  obtain ⟨W1, hW1⟩ : ∃ x, W.alloc (.cells #[.int .i64 on, .int .i64 0, .int .i64 tgt, .slice pa pn pcp, .int .i64 n, .bool xof] 43) = x := ⟨_, rfl⟩
  obtain ⟨ob, hob⟩ : ∃ x, W.heap.size = x := ⟨_, rfl⟩
  have b1 : Below W.heap.size W W1 := by rw [← hW1]; exact below_alloc _ _
  have X1 : Hid (Blk W1 ob [.int .i64 on, .int .i64 0, .int .i64 tgt, .slice pa pn pcp, .int .i64 n, .bool xof] 43) := by rw [← hW1, ← hob]; exact Blk.new W _ _
  have G1 := hid (hPS.below b1)
  have R1 := hid (hRW.kx (Kx.below b1))
  have HP := hid hp
  have HGb := hid (show ∀ i, 0 ≤ g i ∧ g i < 256 from (hp W hPS.bel).1)
  have HT := hid hT
  clear hPS hRW hp hT b1
  have o0 := X1.out.cell 0 _ rfl
  go_enter Tryz.func9, Tryz.ntmps9
  go_wp2_with fail
  clear hW1 hob o0
  refine (pickN on 3 (by omega) (by omega) W1).mono ?_
  rintro e w1 ⟨⟨k, hk3, rfl⟩, rfl⟩
  have cp := G1.out.here.cell k _ (x8_p _ _ _ _ _ _ k hk3)
  have cq := G1.out.here.cell (3 + k) _ (x8_q _ _ _ _ _ _ k hk3)
  have cl := G1.out.here.cell 6 _ rfl
  have cm := G1.out.here.cell 7 _ rfl
  have o1 := X1.out.cell 1 _ rfl
  have hk3' : (k : Int) < 3 := by omega
  have o3 := X1.out.cell 3 _ rfl
  go_wp2_with fail
  refine (lent14 _ pn g _ (HP.out _ G1.out.bel) (by omega)).mono ?_
  rintro e w2 ⟨fu, rfl, ho, hb⟩
  rcases ho.shape with ⟨_, h0⟩ | ⟨gf, cf, rfl, hgb, hgl, hnc, hcm, _, _⟩
  · omega
  have G2 := hid (G1.out.below hb)
  have R2 := hid (R1.out.kx (Kx.below hb))
  have X2 := hid (X1.out.below hb)
  have O2 := hid ho
  have HGB := hid hgb
  clear hb ho hgb
  have l1 : (pn : Int) ≤ cf := by omega
  have c6 := G2.out.here.cell 6 _ rfl
  have c7 := G2.out.here.cell 7 _ rfl
  have o3' := X2.out.cell 3 _ rfl
  have GD := hid (G2.out.below (below_drewN w2 1))
  have RD := hid (R2.out.kx (Kx.below (below_drewN w2 1)))
  have XD := hid (X2.out.below (below_drewN w2 1))
  have OD := hid (own_below O2.out (below_drewN w2 1))
  go_wp2_with fail
  go_region_held3 (fun W => W.cell? ⟨xb, 6, none⟩ = some (.pointer (some ⟨lb, 0, none⟩)) ∧ W.cell? ⟨ob, 3, none⟩ = some (.slice pa pn pcp)) (go_keep) (first
    | (go_at_call 27; go_must (refine (GD.out.writeP k hk3 pn _ g (fun V hK _ => ((hK.own OD.out).reads.first pn (by omega)).congr HGb.out (fun i hi => by unfold lent; rw [if_pos hi])) (by omega) HT.out).mono ?_; rintro e w3 ⟨rfl, ⟨lv', hG3⟩, hK3⟩; have G3 := hid hG3; have R3 := hid (RD.out.kx hK3); have X3 := hid (hK3 _ _ _ XD.out (by decide)); have O3 := hid (hK3.own OD.out); have y6 := hG3.here.cell 6 _ rfl; have y3 := X3.out.cell 3 _ rfl; clear hG3 hK3)))
  clear GD RD XD OD G2 R2 X2 O2 c6 c7 o3' o3 y6 y3
  have c7 := G3.out.here.cell 7 _ rfl
  have o3 := X3.out.cell 3 _ rfl
  go_wp2_with fail
  have GE := hid (G3.out.below (below_drewN w3 1))
  have RE := hid (R3.out.kx (Kx.below (below_drewN w3 1)))
  have XE := hid (X3.out.below (below_drewN w3 1))
  have OE := hid (own_below O3.out (below_drewN w3 1))
  go_region_held3 (fun W => W.cell? ⟨xb, 7, none⟩ = some (.pointer (some ⟨mb, 0, none⟩)) ∧ W.cell? ⟨ob, 3, none⟩ = some (.slice pa pn pcp)) (go_keep) (first
    | (go_at_call 28; go_must (refine (GE.out.writeQ k hk3 pn _ g (fun V _ hb => HP.out V hb) (by omega) HT.out).mono ?_; rintro e w4 ⟨rfl, ⟨mv', hG4⟩, hK4⟩; have G4 := hid hG4; have R4 := hid (RE.out.kx hK4); have X4 := hid (hK4 _ _ _ XE.out (by decide)); have O4 := hid (hK4.own OE.out); have y7 := hG4.here.cell 7 _ rfl; have y3 := X4.out.cell 3 _ rfl; clear hG4 hK4)))
  clear G3 R3 X3 O3 c7 o3 GE RE XE OE y7 y3
  have o3 := X4.out.cell 3 _ rfl
  go_wp2_with fail
  refine (kept17 _ _ pn g w4 O4.out.reads (HP.out _ G4.out.bel) (by omega)).mono ?_
  rintro e w5 ⟨rfl, hb5⟩
  have G5 := hid (G4.out.below hb5)
  have R5 := hid (R4.out.kx (Kx.below hb5))
  have O5 := hid (own_below O4.out hb5)
  clear hb5
  go_wp2_with fail
  refine (over18 gf cf (pn + 6) _ _ w5 O5.out (by omega)).mono ?_
  rintro e w6 ⟨rfl, -, hg6⟩
  obtain ⟨c, hc⟩ := own8_type O5.out (show (Value.slice (some ⟨gf, 0, none⟩) (pn + 6) cf).ownBlock = some gf from rfl)
  have hbk : Blk w5 gf c.toList 5 := by show w5.heap[gf]? = _; rw [hc]
  have hk6 : Kp (fun j => j = gf) w5 w6 := (Kp.of_grown hg6).mono (fun j _ e => (Option.some.inj e).symm)
  have G6 := hid (G5.out.over hbk (Nat.le_trans G1.out.bel.size HGB.out) hk6)
  have R6 := hid (R5.out.over hbk HGB.out R1.out.tl.old2 hk6)
  clear hbk hk6 hg6
  go_wp2
  go_ret
  exact ⟨by simp, _, tl, ⟨lv', mv', tv, wv, pv, qv, pc, qc, _, G6.out, R6.out⟩, More.ws (G1.out.P.p k hk3) G1.out.pos HT.out pn g (by omega), by omega⟩
end Go.Proofs.YtnhhkoekghjogaaGreatDoor.Kc
namespace Go.Proofs.YtnhhkoekghjogaaGreatDoor.Kc
open Go.ChangeShapes Go.WideShapes Go.ChangeAt Go.RowKit
open Go.Proofs.YtnhhkoekghjogaaGreatDoor.By Go.Proofs.YtnhhkoekghjogaaGreatDoor.Wd
set_option maxRecDepth 4000 in
set_option maxHeartbeats 4000000 in
theorem PK.act1 {w0 W : World} {xb lb mb : Nat} {L : List Rn} {tl : List TE} (h : PK w0 xb lb mb L tl W) (on tgt n : Int) (pa : Option Addr) (pn pcp : Nat) (xof : Bool) (g : Nat → Int) (hp : ∀ W', Below w0.heap.size w0 W' → By.RB W' (.slice pa pn pcp) pn g) (_hpn : pn ≤ 4000) (htl : tl.length ≤ 900) (hT : Tiny L) :
    Calls Tryz.prog 9 #[.pointer (some ⟨xb, 0, none⟩), .agg #[.int .i64 on, .int .i64 1, .int .i64 tgt, .slice pa pn pcp, .int .i64 n, .bool xof]] W fun e w' => e = .returned (.bool true) ∧ ∃ L' tl', PK w0 xb lb mb L' tl' w' ∧ More L L' 90000 ∧ tl'.length ≤ tl.length + 1 := by
  obtain ⟨lv, mv, tv, wv, pv, qv, pc, qc, D, hPS, hRW⟩ := h
  obtain ⟨W1, hW1⟩ : ∃ x, W.alloc (.cells #[.int .i64 on, .int .i64 1, .int .i64 tgt, .slice pa pn pcp, .int .i64 n, .bool xof] 43) = x := ⟨_, rfl⟩
  obtain ⟨ob, hob⟩ : ∃ x, W.heap.size = x := ⟨_, rfl⟩
  have b1 : Below W.heap.size W W1 := by rw [← hW1]; exact below_alloc _ _
  have X1 : Hid (Blk W1 ob [.int .i64 on, .int .i64 1, .int .i64 tgt, .slice pa pn pcp, .int .i64 n, .bool xof] 43) := by rw [← hW1, ← hob]; exact Blk.new W _ _
  have G1 := hid (hPS.below b1)
  have R1 := hid (hRW.kx (Kx.below b1))
  have HP := hid hp
  have HGb := hid (show ∀ i, 0 ≤ g i ∧ g i < 256 from (hp W hPS.bel).1)
  have HT := hid hT
  clear hPS hRW hp hT b1
  have o0 := X1.out.cell 0 _ rfl
  go_enter Tryz.func9, Tryz.ntmps9
  go_wp2_with fail
  clear hW1 hob o0
  refine (pickN on 3 (by omega) (by omega) W1).mono ?_
  rintro e w1 ⟨⟨k, hk3, rfl⟩, rfl⟩
  have cp := G1.out.here.cell k _ (x8_p _ _ _ _ _ _ k hk3)
  have cq := G1.out.here.cell (3 + k) _ (x8_q _ _ _ _ _ _ k hk3)
  have cl := G1.out.here.cell 6 _ rfl
  have cm := G1.out.here.cell 7 _ rfl
  have o1 := X1.out.cell 1 _ rfl
  have hk3' : (k : Int) < 3 := by omega
  have o4 := X1.out.cell 4 _ rfl
  have o5 := X1.out.cell 5 _ rfl
  have GD := hid (G1.out.below (below_drewN w1 1))
  have RD := hid (R1.out.kx (Kx.below (below_drewN w1 1)))
  have XD := hid (X1.out.below (below_drewN w1 1))
  go_wp2_with fail
  go_region_held3 (fun W => W.cell? ⟨xb, 6, none⟩ = some (.pointer (some ⟨lb, 0, none⟩)) ∧ W.cell? ⟨ob, 4, none⟩ = some (.int .i64 n) ∧ W.cell? ⟨ob, 5, none⟩ = some (.bool xof)) (go_keep) (first
    | (go_at_call 29; go_must (refine (GD.out.sumP k hk3 n xof HT.out).mono ?_; rintro e w3 ⟨a, rfl, ha, ⟨lv', hG3⟩, hK3⟩; have A3 := hid ha; have G3 := hid hG3; have R3 := hid (RD.out.kx hK3); have X3 := hid (hK3 _ _ _ XD.out (by decide)); have y6 := hG3.here.cell 6 _ rfl; have y4 := X3.out.cell 4 _ rfl; have y5 := X3.out.cell 5 _ rfl; clear ha hG3 hK3)))
  clear XD o4 o5 y6 y4 y5
  have GE := hid (G3.out.below (below_drewN w3 1))
  have RE := hid (R3.out.kx (Kx.below (below_drewN w3 1)))
  have AE := hid (own_below A3.out (below_drewN w3 1))
  have c7 := G3.out.here.cell 7 _ rfl
  have o4 := X3.out.cell 4 _ rfl
  have o5 := X3.out.cell 5 _ rfl
  have XE := hid (X3.out.below (below_drewN w3 1))
  go_wp2_with fail
  go_region_held3 (fun W => W.cell? ⟨xb, 7, none⟩ = some (.pointer (some ⟨mb, 0, none⟩)) ∧ W.cell? ⟨ob, 4, none⟩ = some (.int .i64 n) ∧ W.cell? ⟨ob, 5, none⟩ = some (.bool xof)) (go_keep) (first
    | (go_at_call 30; go_must (refine (GE.out.sumQ k hk3 n xof HT.out).mono ?_; rintro e w4 ⟨b, rfl, hb', ⟨mv', hG4⟩, hK4⟩; have B4 := hid (own_mono hb' GE.out.bel.size); have A4 := hid (hK4.own AE.out); have G4 := hid hG4; have R4 := hid (RE.out.kx hK4); have X4 := hid (hK4 _ _ _ XE.out (by decide)); have y7 := hG4.here.cell 7 _ rfl; have y4 := X4.out.cell 4 _ rfl; have y5 := X4.out.cell 5 _ rfl; clear hb' hG4 hK4)))
  clear XE o4 o5 c7 y7 y4 y5 GE RE AE
  go_wp2_with fail
  refine (G4.out.keep R4.out a b (smn n (D k)) (w1.drewN 1).heap.size (smf n xof (D k)) A4.out B4.out GD.out.bel.size (fun q hq g hg => RD.out.tl.old q hq g hg) (smn_le n _) (by omega)).mono ?_
  rintro e w5 ⟨rfl, ⟨tv', wv', hG5, hR5⟩, -⟩
  have G5 := hid hG5
  have R5 := hid hR5
  clear hG5 hR5
  go_wp2
  go_ret
  exact ⟨by simp, _, _, ⟨lv', mv', tv', wv', pv, qv, pc, qc, D, G5.out, R5.out⟩, More.sm (G1.out.P.p k hk3) G1.out.pos HT.out n xof, by simp⟩
end Go.Proofs.YtnhhkoekghjogaaGreatDoor.Kc
namespace Go.Proofs.YtnhhkoekghjogaaGreatDoor.Kc
open Go.ChangeShapes Go.WideShapes Go.ChangeAt Go.RowKit
open Go.Proofs.YtnhhkoekghjogaaGreatDoor.By Go.Proofs.YtnhhkoekghjogaaGreatDoor.Wd
set_option maxRecDepth 4000 in
set_option maxHeartbeats 4000000 in
theorem PK.act2 {w0 W : World} {xb lb mb : Nat} {L : List Rn} {tl : List TE} (h : PK w0 xb lb mb L tl W) (on tgt n : Int) (pa : Option Addr) (pn pcp : Nat) (xof : Bool) (g : Nat → Int) (hp : ∀ W', Below w0.heap.size w0 W' → By.RB W' (.slice pa pn pcp) pn g) (_hpn : pn ≤ 4000) (_htl : tl.length ≤ 900) (hT : Tiny L) :
    Calls Tryz.prog 9 #[.pointer (some ⟨xb, 0, none⟩), .agg #[.int .i64 on, .int .i64 2, .int .i64 tgt, .slice pa pn pcp, .int .i64 n, .bool xof]] W fun e w' => e = .returned (.bool true) ∧ ∃ L' tl', PK w0 xb lb mb L' tl' w' ∧ More L L' 90000 ∧ tl'.length ≤ tl.length + 1 := by
  obtain ⟨lv, mv, tv, wv, pv, qv, pc, qc, D, hPS, hRW⟩ := h
  obtain ⟨W1, hW1⟩ : ∃ x, W.alloc (.cells #[.int .i64 on, .int .i64 2, .int .i64 tgt, .slice pa pn pcp, .int .i64 n, .bool xof] 43) = x := ⟨_, rfl⟩
  obtain ⟨ob, hob⟩ : ∃ x, W.heap.size = x := ⟨_, rfl⟩
  have b1 : Below W.heap.size W W1 := by rw [← hW1]; exact below_alloc _ _
  have X1 : Hid (Blk W1 ob [.int .i64 on, .int .i64 2, .int .i64 tgt, .slice pa pn pcp, .int .i64 n, .bool xof] 43) := by rw [← hW1, ← hob]; exact Blk.new W _ _
  have G1 := hid (hPS.below b1)
  have R1 := hid (hRW.kx (Kx.below b1))
  have HP := hid hp
  have HGb := hid (show ∀ i, 0 ≤ g i ∧ g i < 256 from (hp W hPS.bel).1)
  have HT := hid hT
  clear hPS hRW hp hT b1
  have o0 := X1.out.cell 0 _ rfl
  go_enter Tryz.func9, Tryz.ntmps9
  go_wp2_with fail
  clear hW1 hob o0
  refine (pickN on 3 (by omega) (by omega) W1).mono ?_
  rintro e w1 ⟨⟨k, hk3, rfl⟩, rfl⟩
  have cp := G1.out.here.cell k _ (x8_p _ _ _ _ _ _ k hk3)
  have cq := G1.out.here.cell (3 + k) _ (x8_q _ _ _ _ _ _ k hk3)
  have cl := G1.out.here.cell 6 _ rfl
  have cm := G1.out.here.cell 7 _ rfl
  have o1 := X1.out.cell 1 _ rfl
  have hk3' : (k : Int) < 3 := by omega
  go_wp2_with fail
  refine (G1.out.cloneP k hk3).mono ?_
  rintro e w2 ⟨a, c, rfl, ha0, ha1, hk2, hb⟩
  have A0 := hid ha0
  have A1 := hid ha1
  have K2 := hid hk2
  have G2 := hid (G1.out.below hb)
  have R2 := hid (R1.out.kx (Kx.below hb))
  have X2 := hid (X1.out.below hb)
  have Z2 := hid hb.size
  clear ha0 ha1 hk2 hb
  go_wp2_with fail
  refine (G2.out.cloneQ k hk3).mono ?_
  rintro e w3 ⟨b, c', rfl, hb0, hb1, hk3q, hb⟩
  have B0 := hid hb0
  have B1 := hid hb1
  have KQ := hid hk3q
  have KP := hid (K2.out.below hb)
  have G3 := hid (G2.out.below hb)
  have R3 := hid (R2.out.kx (Kx.below hb))
  have X3 := hid (X2.out.below hb)
  clear hb0 hb1 hk3q hb
  obtain ⟨j, hj⟩ : ∃ x, pk3 tgt = x := ⟨_, rfl⟩
  have hj3 : j < 3 := by rw [← hj]; exact pk3_lt tgt
  have HPK : Hid (∀ w, Calls Tryz.prog 26 #[.int .i64 tgt, .int .i64 3] w fun e w' => e = .returned (.int .i64 (j : Int)) ∧ w' = w) := fun w => by rw [← hj]; exact pick3 tgt w
  clear hj
  have hj4 : (j : Int) < 3 := by omega
  have hxo : ob ≠ xb := Blk.ne X3.out G3.out.here (by decide)
  have o2 := X3.out.cell 2 _ rfl
  have cj := G3.out.here.cell j _ (x8_p _ _ _ _ _ _ j hj3)
  have fj := G3.out.here.frozen j
  have LP : Hid (∀ i, i < 3 → (∀ x, pv i = .pointer (some ⟨x, 0, none⟩) → x < w1.heap.size) ∧ (D i ≠ none → pc i < w1.heap.size)) := fun i hi => ⟨fun x e => by obtain ⟨cs, hc⟩ := (G1.out.P.p i hi).blk e; exact hc.lt, fun e => by obtain ⟨cs, hc⟩ := (G1.out.P.p i hi).cblk e; exact hc.lt⟩
  have LQ : Hid (∀ i, i < 3 → (∀ x, qv i = .pointer (some ⟨x, 0, none⟩) → x < w2.heap.size) ∧ (D i ≠ none → qc i < w2.heap.size)) := fun i hi => ⟨fun x e => by obtain ⟨cs, hc⟩ := (G2.out.Q.p i hi).blk e; exact hc.lt, fun e => by obtain ⟨cs, hc⟩ := (G2.out.Q.p i hi).cblk e; exact hc.lt⟩
  have BB1 := hid G1.out.bel.size
  have BB2 := hid G2.out.bel.size
  rcases hD : D k with _ | d
  · rw [hD] at A0 B0 KP KQ
    obtain rfl : a = .pointer none := A0.out rfl
    obtain rfl : b = .pointer none := B0.out rfl
    have FX := hid (show ∀ g, Value.pointer none = .pointer (some ⟨g, 0, none⟩) → w0.heap.size ≤ g ∧ ∀ i, i < 3 → pv i ≠ .pointer (some ⟨g, 0, none⟩) from fun g e => by simp at e)
    have FY := hid (show ∀ g, Value.pointer none = .pointer (some ⟨g, 0, none⟩) → w0.heap.size ≤ g ∧ ∀ i, i < 3 → qv i ≠ .pointer (some ⟨g, 0, none⟩) from fun g e => by simp at e)
    have FC := hid (show (none : MD) ≠ none → w0.heap.size ≤ c ∧ ∀ i, i < 3 → D i ≠ none → pc i ≠ c from fun e => absurd rfl e)
    have FD := hid (show (none : MD) ≠ none → w0.heap.size ≤ c' ∧ ∀ i, i < 3 → D i ≠ none → qc i ≠ c' from fun e => absurd rfl e)
    have cj2 := (G3.out.here.set j (Value.pointer none)).cell (3 + j) _ (by rw [List.getElem?_set, if_neg (by omega)]; exact x8_q _ _ _ _ _ _ j hj3)
    have fj2 := (G3.out.here.set j (Value.pointer none)).frozen (3 + j)
    have ob2 := (X3.out.other hxo j (Value.pointer none)).cell 2 _ rfl
    have ob3 := ((X3.out.other hxo j (Value.pointer none)).other hxo (3 + j) (Value.pointer none)).cell 2 _ rfl
    obtain ⟨hG4, hky⟩ := G3.out.slot j hj3 (Value.pointer none) (Value.pointer none) c c' _ _ KP.out KQ.out FX.out FC.out FY.out FD.out
    have G4 := hid (hG4.below (below_drewN _ 2))
    have R4 := hid ((R3.out.ky (fun g cs t hg ht => hky hg (by rcases ht with rfl | rfl <;> decide))).kx (Kx.below (below_drewN _ 2)))
    clear hG4 hky
    go_wp2_with fail
    go_region_held3 (fun W' => W'.cell? ⟨ob, 2, none⟩ = some (.int .i64 tgt)) (go_keep) (first | (go_at_call 26; go_must (refine (HPK.out _).mono ?_; rintro e wz ⟨rfl, rfl⟩)))
    go_wp2_with fail
    go_region_held3 (fun W' => W'.cell? ⟨ob, 2, none⟩ = some (.int .i64 tgt)) (go_keep) (first | (go_at_call 26; go_must (refine (HPK.out _).mono ?_; rintro e wz ⟨rfl, rfl⟩)))
    go_wp2
    go_ret
    exact ⟨by simp, L, tl, ⟨lv, mv, tv, wv, _, _, _, _, _, G4.out, R4.out⟩, More.refl _ _, by omega⟩
  · rw [hD] at A1 B1 KP KQ
    obtain ⟨g1, rfl, hg1, hc1⟩ := A1.out (by simp)
    obtain ⟨g2, rfl, hg2, hc2⟩ := B1.out (by simp)
    have FX := hid (show ∀ g, Value.pointer (some ⟨g1, 0, none⟩) = .pointer (some ⟨g, 0, none⟩) → w0.heap.size ≤ g ∧ ∀ i, i < 3 → pv i ≠ .pointer (some ⟨g, 0, none⟩) from fun g e => by
      simp at e; subst e
      exact ⟨by have := BB1.out; omega, fun i hi e => by have := (LP.out i hi).1 _ e; omega⟩)
    have FY := hid (show ∀ g, Value.pointer (some ⟨g2, 0, none⟩) = .pointer (some ⟨g, 0, none⟩) → w0.heap.size ≤ g ∧ ∀ i, i < 3 → qv i ≠ .pointer (some ⟨g, 0, none⟩) from fun g e => by
      simp at e; subst e
      exact ⟨by have := BB2.out; omega, fun i hi e => by have := (LQ.out i hi).1 _ e; omega⟩)
    have FC := hid (show some d ≠ none → w0.heap.size ≤ c ∧ ∀ i, i < 3 → D i ≠ none → pc i ≠ c from fun _ => ⟨by have := BB1.out; omega, fun i hi e => by have := (LP.out i hi).2 e; omega⟩)
    have FD := hid (show some d ≠ none → w0.heap.size ≤ c' ∧ ∀ i, i < 3 → D i ≠ none → qc i ≠ c' from fun _ => ⟨by have := BB2.out; omega, fun i hi e => by have := (LQ.out i hi).2 e; omega⟩)
    clear hg1 hg2 hc1 hc2
    have cj2 := (G3.out.here.set j (Value.pointer (some ⟨g1, 0, none⟩))).cell (3 + j) _ (by rw [List.getElem?_set, if_neg (by omega)]; exact x8_q _ _ _ _ _ _ j hj3)
    have fj2 := (G3.out.here.set j (Value.pointer (some ⟨g1, 0, none⟩))).frozen (3 + j)
    have ob2 := (X3.out.other hxo j (Value.pointer (some ⟨g1, 0, none⟩))).cell 2 _ rfl
    have ob3 := ((X3.out.other hxo j (Value.pointer (some ⟨g1, 0, none⟩))).other hxo (3 + j) (Value.pointer (some ⟨g2, 0, none⟩))).cell 2 _ rfl
    obtain ⟨hG4, hky⟩ := G3.out.slot j hj3 (Value.pointer (some ⟨g1, 0, none⟩)) (Value.pointer (some ⟨g2, 0, none⟩)) c c' _ _ KP.out KQ.out FX.out FC.out FY.out FD.out
    have G4 := hid (hG4.below (below_drewN _ 2))
    have R4 := hid ((R3.out.ky (fun g cs t hg ht => hky hg (by rcases ht with rfl | rfl <;> decide))).kx (Kx.below (below_drewN _ 2)))
    clear hG4 hky
    go_wp2_with fail
    go_region_held3 (fun W' => W'.cell? ⟨ob, 2, none⟩ = some (.int .i64 tgt)) (go_keep) (first | (go_at_call 26; go_must (refine (HPK.out _).mono ?_; rintro e wz ⟨rfl, rfl⟩)))
    go_wp2_with fail
    go_region_held3 (fun W' => W'.cell? ⟨ob, 2, none⟩ = some (.int .i64 tgt)) (go_keep) (first | (go_at_call 26; go_must (refine (HPK.out _).mono ?_; rintro e wz ⟨rfl, rfl⟩)))
    go_wp2
    go_ret
    exact ⟨by simp, L, tl, ⟨lv, mv, tv, wv, _, _, _, _, _, G4.out, R4.out⟩, More.refl _ _, by omega⟩
end Go.Proofs.YtnhhkoekghjogaaGreatDoor.Kc
namespace Go.Proofs.YtnhhkoekghjogaaGreatDoor.Kc
open Go.ChangeShapes Go.WideShapes Go.ChangeAt Go.RowKit
open Go.Proofs.YtnhhkoekghjogaaGreatDoor.By Go.Proofs.YtnhhkoekghjogaaGreatDoor.Wd
set_option maxRecDepth 4000 in
set_option maxHeartbeats 4000000 in
theorem PK.act3 {w0 W : World} {xb lb mb : Nat} {L : List Rn} {tl : List TE} (h : PK w0 xb lb mb L tl W) (on tgt n : Int) (pa : Option Addr) (pn pcp : Nat) (xof : Bool) (g : Nat → Int) (hp : ∀ W', Below w0.heap.size w0 W' → By.RB W' (.slice pa pn pcp) pn g) (_hpn : pn ≤ 4000) (_htl : tl.length ≤ 900) (hT : Tiny L) :
    Calls Tryz.prog 9 #[.pointer (some ⟨xb, 0, none⟩), .agg #[.int .i64 on, .int .i64 3, .int .i64 tgt, .slice pa pn pcp, .int .i64 n, .bool xof]] W fun e w' => e = .returned (.bool true) ∧ ∃ L' tl', PK w0 xb lb mb L' tl' w' ∧ More L L' 90000 ∧ tl'.length ≤ tl.length + 1 := by
  obtain ⟨lv, mv, tv, wv, pv, qv, pc, qc, D, hPS, hRW⟩ := h
  obtain ⟨W1, hW1⟩ : ∃ x, W.alloc (.cells #[.int .i64 on, .int .i64 3, .int .i64 tgt, .slice pa pn pcp, .int .i64 n, .bool xof] 43) = x := ⟨_, rfl⟩
  obtain ⟨ob, hob⟩ : ∃ x, W.heap.size = x := ⟨_, rfl⟩
  have b1 : Below W.heap.size W W1 := by rw [← hW1]; exact below_alloc _ _
  have X1 : Hid (Blk W1 ob [.int .i64 on, .int .i64 3, .int .i64 tgt, .slice pa pn pcp, .int .i64 n, .bool xof] 43) := by rw [← hW1, ← hob]; exact Blk.new W _ _
  have G1 := hid (hPS.below b1)
  have R1 := hid (hRW.kx (Kx.below b1))
  have HP := hid hp
  have HGb := hid (show ∀ i, 0 ≤ g i ∧ g i < 256 from (hp W hPS.bel).1)
  have HT := hid hT
  clear hPS hRW hp hT b1
  have o0 := X1.out.cell 0 _ rfl
  go_enter Tryz.func9, Tryz.ntmps9
  go_wp2_with fail
  clear hW1 hob o0
  refine (pickN on 3 (by omega) (by omega) W1).mono ?_
  rintro e w1 ⟨⟨k, hk3, rfl⟩, rfl⟩
  have cp := G1.out.here.cell k _ (x8_p _ _ _ _ _ _ k hk3)
  have cq := G1.out.here.cell (3 + k) _ (x8_q _ _ _ _ _ _ k hk3)
  have cl := G1.out.here.cell 6 _ rfl
  have cm := G1.out.here.cell 7 _ rfl
  have o1 := X1.out.cell 1 _ rfl
  have hk3' : (k : Int) < 3 := by omega
  have GD := hid (G1.out.below (below_drewN w1 1))
  have RD := hid (R1.out.kx (Kx.below (below_drewN w1 1)))
  go_wp2_with fail
  go_region_held3 (fun W => W.cell? ⟨xb, 6, none⟩ = some (.pointer (some ⟨lb, 0, none⟩)) ∧ W.cell? ⟨xb, 7, none⟩ = some (.pointer (some ⟨mb, 0, none⟩))) (go_keep) (first
    | (go_at_call 34; go_must (refine (GD.out.wipeP k hk3 HT.out).mono ?_; rintro e w2 ⟨rfl, ⟨lv', hG2⟩, hK2⟩; have G2 := hid hG2; have R2 := hid (RD.out.kx hK2); have y6 := hG2.here.cell 6 _ rfl; have y7 := hG2.here.cell 7 _ rfl; clear hG2 hK2))
    | (go_at_call 35; go_must (refine (G2.out.wipeQ k hk3 HT.out).mono ?_; rintro e w3 ⟨rfl, ⟨mv', hG3⟩, hK3⟩; have G3 := hid hG3; have R3 := hid (R2.out.kx hK3); have u6 := hG3.here.cell 6 _ rfl; have u7 := hG3.here.cell 7 _ rfl; clear hG3 hK3)))
  go_wp2
  go_ret
  exact ⟨by simp, _, tl, ⟨lv', mv', tv, wv, pv, qv, pc, qc, _, G3.out, R3.out⟩, More.wi G1.out.pos HT.out (D k) _ (by omega), by omega⟩
end Go.Proofs.YtnhhkoekghjogaaGreatDoor.Kc
namespace Go.Proofs.YtnhhkoekghjogaaGreatDoor.Kc
open Go.ChangeShapes Go.WideShapes Go.ChangeAt Go.RowKit
open Go.Proofs.YtnhhkoekghjogaaGreatDoor.By Go.Proofs.YtnhhkoekghjogaaGreatDoor.Wd
set_option maxRecDepth 4000 in
set_option maxHeartbeats 4000000 in
theorem PK.act4 {w0 W : World} {xb lb mb : Nat} {L : List Rn} {tl : List TE} (h : PK w0 xb lb mb L tl W) (on tgt n : Int) (pa : Option Addr) (pn pcp : Nat) (xof : Bool) (g : Nat → Int) (hp : ∀ W', Below w0.heap.size w0 W' → By.RB W' (.slice pa pn pcp) pn g) (_hpn : pn ≤ 4000) (htl : tl.length ≤ 900) (hT : Tiny L) :
    Calls Tryz.prog 9 #[.pointer (some ⟨xb, 0, none⟩), .agg #[.int .i64 on, .int .i64 4, .int .i64 tgt, .slice pa pn pcp, .int .i64 n, .bool xof]] W fun e w' => e = .returned (.bool true) ∧ ∃ L' tl', PK w0 xb lb mb L' tl' w' ∧ More L L' 90000 ∧ tl'.length ≤ tl.length + 1 := by
  obtain ⟨lv, mv, tv, wv, pv, qv, pc, qc, D, hPS, hRW⟩ := h
  obtain ⟨W1, hW1⟩ : ∃ x, W.alloc (.cells #[.int .i64 on, .int .i64 4, .int .i64 tgt, .slice pa pn pcp, .int .i64 n, .bool xof] 43) = x := ⟨_, rfl⟩
  obtain ⟨ob, hob⟩ : ∃ x, W.heap.size = x := ⟨_, rfl⟩
  have b1 : Below W.heap.size W W1 := by rw [← hW1]; exact below_alloc _ _
  have X1 : Hid (Blk W1 ob [.int .i64 on, .int .i64 4, .int .i64 tgt, .slice pa pn pcp, .int .i64 n, .bool xof] 43) := by rw [← hW1, ← hob]; exact Blk.new W _ _
  have G1 := hid (hPS.below b1)
  have R1 := hid (hRW.kx (Kx.below b1))
  have HP := hid hp
  have HGb := hid (show ∀ i, 0 ≤ g i ∧ g i < 256 from (hp W hPS.bel).1)
  have HT := hid hT
  clear hPS hRW hp hT b1
  have o0 := X1.out.cell 0 _ rfl
  go_enter Tryz.func9, Tryz.ntmps9
  go_wp2_with fail
  clear hW1 hob o0
  refine (pickN on 3 (by omega) (by omega) W1).mono ?_
  rintro e w1 ⟨⟨k, hk3, rfl⟩, rfl⟩
  have cp := G1.out.here.cell k _ (x8_p _ _ _ _ _ _ k hk3)
  have cq := G1.out.here.cell (3 + k) _ (x8_q _ _ _ _ _ _ k hk3)
  have cl := G1.out.here.cell 6 _ rfl
  have cm := G1.out.here.cell 7 _ rfl
  have o1 := X1.out.cell 1 _ rfl
  have hk3' : (k : Int) < 3 := by omega
  go_wp2_with fail
  refine (G1.out.formP k hk3).mono ?_
  rintro e w2 ⟨a, rfl, ha, hb⟩
  have A2 := hid ha
  have G2 := hid (G1.out.below hb)
  have R2 := hid (R1.out.kx (Kx.below hb))
  have Z2 := hid hb.size
  clear ha hb
  go_wp2_with fail
  refine (G2.out.formQ k hk3).mono ?_
  rintro e w3 ⟨b, rfl, hb', hb⟩
  have B3 := hid (own_mono hb' G2.out.bel.size)
  have A3 := hid (own_below A2.out hb)
  have G3 := hid (G2.out.below hb)
  have R3 := hid (R2.out.kx (Kx.below hb))
  clear hb' hb G2 R2 A2
  go_wp2_with fail
  refine (G3.out.keep R3.out a b (fmn (D k)) w1.heap.size (fmF (D k)) A3.out B3.out G1.out.bel.size (fun q hq g hg => R1.out.tl.old q hq g hg) (Nat.le_trans (fmn_le _) (by omega)) (by omega)).mono ?_
  rintro e w4 ⟨rfl, ⟨tv', wv', hG4, hR4⟩, -⟩
  have G4 := hid hG4
  have R4 := hid hR4
  clear hG4 hR4
  go_wp2
  go_ret
  exact ⟨rfl, L, _, ⟨lv, mv, tv', wv', pv, qv, pc, qc, D, G4.out, R4.out⟩, More.refl _ _, by simp⟩
end Go.Proofs.YtnhhkoekghjogaaGreatDoor.Kc
namespace Go.Proofs.YtnhhkoekghjogaaGreatDoor.Kc
open Go.ChangeShapes Go.WideShapes Go.ChangeAt Go.RowKit
open Go.Proofs.YtnhhkoekghjogaaGreatDoor.By Go.Proofs.YtnhhkoekghjogaaGreatDoor.Wd
set_option maxRecDepth 4000 in
set_option maxHeartbeats 4000000 in
theorem PK.act5 {w0 W : World} {xb lb mb : Nat} {L : List Rn} {tl : List TE} (h : PK w0 xb lb mb L tl W) (on cc tgt n : Int) (pa : Option Addr) (pn pcp : Nat) (xof : Bool) (g : Nat → Int) (hc : ¬ cc = 0 ∧ ¬ cc = 1 ∧ ¬ cc = 2 ∧ ¬ cc = 3 ∧ ¬ cc = 4) (hp : ∀ W', Below w0.heap.size w0 W' → By.RB W' (.slice pa pn pcp) pn g) (_hpn : pn ≤ 4000) (_htl : tl.length ≤ 900) (hT : Tiny L) :
    Calls Tryz.prog 9 #[.pointer (some ⟨xb, 0, none⟩), .agg #[.int .i64 on, .int .i64 cc, .int .i64 tgt, .slice pa pn pcp, .int .i64 n, .bool xof]] W fun e w' => e = .returned (.bool true) ∧ ∃ L' tl', PK w0 xb lb mb L' tl' w' ∧ More L L' 90000 ∧ tl'.length ≤ tl.length + 1 := by
  obtain ⟨lv, mv, tv, wv, pv, qv, pc, qc, D, hPS, hRW⟩ := h
  obtain ⟨W1, hW1⟩ : ∃ x, W.alloc (.cells #[.int .i64 on, .int .i64 cc, .int .i64 tgt, .slice pa pn pcp, .int .i64 n, .bool xof] 43) = x := ⟨_, rfl⟩
  obtain ⟨ob, hob⟩ : ∃ x, W.heap.size = x := ⟨_, rfl⟩
  have b1 : Below W.heap.size W W1 := by rw [← hW1]; exact below_alloc _ _
  have X1 : Hid (Blk W1 ob [.int .i64 on, .int .i64 cc, .int .i64 tgt, .slice pa pn pcp, .int .i64 n, .bool xof] 43) := by rw [← hW1, ← hob]; exact Blk.new W _ _
  have G1 := hid (hPS.below b1)
  have R1 := hid (hRW.kx (Kx.below b1))
  have HP := hid hp
  have HGb := hid (show ∀ i, 0 ≤ g i ∧ g i < 256 from (hp W hPS.bel).1)
  have HT := hid hT
  clear hPS hRW hp hT b1
  have o0 := X1.out.cell 0 _ rfl
  go_enter Tryz.func9, Tryz.ntmps9
  go_wp2_with fail
  clear hW1 hob o0
  refine (pickN on 3 (by omega) (by omega) W1).mono ?_
  rintro e w1 ⟨⟨k, hk3, rfl⟩, rfl⟩
  have cp := G1.out.here.cell k _ (x8_p _ _ _ _ _ _ k hk3)
  have cq := G1.out.here.cell (3 + k) _ (x8_q _ _ _ _ _ _ k hk3)
  have cl := G1.out.here.cell 6 _ rfl
  have cm := G1.out.here.cell 7 _ rfl
  have o1 := X1.out.cell 1 _ rfl
  have hk3' : (k : Int) < 3 := by omega
  have e1 : ¬ cc = 0 ∧ ¬ cc = 1 ∧ ¬ cc = 2 ∧ ¬ cc = 3 ∧ ¬ cc = 4 := hc
  obtain ⟨n0, n1, n2, n3, n4⟩ := e1
  go_wp2_with (first
    | (go_at_call 38; refine (G1.out.strengthP k hk3).mono ?_; rintro e w2 ⟨rfl, rfl⟩)
    | (go_at_call 39; refine (G1.out.strengthQ k hk3).mono ?_; rintro e w2 ⟨rfl, rfl⟩))
  go_ret
  exact ⟨by simp, L, tl, ⟨lv, mv, tv, wv, pv, qv, pc, qc, D, G1.out, R1.out⟩, More.refl _ _, by omega⟩
end Go.Proofs.YtnhhkoekghjogaaGreatDoor.Kc
namespace Go.Proofs.YtnhhkoekghjogaaGreatDoor.Kc
open Go.ChangeShapes Go.WideShapes Go.ChangeAt Go.RowKit
open Go.Proofs.YtnhhkoekghjogaaGreatDoor.By Go.Proofs.YtnhhkoekghjogaaGreatDoor.Wd
theorem PK.act {w0 W : World} {xb lb mb : Nat} {L : List Rn} {tl : List TE} (h : PK w0 xb lb mb L tl W) (on cc tgt n : Int) (pa : Option Addr) (pn pcp : Nat) (xof : Bool) (g : Nat → Int) (hp : ∀ W', Below w0.heap.size w0 W' → By.RB W' (.slice pa pn pcp) pn g) (hpn : pn ≤ 4000) (htl : tl.length ≤ 900) (hT : Tiny L) :
    Calls Tryz.prog 9 #[.pointer (some ⟨xb, 0, none⟩), .agg #[.int .i64 on, .int .i64 cc, .int .i64 tgt, .slice pa pn pcp, .int .i64 n, .bool xof]] W fun e w' => e = .returned (.bool true) ∧ ∃ L' tl', PK w0 xb lb mb L' tl' w' ∧ More L L' 90000 ∧ tl'.length ≤ tl.length + 1 := by
  by_cases c0 : cc = 0
  · subst c0; exact h.act0 on tgt n pa pn pcp xof g hp hpn htl hT
  by_cases c1 : cc = 1
  · subst c1; exact h.act1 on tgt n pa pn pcp xof g hp hpn htl hT
  by_cases c2 : cc = 2
  · subst c2; exact h.act2 on tgt n pa pn pcp xof g hp hpn htl hT
  by_cases c3 : cc = 3
  · subst c3; exact h.act3 on tgt n pa pn pcp xof g hp hpn htl hT
  by_cases c4 : cc = 4
  · subst c4; exact h.act4 on tgt n pa pn pcp xof g hp hpn htl hT
  exact h.act5 on cc tgt n pa pn pcp xof g ⟨c0, c1, c2, c3, c4⟩ hp hpn htl hT
end Go.Proofs.YtnhhkoekghjogaaGreatDoor.Kc
