/- The helper made. -/
import Derived.Test.YtnhhkoekghjogaaGreatDoorKj
namespace Go.Proofs.YtnhhkoekghjogaaGreatDoor.Kc
open Go.ChangeShapes Go.WideShapes Go.ChangeAt Go.RowKit
open Go.Proofs.YtnhhkoekghjogaaGreatDoor.By Go.Proofs.YtnhhkoekghjogaaGreatDoor.Wd
theorem IsK.kx8 {o : Bool} {W W' : World} {v : Value} {c g : Nat} {d : MD} {cs : List Value} (h : IsK o W v c d) (hg : Blk W g cs 5) (hk : Kp (fun j => j = g) W W') : IsK o W' v c d :=
  h.blks (fun _ _ _ hx => hx.kept hk (Blk.ne hx hg (by cases o <;> decide))) (fun _ _ hx => hx.kept hk (Blk.ne hx hg (by cases o <;> decide)))
theorem PS.isP {W W' : World} {v : Value} {c : Nat} {d : MD} {w0 : World} {xb lb mb : Nat} {lv mv tv wv : Value} {pv qv : Nat → Value} {pc qc : Nat → Nat} {D E : Nat → MD} {L M : List Rn} (h : PS w0 xb lb mb lv mv tv wv pv qv pc qc D E L M W) (hi : IsK true W v c d) (hk : Kp (SL mb mv) W W') : IsK true W' v c d :=
  hi.blks (fun _ _ _ hx => hx.kept hk (rled_apart h.Q.led hx (by decide) (by decide))) (fun _ _ hx => hx.kept hk (rled_apart h.Q.led hx (by decide) (by decide)))
set_option maxRecDepth 4000 in
set_option maxHeartbeats 8000000 in
theorem PK.made {w0 W : World} {xb lb mb : Nat} {L : List Rn} {tl : List TE} (h : PK w0 xb lb mb L tl W) (k : Nat) (hk3 : k < 3) (st : Int) (ka : Option Addr) (kn kc : Nat) (ca : Option Addr) (cn cc : Nat) (f g : Nat → Int) (hp : ∀ W', Below w0.heap.size w0 W' → By.RB W' (.slice ka kn kc) kn f) (hq : ∀ W', Below w0.heap.size w0 W' → By.RB W' (.slice ca cn cc) cn g) (hkn : kn ≤ 4000) (hcn : cn ≤ 4000) (hT : Tiny L) :
    Calls Tryz.prog 8 #[.pointer (some ⟨xb, 0, none⟩), .int .i64 k, .agg #[.int .i64 st, .slice ka kn kc, .slice ca cn cc]] W fun e w' => e = .returned (.bool true) ∧ ∃ L', PK w0 xb lb mb L' tl w' ∧ More L L' 90000 := by
  obtain ⟨lv, mv, tv, wv, pv, qv, pc, qc, D, hPS, hRW⟩ := h
  obtain ⟨W1, hW1⟩ : ∃ x, W.alloc (.cells #[.int .i64 st, .slice ka kn kc, .slice ca cn cc] 24) = x := ⟨_, rfl⟩
  obtain ⟨cb, hcb⟩ : ∃ x, W.heap.size = x := ⟨_, rfl⟩
  have b1 : Below W.heap.size W W1 := by rw [← hW1]; exact below_alloc _ _
  have X1 : Hid (Blk W1 cb [.int .i64 st, .slice ka kn kc, .slice ca cn cc] 24) := by rw [← hW1, ← hcb]; exact Blk.new W _ _
  have G1 := hid (hPS.below b1)
  have R1 := hid (hRW.kx (Kx.below b1))
  have HP := hid hp
  have HQ := hid hq
  have HFb := hid (show ∀ i, 0 ≤ f i ∧ f i < 256 from (hp W hPS.bel).1)
  have HGb := hid (show ∀ i, 0 ≤ g i ∧ g i < 256 from (hq W hPS.bel).1)
  have HT := hid hT
  clear hPS hRW hp hq hT b1
  have hk3' : (k : Int) < 3 := by omega
  have o1 := X1.out.cell 1 _ rfl
  go_enter Tryz.func8, Tryz.ntmps8
  go_wp2_with fail
  clear hW1 hcb
  refine (lent14 _ kn f _ (HP.out _ G1.out.bel) (by omega)).mono ?_
  rintro e w2 ⟨v1, rfl, ho, hb⟩
  rcases ho.shape with ⟨_, h0⟩ | ⟨gp, cp, rfl, hgp, _, hnp, _, _, _⟩
  · omega
  have G2 := hid (G1.out.below hb)
  have R2 := hid (R1.out.kx (Kx.below hb))
  have X2 := hid (X1.out.below hb)
  have O2 := hid ho
  have HGP := hid hgp
  clear hb ho hgp o1
  have o2 := X2.out.cell 2 _ rfl
  go_wp2_with fail
  refine (lent14 _ cn g _ (HQ.out _ G2.out.bel) (by omega)).mono ?_
  rintro e w3 ⟨v2, rfl, ho, hb⟩
  rcases ho.shape with ⟨_, h0⟩ | ⟨gq, cq, rfl, hgq, _, hnq, _, _, _⟩
  · omega
  have hgl := (Array.getElem?_eq_some_iff.1 (own8_type O2.out (show (Value.slice (some ⟨gp, 0, none⟩) (kn + 6) cp).ownBlock = some gp from rfl)).choose_spec).1
  have HNE : Hid (gp ≠ gq) := by show gp ≠ gq; omega
  have G3 := hid (G2.out.below hb)
  have R3 := hid (R2.out.kx (Kx.below hb))
  have X3 := hid (X2.out.below hb)
  have O3 := hid (own_below O2.out hb)
  have N3 := hid ho
  have HGQ := hid hgq
  have Z2 : Hid (W1.heap.size ≤ w2.heap.size) := by have := HGP.out; show _ ≤ _; omega
  clear hb ho hgq o2 hgl
  have c6 := G3.out.here.cell 6 _ rfl
  have o0 := X3.out.cell 0 _ rfl
  have o1 := X3.out.cell 1 _ rfl
  have o2 := X3.out.cell 2 _ rfl
  have i1 : (kn : Int) ≤ cp := by omega
  have i2 : (cn : Int) ≤ cq := by omega
  have GD := hid (G3.out.below (below_drewN w3 1))
  have RD := hid (R3.out.kx (Kx.below (below_drewN w3 1)))
  have XD := hid (X3.out.below (below_drewN w3 1))
  have OD := hid (own_below O3.out (below_drewN w3 1))
  have ND := hid (own_below N3.out (below_drewN w3 1))
  have LP : Hid (∀ i, i < 3 → (∀ x, pv i = .pointer (some ⟨x, 0, none⟩) → x < (w3.drewN 1).heap.size) ∧ (D i ≠ none → pc i < (w3.drewN 1).heap.size)) := fun i hi => ⟨fun x e => by obtain ⟨cs, hc⟩ := (GD.out.P.p i hi).blk e; exact hc.lt, fun e => by obtain ⟨cs, hc⟩ := (GD.out.P.p i hi).cblk e; exact hc.lt⟩
  have BD := hid GD.out.bel.size
  go_wp2_with fail
  go_region_held3 (fun W => W.cell? ⟨xb, 6, none⟩ = some (.pointer (some ⟨lb, 0, none⟩)) ∧ W.cell? ⟨cb, 0, none⟩ = some (.int .i64 st) ∧ W.cell? ⟨cb, 1, none⟩ = some (.slice ka kn kc) ∧ W.cell? ⟨cb, 2, none⟩ = some (.slice ca cn cc)) (go_keep) (first
    | (go_at_call 22; go_must (refine (GD.out.newP st kn cn f g _ _ (fun V hK _ => rb_lent (hK.own OD.out) HFb.out) (fun V hK _ => rb_lent (hK.own ND.out) HGb.out) (by omega) (by omega) HT.out).mono ?_; rintro e w4 ⟨a, b, rfl, ha0, ha1, hi, ⟨lv', hG4⟩, hK4, -⟩; have A0 := hid ha0; have A1 := hid ha1; have I4 := hid hi; have G4 := hid hG4; have R4 := hid (RD.out.kx hK4); have X4 := hid (hK4 _ _ _ XD.out (by decide)); have O4 := hid (hK4.own OD.out); have N4 := hid (hK4.own ND.out); have y6 := hG4.here.cell 6 _ rfl; have y0 := X4.out.cell 0 _ rfl; have y1 := X4.out.cell 1 _ rfl; have y2 := X4.out.cell 2 _ rfl; clear ha0 ha1 hi hG4 hK4)))
  clear y6 y0 y1 y2 c6 o0 o1 o2 GD RD XD OD ND
  have c7 := G4.out.here.cell 7 _ rfl
  have o0 := X4.out.cell 0 _ rfl
  have o1 := X4.out.cell 1 _ rfl
  have o2 := X4.out.cell 2 _ rfl
  have GE := hid (G4.out.below (below_drewN w4 1))
  have RE := hid (R4.out.kx (Kx.below (below_drewN w4 1)))
  have XE := hid (X4.out.below (below_drewN w4 1))
  have OE := hid (own_below O4.out (below_drewN w4 1))
  have NE := hid (own_below N4.out (below_drewN w4 1))
  have IE := hid (I4.out.below (below_drewN w4 1))
  have LQ : Hid (∀ i, i < 3 → (∀ x, qv i = .pointer (some ⟨x, 0, none⟩) → x < (w4.drewN 1).heap.size) ∧ (D i ≠ none → qc i < (w4.drewN 1).heap.size)) := fun i hi => ⟨fun x e => by obtain ⟨cs, hc⟩ := (GE.out.Q.p i hi).blk e; exact hc.lt, fun e => by obtain ⟨cs, hc⟩ := (GE.out.Q.p i hi).cblk e; exact hc.lt⟩
  have BE := hid GE.out.bel.size
  go_wp2_with fail
  go_region_held3 (fun W => W.cell? ⟨xb, 7, none⟩ = some (.pointer (some ⟨mb, 0, none⟩)) ∧ W.cell? ⟨cb, 0, none⟩ = some (.int .i64 st) ∧ W.cell? ⟨cb, 1, none⟩ = some (.slice ka kn kc) ∧ W.cell? ⟨cb, 2, none⟩ = some (.slice ca cn cc)) (go_keep) (first
    | (go_at_call 23; go_must (refine (GE.out.newQ st kn cn f g _ _ (fun V _ hb => HP.out V hb) (fun V _ hb => HQ.out V hb) (by omega) (by omega) HT.out).mono ?_; rintro e w5 ⟨a', b', rfl, hb0, hb1, hi, ⟨mv', hG5⟩, hK5, hkp5⟩; have B0 := hid hb0; have B1 := hid hb1; have J5 := hid hi; have I5 := hid (GE.out.isP IE.out hkp5); have G5 := hid hG5; have R5 := hid (RE.out.kx hK5); have X5 := hid (hK5 _ _ _ XE.out (by decide)); have O5 := hid (hK5.own OE.out); have N5 := hid (hK5.own NE.out); have y7 := hG5.here.cell 7 _ rfl; have y0 := X5.out.cell 0 _ rfl; have y1 := X5.out.cell 1 _ rfl; have y2 := X5.out.cell 2 _ rfl; clear hb0 hb1 hi hG5 hK5 hkp5)))
  clear y7 y0 y1 y2 c7 o0 o1 o2 GE RE XE OE NE IE
  have o1 := X5.out.cell 1 _ rfl
  go_wp2_with fail
  refine (kept17 _ _ kn f w5 O5.out.reads (HP.out _ G5.out.bel) (by omega)).mono ?_
  rintro e w6 ⟨rfl, hb⟩
  have G6 := hid (G5.out.below hb)
  have R6 := hid (R5.out.kx (Kx.below hb))
  have X6 := hid (X5.out.below hb)
  have O6 := hid (own_below O5.out hb)
  have N6 := hid (own_below N5.out hb)
  have I6 := hid (I5.out.below hb)
  have J6 := hid (J5.out.below hb)
  clear hb o1 G5 R5 X5 O5 N5 I5 J5
  have o2 := X6.out.cell 2 _ rfl
  go_wp2_with fail
  refine (kept17 _ _ cn g w6 N6.out.reads (HQ.out _ G6.out.bel) (by omega)).mono ?_
  rintro e w7 ⟨rfl, hb⟩
  have G7 := hid (G6.out.below hb)
  have R7 := hid (R6.out.kx (Kx.below hb))
  have O7 := hid (own_below O6.out hb)
  have N7 := hid (own_below N6.out hb)
  have I7 := hid (I6.out.below hb)
  have J7 := hid (J6.out.below hb)
  clear hb o2 G6 R6 X6 O6 N6 I6 J6
  go_wp2_with fail
  refine (over18 gp cp (kn + 6) _ _ w7 O7.out (by omega)).mono ?_
  rintro e w8 ⟨rfl, -, hg8⟩
  obtain ⟨c, hc⟩ := own8_type O7.out (show (Value.slice (some ⟨gp, 0, none⟩) (kn + 6) cp).ownBlock = some gp from rfl)
  have hbk : Blk w7 gp c.toList 5 := by show w7.heap[gp]? = _; rw [hc]
  have hk8 : Kp (fun j => j = gp) w7 w8 := (Kp.of_grown hg8).mono (fun j _ e => (Option.some.inj e).symm)
  have G8 := hid (G7.out.over hbk (Nat.le_trans G1.out.bel.size HGP.out) hk8)
  have R8 := hid (R7.out.over hbk HGP.out R1.out.tl.old2 hk8)
  have N8 := hid (own_kept N7.out hk8 (fun x hx e => by simp [Value.ownBlock] at hx; have := HNE.out; omega))
  have I8 := hid (I7.out.kx8 hbk hk8)
  have J8 := hid (J7.out.kx8 hbk hk8)
  clear hbk hk8 hg8 hc G7 R7 N7 I7 J7 O7
  go_wp2_with fail
  refine (over18 gq cq (cn + 6) _ _ w8 N8.out (by omega)).mono ?_
  rintro e w9 ⟨rfl, -, hg9⟩
  obtain ⟨c, hc⟩ := own8_type N8.out (show (Value.slice (some ⟨gq, 0, none⟩) (cn + 6) cq).ownBlock = some gq from rfl)
  have hbk : Blk w8 gq c.toList 5 := by show w8.heap[gq]? = _; rw [hc]
  have hk9 : Kp (fun j => j = gq) w8 w9 := (Kp.of_grown hg9).mono (fun j _ e => (Option.some.inj e).symm)
  have hge : W1.heap.size ≤ gq := by have := Z2.out; have := HGQ.out; omega
  have G9 := hid (G8.out.over hbk (Nat.le_trans G1.out.bel.size hge) hk9)
  have R9 := hid (R8.out.over hbk hge R1.out.tl.old2 hk9)
  have I9 := hid (I8.out.kx8 hbk hk9)
  have J9 := hid (J8.out.kx8 hbk hk9)
  clear hbk hk9 hg9 hc hge G8 R8 N8 I8 J8
  have cj := G9.out.here.cell k _ (x8_p _ _ _ _ _ _ k hk3)
  have fj := G9.out.here.frozen k
  rcases hd : nwd st kn f cn g with _ | d
  · rw [hd] at A0 B0 I9 J9
    obtain rfl : a = .pointer none := A0.out rfl
    obtain rfl : a' = .pointer none := B0.out rfl
    have cj2 := (G9.out.here.set k (Value.pointer none)).cell (3 + k) _ (by rw [List.getElem?_set, if_neg (by omega)]; exact x8_q _ _ _ _ _ _ k hk3)
    have fj2 := (G9.out.here.set k (Value.pointer none)).frozen (3 + k)
    obtain ⟨hG, hky⟩ := G9.out.slot k hk3 (Value.pointer none) (Value.pointer none) b b' _ _ I9.out J9.out (fun g e => by simp at e) (fun e => absurd rfl e) (fun g e => by simp at e) (fun e => absurd rfl e)
    have GF := hid hG
    have RF := hid (R9.out.ky (fun g cs t hg ht => hky hg (by rcases ht with rfl | rfl <;> decide)))
    clear hG hky
    go_wp2
    go_ret
    exact ⟨rfl, _, ⟨lv', mv', tv, wv, _, _, _, _, _, GF.out, RF.out⟩, More.nw G1.out.pos HT.out st kn cn f g (by omega) (by omega)⟩
  · rw [hd] at A1 B1 I9 J9
    obtain ⟨g1, rfl, hg1, hc1⟩ := A1.out (by simp)
    obtain ⟨g2, rfl, hg2, hc2⟩ := B1.out (by simp)
    have cj2 := (G9.out.here.set k (Value.pointer (some ⟨g1, 0, none⟩))).cell (3 + k) _ (by rw [List.getElem?_set, if_neg (by omega)]; exact x8_q _ _ _ _ _ _ k hk3)
    have fj2 := (G9.out.here.set k (Value.pointer (some ⟨g1, 0, none⟩))).frozen (3 + k)
    obtain ⟨hG, hky⟩ := G9.out.slot k hk3 (Value.pointer (some ⟨g1, 0, none⟩)) (Value.pointer (some ⟨g2, 0, none⟩)) b b' _ _ I9.out J9.out (fun g e => by
        simp at e; subst e
        exact ⟨by have := BD.out; omega, fun i hi e => by have := (LP.out i hi).1 _ e; omega⟩) (fun _ => ⟨by have := BD.out; omega, fun i hi e => by have := (LP.out i hi).2 e; omega⟩) (fun g e => by
        simp at e; subst e
        exact ⟨by have := BE.out; omega, fun i hi e => by have := (LQ.out i hi).1 _ e; omega⟩) (fun _ => ⟨by have := BE.out; omega, fun i hi e => by have := (LQ.out i hi).2 e; omega⟩)
    have GF := hid hG
    have RF := hid (R9.out.ky (fun g cs t hg ht => hky hg (by rcases ht with rfl | rfl <;> decide)))
    clear hG hky hg1 hg2 hc1 hc2
    go_wp2
    go_ret
    exact ⟨rfl, _, ⟨lv', mv', tv, wv, _, _, _, _, _, GF.out, RF.out⟩, More.nw G1.out.pos HT.out st kn cn f g (by omega) (by omega)⟩
end Go.Proofs.YtnhhkoekghjogaaGreatDoor.Kc
