/- The helper act, call by call: Write. -/
import Derived.Test.YtbjccfnaadmofaaDoorHact2
namespace Go.Proofs.YtbjccfnaadmofaaDoor.Sh
open Go.ChangeShapes Go.WideShapes Go.ChangeAt Go.RowKit
open Go.Proofs.YtbjccfnaadmofaaDoor.By Go.Proofs.YtbjccfnaadmofaaDoor.Wd
section
variable {w0 W W' : World} {B : Nat} {K KP KQ : Nat → KD} {pb qb : Nat → Nat} {lb mb xb : Nat} {lv mv tv wv tv' wv' : Value} {L M : List Rn} {tl : List TE}
/-- A block of bytes is written over. -/
theorem IsQ.over {b g : Nat} {k : KD} (h : IsQ W b k) (hb : b ≠ g) (ha : ∀ m f, k = some (some (m, f)) → ∀ v cs, Blk W b (v :: cs) 62 → v.ownBlock ≠ some g) (hk : Kp (fun j => j = g) W W') : IsQ W' b k := by
  match k, h, ha with
  | none, _, _ => exact trivial
  | some none, ⟨v, h⟩, _ => exact ⟨v, h.kept hk hb⟩
  | some (some (m, f)), ⟨hm, v, h, ho⟩, ha => exact ⟨hm, v, h.kept hk hb, own_kept ho hk (fun x hx e => by
      have e' : x = g := e
      rw [e'] at hx
      exact ha m f rfl v _ h hx)⟩
theorem GW.over (h : GW w0 B KP KQ pb qb lb lv L mb mv M xb tv wv W) {g : Nat} {cs : List Value} (hg : Blk W g cs 5) (hB : B ≤ g) (hav : Av W KQ qb g) (hk : Kp (fun j => j = g) W W') : GW w0 B KP KQ pb qb lb lv L mb mv M xb tv wv W' := by
  have n1 : ∀ {x : Nat} {c : List Value} {t : TypeId}, Blk W x c t → t ≠ 5 → ¬ (x = g) := fun hx ht e => Blk.ne hx hg ht e
  refine ⟨fun i hi => ⟨(h.sp i hi).1.kept hk (fun hi2 => ?_), (h.sp i hi).2⟩, fun i hi => ⟨?_, (h.sq i hi).2⟩, h.pn, h.qn, h.l.kept hk (n1 h.l.blk (by decide)) (fun x hx => ?_), h.lB, h.lg, h.m.kept hk (n1 h.m.blk (by decide)) (fun x hx => ?_), h.mB, h.mg, h.ap, h.x.kept hk (n1 h.x (by decide)), h.xB, h.bel.trans (hk.below h.hB (fun j hj hs => by omega)), h.kt.kept hk (by have := h.h0; omega), h.h0, Nat.le_trans h.hB hk.size⟩
  · obtain ⟨c, hc⟩ := (h.sp i hi).1.blk hi2; exact n1 hc (by decide)
  · by_cases hn : KQ i = none
    · rw [hn]; exact trivial
    · obtain ⟨c, hc⟩ := (h.sq i hi).1.blk hn
      exact (h.sq i hi).1.over (n1 hc (by decide)) (hav i hi) hk
  · obtain ⟨c, hc⟩ := run_blk h.l.own hx; exact n1 hc (by decide)
  · obtain ⟨c, hc⟩ := run_blk h.m.own hx; exact n1 hc (by decide)
/-- What is new holds none of the document's messages. -/
theorem GW.fresh (h : GW w0 B KP KQ pb qb lb lv L mb mv M xb tv wv W) (hb : Below W.heap.size W W') (g : Nat) (hg : W.heap.size ≤ g) : Av W' KQ qb g := fun i hi m f e v cs hv hx => by
  have h1 := (h.sq i hi).1
  rw [e] at h1
  obtain ⟨_, u, hu, ho⟩ := h1
  have e2 := Blk.same hv (hu.below hb)
  have e3 : v = u := (List.cons.inj e2).1
  subst e3
  obtain ⟨c, hc⟩ := own8_type ho hx
  have := (Array.getElem?_eq_some_iff.1 hc).1
  omega
theorem RW.over (h : RW W B tv wv tl) {g N : Nat} {cs : List Value} (hg : Blk W g cs 5) (hN : N ≤ g) (hold : ∀ q ∈ tl, (∀ x, q.a.ownBlock = some x → x < N) ∧ ∀ x, q.b.ownBlock = some x → x < N) (hk : Kp (fun j => j = g) W W') : RW W' B tv wv tl := by
  refine ⟨rowG_kept h.r3 hk (fun x hx => ?_), rowG_kept h.r4 hk (fun x hx => ?_), h.dis, ⟨fun q hq => ⟨own_kept (h.tl.own q hq).1 hk (fun x hx e => ?_), own_kept (h.tl.own q hq).2 hk (fun x hx e => ?_)⟩, h.tl.ap, h.tl.sz⟩⟩
  · obtain ⟨c, hc, _⟩ := rowG_type h.r3 hx; exact Blk.ne hc hg (by decide)
  · obtain ⟨c, hc, _⟩ := rowG_type h.r4 hx; exact Blk.ne hc hg (by decide)
  · have := (hold q hq).1 x hx; omega
  · have := (hold q hq).2 x hx; omega
theorem TL.old2 (h : TL W B tl) : ∀ q ∈ tl, (∀ x, q.a.ownBlock = some x → x < W.heap.size) ∧ ∀ x, q.b.ownBlock = some x → x < W.heap.size := fun q hq =>
  ⟨fun g hg => by obtain ⟨c, hc⟩ := own8_type (h.own q hq).1 hg; exact (Array.getElem?_eq_some_iff.1 hc).1, fun g hg => by obtain ⟨c, hc⟩ := own8_type (h.own q hq).2 hg; exact (Array.getElem?_eq_some_iff.1 hc).1⟩
set_option maxRecDepth 4000 in
set_option maxHeartbeats 4000000 in
theorem PW.write (h : PW w0 B K pb qb lb lv mb mv L xb tv wv tl W) (on to : Int) (pv : Value) (sil : Bool) (pn : Nat) (g : Nat → Int) (hg : ∀ i, 0 ≤ g i ∧ g i < 256) (hp : ∀ W', Below B w0 W' → By.RB W' pv pn g) (hpn : pn ≤ 100000) (hml : ∀ k, k < 3 → ml (K k) + pn ≤ 900000) (hroom : tot L ≤ 100000) :
    Calls Tryd.prog 10 #[.pointer (some ⟨xb, 0, none⟩), .agg #[.int .i64 on, .int .i64 0, .int .i64 to, pv, .bool sil]] W fun e w' => e = .returned (.bool true) ∧ ∃ k lv' mv', k < 3 ∧ PW w0 B (upd K k (wrK g pn (K k))) pb qb lb lv' mb mv' (sel sil L (evs256 L (wrN pn (K k)))) xb tv wv tl w' := by
  obtain ⟨_, pa, pc, rfl, _, _, _⟩ := hp W h.gw.bel
  have HX := hid (Blk.new W [.int .i64 on, .int .i64 0, .int .i64 to, .slice pa pn pc, .bool sil] 42)
  have G0 := hid (h.gw.below (below_alloc W (.cells #[.int .i64 on, .int .i64 0, .int .i64 to, .slice pa pn pc, .bool sil] 42)))
  have R0 := hid (h.rw.kx (Kx.below (below_alloc W (.cells #[.int .i64 on, .int .i64 0, .int .i64 to, .slice pa pn pc, .bool sil] 42))))
  have HM := hid hroom
  have HP := hid hp
  have HGb := hid hg
  have HML := hid hml
  clear h hroom hp hg hml
  go_enter Tryd.func10, Tryd.ntmps10
  go_wp2_with fail
  obtain ⟨W1, hW1⟩ : ∃ x, W.alloc (.cells #[.int .i64 on, .int .i64 0, .int .i64 to, .slice pa pn pc, .bool sil] 42) = x := ⟨_, rfl⟩
  obtain ⟨ob, hob⟩ : ∃ x, W.heap.size = x := ⟨_, rfl⟩
  have HX1 : Hid (Blk W1 ob [.int .i64 on, .int .i64 0, .int .i64 to, .slice pa pn pc, .bool sil] 42) := by rw [← hW1, ← hob]; exact HX.out
  rw [hW1] at G0 R0
  rw [hW1, hob]
  clear hW1 hob HX
  have o0 := HX1.out.cell 0 _ rfl
  have o1 := HX1.out.cell 1 _ rfl
  have o6 := HX1.out.cell 4 _ rfl
  refine (pickN on 3 (by omega) (by omega) W1).mono ?_
  rintro e w1 ⟨⟨k, hk3, rfl⟩, rfl⟩
  have cp := G0.out.x.cell k _ (xc_p _ _ _ _ _ _ _ _ k hk3)
  have cq := G0.out.x.cell (3 + k) _ (xc_q _ _ _ _ _ _ _ _ k hk3)
  have cl := G0.out.x.cell 6 _ rfl
  have cm := G0.out.x.cell 7 _ rfl
  have hk3' : (k : Int) < 3 := by omega
  cases hs : sil with
  | true =>
    subst hs
    have o3 := HX1.out.cell 3 _ rfl
    go_wp2_with fail
    refine (lent14 _ pn g _ (HP.out _ G0.out.bel) (by omega)).mono ?_
    rintro e w2 ⟨fu, rfl, ho, hb⟩
    rcases ho.shape with ⟨_, h0⟩ | ⟨gf, cf, rfl, hgb, hgl, hnc, hcm, _, _⟩
    · omega
    have G2 := hid (G0.out.below hb)
    have R2 := hid (R0.out.kx (Kx.below hb))
    have X2 := hid (HX1.out.below hb)
    have O2 := hid ho
    have HGB := hid hgb
    have AV2 := hid (G0.out.fresh hb gf hgb)
    have HGL := hid hgl
    clear hb ho hgb
    have o3' := X2.out.cell 3 _ rfl
    have l1 : (pn : Int) ≤ cf := by omega
    go_wp2_with fail
    refine (G2.out.writeP hk3 true pn _ g (fun w' _ hK => ((hK.own O2.out).reads.first pn (by omega)).congr HGb.out (fun i hi => by unfold lent; rw [if_pos hi])) (HML.out k hk3) HM.out).mono ?_
    rintro e w3 ⟨lv', rfl, hG3, hK3, hQ3⟩
    have G3 := hid hG3
    have R3 := hid (R2.out.kx hK3)
    have X3 := hid (hK3 _ _ _ X2.out (by decide) (by decide) (by decide) (by decide) (by decide))
    have O3 := hid (hK3.own O2.out)
    have AV3 := hid (AV2.out.kq (fun i hi => (G2.out.sq i hi).1) hQ3)
    clear hG3 hK3 hQ3
    have o3'' := X3.out.cell 3 _ rfl
    go_wp2_with fail
    refine (G3.out.writeQ hk3 true pn _ g (fun w' hb _ => HP.out w' hb) (HML.out k hk3) HM.out).mono ?_
    rintro e w4 ⟨mv', rfl, hG4, hK4, hA4⟩
    have G4 := hid hG4
    have R4 := hid (R3.out.kx hK4)
    have X4 := hid (hK4 _ _ _ X3.out (by decide) (by decide) (by decide) (by decide) (by decide))
    have O4 := hid (hK4.own O3.out)
    have AV4 := hid (hA4 gf (by obtain ⟨c, hc⟩ := own8_type O3.out (show (Value.slice (some ⟨gf, 0, none⟩) (pn + 6) cf).ownBlock = some gf from rfl); exact (Array.getElem?_eq_some_iff.1 hc).1) AV3.out)
    clear hG4 hK4 hA4
    have o3x := X4.out.cell 3 _ rfl
    go_wp2_with fail
    refine (kept17 _ _ pn g w4 O4.out.reads (HP.out _ G4.out.bel) (by omega)).mono ?_
    rintro e w5 ⟨rfl, hb5⟩
    have G5 := hid (G4.out.below hb5)
    have R5 := hid (R4.out.kx (Kx.below hb5))
    have O5 := hid (own_below O4.out hb5)
    have AV5 := hid (AV4.out.kq (fun i hi => (G4.out.sq i hi).1) (fun _ _ h => h.below hb5))
    clear hb5
    go_wp2_with fail
    refine (over18 gf cf (pn + 6) _ _ w5 O5.out (by omega)).mono ?_
    rintro e w6 ⟨rfl, -, hg6⟩
    obtain ⟨c, hc⟩ := own8_type O5.out (show (Value.slice (some ⟨gf, 0, none⟩) (pn + 6) cf).ownBlock = some gf from rfl)
    have hbk : Blk w5 gf c.toList 5 := by show w5.heap[gf]? = _; rw [hc]
    have hk6 : Kp (fun j => j = gf) w5 w6 := (Kp.of_grown hg6).mono (fun j _ e => (Option.some.inj e).symm)
    have G6 := hid (G5.out.over hbk (Nat.le_trans G0.out.hB HGB.out) AV5.out hk6)
    have R6 := hid (R5.out.over hbk HGB.out R0.out.tl.old2 hk6)
    clear hbk hk6 hg6
    go_wp2
    go_ret
    exact ⟨by simp, k, lv', mv', hk3, G6.out, R6.out⟩
  | false =>
    subst hs
    have o3 := HX1.out.cell 3 _ rfl
    go_wp2_with fail
    refine (lent14 _ pn g _ (HP.out _ G0.out.bel) (by omega)).mono ?_
    rintro e w2 ⟨fu, rfl, ho, hb⟩
    rcases ho.shape with ⟨_, h0⟩ | ⟨gf, cf, rfl, hgb, hgl, hnc, hcm, _, _⟩
    · omega
    have G2 := hid (G0.out.below hb)
    have R2 := hid (R0.out.kx (Kx.below hb))
    have X2 := hid (HX1.out.below hb)
    have O2 := hid ho
    have HGB := hid hgb
    have AV2 := hid (G0.out.fresh hb gf hgb)
    have HGL := hid hgl
    clear hb ho hgb
    have o3' := X2.out.cell 3 _ rfl
    have l1 : (pn : Int) ≤ cf := by omega
    go_wp2_with fail
    refine (G2.out.writeP hk3 false pn _ g (fun w' _ hK => ((hK.own O2.out).reads.first pn (by omega)).congr HGb.out (fun i hi => by unfold lent; rw [if_pos hi])) (HML.out k hk3) HM.out).mono ?_
    rintro e w3 ⟨lv', rfl, hG3, hK3, hQ3⟩
    have G3 := hid hG3
    have R3 := hid (R2.out.kx hK3)
    have X3 := hid (hK3 _ _ _ X2.out (by decide) (by decide) (by decide) (by decide) (by decide))
    have O3 := hid (hK3.own O2.out)
    have AV3 := hid (AV2.out.kq (fun i hi => (G2.out.sq i hi).1) hQ3)
    clear hG3 hK3 hQ3
    have o3'' := X3.out.cell 3 _ rfl
    go_wp2_with fail
    refine (G3.out.writeQ hk3 false pn _ g (fun w' hb _ => HP.out w' hb) (HML.out k hk3) HM.out).mono ?_
    rintro e w4 ⟨mv', rfl, hG4, hK4, hA4⟩
    have G4 := hid hG4
    have R4 := hid (R3.out.kx hK4)
    have X4 := hid (hK4 _ _ _ X3.out (by decide) (by decide) (by decide) (by decide) (by decide))
    have O4 := hid (hK4.own O3.out)
    have AV4 := hid (hA4 gf (by obtain ⟨c, hc⟩ := own8_type O3.out (show (Value.slice (some ⟨gf, 0, none⟩) (pn + 6) cf).ownBlock = some gf from rfl); exact (Array.getElem?_eq_some_iff.1 hc).1) AV3.out)
    clear hG4 hK4 hA4
    have o3x := X4.out.cell 3 _ rfl
    go_wp2_with fail
    refine (kept17 _ _ pn g w4 O4.out.reads (HP.out _ G4.out.bel) (by omega)).mono ?_
    rintro e w5 ⟨rfl, hb5⟩
    have G5 := hid (G4.out.below hb5)
    have R5 := hid (R4.out.kx (Kx.below hb5))
    have O5 := hid (own_below O4.out hb5)
    have AV5 := hid (AV4.out.kq (fun i hi => (G4.out.sq i hi).1) (fun _ _ h => h.below hb5))
    clear hb5
    go_wp2_with fail
    refine (over18 gf cf (pn + 6) _ _ w5 O5.out (by omega)).mono ?_
    rintro e w6 ⟨rfl, -, hg6⟩
    obtain ⟨c, hc⟩ := own8_type O5.out (show (Value.slice (some ⟨gf, 0, none⟩) (pn + 6) cf).ownBlock = some gf from rfl)
    have hbk : Blk w5 gf c.toList 5 := by show w5.heap[gf]? = _; rw [hc]
    have hk6 : Kp (fun j => j = gf) w5 w6 := (Kp.of_grown hg6).mono (fun j _ e => (Option.some.inj e).symm)
    have G6 := hid (G5.out.over hbk (Nat.le_trans G0.out.hB HGB.out) AV5.out hk6)
    have R6 := hid (R5.out.over hbk HGB.out R0.out.tl.old2 hk6)
    clear hbk hk6 hg6
    go_wp2
    go_ret
    exact ⟨by simp, k, lv', mv', hk3, G6.out, R6.out⟩

end
end Go.Proofs.YtbjccfnaadmofaaDoor.Sh
