/- The helper act, call by call: Write. -/
import Derived.Test.YtojldjckpjokcaaGreatDoorZge
namespace Go.Proofs.YtojldjckpjokcaaGreatDoor.Dg
open Go.ChangeShapes Go.WideShapes Go.ChangeAt Go.RowKit
open Go.Proofs.YtojldjckpjokcaaGreatDoor.By
open Go.Proofs.YtojldjckpjokcaaGreatDoor.Sh (Blk size_alloc)
section
variable {w0 W W' : World} {B : Nat} {K KP KQ : Nat → KD} {pb rb qb : Nat → Nat} {lb mb xb : Nat} {lv mv tv wv tv' wv' : Value} {L M : List Rn} {tl : List TE}
theorem Kr.below (hb : Below W.heap.size W W') : Kr W W' := fun _ _ _ h => h.below hb
theorem IsE.msg {b m : Nat} {a : Bool} {f : Nat → Int} (h : IsE W b a (some (m, f))) : ∃ u base, Blk W b [u, .bool true] (tyR a) ∧ By.Own W base u m f := by
  cases a
  · obtain ⟨_, v, h, ho⟩ := h; exact ⟨v, _, h, ho⟩
  · obtain ⟨_, v, h, ho⟩ := h; exact ⟨v, _, h, ho⟩
/-- A block of bytes is written over. -/
theorem IsE.over {b g : Nat} {a : Bool} {k : SK} (h : IsE W b a k) (hb : b ≠ g) (ha : ∀ m f, k = some (m, f) → ∀ v cs, Blk W b (v :: cs) (tyR a) → v.ownBlock ≠ some g) (hk : Kp (fun j => j = g) W W') : IsE W' b a k := by
  match a, k, h, ha with
  | false, none, ⟨v, h⟩, _ => exact ⟨v, h.kept hk hb⟩
  | false, some (m, f), ⟨hm, v, h, ho⟩, ha => exact ⟨hm, v, h.kept hk hb, Sg.own_kept ho hk (fun x hx e => by
      have e' : x = g := e
      rw [e'] at hx
      exact ha m f rfl v _ h hx)⟩
  | true, none, ⟨v, h⟩, _ => exact ⟨v, h.kept hk hb⟩
  | true, some (m, f), ⟨hm, v, h, ho⟩, ha => exact ⟨hm, v, h.kept hk hb, Sg.own_kept ho hk (fun x hx e => by
      have e' : x = g := e
      rw [e'] at hx
      exact ha m f rfl v _ h hx)⟩
theorem GW.over (h : GW w0 B KP KQ pb rb qb lb lv L mb mv M xb tv wv W) {g : Nat} {cs : List Value} (hg : Blk W g cs 5) (hB : B ≤ g) (hav : Av W KQ qb g) (hk : Kp (fun j => j = g) W W') : GW w0 B KP KQ pb rb qb lb lv L mb mv M xb tv wv W' := by
  have n1 : ∀ {x : Nat} {c : List Value} {t : TypeId}, Blk W x c t → t ≠ 5 → ¬ (x = g) := fun hx ht e => Sh.Blk.ne hx hg ht e
  refine ⟨fun i hi => ⟨(h.sp i hi).1.kept hk (fun hi2 => ?_), (h.sp i hi).2⟩, fun i hi => ⟨?_, (h.sq i hi).2⟩, h.pn, h.qn, h.l.kept hk (n1 (led_blk h.l) (by decide)) (fun x hx => ?_), h.lB, h.lg, h.m.kept hk (n1 (rled_blk h.m) (by decide)) (fun x hx => ?_), h.mB, h.mg, h.ap, h.x.kept hk (n1 h.x (by decide)), h.xB, h.bel.trans (hk.below h.hB (fun j hj hs => by have e' : j = g := hs; omega)), h.kt.kept hk (fun e => by have := h.h0; have e' : 0 = g := e; omega) (fun e => by have := h.h0; have e' : 1 = g := e; omega), h.h0, Nat.le_trans h.hB hk.size⟩
  · obtain ⟨a, c, hc⟩ := (h.sp i hi).1.blk hi2; exact n1 hc (tyS_w a).2.2
  · have h1 := (h.sq i hi).1
    have h2 := hav i hi
    revert h1 h2
    cases KQ i with
    | none => exact fun _ _ => trivial
    | some x =>
      obtain ⟨a, sk⟩ := x
      intro h1 h2
      obtain ⟨c, hc⟩ := h1.2.blk
      exact ⟨h1.1.kept hk (n1 h1.1 (by decide)), h1.2.over (n1 hc (tyR_w a).2.2) (fun m f e => h2 a m f (by rw [e])) hk⟩
  · obtain ⟨c, hc⟩ := run_blk h.l.own hx; exact n1 hc (by decide)
  · obtain ⟨c, hc⟩ := run_blk h.m.own hx; exact n1 hc (by decide)
/-- What is new holds none of the document's messages. -/
theorem GW.fresh (h : GW w0 B KP KQ pb rb qb lb lv L mb mv M xb tv wv W) (hb : Below W.heap.size W W') (g : Nat) (hg : W.heap.size ≤ g) : Av W' KQ qb g := fun i hi a m f e v cs hv hx => by
  have h1 := (h.sq i hi).1
  rw [e] at h1
  obtain ⟨u, base, hu, ho⟩ := h1.2.msg
  have e2 := blk_same hv (hu.below hb)
  have e3 : v = u := (List.cons.inj e2).1
  subst e3
  obtain ⟨c, hc⟩ := Sg.own8_type ho hx
  have := (Array.getElem?_eq_some_iff.1 hc).1
  omega
theorem RW.over (h : RW W B tv wv tl) {g N : Nat} {cs : List Value} (hg : Blk W g cs 5) (hN : N ≤ g) (hold : ∀ q ∈ tl, (∀ x, q.a.ownBlock = some x → x < N) ∧ ∀ x, q.b.ownBlock = some x → x < N) (hk : Kp (fun j => j = g) W W') : RW W' B tv wv tl := by
  refine ⟨rowG_kept h.r3 hk (fun x hx => ?_), rowG_kept h.r4 hk (fun x hx => ?_), h.dis, ⟨fun q hq => ⟨Sg.own_kept (h.tl.own q hq).1 hk (fun x hx e => ?_), Sg.own_kept (h.tl.own q hq).2 hk (fun x hx e => ?_)⟩, h.tl.ap, h.tl.sz⟩⟩
  · obtain ⟨c, hc, _⟩ := rowG_type h.r3 hx; exact Sh.Blk.ne hc hg (by decide)
  · obtain ⟨c, hc, _⟩ := rowG_type h.r4 hx; exact Sh.Blk.ne hc hg (by decide)
  · have e' : x = g := e
    have := (hold q hq).1 x hx; omega
  · have e' : x = g := e
    have := (hold q hq).2 x hx; omega
theorem TL.old2 (h : TL W B tl) : ∀ q ∈ tl, (∀ x, q.a.ownBlock = some x → x < W.heap.size) ∧ ∀ x, q.b.ownBlock = some x → x < W.heap.size := fun q hq =>
  ⟨fun g hg => by obtain ⟨c, hc⟩ := Sg.own8_type (h.own q hq).1 hg; exact (Array.getElem?_eq_some_iff.1 hc).1, fun g hg => by obtain ⟨c, hc⟩ := Sg.own8_type (h.own q hq).2 hg; exact (Array.getElem?_eq_some_iff.1 hc).1⟩
set_option maxRecDepth 4000 in
set_option maxHeartbeats 4000000 in
theorem PW.write256 (h : PW w0 B K pb rb qb lb lv mb mv L xb tv wv tl W) (on to al : Int) (pv : Value) (sk : SK) (pn : Nat) (g : Nat → Int) (hK : K (pk on) = some (false, sk)) (hg : ∀ i, 0 ≤ g i ∧ g i < 256) (hp : ∀ W', Below B w0 W' → By.RB W' pv pn g) (hpn : pn ≤ 100000) (hml : ml sk + pn ≤ 900000) (hroom : tot L ≤ 100000) :
    Calls Tryz.prog 10 #[.pointer (some ⟨xb, 0, none⟩), .agg #[.int .i64 on, .int .i64 0, .int .i64 to, pv, .int .u8 al]] W fun e w' => e = .returned (.bool true) ∧ ∃ lv' mv', PW w0 B (upd K (pk on) (some (false, wrK g pn sk))) pb rb qb lb lv' mb mv' (evs false L (wrN false pn sk)) xb tv wv tl w' := by
  obtain ⟨K', hK'⟩ : ∃ x, upd K (pk on) (some (false, wrK g pn sk)) = x := ⟨_, rfl⟩
  rw [hK']
  have HK' := hid hK'
  clear hK'
  obtain ⟨_, pa, pc, rfl, _, _, _⟩ := hp W h.gw.bel
  have HX := hid (Sh.Blk.new W [.int .i64 on, .int .i64 0, .int .i64 to, .slice pa pn pc, .int .u8 al] 43)
  have G0 := hid (h.gw.below (below_alloc W (.cells #[.int .i64 on, .int .i64 0, .int .i64 to, .slice pa pn pc, .int .u8 al] 43)))
  have R0 := hid (h.rw.kx (Kx.below (below_alloc W (.cells #[.int .i64 on, .int .i64 0, .int .i64 to, .slice pa pn pc, .int .u8 al] 43))))
  have HM := hid hroom
  have HP := hid hp
  have HGb := hid hg
  have HML := hid hml
  clear hroom hp hg hml
  clear h
  go_enter Tryz.func10, Tryz.ntmps10
  go_wp2_with fail
  obtain ⟨W1, hW1⟩ : ∃ x, W.alloc (.cells #[.int .i64 on, .int .i64 0, .int .i64 to, .slice pa pn pc, .int .u8 al] 43) = x := ⟨_, rfl⟩
  obtain ⟨ob, hob⟩ : ∃ x, W.heap.size = x := ⟨_, rfl⟩
  have HX1 : Hid (Blk W1 ob [.int .i64 on, .int .i64 0, .int .i64 to, .slice pa pn pc, .int .u8 al] 43) := by rw [← hW1, ← hob]; exact HX.out
  rw [hW1] at G0 R0
  rw [hW1, hob]
  clear hW1 hob HX
  have o0 := HX1.out.cell 0 _ rfl
  have o1 := HX1.out.cell 1 _ rfl
  obtain ⟨k, hk⟩ : ∃ k, pk on = k := ⟨_, rfl⟩
  have hk3 : k < 3 := by rw [← hk]; exact pk_lt on
  rw [hk] at hK HK'
  have HK := hid hK
  refine (pick3 on W1).mono ?_
  rintro e w1 ⟨rfl, rfl⟩
  rw [hk]
  clear hk
  have cp : w1.cell? ⟨xb, k, none⟩ = some (.iface 101 (.agg #[.pointer (some ⟨pb k, 0, none⟩)])) := by have := G0.out.x.cell k _ (xc_p _ _ _ _ _ _ _ _ k hk3); rw [hK] at this; exact this
  have cq : w1.cell? ⟨xb, 3 + k, none⟩ = some (.pointer (some ⟨rb k, 0, none⟩)) := by have := G0.out.x.cell (3 + k) _ (xc_q _ _ _ _ _ _ _ _ k hk3); rw [hK] at this; exact this
  have cl := G0.out.x.cell 6 _ rfl
  have cm := G0.out.x.cell 7 _ rfl
  have hk3' : (k : Int) < 3 := by omega
  clear hK
  have o3 := HX1.out.cell 3 _ rfl
  go_wp2_with fail
  refine (lent14 _ pn g _ (HP.out _ G0.out.bel) (by omega)).mono ?_
  rintro e w2 ⟨fu, rfl, ho, hb⟩
  rcases ho.shape with ⟨_, h0⟩ | ⟨gf, cf, rfl, hgb, hgl, hnc, hcm, _, _⟩
  · omega
  have hbd := below_drew' hb 1
  have G2 := hid (G0.out.below hbd)
  have R2 := hid (R0.out.kx (Kx.below hbd))
  have X2 := hid (HX1.out.below hbd)
  have O2 := hid (own_below ho (below_drewN w2 1))
  have HGB := hid hgb
  have AV2 := hid (G0.out.fresh hbd gf hgb)
  have HGL := hid hgl
  have c62 := (G0.out.below hb).x.cell 6 _ rfl
  have o32 := (HX1.out.below hb).cell 3 _ rfl
  clear hb hbd ho hgb
  have l1 : (pn : Int) ≤ cf := by omega
  go_wp2_with fail
  go_region_held3 (fun W' => W'.cell? ⟨xb, 6, none⟩ = some (.pointer (some ⟨lb, 0, none⟩)) ∧ W'.cell? ⟨ob, 3, none⟩ = some (.slice pa pn pc)) (go_keep) (first
    | (go_at_call 140; go_must (refine (G2.out.writeP hk3 HK.out pn _ g (fun w' _ hK => ((hK.own O2.out).reads.first pn (by omega)).congr HGb.out (fun i hi => by unfold lent; rw [if_pos hi])) HML.out HM.out).mono ?_; rintro e w3 ⟨lv', rfl, hG3, hK3, hQ3⟩; have G3 := hid hG3; have R3 := hid (R2.out.kx hK3); have X3 := hid (hK3 _ _ _ X2.out (by decide)); have O3 := hid (hK3.own O2.out); have AV3 := hid (AV2.out.kr (fun i hi => (G2.out.sq i hi).1) hQ3); have c63 := hG3.x.cell 6 _ rfl; have c73 := hG3.x.cell 7 _ rfl; have o33 := X3.out.cell 3 _ rfl; clear hG3 hK3 hQ3)))
  go_wp2_with fail
  have G3d := hid (G3.out.below (below_drewN w3 1))
  have X3d := hid (X3.out.below (below_drewN w3 1))
  have O3d := hid (own_below O3.out (below_drewN w3 1))
  have AV3d := hid (AV3.out.kr (fun i hi => (G3.out.sq i hi).1) (Kr.below (below_drewN w3 1)))
  have R3d := hid (R3.out.kx (Kx.below (below_drewN w3 1)))
  go_region_held3 (fun W' => W'.cell? ⟨xb, 7, none⟩ = some (.pointer (some ⟨mb, 0, none⟩)) ∧ W'.cell? ⟨ob, 3, none⟩ = some (.slice pa pn pc)) (go_keep) (first
    | (go_at_call 26; go_must (refine (G3d.out.writeQ hk3 HK.out pn _ g (fun w' hb _ => HP.out w' hb) HML.out HM.out).mono ?_; rintro e w4 ⟨mv', rfl, hG4, hK4, hA4⟩; have G4 := hid hG4; have R4 := hid (R3d.out.kx hK4); have X4 := hid (hK4 _ _ _ X3d.out (by decide)); have O4 := hid (hK4.own O3d.out); have AV4 := hid (hA4 gf (by obtain ⟨c, hc⟩ := Sg.own8_type O3d.out (show (Value.slice (some ⟨gf, 0, none⟩) (pn + 6) cf).ownBlock = some gf from rfl); exact (Array.getElem?_eq_some_iff.1 hc).1) AV3d.out); have c74 := hG4.x.cell 7 _ rfl; have o34 := X4.out.cell 3 _ rfl; clear hG4 hK4 hA4)))
  go_wp2_with fail
  refine (kept17 _ _ pn g w4 O4.out.reads (HP.out _ G4.out.bel) (by omega)).mono ?_
  rintro e w5 ⟨rfl, hb5⟩
  have G5 := hid (G4.out.below hb5)
  have R5 := hid (R4.out.kx (Kx.below hb5))
  have O5 := hid (own_below O4.out hb5)
  have AV5 := hid (AV4.out.kr (fun i hi => (G4.out.sq i hi).1) (Kr.below hb5))
  clear hb5
  go_wp2_with fail
  refine (over18 gf cf (pn + 6) _ _ w5 O5.out (by omega)).mono ?_
  rintro e w6 ⟨rfl, -, hg6⟩
  obtain ⟨c, hc⟩ := Sg.own8_type O5.out (show (Value.slice (some ⟨gf, 0, none⟩) (pn + 6) cf).ownBlock = some gf from rfl)
  have hbk : Blk w5 gf c.toList 5 := by show w5.heap[gf]? = _; rw [hc]
  have hk6 : Kp (fun j => j = gf) w5 w6 := (Kp.of_grown hg6).mono (fun j _ e => (Option.some.inj e).symm)
  have G6 := hid (G5.out.over hbk (Nat.le_trans G0.out.hB HGB.out) AV5.out hk6)
  have R6 := hid (R5.out.over hbk HGB.out R0.out.tl.old2 hk6)
  clear hbk hk6 hg6
  go_wp2
  go_ret
  refine ⟨by simp, lv', mv', ?_⟩
  rw [← HK'.out]
  exact ⟨G6.out, R6.out⟩
set_option maxRecDepth 4000 in
set_option maxHeartbeats 4000000 in
theorem PW.write512 (h : PW w0 B K pb rb qb lb lv mb mv L xb tv wv tl W) (on to al : Int) (pv : Value) (sk : SK) (pn : Nat) (g : Nat → Int) (hK : K (pk on) = some (true, sk)) (hg : ∀ i, 0 ≤ g i ∧ g i < 256) (hp : ∀ W', Below B w0 W' → By.RB W' pv pn g) (hpn : pn ≤ 100000) (hml : ml sk + pn ≤ 900000) (hroom : tot L ≤ 100000) :
    Calls Tryz.prog 10 #[.pointer (some ⟨xb, 0, none⟩), .agg #[.int .i64 on, .int .i64 0, .int .i64 to, pv, .int .u8 al]] W fun e w' => e = .returned (.bool true) ∧ ∃ lv' mv', PW w0 B (upd K (pk on) (some (true, wrK g pn sk))) pb rb qb lb lv' mb mv' (evs true L (wrN true pn sk)) xb tv wv tl w' := by
  obtain ⟨K', hK'⟩ : ∃ x, upd K (pk on) (some (true, wrK g pn sk)) = x := ⟨_, rfl⟩
  rw [hK']
  have HK' := hid hK'
  clear hK'
  obtain ⟨_, pa, pc, rfl, _, _, _⟩ := hp W h.gw.bel
  have HX := hid (Sh.Blk.new W [.int .i64 on, .int .i64 0, .int .i64 to, .slice pa pn pc, .int .u8 al] 43)
  have G0 := hid (h.gw.below (below_alloc W (.cells #[.int .i64 on, .int .i64 0, .int .i64 to, .slice pa pn pc, .int .u8 al] 43)))
  have R0 := hid (h.rw.kx (Kx.below (below_alloc W (.cells #[.int .i64 on, .int .i64 0, .int .i64 to, .slice pa pn pc, .int .u8 al] 43))))
  have HM := hid hroom
  have HP := hid hp
  have HGb := hid hg
  have HML := hid hml
  clear hroom hp hg hml
  clear h
  go_enter Tryz.func10, Tryz.ntmps10
  go_wp2_with fail
  obtain ⟨W1, hW1⟩ : ∃ x, W.alloc (.cells #[.int .i64 on, .int .i64 0, .int .i64 to, .slice pa pn pc, .int .u8 al] 43) = x := ⟨_, rfl⟩
  obtain ⟨ob, hob⟩ : ∃ x, W.heap.size = x := ⟨_, rfl⟩
  have HX1 : Hid (Blk W1 ob [.int .i64 on, .int .i64 0, .int .i64 to, .slice pa pn pc, .int .u8 al] 43) := by rw [← hW1, ← hob]; exact HX.out
  rw [hW1] at G0 R0
  rw [hW1, hob]
  clear hW1 hob HX
  have o0 := HX1.out.cell 0 _ rfl
  have o1 := HX1.out.cell 1 _ rfl
  obtain ⟨k, hk⟩ : ∃ k, pk on = k := ⟨_, rfl⟩
  have hk3 : k < 3 := by rw [← hk]; exact pk_lt on
  rw [hk] at hK HK'
  have HK := hid hK
  refine (pick3 on W1).mono ?_
  rintro e w1 ⟨rfl, rfl⟩
  rw [hk]
  clear hk
  have cp : w1.cell? ⟨xb, k, none⟩ = some (.iface 106 (.agg #[.pointer (some ⟨pb k, 0, none⟩)])) := by have := G0.out.x.cell k _ (xc_p _ _ _ _ _ _ _ _ k hk3); rw [hK] at this; exact this
  have cq : w1.cell? ⟨xb, 3 + k, none⟩ = some (.pointer (some ⟨rb k, 0, none⟩)) := by have := G0.out.x.cell (3 + k) _ (xc_q _ _ _ _ _ _ _ _ k hk3); rw [hK] at this; exact this
  have cl := G0.out.x.cell 6 _ rfl
  have cm := G0.out.x.cell 7 _ rfl
  have hk3' : (k : Int) < 3 := by omega
  clear hK
  have o3 := HX1.out.cell 3 _ rfl
  go_wp2_with fail
  refine (lent14 _ pn g _ (HP.out _ G0.out.bel) (by omega)).mono ?_
  rintro e w2 ⟨fu, rfl, ho, hb⟩
  rcases ho.shape with ⟨_, h0⟩ | ⟨gf, cf, rfl, hgb, hgl, hnc, hcm, _, _⟩
  · omega
  have hbd := below_drew' hb 1
  have G2 := hid (G0.out.below hbd)
  have R2 := hid (R0.out.kx (Kx.below hbd))
  have X2 := hid (HX1.out.below hbd)
  have O2 := hid (own_below ho (below_drewN w2 1))
  have HGB := hid hgb
  have AV2 := hid (G0.out.fresh hbd gf hgb)
  have HGL := hid hgl
  have c62 := (G0.out.below hb).x.cell 6 _ rfl
  have o32 := (HX1.out.below hb).cell 3 _ rfl
  clear hb hbd ho hgb
  have l1 : (pn : Int) ≤ cf := by omega
  go_wp2_with fail
  go_region_held3 (fun W' => W'.cell? ⟨xb, 6, none⟩ = some (.pointer (some ⟨lb, 0, none⟩)) ∧ W'.cell? ⟨ob, 3, none⟩ = some (.slice pa pn pc)) (go_keep) (first
    | (go_at_call 146; go_must (refine (G2.out.writeP hk3 HK.out pn _ g (fun w' _ hK => ((hK.own O2.out).reads.first pn (by omega)).congr HGb.out (fun i hi => by unfold lent; rw [if_pos hi])) HML.out HM.out).mono ?_; rintro e w3 ⟨lv', rfl, hG3, hK3, hQ3⟩; have G3 := hid hG3; have R3 := hid (R2.out.kx hK3); have X3 := hid (hK3 _ _ _ X2.out (by decide)); have O3 := hid (hK3.own O2.out); have AV3 := hid (AV2.out.kr (fun i hi => (G2.out.sq i hi).1) hQ3); have c63 := hG3.x.cell 6 _ rfl; have c73 := hG3.x.cell 7 _ rfl; have o33 := X3.out.cell 3 _ rfl; clear hG3 hK3 hQ3)))
  go_wp2_with fail
  have G3d := hid (G3.out.below (below_drewN w3 1))
  have X3d := hid (X3.out.below (below_drewN w3 1))
  have O3d := hid (own_below O3.out (below_drewN w3 1))
  have AV3d := hid (AV3.out.kr (fun i hi => (G3.out.sq i hi).1) (Kr.below (below_drewN w3 1)))
  have R3d := hid (R3.out.kx (Kx.below (below_drewN w3 1)))
  go_region_held3 (fun W' => W'.cell? ⟨xb, 7, none⟩ = some (.pointer (some ⟨mb, 0, none⟩)) ∧ W'.cell? ⟨ob, 3, none⟩ = some (.slice pa pn pc)) (go_keep) (first
    | (go_at_call 26; go_must (refine (G3d.out.writeQ hk3 HK.out pn _ g (fun w' hb _ => HP.out w' hb) HML.out HM.out).mono ?_; rintro e w4 ⟨mv', rfl, hG4, hK4, hA4⟩; have G4 := hid hG4; have R4 := hid (R3d.out.kx hK4); have X4 := hid (hK4 _ _ _ X3d.out (by decide)); have O4 := hid (hK4.own O3d.out); have AV4 := hid (hA4 gf (by obtain ⟨c, hc⟩ := Sg.own8_type O3d.out (show (Value.slice (some ⟨gf, 0, none⟩) (pn + 6) cf).ownBlock = some gf from rfl); exact (Array.getElem?_eq_some_iff.1 hc).1) AV3d.out); have c74 := hG4.x.cell 7 _ rfl; have o34 := X4.out.cell 3 _ rfl; clear hG4 hK4 hA4)))
  go_wp2_with fail
  refine (kept17 _ _ pn g w4 O4.out.reads (HP.out _ G4.out.bel) (by omega)).mono ?_
  rintro e w5 ⟨rfl, hb5⟩
  have G5 := hid (G4.out.below hb5)
  have R5 := hid (R4.out.kx (Kx.below hb5))
  have O5 := hid (own_below O4.out hb5)
  have AV5 := hid (AV4.out.kr (fun i hi => (G4.out.sq i hi).1) (Kr.below hb5))
  clear hb5
  go_wp2_with fail
  refine (over18 gf cf (pn + 6) _ _ w5 O5.out (by omega)).mono ?_
  rintro e w6 ⟨rfl, -, hg6⟩
  obtain ⟨c, hc⟩ := Sg.own8_type O5.out (show (Value.slice (some ⟨gf, 0, none⟩) (pn + 6) cf).ownBlock = some gf from rfl)
  have hbk : Blk w5 gf c.toList 5 := by show w5.heap[gf]? = _; rw [hc]
  have hk6 : Kp (fun j => j = gf) w5 w6 := (Kp.of_grown hg6).mono (fun j _ e => (Option.some.inj e).symm)
  have G6 := hid (G5.out.over hbk (Nat.le_trans G0.out.hB HGB.out) AV5.out hk6)
  have R6 := hid (R5.out.over hbk HGB.out R0.out.tl.old2 hk6)
  clear hbk hk6 hg6
  go_wp2
  go_ret
  refine ⟨by simp, lv', mv', ?_⟩
  rw [← HK'.out]
  exact ⟨G6.out, R6.out⟩
theorem PW.write (h : PW w0 B K pb rb qb lb lv mb mv L xb tv wv tl W) (on to al : Int) (pv : Value) (a : Bool) (sk : SK) (pn : Nat) (g : Nat → Int) (hK : K (pk on) = some (a, sk)) (hg : ∀ i, 0 ≤ g i ∧ g i < 256) (hp : ∀ W', Below B w0 W' → By.RB W' pv pn g) (hpn : pn ≤ 100000) (hml : ml sk + pn ≤ 900000) (hroom : tot L ≤ 100000) :
    Calls Tryz.prog 10 #[.pointer (some ⟨xb, 0, none⟩), .agg #[.int .i64 on, .int .i64 0, .int .i64 to, pv, .int .u8 al]] W fun e w' => e = .returned (.bool true) ∧ ∃ lv' mv', PW w0 B (upd K (pk on) (some (a, wrK g pn sk))) pb rb qb lb lv' mb mv' (evs a L (wrN a pn sk)) xb tv wv tl w' := by
  cases a
  · exact h.write256 on to al pv sk pn g hK hg hp hpn hml hroom
  · exact h.write512 on to al pv sk pn g hK hg hp hpn hml hroom
end
end Go.Proofs.YtojldjckpjokcaaGreatDoor.Dg
