/- The helper act, call by call: Form, Sum, Len. -/
import Derived.Test.YtbjccfnaadmofaaDoorHact
namespace Go.Proofs.YtbjccfnaadmofaaDoor.Sh
open Go.ChangeShapes Go.WideShapes Go.ChangeAt Go.RowKit
open Go.Proofs.YtbjccfnaadmofaaDoor.By Go.Proofs.YtbjccfnaadmofaaDoor.Wd
section
variable {w0 W W' : World} {B : Nat} {K KP KQ : Nat → KD} {pb qb : Nat → Nat} {lb mb xb : Nat} {lv mv tv wv tv' wv' : Value} {L M : List Rn} {tl : List TE}
/-- The blocks that keep turns are of two kinds. -/
theorem sf_ty (hx : ∃ cs, Blk W xb cs 36) (hr : RW W B tv wv tl) {g : Nat} {cs : List Value} {t : TypeId} (hg : Blk W g cs t) (h1 : t ≠ 36) (h2 : t ≠ 40) : ¬ SF xb tv wv g := by
  obtain ⟨cx, hx⟩ := hx
  rintro (e | e | e)
  · exact Blk.ne hg hx h1 e
  · obtain ⟨c, hc, _⟩ := rowG_type hr.r3 e; exact Blk.ne hg hc h2 rfl
  · obtain ⟨c, hc, _⟩ := rowG_type hr.r4 e; exact Blk.ne hg hc h2 rfl
theorem sf_B (h : GW w0 B KP KQ pb qb lb lv L mb mv M xb tv wv W) (hr : RW W B tv wv tl) (g : Nat) (hg : SF xb tv wv g) : B ≤ g := by
  rcases hg with e | e | e
  · rw [e]; exact h.xB
  · exact (rowG_type hr.r3 e).choose_spec.2
  · exact (rowG_type hr.r4 e).choose_spec.2
theorem sf_own (hx : ∃ cs, Blk W xb cs 36) (hr : RW W B tv wv tl) (hk : Kp (SF xb tv wv) W W') {base n : Nat} {v : Value} {f : Nat → Int} (ho : By.Own W base v n f) : By.Own W' base v n f := by
  refine own_kept ho hk (fun g hg => ?_)
  obtain ⟨c, hc⟩ := own8_type ho hg
  exact sf_ty hx hr (cs := c.toList) (t := 5) (by show W.heap[g]? = _; rw [hc]) (by decide) (by decide)
theorem GW.turnX (h : GW w0 B KP KQ pb qb lb lv L mb mv M xb tv wv W) (hr : RW W B tv wv tl) (hk : Kp (SF xb tv wv) W W') (hx : Blk W' xb (xc KP KQ pb qb lb mb tv' wv') 36) : GW w0 B KP KQ pb qb lb lv L mb mv M xb tv' wv' W' := by
  have n1 := fun {g : Nat} {cs : List Value} {t : TypeId} (hg : Blk W g cs t) h1 h2 => sf_ty ⟨_, h.x⟩ hr hg h1 h2
  refine ⟨fun i hi => ⟨(h.sp i hi).1.kept hk (fun hi2 => ?_), (h.sp i hi).2⟩, fun i hi => ⟨(h.sq i hi).1.kept hk (fun hi2 => ?_) (fun g cs hg => n1 hg (by decide) (by decide)), (h.sq i hi).2⟩, h.pn, h.qn, h.l.kept hk (n1 h.l.blk (by decide) (by decide)) (fun g hg => ?_), h.lB, h.lg, h.m.kept hk (n1 h.m.blk (by decide) (by decide)) (fun g hg => ?_), h.mB, h.mg, h.ap, hx, h.xB, h.bel.trans (hk.below h.hB (fun j hj hs => by have := sf_B h hr j hs; omega)), h.kt.kept hk (fun hs => by have := sf_B h hr 0 hs; have := h.h0; omega), h.h0, Nat.le_trans h.hB hk.size⟩
  · obtain ⟨c, hc⟩ := (h.sp i hi).1.blk hi2; exact n1 hc (by decide) (by decide)
  · obtain ⟨c, hc⟩ := (h.sq i hi).1.blk hi2; exact n1 hc (by decide) (by decide)
  · obtain ⟨c, hc⟩ := run_blk h.l.own hg; exact n1 hc (by decide) (by decide)
  · obtain ⟨c, hc⟩ := run_blk h.m.own hg; exact n1 hc (by decide) (by decide)
/-- Bytes that both sides told are kept. -/
theorem GW.keep (h : GW w0 B KP KQ pb qb lb lv L mb mv M xb tv wv W) (hr : RW W B tv wv tl) (a b : Value) (n N : Nat) (f : Nat → Int) (ha : By.Own W N a n f) (hb : By.Own W B b n f) (hN : B ≤ N) (hold : ∀ q ∈ tl, ∀ g, q.a.ownBlock = some g → g < N) (hn : n ≤ 65536) (htl : tl.length ≤ 1000) :
    Calls Tryd.prog 28 #[.pointer (some ⟨xb, 0, none⟩), a, b] W fun e w' => e = .returned (.bool true) ∧ ∃ tv' wv', GW w0 B KP KQ pb qb lb lv L mb mv M xb tv' wv' w' ∧ RW w' B tv' wv' (tl ++ [⟨a, b, n, f⟩]) ∧ W.heap.size ≤ w'.heap.size := by
  refine (keep1 B xb n (x8 KP KQ pb qb lb mb) tv wv a b (tl.map (·.a)) (tl.map (·.b)) f W ⟨h.x, rfl, hr.r3, hr.r4, hr.dis, h.xB⟩ (fun w' hk => (sf_own ⟨_, h.x⟩ hr hk ha).reads) (fun w' hk => (sf_own ⟨_, h.x⟩ hr hk hb).reads) (by omega) h.hB (by simp; omega) (by simp; omega)).mono ?_
  rintro e w' ⟨rfl, tv', wv', ht, hk, -, -⟩
  refine ⟨rfl, tv', wv', h.turnX hr hk ht.here, ⟨by simpa using ht.r3, by simpa using ht.r4, ht.dis, ⟨fun q hq => ?_, ?_, fun q hq => ?_⟩⟩, hk.size⟩
  · rcases List.mem_append.1 hq with hq | hq
    · exact ⟨sf_own ⟨_, h.x⟩ hr hk (hr.tl.own q hq).1, sf_own ⟨_, h.x⟩ hr hk (hr.tl.own q hq).2⟩
    · rw [List.mem_singleton.1 hq]
      exact ⟨own_mono (sf_own ⟨_, h.x⟩ hr hk ha) hN, sf_own ⟨_, h.x⟩ hr hk hb⟩
  · refine List.pairwise_append.2 ⟨hr.tl.ap, List.pairwise_singleton _ _, fun p hp q hq => ?_⟩
    rw [List.mem_singleton.1 hq]
    cases e1 : p.a.ownBlock with
    | none => exact .inl rfl
    | some g =>
      refine .inr (fun e2 => ?_)
      have h1 := hold p hp g e1
      have h2 := own_row ha g e2.symm
      omega
  · rcases List.mem_append.1 hq with hq | hq
    · exact hr.tl.sz q hq
    · rw [List.mem_singleton.1 hq]; exact hn
theorem TL.old (h : TL W B tl) : ∀ q ∈ tl, ∀ g, q.a.ownBlock = some g → g < W.heap.size := fun q hq g hg => by
  obtain ⟨c, hc⟩ := own8_type (h.own q hq).1 hg
  exact (Array.getElem?_eq_some_iff.1 hc).1
theorem fmM_le (k : KD) : fmM k ≤ 104 := by
  unfold fmM; split <;> omega
theorem suM_le (k : KD) : suM k ≤ 32 := by
  unfold suM; split <;> omega
set_option maxRecDepth 4000 in
set_option maxHeartbeats 4000000 in
theorem PW.form (h : PW w0 B K pb qb lb lv mb mv L xb tv wv tl W) (on to : Int) (pv : Value) (sil : Bool) (htl : tl.length ≤ 1000) (hroom : tot L ≤ 100000) :
    Calls Tryd.prog 10 #[.pointer (some ⟨xb, 0, none⟩), .agg #[.int .i64 on, .int .i64 5, .int .i64 to, pv, .bool sil]] W fun e w' => e = .returned (.bool true) ∧ ∃ k tv' wv' a b, k < 3 ∧ PW w0 B K pb qb lb lv mb mv L xb tv' wv' (tl ++ [⟨a, b, fmM (K k), fmF (K k)⟩]) w' := by
  have HX := hid (Blk.new W [.int .i64 on, .int .i64 5, .int .i64 to, pv, .bool sil] 42)
  have G0 := hid (h.gw.below (below_alloc W (.cells #[.int .i64 on, .int .i64 5, .int .i64 to, pv, .bool sil] 42)))
  have R0 := hid (h.rw.kx (Kx.below (below_alloc W (.cells #[.int .i64 on, .int .i64 5, .int .i64 to, pv, .bool sil] 42))))
  have HM := hid hroom
  have HTL := hid htl
  clear h hroom htl
  go_enter Tryd.func10, Tryd.ntmps10
  go_wp2_with fail
  obtain ⟨W1, hW1⟩ : ∃ x, W.alloc (.cells #[.int .i64 on, .int .i64 5, .int .i64 to, pv, .bool sil] 42) = x := ⟨_, rfl⟩
  obtain ⟨ob, hob⟩ : ∃ x, W.heap.size = x := ⟨_, rfl⟩
  have HX1 : Hid (Blk W1 ob [.int .i64 on, .int .i64 5, .int .i64 to, pv, .bool sil] 42) := by rw [← hW1, ← hob]; exact HX.out
  rw [hW1] at G0 R0
  rw [hW1, hob]
  clear hW1 hob HX
  have o0 := HX1.out.cell 0 _ rfl
  have o1 := HX1.out.cell 1 _ rfl
  have o6 := HX1.out.cell 4 _ rfl
  refine (pickN on 3 (by omega) (by omega) W1).mono ?_
  rintro e w1 ⟨⟨k, hk3, rfl⟩, rfl⟩
  have cp := G0.out.x.cell k _ (xc_p _ _ _ _ _ _ _ _ k hk3)
  have cq := G0.out.x.cell (3 + k) _ (xc_q _ _ _ _ _ _ _ _ k hk3)
  have cl := G0.out.x.cell 6 _ rfl
  have cm := G0.out.x.cell 7 _ rfl
  have hk3' : (k : Int) < 3 := by omega
  cases hs : sil with
  | true =>
    subst hs
    go_wp2_with fail
    refine (G0.out.formP hk3).mono ?_
    rintro e w2 ⟨va, rfl, hva, hb2⟩
    have G2 := hid (G0.out.below hb2)
    have R2 := hid (R0.out.kx (Kx.below hb2))
    have VA := hid hva
    clear hva hb2
    go_wp2_with fail
    refine (G2.out.formQ hk3).mono ?_
    rintro e w3 ⟨vb, rfl, hvb, hb3⟩
    have G3 := hid (G2.out.below hb3)
    have R3 := hid (R2.out.kx (Kx.below hb3))
    have VA3 := hid (own_below VA.out hb3)
    have VB3 := hid (own_mono hvb G2.out.hB)
    clear hvb hb3 VA
    go_wp2_with fail
    refine (G3.out.keep R3.out va vb _ _ _ VA3.out VB3.out G0.out.hB R0.out.tl.old (by have := fmM_le (K k); omega) HTL.out).mono ?_
    rintro e w4 ⟨rfl, tv', wv', hG4, hR4, -⟩
    have G4 := hid hG4
    have R4 := hid hR4
    clear hG4 hR4
    go_wp2
    go_ret
    exact ⟨by simp, k, tv', wv', _, _, hk3, G4.out, R4.out⟩
  | false =>
    subst hs
    go_wp2_with fail
    refine (G0.out.formP hk3).mono ?_
    rintro e w2 ⟨va, rfl, hva, hb2⟩
    have G2 := hid (G0.out.below hb2)
    have R2 := hid (R0.out.kx (Kx.below hb2))
    have VA := hid hva
    clear hva hb2
    go_wp2_with fail
    refine (G2.out.formQ hk3).mono ?_
    rintro e w3 ⟨vb, rfl, hvb, hb3⟩
    have G3 := hid (G2.out.below hb3)
    have R3 := hid (R2.out.kx (Kx.below hb3))
    have VA3 := hid (own_below VA.out hb3)
    have VB3 := hid (own_mono hvb G2.out.hB)
    clear hvb hb3 VA
    go_wp2_with fail
    refine (G3.out.keep R3.out va vb _ _ _ VA3.out VB3.out G0.out.hB R0.out.tl.old (by have := fmM_le (K k); omega) HTL.out).mono ?_
    rintro e w4 ⟨rfl, tv', wv', hG4, hR4, -⟩
    have G4 := hid hG4
    have R4 := hid hR4
    clear hG4 hR4
    go_wp2
    go_ret
    exact ⟨by simp, k, tv', wv', _, _, hk3, G4.out, R4.out⟩

set_option maxRecDepth 4000 in
set_option maxHeartbeats 4000000 in
theorem PW.sum (h : PW w0 B K pb qb lb lv mb mv L xb tv wv tl W) (on to : Int) (pv : Value) (sil : Bool) (htl : tl.length ≤ 1000) (hml : ∀ k, k < 3 → ml (K k) ≤ 900000) (hroom : tot L ≤ 100000) :
    Calls Tryd.prog 10 #[.pointer (some ⟨xb, 0, none⟩), .agg #[.int .i64 on, .int .i64 1, .int .i64 to, pv, .bool sil]] W fun e w' => e = .returned (.bool true) ∧ ∃ k lv' mv' tv' wv' a b, k < 3 ∧ PW w0 B K pb qb lb lv' mb mv' (sel sil L (evs256 L (suN (K k)))) xb tv' wv' (tl ++ [⟨a, b, suM (K k), suF (K k)⟩]) w' := by
  have HX := hid (Blk.new W [.int .i64 on, .int .i64 1, .int .i64 to, pv, .bool sil] 42)
  have G0 := hid (h.gw.below (below_alloc W (.cells #[.int .i64 on, .int .i64 1, .int .i64 to, pv, .bool sil] 42)))
  have R0 := hid (h.rw.kx (Kx.below (below_alloc W (.cells #[.int .i64 on, .int .i64 1, .int .i64 to, pv, .bool sil] 42))))
  have HM := hid hroom
  have HTL := hid htl
  have HML := hid hml
  clear h hroom htl hml
  go_enter Tryd.func10, Tryd.ntmps10
  go_wp2_with fail
  obtain ⟨W1, hW1⟩ : ∃ x, W.alloc (.cells #[.int .i64 on, .int .i64 1, .int .i64 to, pv, .bool sil] 42) = x := ⟨_, rfl⟩
  obtain ⟨ob, hob⟩ : ∃ x, W.heap.size = x := ⟨_, rfl⟩
  have HX1 : Hid (Blk W1 ob [.int .i64 on, .int .i64 1, .int .i64 to, pv, .bool sil] 42) := by rw [← hW1, ← hob]; exact HX.out
  rw [hW1] at G0 R0
  rw [hW1, hob]
  clear hW1 hob HX
  have o0 := HX1.out.cell 0 _ rfl
  have o1 := HX1.out.cell 1 _ rfl
  have o6 := HX1.out.cell 4 _ rfl
  refine (pickN on 3 (by omega) (by omega) W1).mono ?_
  rintro e w1 ⟨⟨k, hk3, rfl⟩, rfl⟩
  have cp := G0.out.x.cell k _ (xc_p _ _ _ _ _ _ _ _ k hk3)
  have cq := G0.out.x.cell (3 + k) _ (xc_q _ _ _ _ _ _ _ _ k hk3)
  have cl := G0.out.x.cell 6 _ rfl
  have cm := G0.out.x.cell 7 _ rfl
  have hk3' : (k : Int) < 3 := by omega
  cases hs : sil with
  | true =>
    subst hs
    go_wp2_with fail
    refine (G0.out.sumP hk3 true (HML.out k hk3) HM.out).mono ?_
    rintro e w2 ⟨va, lv', rfl, hva, hG2, hK2, -⟩
    have G2 := hid hG2
    have R2 := hid (R0.out.kx hK2)
    have VA := hid hva
    clear hva hG2 hK2
    go_wp2_with fail
    refine (G2.out.sumQ hk3 true HM.out).mono ?_
    rintro e w3 ⟨vb, mv', rfl, hvb, hG3, hK3⟩
    have G3 := hid hG3
    have R3 := hid (R2.out.kx hK3)
    have VA3 := hid (hK3.own VA.out)
    have VB3 := hid (own_mono hvb G2.out.hB)
    clear hvb hG3 hK3 VA
    go_wp2_with fail
    refine (G3.out.keep R3.out va vb _ _ _ VA3.out VB3.out G0.out.hB R0.out.tl.old (by have := suM_le (K k); omega) HTL.out).mono ?_
    rintro e w4 ⟨rfl, tv', wv', hG4, hR4, -⟩
    have G4 := hid hG4
    have R4 := hid hR4
    clear hG4 hR4
    go_wp2
    go_ret
    exact ⟨by simp, k, lv', mv', tv', wv', _, _, hk3, G4.out, R4.out⟩
  | false =>
    subst hs
    go_wp2_with fail
    refine (G0.out.sumP hk3 false (HML.out k hk3) HM.out).mono ?_
    rintro e w2 ⟨va, lv', rfl, hva, hG2, hK2, -⟩
    have G2 := hid hG2
    have R2 := hid (R0.out.kx hK2)
    have VA := hid hva
    clear hva hG2 hK2
    go_wp2_with fail
    refine (G2.out.sumQ hk3 false HM.out).mono ?_
    rintro e w3 ⟨vb, mv', rfl, hvb, hG3, hK3⟩
    have G3 := hid hG3
    have R3 := hid (R2.out.kx hK3)
    have VA3 := hid (hK3.own VA.out)
    have VB3 := hid (own_mono hvb G2.out.hB)
    clear hvb hG3 hK3 VA
    go_wp2_with fail
    refine (G3.out.keep R3.out va vb _ _ _ VA3.out VB3.out G0.out.hB R0.out.tl.old (by have := suM_le (K k); omega) HTL.out).mono ?_
    rintro e w4 ⟨rfl, tv', wv', hG4, hR4, -⟩
    have G4 := hid hG4
    have R4 := hid hR4
    clear hG4 hR4
    go_wp2
    go_ret
    exact ⟨by simp, k, lv', mv', tv', wv', _, _, hk3, G4.out, R4.out⟩

set_option maxRecDepth 4000 in
set_option maxHeartbeats 4000000 in
theorem PW.ask (h : PW w0 B K pb qb lb lv mb mv L xb tv wv tl W) (on to : Int) (pv : Value) (sil : Bool) (cc : Int) (hc : ¬ cc = 0 ∧ ¬ cc = 1 ∧ ¬ cc = 2 ∧ ¬ cc = 3 ∧ ¬ cc = 4 ∧ ¬ cc = 5 ∧ ¬ cc = 6) (hroom : tot L ≤ 100000) :
    Calls Tryd.prog 10 #[.pointer (some ⟨xb, 0, none⟩), .agg #[.int .i64 on, .int .i64 cc, .int .i64 to, pv, .bool sil]] W fun e w' => e = .returned (.bool true) ∧ PW w0 B K pb qb lb lv mb mv L xb tv wv tl w' := by
  have HX := hid (Blk.new W [.int .i64 on, .int .i64 cc, .int .i64 to, pv, .bool sil] 42)
  have G0 := hid (h.gw.below (below_alloc W (.cells #[.int .i64 on, .int .i64 cc, .int .i64 to, pv, .bool sil] 42)))
  have R0 := hid (h.rw.kx (Kx.below (below_alloc W (.cells #[.int .i64 on, .int .i64 cc, .int .i64 to, pv, .bool sil] 42))))
  have HM := hid hroom
  clear h hroom
  go_enter Tryd.func10, Tryd.ntmps10
  go_wp2_with fail
  obtain ⟨W1, hW1⟩ : ∃ x, W.alloc (.cells #[.int .i64 on, .int .i64 cc, .int .i64 to, pv, .bool sil] 42) = x := ⟨_, rfl⟩
  obtain ⟨ob, hob⟩ : ∃ x, W.heap.size = x := ⟨_, rfl⟩
  have HX1 : Hid (Blk W1 ob [.int .i64 on, .int .i64 cc, .int .i64 to, pv, .bool sil] 42) := by rw [← hW1, ← hob]; exact HX.out
  rw [hW1] at G0 R0
  rw [hW1, hob]
  clear hW1 hob HX
  have o0 := HX1.out.cell 0 _ rfl
  have o1 := HX1.out.cell 1 _ rfl
  have o6 := HX1.out.cell 4 _ rfl
  refine (pickN on 3 (by omega) (by omega) W1).mono ?_
  rintro e w1 ⟨⟨k, hk3, rfl⟩, rfl⟩
  have cp := G0.out.x.cell k _ (xc_p _ _ _ _ _ _ _ _ k hk3)
  have cq := G0.out.x.cell (3 + k) _ (xc_q _ _ _ _ _ _ _ _ k hk3)
  have cl := G0.out.x.cell 6 _ rfl
  have cm := G0.out.x.cell 7 _ rfl
  have hk3' : (k : Int) < 3 := by omega
  obtain ⟨h0, h1, h2, h3, h4, h5, h6⟩ := hc
  cases hs : sil with
  | true =>
    subst hs
    go_wp2_with (first
      | (go_at_call 37; refine (G0.out.lenP hk3).mono ?_; rintro e w' ⟨rfl, rfl⟩)
      | (go_at_call 38; refine (G0.out.lenQ hk3).mono ?_; rintro e w' ⟨rfl, rfl⟩))
    go_ret
    exact ⟨by simp, G0.out, R0.out⟩
  | false =>
    subst hs
    go_wp2_with (first
      | (go_at_call 37; refine (G0.out.lenP hk3).mono ?_; rintro e w' ⟨rfl, rfl⟩)
      | (go_at_call 38; refine (G0.out.lenQ hk3).mono ?_; rintro e w' ⟨rfl, rfl⟩))
    go_ret
    exact ⟨by simp, G0.out, R0.out⟩

end
end Go.Proofs.YtbjccfnaadmofaaDoor.Sh
