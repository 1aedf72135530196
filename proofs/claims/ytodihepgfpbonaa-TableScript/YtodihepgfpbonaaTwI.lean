/- The statement's helper walk, over an iterator of a table of the type int. -/
import Derived.Test.YtodihepgfpbonaaTtI
import Derived.Test.YtodihepgfpbonaaTwg
namespace Go.Proofs.Ytodihepgfpbonaa.Tb.I
open Go.ChangeShapes Go.WideShapes Go.ChangeAt Go.RowKit Go.Shelf
attribute [local go_sem] Oper.semAt_some
theorem eqlFunc0 (d : Nat) (fn : Fn) (a b : Array Value) (w : World) : (Op.equalIn (d + 1) 77 (.func fn a b) .nilFunc).run Try.prog w = .ok false w := by
  simp [Op.equalIn, run_underlying Try.underlying77]
theorem eqlFunc (fn : Fn) (a b : Array Value) (w : World) : (binOp .eql 77 (.func fn a b) .nilFunc).run Try.prog w = .ok (.bool false) w := by
  simp only [binOp]
  simp [Op.equal, Op.maxDepth, eqlFunc0 9999 fn a b w]
theorem results_walk {tmps : Array Value} {W : World} {g : Nat} {bv : Bool} (hp : tmps.getD 8 undef = .pointer (some ⟨g, 0, none⟩)) (hc : Cel W g (.bool bv) 4) : (results Try.f36 tmps).run Try.prog W = .ok (.bool bv) W := by
  have hc1 := hc.cell
  have u4 := Try.underlying4
  have hp' : tmps[8]?.getD undef = .pointer (some ⟨g, 0, none⟩) := by simpa using hp
  simp [results, hp', asAddr]
  go_simp
abbrev lt' : TypeId := 72
/-- What the two lists have. -/
structure LV (w : World) (ha va : Option Addr) (hn vn : Nat) (L : List (Nat × V)) : Prop where
  hl : hn = L.length
  vl : vn = L.length
  hs : ∀ w', Below w.heap.size w w' → ∀ i x, L[i]? = some x → ∃ b off, ha = some ⟨b, off, none⟩ ∧ w'.cell? ⟨b, off + i, none⟩ = some (.int .i64 x.1)
  vs : ∀ w', Below w.heap.size w w' → ∀ i x, L[i]? = some x → ∃ b off, va = some ⟨b, off, none⟩ ∧ w'.cell? ⟨b, off + i, none⟩ = some (vv x.2)
theorem SW.lt {W : World} {ps : Ps} {hd : Nat → Option V} (h : SW W ps hd) (j g : Nat) (e : ps j = some g) : g < W.heap.size := by
  cases e2 : hd j with
  | none => rw [(h j).2 e2] at e; cases e
  | some v =>
    obtain ⟨g', h1, h2⟩ := (h j).1 v e2
    rw [h1] at e; cases e
    exact h2.lt
set_option maxRecDepth 100000 in
set_option maxHeartbeats 9000000 in
theorem walk_w (Bs : Nat) (ps : Ps) (hd : Nat → Option V) (ha va : Option Addr) (hn hc vn vc' : Nat) (most : Int) (w : World) (hBs : Blk w Bs (pl ps) at') (hR : SW w ps hd) (hL : LV w ha va hn vn (prs hd 64)) :
    Calls Try.prog 36 #[.func (.func 57) #[] #[.pointer (some ⟨Bs, 0, none⟩)], .slice ha hn hc, .slice va vn vc', .int .i64 most] w fun e w' => e = .returned (.bool true) ∧ Below w.heap.size w w' := by
  have hlen := prs_len hd 64
  obtain ⟨L, hLe⟩ : ∃ L, prs hd 64 = L := ⟨_, rfl⟩
  rw [hLe] at hL hlen
  have HL := hid hL
  have HLE := hid hLe
  clear hLe
  have HW0 := hid (WI.start w (.slice ha hn hc) (.slice va vn vc') lt' most)
  have hbl := hBs.lt
  have HSW := hid hR
  have HBS := hid hBs
  clear hL hR hBs
  refine (callsIn_wide (n := 7)).1 ?_
  refine callsIn_of_wp_marks Try.func36 rfl trivial ?_ rfl
  simp only [Try.ntmps36, List.size_toArray, List.length_cons, List.length_nil, Nat.reduceAdd, Nat.reduceSub, Array.replicate_succ, Array.replicate_zero, List.push_toArray, List.append_toArray, List.nil_append, List.cons_append]
  have hnil := eqlFunc
  gi_wp2_with fail
  clear hnil
  obtain ⟨W5, hW5⟩ : ∃ W, (((((w.alloc (.cells #[.slice ha hn hc] 72)).alloc (.cells #[.slice va vn vc'] lt')).alloc (.cells #[.int .i64 most] 3)).alloc (.cells #[.bool false] 4)).alloc (.cells #[.int .i64 0] 3)) = W := ⟨_, rfl⟩
  have hz5 : W5.heap.size = w.heap.size + 5 := by rw [← hW5]; simp
  rw [hW5] at HW0 ⊢
  have HZ5 := hid hz5
  clear hW5 hz5
  have hst := all_stops Fence.wide 6 trivial rfl (by omega) Bs (fun q => q = w.heap.size + 1 + 1 + 1 ∨ q = w.heap.size + 1 + 1 + 1 + 1) ps hd W5 (HBS.out.below HW0.out.bel) (HSW.out.below HW0.out.bel) (by rintro (e | e) <;> omega) (by rintro j g hg (e | e) <;> (have := HSW.out.lt j g hg; omega))
  rw [HLE.out] at hst
  refine wpIn_rangeFunc_ownH (α := Nat × V) (hro := rfl) (h1 := by omega) (gf := 57) (lb := #[.pointer (some ⟨Bs, 0, none⟩)]) rfl trivial (enters_of Try.func57 (by kernel_rfl) rfl)
    hst (fun h k => h.trans k) (fun W l o o' hl ho hc _ => KC.putObj ho hc) (Below.refl _ _) (fun _ => rfl)
    (fun pre W => pre <+: L ∧ WI w (.slice ha hn hc) (.slice va vn vc') lt' most false pre.length W)
    (fun c pre W => c = .ret ∧ (pre <+: L → ∃ n, WI w (.slice ha hn hc) (.slice va vn vc') lt' most true n W)) ?hI ?hIx ⟨List.nil_prefix, HW0.out⟩
    (fun x a' _ => a' = { tmps := #[.func (.func 57) #[] #[.pointer (some ⟨Bs, 0, none⟩)], .slice ha hn hc, .slice va vn vc', .int .i64 most, undef, .pointer (some ⟨w.heap.size, 0, none⟩), .pointer (some ⟨w.heap.size + 1, 0, none⟩), .pointer (some ⟨w.heap.size + 1 + 1, 0, none⟩), .pointer (some ⟨w.heap.size + 1 + 1 + 1, 0, none⟩), .pointer (some ⟨w.heap.size + 1 + 1 + 1 + 1, 0, none⟩), .int .i64 x.1, vv x.2, .func (.func 57) #[] #[.pointer (some ⟨Bs, 0, none⟩)], .bool false, .func (.func 57) #[] #[.pointer (some ⟨Bs, 0, none⟩)], .int .i64 x.1, vv x.2, undef, undef, undef, undef, undef, undef, undef, undef, undef, undef, undef, undef, undef, undef, undef, undef, undef, undef, undef, undef, undef, undef, undef, undef, undef, undef, undef, undef, undef], defers := [] }) ?hAx ?assign ?body ?done ?stop
  case hI =>
    rintro pre A B row ⟨hp, g⟩ hg hr
    exact ⟨hp, g.own hg (fun r e => ⟨by have := (hr r e).1; have := HZ5.out; omega, (hr r e).2⟩)⟩
  case hIx =>
    rintro c pre A B row ⟨rfl, h⟩ hg hr
    exact ⟨rfl, fun hp => by obtain ⟨n, g⟩ := h hp; exact ⟨n, g.own hg (fun r e => ⟨by have := (hr r e).1; have := HZ5.out; omega, (hr r e).2⟩)⟩⟩
  case hAx =>
    rintro x a' _ A B row h hg hr
    exact h
  case assign =>
    rintro l pre x W K ⟨hp, g⟩ hK
    gi_wp2
    exact hK _ _ (KeepsFrom.refl _ _) (KC.refl _ _) ⟨hp, g⟩ rfl
  case body =>
    rintro l pre x a' W hl ⟨rr, hrr⟩ ⟨hp, g⟩ rfl hlt
    obtain ⟨y, hy⟩ : ∃ y, (L)[pre.length]? = some y := ⟨_, List.getElem?_eq_getElem hlt⟩
    have HN := hid (pre_next (x := x) hp hy)
    have G := hid g
    obtain ⟨p, hpe⟩ : ∃ p, pre.length = p := ⟨_, rfl⟩
    have HPE := hid hpe
    obtain ⟨b1, o1, rfl, ch⟩ := HL.out.hs W g.bel pre.length y hy
    obtain ⟨b2, o2, rfl, cv⟩ := HL.out.vs W g.bel pre.length y hy
    have n1 := g.c4.cell
    have n2 := g.c4.frozen
    have r1 := g.c3.cell
    have r2 := g.c3.frozen
    have m1 := g.c2.cell
    have h1 := g.c0.cell
    have v1 := g.c1.cell
    rw [hpe] at n1 hlt ch cv
    have e1 := HL.out.hl
    have e2 := HL.out.vl
    have p0 : (0 : Int) ≤ p := by omega
    have p1 : (p : Int) < hn := by omega
    have p2 : (p : Int) < vn := by omega
    have p3 : ¬ (hn : Int) ≤ p := by omega
    have hwn : IntKind.i64.wrap ((p : Int) + 1) = (p : Int) + 1 := by rw [IntKind.wrap_i64]; omega
    have hz := g.c4.lt
    clear g hpe hlt hp hy hrr e1 e2 hlen
    have KS : Hid (KeepsFrom W5.heap.size W (W.setCell ⟨w.heap.size + 1 + 1 + 1, 0, none⟩ (.bool false))) := (kf_below _ (Below.refl _ W)).trans ((KeepsOthers.setCell _ _ _).from _)
    have KN : Hid (KeepsFrom W5.heap.size W (W.setCell ⟨w.heap.size + 1 + 1 + 1 + 1, 0, none⟩ (.int .i64 ((p : Int) + 1)))) := (kf_below _ (Below.refl _ W)).trans ((KeepsOthers.setCell _ _ _).from _)
    have KT : Hid (KeepsFrom W5.heap.size W ((W.setCell ⟨w.heap.size + 1 + 1 + 1 + 1, 0, none⟩ (.int .i64 ((p : Int) + 1))).setCell ⟨w.heap.size + 1 + 1 + 1, 0, none⟩ (.bool true))) := (KN.out).trans ((KeepsOthers.setCell _ _ _).from _)
    have KC1 : Hid (KC (fun q => q = w.heap.size + 1 + 1 + 1 ∨ q = w.heap.size + 1 + 1 + 1 + 1) W (W.setCell ⟨w.heap.size + 1 + 1 + 1 + 1, 0, none⟩ (.int .i64 ((p : Int) + 1)))) := ((kc_below (Below.refl _ W)).mono (fun _ e => e.elim)).trans (KC.of_kp (Kp.setCell _ 0 _) (fun q _ e => .inr e))
    have WN : Hid (WI w (.slice (some ⟨b1, o1, none⟩) hn hc) (.slice (some ⟨b2, o2, none⟩) vn vc') lt' most false (p + 1) (W.setCell ⟨w.heap.size + 1 + 1 + 1 + 1, 0, none⟩ (.int .i64 ((p : Int) + 1)))) := (G.out.below (Below.refl _ W)).put (p + 1)
    have WT : Hid (WI w (.slice (some ⟨b1, o1, none⟩) hn hc) (.slice (some ⟨b2, o2, none⟩) vn vc') lt' most true (p + 1) ((W.setCell ⟨w.heap.size + 1 + 1 + 1 + 1, 0, none⟩ (.int .i64 ((p : Int) + 1))).setCell ⟨w.heap.size + 1 + 1 + 1, 0, none⟩ (.bool true))) := (WN.out).res true
    by_cases he : x = y
    · subst he
      have HN2 := hid (HN.out.2 rfl)
      clear HN
      by_cases hm : (p : Int) + 1 = most
      · subst hm
        gi_wp2
        exact ⟨KT.out, rfl, fun _ => ⟨_, WT.out⟩⟩
      · have hm2 : ((p : Int) + 1 == most) = false := by simpa using hm
        clear hm
        gi_wp2
        refine ⟨KN.out, KC1.out, HN2.out, ?_⟩
        rw [List.length_append, List.length_singleton, HPE.out]
        exact WN.out
    · have HE := hid he
      by_cases hf : x.1 = y.1
      · have hs : ¬ x.2 = y.2 := fun e => he (Prod.ext hf e)
        rw [← hf] at ch
        have hs3 : (x.2 != y.2) = true := by simp [hs]
        clear he hs
        gi_wp2
        exact ⟨KS.out, rfl, fun h => absurd (HN.out.1 h) HE.out⟩
      · have hs : ((x.1 : Int) != (y.1 : Int)) = true := by simp; omega
        clear he hf
        gi_wp2
        exact ⟨KS.out, rfl, fun h => absurd (HN.out.1 h) HE.out⟩
  case done =>
    rintro D ys W hD hys ⟨hpp, g⟩ hK
    subst hys
    have G := hid g
    have HK := hid hK
    have n1 := g.c4.cell
    have h1 := g.c0.cell
    have r1 := g.c3.cell
    have r2 := g.c3.frozen
    rw [← HL.out.hl] at n1
    have HDD := hid hD
    clear g hK hD hpp
    rename_i KK cont
    show KK _ _
    refine cont _ _ ?_
    clear cont
    dsimp only
    gi_wp2
    have c6 := G.out.res true
    have hne : D ≠ w.heap.size + 1 + 1 + 1 := fun e => by
      have h1 : W.heap[w.heap.size + 1 + 1 + 1]? = _ := G.out.c3
      rw [← e, HK.out] at h1
      simp at h1
    have k1 : (W.setCell ⟨w.heap.size + 1 + 1 + 1, 0, none⟩ (.bool true)).heap[D]? = some (.deferred (some [])) := (Below.heap_setCell W ⟨w.heap.size + 1 + 1 + 1, 0, none⟩ (.bool true) D hne).trans HK.out
    generalize (W.setCell ⟨w.heap.size + 1 + 1 + 1, 0, none⟩ (.bool true)) = W6 at k1 c6 ⊢
    have k4 : KC (fun _ => False) W6 (W6.putObj D (.deferred none)) := KC.putObj k1 rfl
    refine ⟨by simp, .inl ⟨_, _, rfl, run_takeDeferred k1, ?_⟩⟩
    refine ⟨_, results_walk rfl (c6.c3.kc k4 id), rfl, ?_⟩
    exact c6.bel.trans (belowK_b (w := w) (Nat.le_refl _) _ D _ _ (by have := HDD.out; have := HZ5.out; omega) k1 rfl rfl)
  case stop =>
    rintro D c pre W hD hsp ⟨rfl, h⟩ k1
    obtain ⟨n, c6⟩ := h hsp
    have hDz : w.heap.size ≤ D := by have := HZ5.out; omega
    refine wpIn_ret ?_
    have k4 : KC (fun _ => False) W (W.putObj D (.deferred none)) := KC.putObj k1 rfl
    refine ⟨by simp, .inl ⟨_, _, rfl, run_takeDeferred k1, ?_⟩⟩
    refine ⟨_, results_walk rfl (c6.c3.kc k4 id), rfl, ?_⟩
    exact c6.bel.trans (belowK_b (w := w) (Nat.le_refl _) _ D _ _ hDz k1 rfl rfl)
end Go.Proofs.Ytodihepgfpbonaa.Tb.I
