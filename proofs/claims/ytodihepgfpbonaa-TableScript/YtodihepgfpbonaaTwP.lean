/- The statement's helper walk, over an iterator of a table of the type turnkeylaw19.Pair. -/
import Derived.Test.YtodihepgfpbonaaTtP
import Derived.Test.YtodihepgfpbonaaTwg
import Derived.Test.YtodihepgfpbonaaTwr
namespace Go.Proofs.Ytodihepgfpbonaa.Tb.P
open Go.ChangeShapes Go.WideShapes Go.ChangeAt Go.RowKit Go.Shelf
attribute [local go_sem] Oper.semAt_some
theorem eqlFunc0 (d : Nat) (fn : Fn) (a b : Array Value) (w : World) : (Op.equalIn (d + 1) 88 (.func fn a b) .nilFunc).run Try.prog w = .ok false w := by
  simp [Op.equalIn, run_underlying Try.underlying88]
theorem eqlFunc (fn : Fn) (a b : Array Value) (w : World) : (binOp .eql 88 (.func fn a b) .nilFunc).run Try.prog w = .ok (.bool false) w := by
  simp only [binOp]
  simp [Op.equal, Op.maxDepth, eqlFunc0 9999 fn a b w]
theorem equalP (a b c d : Int) (w : World) : (Op.equalIn 10000 31 (.agg #[.int .i64 a, .int .i64 b]) (.agg #[.int .i64 c, .int .i64 d])).run Try.prog w = .ok (decide (a = c ∧ b = d)) w := by
  have u3 := Try.underlying3
  have hS : Try.prog.underlying 31 = some (.struct (Try.prog.fieldsOf 31)) := by kernel_rfl
  rw [show (10000 : Nat) = 9999 + 1 from rfl, run_equalIn_agg w 9999 31 _ _ hS (by kernel_rfl)]
  simp only [Program.fieldsOf, Try.underlying31]
  go_simp
  by_cases h1 : a = c <;> by_cases h2 : b = d <;> simp [h1, h2]
/-- Two pairs are the same. -/
def eq2 (a b c d : Int) : Bool := decide (a = c ∧ b = d)
theorem eq2_self (a b : Int) : eq2 a b a b = true := decide_eq_true ⟨rfl, rfl⟩
theorem eq2_false {a b c d : Int} (h : ¬ (a = c ∧ b = d)) : eq2 a b c d = false := decide_eq_false h
@[go_sem high] theorem sameP (a b c d : Int) (w : World) : (Op.equalIn 10000 31 (.agg #[.int .i64 a, .int .i64 b]) (.agg #[.int .i64 c, .int .i64 d])).run Try.prog w = .ok (eq2 a b c d) w := equalP a b c d w
theorem results_walk {tmps : Array Value} {W : World} {g : Nat} {bv : Bool} (hp : tmps.getD 8 undef = .pointer (some ⟨g, 0, none⟩)) (hc : Cel W g (.bool bv) 4) : (results Try.f45 tmps).run Try.prog W = .ok (.bool bv) W := by
  have hc1 := hc.cell
  have u4 := Try.underlying4
  have hp' : tmps[8]?.getD undef = .pointer (some ⟨g, 0, none⟩) := by simpa using hp
  simp [results, hp', asAddr]
  go_simp
abbrev lt' : TypeId := 90
/-- What the two lists have. -/
structure LV (w : World) (ha va : Option Addr) (hn vn : Nat) (L : List (Nat × V)) : Prop where
  hl : hn = L.length
  vl : vn = L.length
  hs : ∀ w', Below w.heap.size w w' → ∀ i x, L[i]? = some x → ∃ b off, ha = some ⟨b, off, none⟩ ∧ w'.cell? ⟨b, off + i, none⟩ = some (.int .i64 x.1)
  vs : ∀ w', Below w.heap.size w w' → ∀ i x, L[i]? = some x → ∃ b off, va = some ⟨b, off, none⟩ ∧ w'.rangeAt b (off + i * 2) (vc x.2)
theorem SW.lt {W : World} {ps : Ps} {hd : Nat → Option V} (h : SW W ps hd) (j g : Nat) (e : ps j = some g) : g < W.heap.size := by
  cases e2 : hd j with
  | none => rw [(h j).2 e2] at e; cases e
  | some v =>
    obtain ⟨g', h1, h2⟩ := (h j).1 v e2
    rw [h1] at e; cases e
    exact h2.lt
set_option maxRecDepth 100000 in
set_option maxHeartbeats 9000000 in
theorem walk_w (Bs : Nat) (ps : Ps) (hd : Nat → Option V) (ha va : Option Addr) (hn hc vn vc' : Nat) (most : Int) (w : World) (hBs : Blk w Bs (pl ps) at') (hR : SW w ps hd) (hL : LV w ha va hn vn (prs hd 64)) :
    Calls Try.prog 45 #[.func (.func 60) #[] #[.pointer (some ⟨Bs, 0, none⟩)], .slice ha hn hc, .slice va vn vc', .int .i64 most] w fun e w' => e = .returned (.bool true) ∧ Below w.heap.size w w' := by
  have hlen := prs_len hd 64
  obtain ⟨L, hLe⟩ : ∃ L, prs hd 64 = L := ⟨_, rfl⟩
  rw [hLe] at hL hlen
  have HL := hid hL
  have HLE := hid hLe
  clear hLe
  have HW0 := hid (WI.start w (.slice ha hn hc) (.slice va vn vc') lt' most)
  have hbl := hBs.lt
  have HSW := hid hR
  have HBS := hid hBs
  clear hL hR hBs
  refine (callsIn_wide (n := 7)).1 ?_
  refine callsIn_of_wp_marks Try.func45 rfl trivial ?_ rfl
  simp only [Try.ntmps45, List.size_toArray, List.length_cons, List.length_nil, Nat.reduceAdd, Nat.reduceSub, Array.replicate_succ, Array.replicate_zero, List.push_toArray, List.append_toArray, List.nil_append, List.cons_append]
  have hnil := eqlFunc
  gi_wp2_with fail
  clear hnil
  obtain ⟨W5, hW5⟩ : ∃ W, (((((w.alloc (.cells #[.slice ha hn hc] 72)).alloc (.cells #[.slice va vn vc'] lt')).alloc (.cells #[.int .i64 most] 3)).alloc (.cells #[.bool false] 4)).alloc (.cells #[.int .i64 0] 3)) = W := ⟨_, rfl⟩
  have hz5 : W5.heap.size = w.heap.size + 5 := by rw [← hW5]; simp
  rw [hW5] at HW0 ⊢
  have HZ5 := hid hz5
  clear hW5 hz5
  have hst := all_stops Fence.wide 6 trivial rfl (by omega) Bs (fun q => q = w.heap.size + 1 + 1 + 1 ∨ q = w.heap.size + 1 + 1 + 1 + 1) ps hd W5 (HBS.out.below HW0.out.bel) (HSW.out.below HW0.out.bel) (by rintro (e | e) <;> omega) (by rintro j g hg (e | e) <;> (have := HSW.out.lt j g hg; omega))
  rw [HLE.out] at hst
  refine wpIn_rangeFunc_ownH (α := Nat × V) (hro := rfl) (h1 := by omega) (gf := 60) (lb := #[.pointer (some ⟨Bs, 0, none⟩)]) rfl trivial (enters_of Try.func60 (by kernel_rfl) rfl)
    hst (fun h k => h.trans k) (fun W l o o' hl ho hc _ => KC.putObj ho hc) (Below.refl _ _) (fun _ => rfl)
    (fun pre W => pre <+: L ∧ WI w (.slice ha hn hc) (.slice va vn vc') lt' most false pre.length W)
    (fun c pre W => c = .ret ∧ (pre <+: L → ∃ n, WI w (.slice ha hn hc) (.slice va vn vc') lt' most true n W)) ?hI ?hIx ⟨List.nil_prefix, HW0.out⟩
    (fun x a' W => ∃ Bx, W5.heap.size ≤ Bx ∧ Blk W Bx (vc x.2) vt ∧ a' = { tmps := #[.func (.func 60) #[] #[.pointer (some ⟨Bs, 0, none⟩)], .slice ha hn hc, .slice va vn vc', .int .i64 most, undef, .pointer (some ⟨w.heap.size, 0, none⟩), .pointer (some ⟨w.heap.size + 1, 0, none⟩), .pointer (some ⟨w.heap.size + 1 + 1, 0, none⟩), .pointer (some ⟨w.heap.size + 1 + 1 + 1, 0, none⟩), .pointer (some ⟨w.heap.size + 1 + 1 + 1 + 1, 0, none⟩), .int .i64 x.1, .pointer (some ⟨Bx, 0, none⟩), .func (.func 60) #[] #[.pointer (some ⟨Bs, 0, none⟩)], .bool false, .func (.func 60) #[] #[.pointer (some ⟨Bs, 0, none⟩)], .int .i64 x.1, vv x.2, undef, undef, undef, undef, undef, undef, undef, undef, undef, undef, undef, undef, undef, undef, undef, undef, undef, undef, undef, undef, undef, undef, undef, undef, undef, undef, undef, undef, undef], defers := [] }) ?hAx ?assign ?body ?done ?stop
  case hI =>
    rintro pre A B row ⟨hp, g⟩ hg hr
    exact ⟨hp, g.own hg (fun r e => ⟨by have := (hr r e).1; have := HZ5.out; omega, (hr r e).2⟩)⟩
  case hIx =>
    rintro c pre A B row ⟨rfl, h⟩ hg hr
    exact ⟨rfl, fun hp => by obtain ⟨n, g⟩ := h hp; exact ⟨n, g.own hg (fun r e => ⟨by have := (hr r e).1; have := HZ5.out; omega, (hr r e).2⟩)⟩⟩
  case hAx =>
    rintro x a' _ A B row ⟨Bx, h1, h2, rfl⟩ hg hr
    exact ⟨Bx, h1, h2.kc (kc_own hg (fun q e => (hr q e).2)) id, rfl⟩
  case assign =>
    rintro l pre x W K ⟨hp, g⟩ hK
    obtain ⟨W2, hW2⟩ : ∃ V, W.alloc (.cells #[.int .i64 0, .int .i64 0] 31) = V := ⟨_, rfl⟩
    have hb2 : Blk W2 W.heap.size (vc vz) vt := by rw [← hW2]; exact Blk.new _ _ _
    obtain ⟨W3, s1, hb3, hk3⟩ := SVv_run (x := x.2) hb2
    have h1 : Below W.heap.size W W2 := by rw [← hW2]; exact below_alloc _ _
    have hbel : Below W.heap.size W W3 := h1.trans (hk3.below h1.size (fun k hk e => by omega))
    have hsz := g.c4.lt
    have R1 := hid (g.below hbel)
    have R2 := hid hbel
    have R3 := hid hb3
    have HK := hid hK
    have HP := hid hp
    clear hb2 hk3 h1 hbel g hb3 hK hp
    gi_wp2
    exact HK.out _ _ (kf_below _ R2.out) ((kc_below R2.out).mono (fun _ e => e.elim)) ⟨HP.out, R1.out⟩ ⟨W.heap.size, by have := HZ5.out; omega, R3.out, rfl⟩
  case body =>
    rintro l pre x a' W hl ⟨rr, hrr⟩ ⟨hp, g⟩ ⟨Bx, hBx, hbx, rfl⟩ hlt
    obtain ⟨y, hy⟩ : ∃ y, (L)[pre.length]? = some y := ⟨_, List.getElem?_eq_getElem hlt⟩
    have HN := hid (pre_next (x := x) hp hy)
    have G := hid g
    obtain ⟨p, hpe⟩ : ∃ p, pre.length = p := ⟨_, rfl⟩
    have HPE := hid hpe
    obtain ⟨b1, o1, rfl, ch⟩ := HL.out.hs W g.bel pre.length y hy
    obtain ⟨b2, o2, rfl, cv⟩ := HL.out.vs W g.bel pre.length y hy
    have n1 := g.c4.cell
    have n2 := g.c4.frozen
    have r1 := g.c3.cell
    have r2 := g.c3.frozen
    have m1 := g.c2.cell
    have h1 := g.c0.cell
    have v1 := g.c1.cell
    rw [hpe] at n1 hlt ch cv
    have e1 := HL.out.hl
    have e2 := HL.out.vl
    have p0 : (0 : Int) ≤ p := by omega
    have p1 : (p : Int) < hn := by omega
    have p2 : (p : Int) < vn := by omega
    have p3 : ¬ (hn : Int) ≤ p := by omega
    have p4 : decide (hn ≤ p) = false := by simp; omega
    have hwn : IntKind.i64.wrap ((p : Int) + 1) = (p : Int) + 1 := by rw [IntKind.wrap_i64]; omega
    have hz := g.c4.lt
    have lx := fun d => LDv_run (hbx.drewN d)
    have ly := fun d => LDv_at (show (W.drewN d).rangeAt b2 (o2 + p * 2) (vc y.2) from cv)
    clear hbx hBx
    clear g hpe hlt hp hy hrr e1 e2 hlen
    have KS : Hid (∀ d, KeepsFrom W5.heap.size W ((W.drewN d).setCell ⟨w.heap.size + 1 + 1 + 1, 0, none⟩ (.bool false))) := fun d => (kf_below _ (below_drewN W d)).trans ((KeepsOthers.setCell _ _ _).from _)
    have KN : Hid (∀ d, KeepsFrom W5.heap.size W ((W.drewN d).setCell ⟨w.heap.size + 1 + 1 + 1 + 1, 0, none⟩ (.int .i64 ((p : Int) + 1)))) := fun d => (kf_below _ (below_drewN W d)).trans ((KeepsOthers.setCell _ _ _).from _)
    have KT : Hid (∀ d, KeepsFrom W5.heap.size W (((W.drewN d).setCell ⟨w.heap.size + 1 + 1 + 1 + 1, 0, none⟩ (.int .i64 ((p : Int) + 1))).setCell ⟨w.heap.size + 1 + 1 + 1, 0, none⟩ (.bool true))) := fun d => (KN.out d).trans ((KeepsOthers.setCell _ _ _).from _)
    have KC1 : Hid (∀ d, KC (fun q => q = w.heap.size + 1 + 1 + 1 ∨ q = w.heap.size + 1 + 1 + 1 + 1) W ((W.drewN d).setCell ⟨w.heap.size + 1 + 1 + 1 + 1, 0, none⟩ (.int .i64 ((p : Int) + 1)))) := fun d => ((kc_below (below_drewN W d)).mono (fun _ e => e.elim)).trans (KC.of_kp (Kp.setCell _ 0 _) (fun q _ e => .inr e))
    have WN : Hid (∀ d, WI w (.slice (some ⟨b1, o1, none⟩) hn hc) (.slice (some ⟨b2, o2, none⟩) vn vc') lt' most false (p + 1) ((W.drewN d).setCell ⟨w.heap.size + 1 + 1 + 1 + 1, 0, none⟩ (.int .i64 ((p : Int) + 1)))) := fun d => (G.out.below (below_drewN W d)).put (p + 1)
    have WT : Hid (∀ d, WI w (.slice (some ⟨b1, o1, none⟩) hn hc) (.slice (some ⟨b2, o2, none⟩) vn vc') lt' most true (p + 1) (((W.drewN d).setCell ⟨w.heap.size + 1 + 1 + 1 + 1, 0, none⟩ (.int .i64 ((p : Int) + 1))).setCell ⟨w.heap.size + 1 + 1 + 1, 0, none⟩ (.bool true))) := fun d => (WN.out d).res true
    by_cases he : x = y
    · subst he
      have HN2 := hid (HN.out.2 rfl)
      clear HN
      have hs2 := eq2_self x.2.1 x.2.2
      by_cases hm : (p : Int) + 1 = most
      · subst hm
        gi_wp2_with fail
        refine region_quiet_in (by kernel_rfl) (by kernel_rfl) (by kernel_rfl) (fun ⟨_, _, h⟩ => h) ?_
        repeat (go_big_quiet_step (fail))
        refine wpQuiet_nil ?_
        intro _ hw'
        obtain ⟨nq, hw''⟩ := hw'
        subst hw''
        gi_wp2
        exact ⟨KT.out _, rfl, fun _ => ⟨_, WT.out _⟩⟩
      · have hm2 : ((p : Int) + 1 == most) = false := by simpa using hm
        clear hm
        gi_wp2_with fail
        refine region_quiet_in (by kernel_rfl) (by kernel_rfl) (by kernel_rfl) (fun ⟨_, _, h⟩ => h) ?_
        repeat (go_big_quiet_step (fail))
        refine wpQuiet_nil ?_
        intro _ hw'
        obtain ⟨nq, hw''⟩ := hw'
        subst hw''
        gi_wp2
        refine ⟨KN.out _, KC1.out _, HN2.out, ?_⟩
        rw [List.length_append, List.length_singleton, HPE.out]
        exact WN.out _
    · have HE := hid he
      by_cases hf : x.1 = y.1
      · have hs : ¬ x.2 = y.2 := fun e => he (Prod.ext hf e)
        rw [← hf] at ch
        have hs2 := eq2_false (a := x.2.1) (b := x.2.2) (c := y.2.1) (d := y.2.2) (fun h => hs (Prod.ext h.1 h.2))
        clear he hs
        gi_wp2_with fail
        refine region_quiet_in (by kernel_rfl) (by kernel_rfl) (by kernel_rfl) (fun ⟨_, _, h⟩ => h) ?_
        repeat (go_big_quiet_step (fail))
        refine wpQuiet_nil ?_
        intro _ hw'
        obtain ⟨nq, hw''⟩ := hw'
        subst hw''
        gi_wp2
        exact ⟨KS.out _, rfl, fun h => absurd (HN.out.1 h) HE.out⟩
      · have hs : ((x.1 : Int) != (y.1 : Int)) = true := by simp; omega
        clear he hf
        gi_wp2_with fail
        refine region_quiet_in (by kernel_rfl) (by kernel_rfl) (by kernel_rfl) (fun ⟨_, _, h⟩ => h) ?_
        repeat (go_big_quiet_step (fail))
        refine wpQuiet_nil ?_
        intro _ hw'
        obtain ⟨nq, hw''⟩ := hw'
        subst hw''
        gi_wp2
        exact ⟨KS.out _, rfl, fun h => absurd (HN.out.1 h) HE.out⟩
  case done =>
    rintro D ys W hD hys ⟨hpp, g⟩ hK
    subst hys
    have G := hid g
    have HK := hid hK
    have n1 := g.c4.cell
    have h1 := g.c0.cell
    have r1 := g.c3.cell
    have r2 := g.c3.frozen
    rw [← HL.out.hl] at n1
    have HDD := hid hD
    clear g hK hD hpp
    rename_i KK cont
    show KK _ _
    refine cont _ _ ?_
    clear cont
    dsimp only
    gi_wp2
    have c6 := G.out.res true
    have hne : D ≠ w.heap.size + 1 + 1 + 1 := fun e => by
      have h1 : W.heap[w.heap.size + 1 + 1 + 1]? = _ := G.out.c3
      rw [← e, HK.out] at h1
      simp at h1
    have k1 : (W.setCell ⟨w.heap.size + 1 + 1 + 1, 0, none⟩ (.bool true)).heap[D]? = some (.deferred (some [])) := (Below.heap_setCell W ⟨w.heap.size + 1 + 1 + 1, 0, none⟩ (.bool true) D hne).trans HK.out
    generalize (W.setCell ⟨w.heap.size + 1 + 1 + 1, 0, none⟩ (.bool true)) = W6 at k1 c6 ⊢
    have k4 : KC (fun _ => False) W6 (W6.putObj D (.deferred none)) := KC.putObj k1 rfl
    refine ⟨by simp, .inl ⟨_, _, rfl, run_takeDeferred k1, ?_⟩⟩
    refine ⟨_, results_walk rfl (c6.c3.kc k4 id), rfl, ?_⟩
    exact c6.bel.trans (belowK_b (w := w) (Nat.le_refl _) _ D _ _ (by have := HDD.out; have := HZ5.out; omega) k1 rfl rfl)
  case stop =>
    rintro D c pre W hD hsp ⟨rfl, h⟩ k1
    obtain ⟨n, c6⟩ := h hsp
    have hDz : w.heap.size ≤ D := by have := HZ5.out; omega
    refine wpIn_ret ?_
    have k4 : KC (fun _ => False) W (W.putObj D (.deferred none)) := KC.putObj k1 rfl
    refine ⟨by simp, .inl ⟨_, _, rfl, run_takeDeferred k1, ?_⟩⟩
    refine ⟨_, results_walk rfl (c6.c3.kc k4 id), rfl, ?_⟩
    exact c6.bel.trans (belowK_b (w := w) (Nat.le_refl _) _ D _ _ hDz k1 rfl rfl)
end Go.Proofs.Ytodihepgfpbonaa.Tb.P
