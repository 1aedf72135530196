/- The statement's helper 'walk' answers true: the program's All goes over the document's events, and may be stopped, and does not mind a note meanwhile. -/
import Derived.Test.YtadcindaafjckaaLduo
namespace Go.Proofs.Ytadcindaafjckaa
open Go.ChangeShapes Go.WideShapes Go.ChangeAt Go.RowKit Go.Shelf
attribute [local go_sem] Oper.semAt_some
theorem eqlFunc0 (d : Nat) (fn : Fn) (a b : Array Value) (w : World) : (Op.equalIn (d + 1) 61 (.func fn a b) .nilFunc).run Try.prog w = .ok false w := by
  simp [Op.equalIn, run_underlying Try.underlying61]
theorem eqlFunc (fn : Fn) (a b : Array Value) (w : World) : (binOp .eql 61 (.func fn a b) .nilFunc).run Try.prog w = .ok (.bool false) w := by
  simp only [binOp]
  simp [Op.equal, Op.maxDepth, eqlFunc0 9999 fn a b w]
/-- At most 60. -/
def m60 (x : Int) : Int := if 60 < x then 60 else x
@[go_sem high] theorem run_m60 {P : Program} {w : World} (ts : Array TypeId) (t : TypeId) (k k' : IntKind) (x : Int) : (Builtin.min_ ts t #[.int k x, .int k' 60]).run P w = .ok (.int k (m60 x)) w := run_min_int2 w ts t k k' x 60
theorem results_walk {tmps : Array Value} {W : World} {g : Nat} {bv : Bool} (hp : tmps.getD 6 undef = .pointer (some ⟨g, 0, none⟩)) (hc : Cel W g (.bool bv) 4) : (results Try.f25 tmps).run Try.prog W = .ok (.bool bv) W := by
  have hc1 := hc.cell
  have u4 := Try.underlying4
  have hp' : tmps[6]?.getD undef = .pointer (some ⟨g, 0, none⟩) := by simpa using hp
  simp [results, hp', asAddr]
  go_simp
theorem kc_putObj {A : World} {l : Nat} {o o' : Obj} (hl : A.heap[l]? = some o) (ho : o.isCells = false) : KC (fun _ => False) A (A.putObj l o') := KC.putObj hl ho
set_option maxRecDepth 100000 in
set_option maxHeartbeats 9000000 in
theorem walk25 (b rb : Nat) (rv rrv : Value) (L : List Rn) (stop : Int) (w : World) (hduo : Duo w b rb rv rrv L) (hn : (L.length + 1) * 24 ≤ 140737488355328) (hs : 0 ≤ stop ∧ stop < 50) (hm : tot L + 1 ≤ 9223372036854775807) :
    Calls Try.prog 25 #[.pointer (some ⟨b, 0, none⟩), .pointer (some ⟨rb, 0, none⟩), .int .i64 stop] w fun e w' => e = .returned (.bool true) ∧ ∃ rv' rrv', Duo w' b rb rv' rrv' (putL L ⟨77, stop, 1⟩) ∧ Kp (DS b rb rv rrv) w w' ∧ SameOrNew w rv rv' ∧ SameOrNew w rrv rrv' := by
  have HDU := hid hduo
  have h := hduo.led
  have hr := hduo.ref
  have HOK : Hid ((⟨77, stop, 1⟩ : Rn).Ok) := ⟨⟨by simp, by simp⟩, ⟨by show _ ≤ stop; omega, by show stop ≤ _; omega⟩, ⟨by simp, by simp⟩⟩
  have HNN := hid hn
  have HMM := hid hm
  clear hduo
  have H := hid h
  have HR := hid hr
  have hN : Hid (L.length * 24 ≤ 140737488355328) := by show _ ≤ _; omega
  have hN2 : Hid (L.length < 1000000000000000000) := by show _ < _; omega
  clear h hr
  refine (callsIn_wide (n := 7)).1 ?_
  refine callsIn_of_wp_marks Try.func25 rfl trivial ?_ rfl
  simp only [Try.ntmps25, List.size_toArray, List.length_cons, List.length_nil, Nat.reduceAdd, Nat.reduceSub, Array.replicate_succ, Array.replicate_zero, List.push_toArray, List.append_toArray, List.nil_append, List.cons_append]
  have B0 : Hid (Below w.heap.size w ((w.alloc (.cells #[.int .i64 stop] 3)).alloc (.cells #[.bool false] 4))) := below_next (below_alloc w _) (below_alloc _ _)
  gi_wp2_with fail
  refine ⟨trivial, (callsIn_wide.2 (refRuns20 rb rrv L _ (HR.out.below B0.out) hN.out)).mono ?_⟩
  rintro e w1 ⟨v1, rfl, ho1, hb1⟩
  obtain ⟨va, vn, vc, rfl⟩ := ho1.isSlice
  have B1 := hid (below_next B0.out hb1)
  have O1 := hid ho1
  have CA1 : Hid (Cel w1 w.heap.size (.int .i64 stop) 3) := ((Cel.new w (.int .i64 stop) 3).alloc _).below hb1
  have CR1 : Hid (Cel w1 (w.heap.size + 1) (.bool false) 4) := (by simpa using Cel.new (w.alloc (.cells #[.int .i64 stop] 3)) (.bool false) 4 : Cel ((w.alloc (.cells #[.int .i64 stop] 3)).alloc (.cells #[.bool false] 4)) (w.heap.size + 1) (.bool false) 4).below hb1
  have hz1 : w.heap.size + 2 ≤ w1.heap.size := by have := hb1.size; simp at this; omega
  clear hb1 ho1
  have B2 := hid (below_next B1.out (below_alloc w1 (.cells #[.slice va vn vc] 32)))
  gi_wp2_with fail
  refine ⟨trivial, (callsIn_wide.2 (refLen rb rrv L _ (HR.out.below B2.out) hN2.out)).mono ?_⟩
  rintro e w2 ⟨rfl, rfl⟩
  gi_wp2_with fail
  refine ⟨trivial, (callsIn_wide.2 (all19 b rv L _ (H.out.below B2.out) hN.out)).mono ?_⟩
  rintro e w3 ⟨Bs, sv, rfl, hbs, hsv, hbz, hb⟩
  have B3 := hid (below_next B2.out hb)
  have hz3 : w1.heap.size + 1 ≤ w3.heap.size := by have := hb.size; simp at this; omega
  have hBl : Bs < w3.heap.size := block_lt_of_cell hbs
  have hBz : w1.heap.size + 1 ≤ Bs := by simpa using hbz
  have hsvb : Hid (∀ q, sv.ownBlock = some q → w1.heap.size + 1 ≤ q ∧ q < w3.heap.size) := fun q hq => by have := hsv.lt q hq; simpa using this
  have hv1b : Hid (∀ q, (Value.slice va vn vc).ownBlock = some q → w.heap.size + 2 ≤ q ∧ q < w1.heap.size) := fun q hq => by have := O1.out.lt q hq; simpa using this
  have hWD : Hid (WD w.heap.size w3.heap.size (w.heap.size + 1) w.heap.size w1.heap.size Bs (.slice va vn vc) sv) := by
    refine ⟨by omega, ?_⟩
    rintro q (rfl | rfl)
    · exact ⟨by omega, by omega, by omega, fun e => by have := hv1b.out _ e; omega, fun e => by have := hsvb.out _ e; omega, by omega⟩
    · exact ⟨by omega, by omega, by omega, fun e => by have := hv1b.out _ e; omega, fun e => by have := hsvb.out _ e; omega, by omega⟩
  have hWL : Hid (WL w.heap.size w3.heap.size (w.heap.size + 1) w.heap.size w1.heap.size Bs (.slice va vn vc) sv) := ⟨⟨by omega, by omega, by omega, by omega, by omega⟩, fun q hq => by have := hv1b.out _ hq; omega, fun q hq => by have := hsvb.out _ hq; omega⟩
  have hW0 : Hid (WI w w.heap.size w3.heap.size (w.heap.size + 1) w.heap.size w1.heap.size Bs (.slice va vn vc) sv L stop 0 (w3.alloc (.cells #[.int .i64 0] 3))) := by
    refine ⟨Cel.new w3 (.int .i64 0) 3, (((CR1.out.alloc _).below hb)).alloc _, ((CA1.out.alloc _).below hb).alloc _, ((Cel.new w1 (.slice va vn vc) 32).below hb).alloc _, ?_, ((O1.out.reads.below (below_alloc w1 _)).below hb).below (below_alloc w3 _), hsv.reads.below (below_alloc w3 _), below_next B3.out (below_alloc w3 _), Nat.le_refl _⟩
    rw [(below_alloc w3 (.cells #[.int .i64 0] 3)).cell (p := ⟨Bs, 0, none⟩) hBl]
    exact hbs
  clear hb hbs hsv hbz B0
  have hnil := eqlFunc
  have hlt0 : w.heap.size < w3.heap.size := by omega
  have hev := hid (evs_length H.out.pos)
  have hmost := H.out.most
  gi_wp2_with fail
  refine range_cut 0 (fun D W => w.heap.size < D ∧ (∃ p, WI w w.heap.size w3.heap.size (w.heap.size + 1) w.heap.size w1.heap.size Bs (.slice va vn vc) sv L stop p W) ∧ W.heap[D]? = some (.deferred (some []))) ?range ?rest
  case range =>
    refine wpIn_rangeFunc_ownH (α := Int × Int) (hro := rfl) (h1 := by omega) (gf := 36) (lb := #[.pointer (some ⟨Bs, 0, none⟩)]) rfl trivial (enters_of Try.func36 (by kernel_rfl) rfl)
      (all_stops Fence.wide _ trivial rfl (by omega) Bs (fun q => q = w3.heap.size ∨ q = w.heap.size + 1) sv L H.out.pos hN2.out (w3.alloc (.cells #[.int .i64 0] 3)) hW0.out.cb hW0.out.rs ?q3 ?q4) (fun h k => h.trans k) (fun W l o o' hl ho hc _ => KC.putObj ho hc) (Below.refl _ _) (fun _ => rfl)
      (fun pre W => pre <+: evs L ∧ WI w w.heap.size w3.heap.size (w.heap.size + 1) w.heap.size w1.heap.size Bs (.slice va vn vc) sv L stop pre.length W)
      (fun c pre W => (c = .exit 0 ∧ ∃ p, WI w w.heap.size w3.heap.size (w.heap.size + 1) w.heap.size w1.heap.size Bs (.slice va vn vc) sv L stop p W) ∨ (c = .ret ∧ ¬ pre <+: evs L)) ?hI ?hIx ⟨List.nil_prefix, hW0.out⟩
      (fun x a' W => ∃ Bx, w3.heap.size + 1 ≤ Bx ∧ Box W Bx x.1 x.2 ∧ a' = { tmps := #[.pointer (some ⟨b, 0, none⟩), .pointer (some ⟨rb, 0, none⟩), .int .i64 stop, undef, undef, .pointer (some ⟨w.heap.size, 0, none⟩), .pointer (some ⟨w.heap.size + 1, 0, none⟩), .pointer (some ⟨w1.heap.size, 0, none⟩), .int .i64 (m60 (tot L)), .func (.func 36) #[] #[.pointer (some ⟨Bs, 0, none⟩)], .pointer (some ⟨w3.heap.size, 0, none⟩), .pointer (some ⟨Bx, 0, none⟩), undef, undef, undef, undef, undef, undef, .pointer (some ⟨rb, 0, none⟩), .slice va vn vc, .pointer (some ⟨rb, 0, none⟩), .int .i64 (tot L), .int .i64 (m60 (tot L)), .pointer (some ⟨b, 0, none⟩), .func (.func 36) #[] #[.pointer (some ⟨Bs, 0, none⟩)], .func (.func 36) #[] #[.pointer (some ⟨Bs, 0, none⟩)], .bool false, .func (.func 36) #[] #[.pointer (some ⟨Bs, 0, none⟩)], .agg #[.int .u8 x.1, .int .i64 x.2], undef, undef, undef, undef, undef, undef, undef, undef, undef, undef, undef, undef, undef, undef, undef, undef, undef, undef, undef, undef, undef, undef, undef, undef, undef, undef, undef, undef, undef, undef, undef, undef, undef, undef, undef, undef, undef, undef, undef, undef, undef, undef, undef, undef, undef, undef, undef, undef], defers := [] }) ?hAx ?assign ?body ?done ?stop
    case q3 => rintro q (rfl | rfl) <;> simp <;> omega
    case q4 => rintro q hq (rfl | rfl) <;> (have := hsvb.out _ hq; omega)
    case hI =>
      rintro pre A B row ⟨hp, g⟩ hg hr
      exact ⟨hp, g.own hg (fun r e => ⟨by have := (hr r e).1; simp at this; omega, (hr r e).2⟩)⟩
    case hIx =>
      rintro c pre A B row (⟨rfl, p, g⟩ | h) hg hr
      · exact .inl ⟨rfl, p, g.own hg (fun r e => ⟨by have := (hr r e).1; simp at this; omega, (hr r e).2⟩)⟩
      · exact .inr h
    case hAx =>
      rintro x a' _ A B row ⟨Bx, h1, h2, rfl⟩ hg hr
      exact ⟨Bx, h1, h2.kc (kc_own hg (fun q e => (hr q e).2)) id, rfl⟩
    case assign =>
      rintro l pre x W K ⟨hp, g⟩ hK
      have hsz := g.cn.lt
      gi_wp2
      exact hK _ _ ((KeepsOthers.alloc _ _).from _) (KC.alloc _ _ _) ⟨hp, g.below (below_alloc _ _)⟩ ⟨W.heap.size, by omega, heap_alloc_new _ _, rfl⟩
    case body =>
      rintro l pre x a' W hl ⟨rr, hrr⟩ ⟨hp, g⟩ ⟨Bx, hBx, hbx, rfl⟩ hlt
      obtain ⟨y, hy⟩ : ∃ y, (evs L)[pre.length]? = some y := ⟨_, List.getElem?_eq_getElem hlt⟩
      have HN := hid (pre_next (x := x) hp hy)
      have G := hid g
      have HX := hid hbx
      have HY := hid hy
      have HP := hid hp
      obtain ⟨p, hpe⟩ : ∃ p, pre.length = p := ⟨_, rfl⟩
      have HPE := hid hpe
      have n1 := g.cn.cell
      have n2 := g.cn.frozen
      have r1 := g.cr.cell
      have r2 := g.cr.frozen
      have s1 := g.ca.cell
      have u1 := g.cw.cell
      rw [hpe] at n1 hlt
      have hpl : (p : Int) < 9223372036854775807 := by have := hev.out; omega
      have hwn : IntKind.i64.wrap ((p : Int) + 1) = (p : Int) + 1 := by rw [IntKind.wrap_i64]; omega
      clear g hbx hpe hlt hp hy
      by_cases h5 : (p : Int) = stop
      · subst h5
        gi_wp2
        exact ⟨KeepsFrom.refl _ _, .inl ⟨rfl, _, G.out⟩⟩
      · have HW := hid hwn
        have HB := hid hBx
        clear hwn hpl hmost hm hlt0 hnil hz3 hBl hBz hz1 hs hn HP hBx hrr
        gi_wp2_with fail
        refine ⟨trivial, (CallsIn.inRound l (callsIn_wide.2 (at35 _ L p y _ G.out.rw_ H.out.pos (by rw [← HPE.out]; exact HY.out) hN2.out H.out.most))).mono ?_⟩
        rintro e W2 ⟨rfl, hb2⟩
        have G2 := hid (G.out.below hb2)
        have B2' := hid hb2
        have X2 := HX.out.kc (kc_below hb2) id
        have hBx2 := X2.lt
        have x1 := X2.c0
        have x2 := X2.c1
        have n1 := (G.out.below hb2).cn.cell
        have n2 := (G.out.below hb2).cn.frozen
        have n3 := (G.out.below hb2).cn.lt
        have r1 := (G.out.below hb2).cr.cell
        have r2 := (G.out.below hb2).cr.frozen
        have r3 := (G.out.below hb2).cr.lt
        rw [HPE.out] at n1
        clear hb2 X2
        have hwn := HW.out
        by_cases he : x = y
        · have hd := eq2_true (congrArg Prod.fst he) (congrArg Prod.snd he)
          have HE := hid he
          clear he
          gi_wp2
          refine ⟨(kf_below _ B2'.out).trans (((KeepsOthers.setCell _ _ _).trans (KeepsOthers.alloc _ _)).from _), (((kc_below B2'.out).mono (fun _ e => e.elim)).trans (KC.of_kp (Kp.setCell _ 0 _) (fun q _ e => .inl e))).trans (KC.alloc _ _ _), HN.out.2 HE.out, ?_⟩
          have := (G2.out.put hWD.out (p + 1)).below (below_alloc _ (.cells #[.int .u8 y.1, .int .i64 y.2] 39))
          rw [List.length_append, List.length_singleton, HPE.out]
          exact this
        · have hd := eq2_false (a := x.1) (b := x.2) (c := y.1) (d := y.2) (fun h => he (Prod.ext h.1 h.2))
          have HE := hid he
          clear he
          gi_wp2
          exact ⟨(kf_below _ B2'.out).trans (((KeepsOthers.setCell _ _ _).trans (KeepsOthers.alloc _ _)).from _), .inr ⟨rfl, fun h => HE.out (HN.out.1 h)⟩⟩
    case done =>
      rintro D ys W hD _ ⟨_, g⟩ hK
      exact ⟨.inl rfl, D, ⟨by simp at hD; omega, ⟨_, g⟩, hK⟩, rfl⟩
    case stop =>
      rintro D c pre W hD hsp (⟨rfl, p, g⟩ | ⟨_, h⟩) hK
      · refine wpIn_exit ?_
        exact ⟨.inr rfl, D, ⟨by simp at hD; omega, ⟨_, g⟩, hK⟩, rfl⟩
      · exact absurd hsp h
  case rest =>
    rintro D W ⟨hD, ⟨p, g⟩, hK⟩
    have U0 := hid (HDU.out.below g.bel)
    have s1 := g.ca.cell
    have hbw := g.bel.size
    have hD2 : D < W.heap.size := (Array.getElem?_eq_some_iff.1 hK).1
    have hA3 : w.heap.size < W.heap.size := g.ca.lt
    have G := hid g
    have HKD := hid hK
    have HDD := hid hD
    have Hz1 := hid hz1
    clear hm hn hmost hz3 hBl hBz hz1 hlt0 g hK hD
    rename_i K1 cont
    refine cont _ _ ?_
    clear cont
    dsimp only
    gi_wp2_with fail
    have U1 := hid (U0.out.below (below_alloc W (.cells #[.int .u8 77, .int .i64 stop] 39)))
    refine ⟨trivial, (callsIn_wide.2 (note16 b rv L 77 stop _ U1.out.led HOK.out HMM.out HNN.out)).mono ?_⟩
    rintro e w4 ⟨rfl, rv4, hl4, hk4, hs4⟩
    have F4 := U1.out.first hl4 hk4 hs4
    have hS1 : Hid (∀ q, DS b rb rv rrv q → q < w.heap.size) := HDU.out.lt
    have E4 : Hid (Box w4 W.heap.size 77 stop) := Box.kept (w := W.alloc (.cells #[.int .u8 77, .int .i64 stop] 39)) (heap_alloc_new W _) hk4 (by rintro (e | e); have := hS1.out _ (.inl e); omega; have := hS1.out _ (.inr (.inl e)); omega)
    have e0 := E4.out.c0
    have e1 := E4.out.c1
    have RF4 := hid F4.1
    have LD4 := hid hl4
    have K4 := hid hk4
    have S4 := hid hs4
    clear hl4 hk4 hs4 F4
    gi_wp2_with fail
    refine ⟨trivial, (callsIn_wide.2 (refNote42 rb rrv L 77 stop _ RF4.out HOK.out HMM.out HNN.out)).mono ?_⟩
    rintro e w5 ⟨rfl, rrv5, hl5, hk5, hs5⟩
    have DU5 := hid (U1.out.both LD4.out K4.out S4.out hl5 hk5 hs5)
    have G5 : Hid (WI w5 w.heap.size w3.heap.size (w.heap.size + 1) w.heap.size w1.heap.size Bs (.slice va vn vc) sv L stop p w5) := (G.out.below (below_alloc W _)).rebase hWL.out DU5.out.2.1 hS1.out
    have KD5 : Hid (w5.heap[D]? = some (.deferred (some []))) := by
      show _ = _
      rw [DU5.out.2.1.block D (by simp; omega) (fun e => by have := hS1.out _ e; have := HDD.out; omega), (below_alloc W _).block D hD2]
      exact HKD.out
    have KP5 : Hid (Kp (DS b rb rv rrv) w w5) := (Kp.of_below _ (below_next G.out.bel (below_alloc W _))).trans DU5.out.2.1 (fun _ _ e => e)
    have Hbw := hid hbw
    have hz5 : W.heap.size + 1 ≤ w5.heap.size := by have := DU5.out.2.1.size; simp at this; omega
    have G6 : Hid (WI w5 w.heap.size w3.heap.size (w.heap.size + 1) w.heap.size w1.heap.size Bs (.slice va vn vc) sv L stop 0 (w5.setCell ⟨w3.heap.size, 0, none⟩ (.int .i64 0))) := G5.out.put hWD.out 0
    have n1 := G5.out.cn.cell
    have n2 := G5.out.cn.frozen
    have n3 := G5.out.cn.lt
    have r3 := G5.out.cr.lt
    have hD5 : D < w5.heap.size := by omega
    have HE := hid (show w.heap.size < D from HDD.out)
    clear hl5 hk5 hs5 e0 e1 s1
    gi_wp2_with fail
    have U6 : Hid (Duo (w5.setCell ⟨w3.heap.size, 0, none⟩ (.int .i64 0)) b rb rv4 rrv5 (putL L ⟨77, stop, 1⟩)) := DU5.out.1.kept (Kp.setCell _ 0 _) (fun j hj e => by subst e; exact DU5.out.1.cel G5.out.cn (by decide) (by decide) hj)
    have hD6 : Hid ((w5.setCell ⟨w3.heap.size, 0, none⟩ (.int .i64 0)).heap.size = w5.heap.size) := by show _ = _; simp [World.setCell]
    have K6 : Hid ((w5.setCell ⟨w3.heap.size, 0, none⟩ (.int .i64 0)).heap[D]? = some (.deferred (some []))) := by
      refine (Below.heap_setCell _ _ _ D (fun e => ?_)).trans KD5.out
      have h1 : w5.heap[w3.heap.size]? = _ := G5.out.cn
      have e' : D = w3.heap.size := e
      rw [← e', KD5.out] at h1
      simp at h1
    refine range_cut 2 (fun D2 W => Duo W b rb rv4 rrv5 (putL L ⟨77, stop, 1⟩) ∧ D < D2 ∧ (∃ p : Nat, (p : Int) = m60 (tot L) ∧ WI w5 w.heap.size w3.heap.size (w.heap.size + 1) w.heap.size w1.heap.size Bs (.slice va vn vc) sv L stop p W) ∧ W.heap[D]? = some (.deferred (some [])) ∧ W.heap[D2]? = some (.deferred (some []))) ?range ?rest
    case range =>
      refine wpIn_rangeFunc_ownH (α := Int × Int) (hro := rfl) (h1 := by omega) (gf := 36) (lb := #[.pointer (some ⟨Bs, 0, none⟩)]) rfl trivial (enters_of Try.func36 (by kernel_rfl) rfl)
        (all_stops Fence.wide _ trivial rfl (by omega) Bs (fun q => q = w3.heap.size ∨ q = w.heap.size + 1) sv L H.out.pos hN2.out (w5.setCell ⟨w3.heap.size, 0, none⟩ (.int .i64 0)) G6.out.cb G6.out.rs ?q3 ?q4) (fun h k => h.trans k) (fun W l o o' hl ho hc _ => KC.putObj ho hc) (Below.refl _ _) (fun _ => rfl)
        (fun pre W => Duo W b rb rv4 rrv5 (putL L ⟨77, stop, 1⟩) ∧ pre <+: evs L ∧ pre.length < 60 ∧ WI w5 w.heap.size w3.heap.size (w.heap.size + 1) w.heap.size w1.heap.size Bs (.slice va vn vc) sv L stop pre.length W ∧ W.heap[D]? = some (.deferred (some [])))
        (fun c pre W => (c = .exit 2 ∧ Duo W b rb rv4 rrv5 (putL L ⟨77, stop, 1⟩) ∧ pre.length = 60 ∧ WI w5 w.heap.size w3.heap.size (w.heap.size + 1) w.heap.size w1.heap.size Bs (.slice va vn vc) sv L stop 60 W ∧ W.heap[D]? = some (.deferred (some []))) ∨ (c = .ret ∧ ¬ pre <+: evs L)) ?hI ?hIx ⟨U6.out, List.nil_prefix, by decide, G6.out, K6.out⟩
        (fun x a' W' => ∃ Bx, w5.heap.size ≤ Bx ∧ Box W' Bx x.1 x.2 ∧ a' = { tmps := #[.pointer (some ⟨b, 0, none⟩), .pointer (some ⟨rb, 0, none⟩), .int .i64 stop, undef, undef, .pointer (some ⟨w.heap.size, 0, none⟩), .pointer (some ⟨w.heap.size + 1, 0, none⟩), .pointer (some ⟨w1.heap.size, 0, none⟩), .int .i64 (m60 (tot L)), .func (.func 36) #[] #[.pointer (some ⟨Bs, 0, none⟩)], .pointer (some ⟨w3.heap.size, 0, none⟩), undef, undef, undef, .pointer (some ⟨W.heap.size, 0, none⟩), .pointer (some ⟨Bx, 0, none⟩), undef, undef, .pointer (some ⟨rb, 0, none⟩), .slice va vn vc, .pointer (some ⟨rb, 0, none⟩), .int .i64 (tot L), .int .i64 (m60 (tot L)), .pointer (some ⟨b, 0, none⟩), .func (.func 36) #[] #[.pointer (some ⟨Bs, 0, none⟩)], .func (.func 36) #[] #[.pointer (some ⟨Bs, 0, none⟩)], .bool false, .func (.func 36) #[] #[.pointer (some ⟨Bs, 0, none⟩)], undef, undef, undef, undef, undef, undef, undef, undef, undef, undef, undef, undef, undef, undef, undef, undef, undef, undef, undef, .int .i64 stop, .agg #[.int .u8 77, .int .i64 stop], .pointer (some ⟨b, 0, none⟩), .agg #[.int .u8 77, .int .i64 stop], .tuple #[], .pointer (some ⟨rb, 0, none⟩), .agg #[.int .u8 77, .int .i64 stop], .tuple #[], .func (.func 36) #[] #[.pointer (some ⟨Bs, 0, none⟩)], .agg #[.int .u8 x.1, .int .i64 x.2], undef, undef, undef, undef, undef, undef, undef, undef, undef, undef, undef, undef, undef, undef, undef, undef, undef, undef, undef, undef], defers := [] }) ?hAx ?assign ?body ?done ?stop
      case q3 => rintro q (rfl | rfl) <;> (rw [hD6.out]; omega)
      case q4 => rintro q hq e; have := hsvb.out _ hq; have := Hz1.out; rcases e with rfl | rfl; omega; omega
      case hI =>
        rintro pre A B row ⟨du, hp, h6, g, hk⟩ hg hr
        refine ⟨du.kc (kc_own hg (fun r e => (hr r e).2)) (fun _ _ e => e), hp, h6, g.own hg (fun r e => ⟨by have := (hr r e).1; rw [hD6.out] at this; omega, (hr r e).2⟩), (hg.block D (Array.getElem?_eq_some_iff.1 hk).1 (fun e => ?_)).trans hk⟩
        have := (hr _ e.symm).1; rw [hD6.out] at this; omega
      case hIx =>
        rintro c pre A B row (⟨rfl, du, h6, g, hk⟩ | h) hg hr
        · refine .inl ⟨rfl, du.kc (kc_own hg (fun r e => (hr r e).2)) (fun _ _ e => e), h6, g.own hg (fun r e => ⟨by have := (hr r e).1; rw [hD6.out] at this; omega, (hr r e).2⟩), (hg.block D (Array.getElem?_eq_some_iff.1 hk).1 (fun e => ?_)).trans hk⟩
          have := (hr _ e.symm).1; rw [hD6.out] at this; omega
        · exact .inr h
      case hAx =>
        rintro x a' _ A B row ⟨Bx, h1, h2, rfl⟩ hg hr
        exact ⟨Bx, h1, h2.kc (kc_own hg (fun q e => (hr q e).2)) id, rfl⟩
      case assign =>
        rintro l pre x W K ⟨du, hp, h6, g, hk⟩ hK
        have hsz := g.bel.size
        gi_wp2
        exact hK _ _ ((KeepsOthers.alloc _ _).from _) (KC.alloc _ _ _) ⟨du.below (below_alloc _ _), hp, h6, g.below (below_alloc _ _), ((below_alloc W _).block D (Array.getElem?_eq_some_iff.1 hk).1).trans hk⟩ ⟨W.heap.size, by omega, heap_alloc_new _ _, rfl⟩
      case body =>
        rintro l pre x a' W hl ⟨rr, hrr⟩ ⟨du, hp, h6, g, hk⟩ ⟨Bx, hBx, hbx, rfl⟩ hlt
        have DU := hid du
        clear du
        obtain ⟨y, hy⟩ : ∃ y, (evs L)[pre.length]? = some y := ⟨_, List.getElem?_eq_getElem hlt⟩
        have HN := hid (pre_next (x := x) hp hy)
        have G := hid g
        have HX := hid hbx
        have HY := hid hy
        have HKK := hid hk
        obtain ⟨p, hpe⟩ : ∃ p, pre.length = p := ⟨_, rfl⟩
        have HPE := hid hpe
        have n1 := g.cn.cell
        have u1 := g.cw.cell
        rw [hpe] at n1 h6
        have H6 := hid h6
        clear g hbx hpe hlt hp hy h6 hk hBx hrr n3 r3 hz5 hD5 hbw hD2 hA3 hs
        gi_wp2_with fail
        refine ⟨trivial, (CallsIn.inRound l (callsIn_wide.2 (at35 _ L p y _ G.out.rw_ H.out.pos (by rw [← HPE.out]; exact HY.out) hN2.out H.out.most))).mono ?_⟩
        rintro e W2 ⟨rfl, hb2⟩
        have G2 := hid (G.out.below hb2)
        have B2' := hid hb2
        have X2 := HX.out.kc (kc_below hb2) id
        have hBx2 := X2.lt
        have x1 := X2.c0
        have x2 := X2.c1
        have n1 := (G.out.below hb2).cn.cell
        have n2 := (G.out.below hb2).cn.frozen
        have n3 := (G.out.below hb2).cn.lt
        have r1 := (G.out.below hb2).cr.cell
        have r2 := (G.out.below hb2).cr.frozen
        have r3 := (G.out.below hb2).cr.lt
        rw [HPE.out] at n1
        have hwn : IntKind.i64.wrap ((p : Int) + 1) = (p : Int) + 1 := by have := H6.out; rw [IntKind.wrap_i64]; omega
        clear hb2 X2
        by_cases he : x = y
        · have hd := eq2_true (congrArg Prod.fst he) (congrArg Prod.snd he)
          have HE := hid he
          clear he
          have E1 : Hid (KeepsFrom (w5.setCell ⟨w3.heap.size, 0, none⟩ (.int .i64 0)).heap.size W ((W2.setCell ⟨w3.heap.size, 0, none⟩ (.int .i64 ((p : Int) + 1))).alloc (.cells #[.int .u8 y.1, .int .i64 y.2] 39))) := (kf_below _ B2'.out).trans (((KeepsOthers.setCell _ _ _).trans (KeepsOthers.alloc _ _)).from _)
          have E2 : Hid (WI w5 w.heap.size w3.heap.size (w.heap.size + 1) w.heap.size w1.heap.size Bs (.slice va vn vc) sv L stop (p + 1) ((W2.setCell ⟨w3.heap.size, 0, none⟩ (.int .i64 ((p : Int) + 1))).alloc (.cells #[.int .u8 y.1, .int .i64 y.2] 39))) := (G2.out.put hWD.out (p + 1)).below (below_alloc _ (.cells #[.int .u8 y.1, .int .i64 y.2] 39))
          have E3 : Hid (((W2.setCell ⟨w3.heap.size, 0, none⟩ (.int .i64 ((p : Int) + 1))).alloc (.cells #[.int .u8 y.1, .int .i64 y.2] 39)).heap[D]? = some (.deferred (some []))) := by
            have h1 : W2.heap[D]? = some (.deferred (some [])) := (B2'.out.block D (Array.getElem?_eq_some_iff.1 HKK.out).1).trans HKK.out
            have h2 : (W2.setCell ⟨w3.heap.size, 0, none⟩ (.int .i64 ((p : Int) + 1))).heap[D]? = some (.deferred (some [])) := by
              refine (Below.heap_setCell _ _ _ D (fun e => ?_)).trans h1
              have h3 : W2.heap[w3.heap.size]? = _ := G2.out.cn
              have e' : D = w3.heap.size := e
              rw [← e', h1] at h3
              simp at h3
            exact ((below_alloc _ _).block D (Array.getElem?_eq_some_iff.1 h2).1).trans h2
          have E4 : Hid (Duo ((W2.setCell ⟨w3.heap.size, 0, none⟩ (.int .i64 ((p : Int) + 1))).alloc (.cells #[.int .u8 y.1, .int .i64 y.2] 39)) b rb rv4 rrv5 (putL L ⟨77, stop, 1⟩)) := ((DU.out.below B2'.out).kept (Kp.setCell _ 0 _) (fun j hj e => by subst e; exact (DU.out.below B2'.out).cel G2.out.cn (by decide) (by decide) hj)).below (below_alloc _ _)
          by_cases h60 : p = 59
          · subst h60
            gi_wp2
            refine ⟨E1.out, .inl ⟨rfl, E4.out, by rw [List.length_append, List.length_singleton, HPE.out], E2.out, E3.out⟩⟩
          · have h61 : ¬ (p : Int) + 1 = 60 := by omega
            gi_wp2
            refine ⟨E1.out, (((kc_below B2'.out).mono (fun _ e => e.elim)).trans (KC.of_kp (Kp.setCell _ 0 _) (fun q _ e => .inl e))).trans (KC.alloc _ _ _), E4.out, HN.out.2 HE.out, ?_, ?_, E3.out⟩
            · have := H6.out; rw [List.length_append, List.length_singleton, HPE.out]; omega
            · rw [List.length_append, List.length_singleton, HPE.out]
              exact E2.out
        · have hd := eq2_false (a := x.1) (b := x.2) (c := y.1) (d := y.2) (fun h => he (Prod.ext h.1 h.2))
          have HE := hid he
          clear he
          gi_wp2
          exact ⟨(kf_below _ B2'.out).trans (((KeepsOthers.setCell _ _ _).trans (KeepsOthers.alloc _ _)).from _), .inr ⟨rfl, fun h => HE.out (HN.out.1 h)⟩⟩
      case done =>
        rintro D2 ys W hD2 rfl ⟨du, _, h6, g, hk⟩ hK
        refine ⟨.inl rfl, D2, ⟨du, by rw [hD6.out] at hD2; omega, ⟨_, ?_, g⟩, hk, hK⟩, rfl⟩
        rw [hev.out]
        have := hev.out
        unfold m60
        rw [if_neg (by omega)]
      case stop =>
        rintro D2 c pre W hD2 hsp (⟨rfl, du, h6, g, hk⟩ | ⟨_, h⟩) hK
        · refine wpIn_exit ?_
          refine ⟨.inr rfl, D2, ⟨du, by rw [hD6.out] at hD2; omega, ⟨60, ?_, g⟩, hk, hK⟩, rfl⟩
          have h1 := hsp.length_le
          have := hev.out
          unfold m60
          split <;> omega
        · exact absurd hsp h
    case rest =>
      rintro D2 W ⟨du, hD2, ⟨p, hpm, g⟩, hk, hK⟩
      have DU := hid du
      have HL2 := hid hD2
      clear du
      have G := hid g
      have HK1 := hid hk
      have HK2 := hid hK
      have n1 := g.cn.cell
      have r1 := g.cr.cell
      have r2 := g.cr.frozen
      clear n3 r3 hz5 hD5 hbw hs g hk hK hA3
      rw [hpm] at n1
      rename_i K1 cont
      refine cont _ _ ?_
      clear cont
      dsimp only
      gi_wp2
      have hne : ∀ q, W.heap[q]? = some (.deferred (some [])) → q ≠ w.heap.size + 1 := fun q hq e => by
        have h1 : W.heap[w.heap.size + 1]? = _ := G.out.cr
        rw [← e, hq] at h1
        simp at h1
      have k1 : (W.setCell ⟨w.heap.size + 1, 0, none⟩ (.bool true)).heap[D2]? = some (.deferred (some [])) := (Below.heap_setCell W ⟨w.heap.size + 1, 0, none⟩ (.bool true) D2 (hne D2 HK2.out)).trans HK2.out
      have k2 : (W.setCell ⟨w.heap.size + 1, 0, none⟩ (.bool true)).heap[D]? = some (.deferred (some [])) := (Below.heap_setCell W ⟨w.heap.size + 1, 0, none⟩ (.bool true) D (hne D HK1.out)).trans HK1.out
      have c1 : Cel (W.setCell ⟨w.heap.size + 1, 0, none⟩ (.bool true)) (w.heap.size + 1) (.bool true) 4 := G.out.cr.set _
      have u1 : Duo (W.setCell ⟨w.heap.size + 1, 0, none⟩ (.bool true)) b rb rv4 rrv5 (putL L ⟨77, stop, 1⟩) := DU.out.kept (Kp.setCell _ 0 _) (fun j hj e => by subst e; exact DU.out.cel G.out.cr (by decide) (by decide) hj)
      have b1 : Below w.heap.size w5 (W.setCell ⟨w.heap.size + 1, 0, none⟩ (.bool true)) := G.out.bel.setCell (p := ⟨w.heap.size + 1, 0, none⟩) (by show w.heap.size ≤ w.heap.size + 1; omega) _
      generalize (W.setCell ⟨w.heap.size + 1, 0, none⟩ (.bool true)) = W6 at k1 k2 c1 u1 b1 ⊢
      have hDD : D ≠ D2 := by have := HL2.out; omega
      have k3 : (W6.putObj D2 (.deferred none)).heap[D]? = some (.deferred (some [])) := (World.putObj_heap_other hDD).trans k2
      have k4 := kc_putObj (o' := .deferred none) k1 rfl
      have k5 := kc_putObj (o' := .deferred none) k3 rfl
      have hq2 : w.heap.size ≤ D2 := by have := HL2.out; have := HDD.out; omega
      have hq1 : w.heap.size ≤ D := by have := HDD.out; omega
      have b2 : Below w.heap.size w5 ((W6.putObj D2 (.deferred none)).putObj D (.deferred none)) := (b1.trans (belowK_b (w := w) (Nat.le_refl _) _ D2 _ _ hq2 k1 rfl rfl)).trans (belowK_b (w := w) (Nat.le_refl _) _ D _ _ hq1 k3 rfl rfl)
      refine ⟨by simp, .inl ⟨_, _, rfl, run_takeDeferred k1, ?_⟩⟩
      refine ⟨by simp, .inl ⟨_, _, rfl, run_takeDeferred k3, ?_⟩⟩
      refine ⟨_, results_walk rfl ((c1.kc k4 id).kc k5 id), rfl, _, _, (u1.kc k4 (fun _ _ e => e)).kc k5 (fun _ _ e => e), ?_, same_below DU5.out.2.2.1 ?_, same_below DU5.out.2.2.2 ?_⟩
      · exact ⟨b2.os.trans KP5.out.os, b2.tape.trans KP5.out.tape, b2.output.trans KP5.out.output, Nat.le_trans KP5.out.size b2.size, fun k hk hn => (b2.block k hk).trans (KP5.out.block k hk hn)⟩
      · have := Hbw.out; simp; omega
      · have := Hbw.out; simp; omega
end Go.Proofs.Ytadcindaafjckaa
