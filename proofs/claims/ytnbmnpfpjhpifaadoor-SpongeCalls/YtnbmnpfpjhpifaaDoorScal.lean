/- The statement Calls, walked. -/
import Derived.Test.YtnbmnpfpjhpifaaDoorSsm
import Derived.Test.YtnbmnpfpjhpifaaDoorRrlen
import Derived.Test.YtnbmnpfpjhpifaaDoorSapx
namespace Go.Proofs.YtnbmnpfpjhpifaaDoor.Kc
open Go.ChangeShapes Go.WideShapes Go.ChangeAt Go.RowKit
open Go.Proofs.YtnbmnpfpjhpifaaDoor.By Go.Proofs.YtnbmnpfpjhpifaaDoor.Wd
theorem More.mono {L L' : List Rn} {c d : Nat} (h : More L L' c) (hcd : c ≤ d) : More L L' d := ⟨Int.le_trans h.1 (Int.add_le_add_left (by omega) _), Nat.le_trans h.2 (Nat.add_le_add_left hcd _)⟩
/-- What was told lies apart. -/
theorem RW.apart {W : World} {B g m c xk : Nat} {wv : Value} {tl : List TE} {cx : List Value} {t : TypeId} (hx : Blk W xk cx t) (ht : t ≠ 5) (h : RW W B (.slice (some ⟨g, 0, none⟩) m c) wv tl) (hB : B ≤ W.heap.size) (hm : m = tl.length) (h0 : 0 < m) (h80 : m ≤ 80) :
    Calls Tryd.prog 16 #[.slice (some ⟨g, 0, none⟩) m c] W fun e w' => e = .returned (.bool true) ∧ By.BX B xk W w' := by
  subst hm
  have gt : ∀ j, j < tl.length → ∃ x ∈ tl, tl[j]? = some x ∧ tl.getD j ⟨.slice none 0 0, .slice none 0 0, 0, fun _ => 0⟩ = x := fun j hj => by
    refine ⟨tl[j], List.getElem_mem hj, List.getElem?_eq_getElem hj, ?_⟩
    rw [List.getD_eq_getElem?_getD, List.getElem?_eq_getElem hj]; rfl
  have hrow := h.r3
  have cellAt : ∀ j, j < tl.length → W.cell? ⟨g, j, none⟩ = some (tl.getD j ⟨.slice none 0 0, .slice none 0 0, 0, fun _ => 0⟩).a := fun j hj => by
    obtain ⟨x, _, hx, ex⟩ := gt j hj
    obtain ⟨g', c', e, hc⟩ := rowL_cell hrow (show (tl.map (·.a))[j]? = some x.a from by rw [List.getElem?_map, hx]; rfl)
    simp only [Value.slice.injEq, Option.some.injEq, Addr.mk.injEq, and_true] at e
    rw [ex]
    rw [← e.1, Nat.zero_add] at hc
    exact hc
  have symm : ∀ i j, i < j → j < tl.length → (tl.getD i ⟨.slice none 0 0, .slice none 0 0, 0, fun _ => 0⟩).a.ownBlock = none ∨ (tl.getD i ⟨.slice none 0 0, .slice none 0 0, 0, fun _ => 0⟩).a.ownBlock ≠ (tl.getD j ⟨.slice none 0 0, .slice none 0 0, 0, fun _ => 0⟩).a.ownBlock := fun i j hij hj => by
    have hp := List.pairwise_iff_getElem.1 h.tl.ap i j (by omega) hj hij
    obtain ⟨x, _, hx, ex⟩ := gt i (by omega)
    obtain ⟨y, _, hy, ey⟩ := gt j hj
    rw [ex, ey]
    rw [List.getElem?_eq_getElem (by omega)] at hx hy
    rw [Option.some.inj hx, Option.some.inj hy] at hp
    exact hp
  refine By.apart30x xk B tl.length g c (fun j => (tl.getD j ⟨.slice none 0 0, .slice none 0 0, 0, fun _ => 0⟩).a) (fun j => (tl.getD j ⟨.slice none 0 0, .slice none 0 0, 0, fun _ => 0⟩).n) (fun j => (tl.getD j ⟨.slice none 0 0, .slice none 0 0, 0, fun _ => 0⟩).f) W ⟨fun i j hi hj hne => ?_, fun j hj e => ?_⟩ ⟨fun j hj => ?_, cellAt⟩ (fun j i => ?_) h80 h0 (fun j hj => ?_) hB hx.lt (fun j hj e => ?_)
  · rcases Nat.lt_or_gt_of_ne hne with h1 | h1
    · exact symm i j h1 hj
    · exact apart_symm (symm j i h1 hi)
  · obtain ⟨x, hm, _, ex⟩ := gt j hj
    have e' : x.a.ownBlock = some g := by rw [← ex]; exact e
    obtain ⟨cs, hc⟩ := own8_type (h.tl.own x hm).1 e'
    obtain ⟨_, hn | ⟨g', cap', cur, e2, _, hc2, _⟩⟩ := hrow
    · have := hn.1; cases this
    · simp only [Value.slice.injEq, Option.some.injEq, Addr.mk.injEq, and_true] at e2
      rw [← e2.1, hc] at hc2
      simp only [Option.some.injEq, Obj.cells.injEq] at hc2
      exact absurd hc2.2.1 (by decide)
  · obtain ⟨x, hm, _, ex⟩ := gt j hj
    show By.Own W B (tl.getD j _).a (tl.getD j _).n (tl.getD j _).f
    rw [ex]; exact (h.tl.own x hm).1
  · show 0 ≤ (tl.getD j _).f i ∧ (tl.getD j _).f i < 256
    by_cases hj : j < tl.length
    · obtain ⟨x, hm, _, ex⟩ := gt j hj
      rw [ex]; exact (h.tl.own x hm).1.1 i
    · rw [List.getD_eq_getElem?_getD, List.getElem?_eq_none (by omega)]
      show (0 : Int) ≤ 0 ∧ (0 : Int) < 256
      decide
  · obtain ⟨x, hm, _, ex⟩ := gt j hj
    show (tl.getD j _).n ≤ _
    rw [ex]; exact Nat.le_trans (h.tl.sz x hm) (by omega)
  · obtain ⟨x, hm, _, ex⟩ := gt j hj
    have e' : x.a.ownBlock = some xk := by rw [← ex]; exact e
    obtain ⟨cs, hc⟩ := own8_type (h.tl.own x hm).1 e'
    have := Option.some.inj (hx.symm.trans hc)
    simp only [Obj.cells.injEq] at this
    exact ht this.2.1
/-- Both sides at the start: no sponge yet. -/
theorem PW.start {w W : World} {lb mb xb : Nat} (hk : KT w) (hb : Below w.heap.size w W) (hl : Led W lb (.slice none 0 0) []) (hm : RLed W mb (.slice none 0 0) []) (hx : Blk W xb (xc (fun _ => none) (fun _ => none) (fun _ => 0) (fun _ => 0) lb mb (.slice none 0 0) (.slice none 0 0)) 36) (h1 : w.heap.size ≤ lb) (h2 : w.heap.size ≤ mb) (h3 : w.heap.size ≤ xb) :
    PW w w.heap.size (fun _ => none) (fun _ => 0) (fun _ => 0) lb (.slice none 0 0) mb (.slice none 0 0) [] xb (.slice none 0 0) (.slice none 0 0) [] W :=
  ⟨⟨fun i _ => ⟨trivial, fun h => absurd rfl h⟩, fun i _ => ⟨trivial, fun h => absurd rfl h⟩, fun i j _ _ _ h => absurd rfl h, fun i j _ _ _ h => absurd rfl h, hl, h1, fun g hg => by simp [Value.ownBlock] at hg, hm, h2, fun g hg => by simp [Value.ownBlock] at hg, fun g hg => by simp [Value.ownBlock] at hg, hx, h3, hb, hk.below hb, hk.lt, hb.size⟩, ⟨World.ownsRow_nil _ _ _ _, World.ownsRow_nil _ _ _ _, fun g hg => by simp [Value.ownBlock] at hg, ⟨fun q hq => by simp at hq, List.Pairwise.nil, fun q hq => by simp at hq⟩⟩⟩
set_option maxRecDepth 4000 in
set_option maxHeartbeats 8000000 in
theorem calls_walk (A : Option Addr) (bb off m cap : Nat) (hA : 0 < m → A = some ⟨bb, off, none⟩) (a : Nat → AE) (rate sf : Int) (w : World) (hk : KT w) (hsf : 0 ≤ sf ∧ sf < 256) (hs : ∀ W, Below w.heap.size w W → Scr W bb off m a) (hm : m ≤ cap) (hcap : cap ≤ maxLen) (hpn : ∀ i, i < m → (a i).pn ≤ 140737488355328) (hp : ∀ i, i < m → ∀ W, Below w.heap.size w W → By.RB W (.slice (a i).pa (a i).pn (a i).pc) (a i).pn (a i).g) (hsa : ∀ i, i < m → 0 ≤ (a i).sf ∧ (a i).sf < 256) :
    Calls Tryd.prog 3 #[.int .i64 rate, .int .u8 sf, .slice A m cap] w fun e w' => e = .returned (.bool true) ∧ Below w.heap.size w w' := by
  have HS := hid hs
  have HAA := hid hA
  have HK := hid hk
  have HSF := hid hsf
  have HPN := hid hpn
  have HP := hid hp
  have HSA := hid hsa
  have HC := hid hcap
  clear hs hA hk hsf hpn hp hsa hcap
  go_enter Tryd.func3, Tryd.ntmps3
  go_wp2_with fail
  refine (lives1 w HK.out).mono ?_
  rintro e w1 ⟨rfl, hb1⟩
  have B1 := hid hb1
  clear hb1
  go_wp2_with fail
  refine (small1 A bb off m cap HAA.out a w1 (HS.out w1 B1.out) hm HC.out HPN.out).mono ?_
  rintro e w1' ⟨⟨y, rfl, hy⟩, rfl⟩
  cases y with
  | false =>
    go_wp2
    go_ret
    exact ⟨rfl, B1.out⟩
  | true =>
    obtain ⟨hm60, hp6⟩ := hy rfl
    have HP6 := hid hp6
    clear hy hp6
    go_wp2_with fail
    refine (new9 _).mono ?_
    rintro e w2 ⟨rfl, hl2, hb2⟩
    have L2 := hid hl2
    have B2 := hid (below_next B1.out hb2)
    clear hl2 hb2
    go_wp2_with fail
    refine (refNew10 w2).mono ?_
    rintro e w3 ⟨rfl, hm3, hb3⟩
    have L3 := hid (L2.out.below hb3)
    have M3 := hid hm3
    have B3 := hid (below_next B2.out hb3)
    clear hm3 hb3
    go_wp2_with fail
    have P4 := hid (PW.start (w := w) (xb := w3.heap.size) (lb := w1'.heap.size) (mb := w2.heap.size) HK.out (below_next B3.out (below_alloc w3 _)) (L3.out.below (below_alloc w3 _)) (M3.out.below (below_alloc w3 _)) (Blk.new w3 _ 36) B1.out.size B2.out.size B3.out.size)
    obtain ⟨lb, hlb⟩ : ∃ x, w1'.heap.size = x := ⟨_, rfl⟩
    obtain ⟨mb, hmb⟩ : ∃ x, w2.heap.size = x := ⟨_, rfl⟩
    obtain ⟨xb, hxb⟩ : ∃ x, w3.heap.size = x := ⟨_, rfl⟩
    rw [hlb, hmb, hxb] at P4
    rw [hlb, hmb, hxb]
    refine (PW.made P4.out 0 (by omega) rate sf HSF.out).mono ?_
    rintro e w5 ⟨rfl, b1, b2, hP5⟩
    have P5 := hid hP5
    clear hP5 P4 hlb hmb hxb L3 M3 B3 B2 L2
    go_wp2_with fail
    refine (PW.made P5.out 1 (by omega) 136 sf HSF.out).mono ?_
    rintro e w6 ⟨rfl, b3, b4, hP6⟩
    have P6 := hid hP6
    clear hP6 P5
    go_wp2_with fail
    go_loopw [9] (fun i wr => ∃ (k : Nat) (K : Nat → KD) (pb qb : Nat → Nat) (lv mv : Value) (L : List Rn) (tv wv : Value) (tl : List TE), k ≤ m ∧ i = .int .i64 k ∧ PW w w.heap.size K pb qb lb lv mb mv L xb tv wv tl wr ∧ More [] L (k * 100000) ∧ tl.length ≤ k) (fun i _ => m - (intOf i).toNat)
    case atStart => exact ⟨0, _, _, _, _, _, _, _, _, _, Nat.zero_le _, rfl, P6.out, More.refl _ _, Nat.le_refl _⟩
    case round =>
      clear P6
      obtain ⟨k, K, pb, qb, lv, mv, L, tv, wv, tl, hk, rfl, hP, hM, htl⟩ := hrel
      have P := hid hP
      have HM := hid hM
      have HT := hid htl
      clear hP hM htl
      have HBig : Hid (Big L) := ⟨by have := HM.out.1; have h0 : tot ([] : List Rn) = 0 := rfl; omega, by have := HM.out.2; have h0 : ([] : List Rn).length = 0 := rfl; omega⟩
      by_cases hlt : k < m
      · obtain rfl := HAA.out (by omega)
        obtain ⟨d0, d1, d2, d3, d4, d5, d6⟩ := HS.out wr P.out.gw.bel k hlt
        have hpk := hid (HP.out k hlt)
        have hpb := HP6.out k hlt
        have hsk := hid (HSA.out k hlt)
        obtain ⟨q, hq⟩ : ∃ q, a k = q := ⟨_, rfl⟩
        rw [hq] at d0 d1 d2 d3 d4 d5 d6 hpk hpb hsk
        clear hq
        go_wp2_with fail
        refine (P.out.act q.on q.cc q.to q.n q.sf _ q.sil q.pn q.g (hpk.out _ (Below.refl _ _)).1 hpk.out hpb hsk.out (by have := HT.out; omega) HBig.out).mono ?_
        rintro e w7 ⟨rfl, K', pb', qb', lv', mv', L', tv', wv', tl', hP', hM', ht'⟩
        have P' := hid hP'
        have M' : Hid (More [] L' ((k + 1) * 100000)) := ⟨by have := HM.out.1; have := hM'.1; omega, by have := HM.out.2; have := hM'.2; omega⟩
        have T' : Hid (tl'.length ≤ k + 1) := by have := HT.out; exact Nat.le_trans ht' (by omega)
        have c6 := hP'.gw.x.cell 6 _ rfl
        have c7 := hP'.gw.x.cell 7 _ rfl
        have LL := hid hP'.gw.l
        have MM := hid hP'.gw.m
        have HLn : Hid (L'.length < 1000000000000000000) := by have := M'.out.2; have h0 : ([] : List Rn).length = 0 := rfl; show L'.length < _; omega
        clear hP' hM' ht' P HM HT d0 d1 d2 d3 d4 d5 d6 HBig
        go_wp2_with fail
        go_region_held3 (fun W' => W'.cell? ⟨xb, 6, none⟩ = some (.pointer (some ⟨lb, 0, none⟩)) ∧ W'.cell? ⟨xb, 7, none⟩ = some (.pointer (some ⟨mb, 0, none⟩))) (go_keep) (first
          | (go_at_call 10; go_must (refine (len20 lb lv' L' _ (LL.out.below (below_drewN _ 1))).mono ?_; rintro e wz ⟨rfl, rfl⟩))
          | (go_at_call 11; go_must (refine (refLen mb mv' L' _ (MM.out.below (below_drewN _ 1)) HLn.out).mono ?_; rintro e wz ⟨rfl, rfl⟩)))
        go_wp2_with fail
        exact ⟨⟨k + 1, K', pb', qb', lv', mv', L', tv', wv', tl', by omega, by go_num, P'.out.below (below_drewN _ 1), M'.out, T'.out⟩, by simp [intOf]; omega⟩
      · have ek : k = m := by omega
        subst ek
        obtain ⟨tn, htn⟩ : ∃ x, tl.length = x := ⟨_, rfl⟩
        have R3 : Hid (wr.ownsRow w.heap.size 39 1 tv tn (tl.map (·.a))) := by have := P.out.rw.r3; rw [List.length_map, htn] at this; exact this
        have R4 : Hid (wr.ownsRow w.heap.size 39 1 wv tn (tl.map (·.b))) := by have := P.out.rw.r4; rw [List.length_map, htn] at this; exact this
        obtain ⟨ta, tc, rfl⟩ := rowG_slice R3.out
        obtain ⟨wa, wc, rfl⟩ := rowG_slice R4.out
        have HTN := hid htn
        have htk : tn ≤ 60 := by rw [← htn]; exact Nat.le_trans HT.out hm60
        clear R3 R4 htn
        go_wp2_with fail
        go_loopw [11] (fun i wq => ∃ j : Nat, j ≤ tn ∧ i = .int .i64 j ∧ PW w w.heap.size K pb qb lb lv mb mv L xb (.slice ta tn tc) (.slice wa tn wc) tl wq) (fun i _ => tn - (intOf i).toNat)
        case atStart => exact ⟨0, Nat.zero_le _, rfl, P.out⟩
        case round =>
          clear P
          obtain ⟨j, hj, rfl, hP⟩ := hrel
          have P := hid hP
          have c8 := hP.gw.x.cell 8 _ rfl
          have c9 := hP.gw.x.cell 9 _ rfl
          clear hP
          by_cases hjt : j < tn
          · obtain ⟨q, hq⟩ : ∃ q, tl[j]? = some q := ⟨_, List.getElem?_eq_getElem (by have := HTN.out; omega)⟩
            have hqm := P.out.rw.tl.own q (List.mem_of_getElem? hq)
            obtain ⟨ga, gc, e1, hc1⟩ := rowL_cell P.out.rw.r3 (show (tl.map (·.a))[j]? = some q.a from by rw [List.getElem?_map, hq]; rfl)
            obtain ⟨gb, gd, e2, hc2⟩ := rowL_cell P.out.rw.r4 (show (tl.map (·.b))[j]? = some q.b from by rw [List.getElem?_map, hq]; rfl)
            simp only [Value.slice.injEq] at e1 e2
            obtain ⟨rfl, -, rfl⟩ := e1
            obtain ⟨rfl, -, rfl⟩ := e2
            rw [Nat.zero_add] at hc1 hc2
            have OA := hid hqm.1
            have OB := hid hqm.2
            have HN : Hid (q.n ≤ 140737488355999) := Nat.le_trans (P.out.rw.tl.sz q (List.mem_of_getElem? hq)) (by omega)
            clear hqm hq
            go_wp2_with fail
            go_region_held3 (fun W' => W'.cell? ⟨xb, 8, none⟩ = some (.slice (some ⟨ga, 0, none⟩) tn tc) ∧ W'.cell? ⟨xb, 9, none⟩ = some (.slice (some ⟨gb, 0, none⟩) tn wc) ∧ W'.cell? ⟨ga, j, none⟩ = some q.a ∧ W'.cell? ⟨gb, j, none⟩ = some q.b) (go_keep) (first | (go_at_call 12; go_must (refine (same_true _ _ q.n q.f q.f _ (OA.out.reads.drewN 1) (OB.out.reads.drewN 1) HN.out (fun _ _ => rfl)).mono ?_; rintro e wz ⟨rfl, dz, rfl⟩)))
            go_wp2_with fail
            exact ⟨⟨j + 1, by omega, by go_num, P.out.below (below_drewN _ _)⟩, by simp [intOf]; omega⟩
          · have ej : j = tn := by omega
            subst ej
            clear hjt
            go_wp2_with fail
            go_loopw [13] (fun i wq => ∃ (u : Nat) (tv wv : Value) (tl' : List TE) (K' : Nat → KD) (pb' qb' : Nat → Nat) (lv' mv' : Value) (L' : List Rn), u ≤ 3 ∧ i = .int .i64 u ∧ PW w w.heap.size K' pb' qb' lb lv' mb mv' L' xb tv wv tl' wq ∧ More [] L' (6000000 + u * 100000) ∧ tl'.length ≤ 60 + u ∧ u ≤ tl'.length) (fun i _ => 3 - (intOf i).toNat)
            case atStart => exact ⟨0, _, _, _, _, _, _, _, _, _, by omega, rfl, P.out, ⟨by have := HM.out.1; omega, by have := HM.out.2; omega⟩, by have := HT.out; omega, Nat.zero_le _⟩
            case round =>
              clear P HM HT HBig HTN c8 c9
              obtain ⟨u, tv, wv, tl', K', pb', qb', lv', mv', L', hu, rfl, hP, hM, hT, hU⟩ := hrel
              have P := hid hP
              have HM := hid hM
              have HT := hid hT
              have HU := hid hU
              clear hP hM hT hU
              have HBig : Hid (Big L') := ⟨by have := HM.out.1; have h0 : tot ([] : List Rn) = 0 := rfl; omega, by have := HM.out.2; have h0 : ([] : List Rn).length = 0 := rfl; omega⟩
              by_cases hu3 : u < 3
              · have hu4 : (u : Int) < 3 := by omega
                go_wp2_with fail
                refine (P.out.form u 0 0 0 (.slice none 0 0) false (by have := HT.out; omega) HBig.out).mono ?_
                rintro e w8 ⟨rfl, k2, tv2, wv2, va, vb, hk2, hP2⟩
                have P2 := hid hP2
                have M2 : Hid (More [] L' (6000000 + (u + 1) * 100000)) := HM.out.mono (by omega)
                clear hP2
                go_wp2_with fail
                exact ⟨⟨u + 1, tv2, wv2, _, K', pb', qb', lv', mv', L', by omega, by go_num, P2.out, M2.out, by have := HT.out; simp; omega, by have := HU.out; simp; omega⟩, by simp [intOf]; omega⟩
              · have hu4 : ¬ (u : Int) < 3 := by omega
                have c6 := P.out.gw.x.cell 6 _ rfl
                have c7 := P.out.gw.x.cell 7 _ rfl
                have c8 := P.out.gw.x.cell 8 _ rfl
                have hl3 : 3 ≤ tl'.length := by have := HU.out; omega
                obtain ⟨q0, hq0⟩ : ∃ q, tl'[0]? = some q := ⟨_, List.getElem?_eq_getElem (by omega)⟩
                obtain ⟨gt, gtc, et, _⟩ := rowL_cell P.out.rw.r3 (show (tl'.map (·.a))[0]? = some q0.a from by rw [List.getElem?_map, hq0]; rfl)
                subst et
                rw [List.length_map] at c8
                obtain ⟨mm, hmm⟩ : ∃ x, tl'.length = x := ⟨_, rfl⟩
                have HMM := hid hmm
                rw [hmm] at c8
                have HLn : Hid (L'.length * 24 ≤ 140737488355328) := by have := HM.out.2; have h0 : ([] : List Rn).length = 0 := rfl; show L'.length * 24 ≤ _; omega
                have HM0 : Hid (0 < mm) := by show 0 < mm; omega
                have HM8 : Hid (mm ≤ 80) := by have := HT.out; show mm ≤ 80; omega
                clear hq0 hl3 hmm
                go_wp2_with fail
                go_region_held3 (fun W' => W'.cell? ⟨xb, 6, none⟩ = some (.pointer (some ⟨lb, 0, none⟩)) ∧ W'.cell? ⟨xb, 7, none⟩ = some (.pointer (some ⟨mb, 0, none⟩)) ∧ W'.cell? ⟨xb, 8, none⟩ = some (.slice (some ⟨gt, 0, none⟩) mm gtc)) (go_keep) (first
                  | (go_at_call 14; go_must (refine (runs22 lb lv' L' _ (P.out.gw.l.below (below_drewN _ 1)) HLn.out).mono ?_; rintro e wa ⟨ua, rfl, hua, hba⟩; have PA := hid ((P.out.below (below_drewN _ 1)).below hba); have UA := hid hua; have a6 := PA.out.gw.x.cell 6 _ rfl; have a7 := PA.out.gw.x.cell 7 _ rfl; have a8 := PA.out.gw.x.cell 8 _ rfl; rw [List.length_map, HMM.out] at a8; clear hua hba))
                  | (go_at_call 15; go_must (refine (refRuns20 mb mv' L' _ PA.out.gw.m HLn.out).mono ?_; rintro e wb ⟨ub, rfl, hub, hbb⟩; have PB := hid (PA.out.below hbb); have UB := hid hub; have UA2 := hid (UA.out.below hbb); have b6 := PB.out.gw.x.cell 6 _ rfl; have b7 := PB.out.gw.x.cell 7 _ rfl; have b8 := PB.out.gw.x.cell 8 _ rfl; rw [List.length_map, HMM.out] at b8; clear hub hbb))
                  | (go_at_call 13; go_must (refine (same14 _ _ L' L' _ UA2.out.reads UB.out.reads (by have := HLn.out; omega) (by have := HLn.out; omega)).mono ?_; rw [decide_eq_true rfl]; rintro e wc ⟨rfl, dc, rfl⟩; have PC := hid (PB.out.below (below_drewN wb dc))))
                  | (go_at_call 16; go_must (refine (RW.apart (wv := wv) (tl := tl') PC.out.gw.x (by decide) (by have h := PC.out.rw; rw [List.length_map, HMM.out] at h; exact h) PC.out.gw.hB HMM.out.symm HM0.out HM8.out).mono ?_; rintro e wd ⟨rfl, hbd⟩; have BD := hid (PC.out.gw.bel.trans hbd.bel); have XD := hid (show Blk wd xb _ 36 from hbd.same.trans PC.out.gw.x); have d6 := XD.out.cell 6 _ rfl; have d7 := XD.out.cell 7 _ rfl; have d8 := XD.out.cell 8 _ rfl; rw [List.length_map, HMM.out] at d8; clear hbd)))
                go_wp2_with fail
                go_ret
                exact ⟨rfl, BD.out⟩
end Go.Proofs.YtnbmnpfpjhpifaaDoor.Kc
