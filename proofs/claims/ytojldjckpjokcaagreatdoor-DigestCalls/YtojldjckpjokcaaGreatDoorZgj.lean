/- The statement Calls, walked. -/
import Derived.Test.YtojldjckpjokcaaGreatDoorZgi
import Derived.Test.YtojldjckpjokcaaGreatDoorZr
import Derived.Test.YtojldjckpjokcaaGreatDoorZgh
import Derived.Test.YtojldjckpjokcaaGreatDoorZgb
import Derived.Test.YtojldjckpjokcaaGreatDoorZrr
import Derived.Test.YtojldjckpjokcaaGreatDoorZap
namespace Go.Proofs.YtojldjckpjokcaaGreatDoor.Dg
open Go.ChangeShapes Go.WideShapes Go.ChangeAt Go.RowKit
open Go.Proofs.YtojldjckpjokcaaGreatDoor.By
open Go.Proofs.YtojldjckpjokcaaGreatDoor.Sh (Blk size_alloc)
theorem rowL_cell {w : World} {base n i : Nat} {v x : Value} {xs : List Value} (h : w.ownsRow base 41 1 v n xs) (hi : xs[i]? = some x) : ∃ g cap, v = .slice (some ⟨g, 0, none⟩) n cap ∧ w.cell? ⟨g, 0 + i, none⟩ = some x := by
  obtain ⟨hl, h | ⟨g, cap, cur, e, hb, hc, h1, h2, h3, h4⟩⟩ := h
  · have := h.2
    simp_all
  · refine ⟨g, cap, e, ?_⟩
    rw [Nat.zero_add, cell_of_row w g i cur 41 (0, 0) hc]
    rw [← h4, List.getElem?_take] at hi
    split at hi
    · simpa using hi
    · cases hi

/-- What was told lies apart. -/
theorem RW.apart {W : World} {B g m c xk : Nat} {wv : Value} {tl : List TE} {cx : List Value} {t : TypeId} (hx : Blk W xk cx t) (ht : t ≠ 5) (h : RW W B (.slice (some ⟨g, 0, none⟩) m c) wv tl) (hB : B ≤ W.heap.size) (hm : m = tl.length) (h0 : 0 < m) (h80 : m ≤ 1000) :
    Calls Tryz.prog 17 #[.slice (some ⟨g, 0, none⟩) m c] W fun e w' => e = .returned (.bool true) ∧ By.BX B xk W w' := by
  subst hm
  have gt : ∀ j, j < tl.length → ∃ x ∈ tl, tl[j]? = some x ∧ tl.getD j ⟨.slice none 0 0, .slice none 0 0, 0, fun _ => 0⟩ = x := fun j hj => by
    refine ⟨tl[j], List.getElem_mem hj, List.getElem?_eq_getElem hj, ?_⟩
    rw [List.getD_eq_getElem?_getD, List.getElem?_eq_getElem hj]; rfl
  have hrow := h.r3
  have cellAt : ∀ j, j < tl.length → W.cell? ⟨g, j, none⟩ = some (tl.getD j ⟨.slice none 0 0, .slice none 0 0, 0, fun _ => 0⟩).a := fun j hj => by
    obtain ⟨x, _, hx, ex⟩ := gt j hj
    obtain ⟨g', c', e, hc⟩ := rowL_cell hrow (show (tl.map (·.a))[j]? = some x.a from by rw [List.getElem?_map, hx]; rfl)
    simp only [Value.slice.injEq, Option.some.injEq, Addr.mk.injEq, and_true] at e
    rw [ex]
    rw [← e.1, Nat.zero_add] at hc
    exact hc
  have symm : ∀ i j, i < j → j < tl.length → (tl.getD i ⟨.slice none 0 0, .slice none 0 0, 0, fun _ => 0⟩).a.ownBlock = none ∨ (tl.getD i ⟨.slice none 0 0, .slice none 0 0, 0, fun _ => 0⟩).a.ownBlock ≠ (tl.getD j ⟨.slice none 0 0, .slice none 0 0, 0, fun _ => 0⟩).a.ownBlock := fun i j hij hj => by
    have hp := List.pairwise_iff_getElem.1 h.tl.ap i j (by omega) hj hij
    obtain ⟨x, _, hx, ex⟩ := gt i (by omega)
    obtain ⟨y, _, hy, ey⟩ := gt j hj
    rw [ex, ey]
    rw [List.getElem?_eq_getElem (by omega)] at hx hy
    rw [Option.some.inj hx, Option.some.inj hy] at hp
    exact hp
  refine By.apart30y xk B tl.length g c (fun j => (tl.getD j ⟨.slice none 0 0, .slice none 0 0, 0, fun _ => 0⟩).a) (fun j => (tl.getD j ⟨.slice none 0 0, .slice none 0 0, 0, fun _ => 0⟩).n) (fun j => (tl.getD j ⟨.slice none 0 0, .slice none 0 0, 0, fun _ => 0⟩).f) W ⟨fun i j hi hj hne => ?_, fun j hj e => ?_⟩ ⟨fun j hj => ?_, cellAt⟩ (fun j i => ?_) h80 h0 (fun j hj => ?_) hB hx.lt (fun j hj e => ?_)
  · rcases Nat.lt_or_gt_of_ne hne with h1 | h1
    · exact symm i j h1 hj
    · exact apart_symm (symm j i h1 hi)
  · obtain ⟨x, hm, _, ex⟩ := gt j hj
    have e' : x.a.ownBlock = some g := by rw [← ex]; exact e
    obtain ⟨cs, hc⟩ := Sg.own8_type (h.tl.own x hm).1 e'
    obtain ⟨_, hn | ⟨g', cap', cur, e2, _, hc2, _⟩⟩ := hrow
    · have := hn.1; cases this
    · simp only [Value.slice.injEq, Option.some.injEq, Addr.mk.injEq, and_true] at e2
      rw [← e2.1, hc] at hc2
      simp only [Option.some.injEq, Obj.cells.injEq] at hc2
      exact absurd hc2.2.1 (by decide)
  · obtain ⟨x, hm, _, ex⟩ := gt j hj
    show By.Own W B (tl.getD j _).a (tl.getD j _).n (tl.getD j _).f
    rw [ex]; exact (h.tl.own x hm).1
  · show 0 ≤ (tl.getD j _).f i ∧ (tl.getD j _).f i < 256
    by_cases hj : j < tl.length
    · obtain ⟨x, hm, _, ex⟩ := gt j hj
      rw [ex]; exact (h.tl.own x hm).1.1 i
    · rw [List.getD_eq_getElem?_getD, List.getElem?_eq_none (by omega)]
      show (0 : Int) ≤ 0 ∧ (0 : Int) < 256
      decide
  · obtain ⟨x, hm, _, ex⟩ := gt j hj
    show (tl.getD j _).n ≤ _
    rw [ex]; exact Nat.le_trans (h.tl.sz x hm) (by omega)
  · obtain ⟨x, hm, _, ex⟩ := gt j hj
    have e' : x.a.ownBlock = some xk := by rw [← ex]; exact e
    obtain ⟨cs, hc⟩ := Sg.own8_type (h.tl.own x hm).1 e'
    have := Option.some.inj (hx.symm.trans hc)
    simp only [Obj.cells.injEq] at this
    exact ht this.2.1
set_option maxHeartbeats 1000000 in
/-- No lists lie apart. -/
theorem apart0 (A : Option Addr) (cap : Nat) (w : World) : Calls Tryz.prog 17 #[.slice A 0 cap] w fun e w' => e = .returned (.bool true) ∧ w' = w := by
  go_enter Tryz.func17, Tryz.ntmps17
  go_wp2_with fail
  go_loopw [3] (fun x wr => x = .int .i64 0 ∧ wr = w) (fun _ _ => 0)
  case atStart => exact ⟨rfl, rfl⟩
  case round =>
    obtain ⟨rfl, rfl⟩ := hrel
    go_wp2_with fail
    go_loopw [5, 6] (fun g x wq => g = .slice none 0 0 ∧ x = .int .i64 0 ∧ wq = wr) (fun _ _ _ => 0)
    case atStart => exact ⟨rfl, rfl, rfl⟩
    case round =>
      obtain ⟨rfl, rfl, rfl⟩ := hrel
      go_wp2_with fail
      go_loopw [9] (fun x wz => x = .int .i64 0 ∧ wz = wr) (fun _ _ => 0)
      case atStart => exact ⟨rfl, rfl⟩
      case round =>
        obtain ⟨rfl, rfl⟩ := hrel
        go_wp2
        go_ret
        exact ⟨rfl, rfl⟩
/-- Whatever was told, or nothing: it lies apart. -/
theorem RW.apart0 {W : World} {B m c xk : Nat} {A : Option Addr} {wv : Value} {tl : List TE} {cx : List Value} {t : TypeId} (hx : Blk W xk cx t) (ht : t ≠ 5) (h : RW W B (.slice A m c) wv tl) (hB : B ≤ W.heap.size) (hm : m = tl.length) (h80 : m ≤ 1000) :
    Calls Tryz.prog 17 #[.slice A m c] W fun e w' => e = .returned (.bool true) ∧ By.BX B xk W w' := by
  by_cases h0 : 0 < m
  · obtain ⟨q0, hq0⟩ : ∃ q, tl[0]? = some q := ⟨_, List.getElem?_eq_getElem (by omega)⟩
    obtain ⟨g, c', e, _⟩ := rowL_cell h.r3 (show (tl.map (·.a))[0]? = some q0.a from by rw [List.getElem?_map, hq0]; rfl)
    simp only [Value.slice.injEq] at e
    obtain ⟨rfl, -, -⟩ := e
    exact RW.apart hx ht h hB hm h0 h80
  · obtain rfl : m = 0 := by omega
    refine (Dg.apart0 A c W).mono ?_
    rintro e w' ⟨rfl, rfl⟩
    exact ⟨rfl, Below.refl _ _, rfl, hx.lt⟩
/-- Both sides at the start: no states yet. -/
theorem PW.start {w W : World} {lb mb xb : Nat} (hk : KT w) (hb : Below w.heap.size w W) (hl : Led W lb (.slice none 0 0) []) (hm : RLed W mb (.slice none 0 0) []) (hx : Blk W xb (xc (fun _ => none) (fun _ => none) (fun _ => 0) (fun _ => 0) lb mb (.slice none 0 0) (.slice none 0 0)) 37) (h1 : w.heap.size ≤ lb) (h2 : w.heap.size ≤ mb) (h3 : w.heap.size ≤ xb) :
    PW w w.heap.size (fun _ => none) (fun _ => 0) (fun _ => 0) (fun _ => 0) lb (.slice none 0 0) mb (.slice none 0 0) [] xb (.slice none 0 0) (.slice none 0 0) [] W :=
  ⟨⟨fun _ _ => ⟨trivial, fun h => absurd rfl h⟩, fun _ _ => ⟨trivial, fun h => absurd rfl h⟩, fun _ _ _ _ _ h _ => absurd rfl h, fun _ _ _ _ _ h _ => absurd rfl h, hl, h1, fun g hg => by simp [Value.ownBlock] at hg, hm, h2, fun g hg => by simp [Value.ownBlock] at hg, fun g hg => by simp [Value.ownBlock] at hg, hx, h3, hb, hk.below hb, hk.lt, hb.size⟩, ⟨World.ownsRow_nil _ _ _ _, World.ownsRow_nil _ _ _ _, fun g hg => by simp [Value.ownBlock] at hg, ⟨fun q hq => by simp at hq, List.Pairwise.nil, fun q hq => by simp at hq⟩⟩⟩
set_option maxRecDepth 4000 in
set_option maxHeartbeats 8000000 in
theorem calls_walk (A : Option Addr) (bb off m cap : Nat) (hA : 0 < m → A = some ⟨bb, off, none⟩) (a : Nat → AE) (w : World) (hk : KT w) (hs : ∀ W, Below w.heap.size w W → Scr W bb off m a) (hm : m ≤ cap) (hcap : cap ≤ maxLen) (hpn : ∀ i, i < m → (a i).pn ≤ 140737488355328) (hp : ∀ i, i < m → ∀ W, Below w.heap.size w W → By.RB W (.slice (a i).pa (a i).pn (a i).pc) (a i).pn (a i).g) :
    Calls Tryz.prog 3 #[.slice A m cap] w fun e w' => e = .returned (.bool true) ∧ Below w.heap.size w w' := by
  have HS := hid hs
  have HAA := hid hA
  have HK := hid hk
  have HPN := hid hpn
  have HP := hid hp
  have HC := hid hcap
  clear hs hA hk hpn hp hcap
  go_enter Tryz.func3, Tryz.ntmps3
  go_wp2_with fail
  refine (lives1 w HK.out).mono ?_
  rintro e w1 ⟨rfl, hb1⟩
  have B1 := hid hb1
  clear hb1
  go_wp2_with fail
  refine (small1 A bb off m cap HAA.out a w1 (HS.out w1 B1.out) hm HC.out HPN.out).mono ?_
  rintro e w1' ⟨⟨y, rfl, hy⟩, rfl⟩
  cases y with
  | false =>
    go_wp2
    go_ret
    exact ⟨rfl, B1.out⟩
  | true =>
    obtain ⟨hm60, hp6⟩ := hy rfl
    have HP6 := hid hp6
    clear hy hp6
    go_wp2_with fail
    refine (new9 _).mono ?_
    rintro e w2 ⟨rfl, hl2, hb2⟩
    have L2 := hid hl2
    have B2 := hid (below_next B1.out hb2)
    clear hl2 hb2
    go_wp2_with fail
    refine (refNew10 w2).mono ?_
    rintro e w3 ⟨rfl, hm3, hb3⟩
    have L3 := hid (L2.out.below hb3)
    have M3 := hid hm3
    have B3 := hid (below_next B2.out hb3)
    clear hm3 hb3
    go_wp2_with fail
    have X4 := hid (Sh.Blk.new w3 [.nilIface, .nilIface, .nilIface, .pointer none, .pointer none, .pointer none, .pointer (some ⟨w1'.heap.size, 0, none⟩), .pointer (some ⟨w2.heap.size, 0, none⟩), .slice none 0 0, .slice none 0 0] 37)
    have L4 := hid (L3.out.below (below_alloc w3 (.cells #[.nilIface, .nilIface, .nilIface, .pointer none, .pointer none, .pointer none, .pointer (some ⟨w1'.heap.size, 0, none⟩), .pointer (some ⟨w2.heap.size, 0, none⟩), .slice none 0 0, .slice none 0 0] 37)))
    have M4 := hid (M3.out.below (below_alloc w3 (.cells #[.nilIface, .nilIface, .nilIface, .pointer none, .pointer none, .pointer none, .pointer (some ⟨w1'.heap.size, 0, none⟩), .pointer (some ⟨w2.heap.size, 0, none⟩), .slice none 0 0, .slice none 0 0] 37)))
    have B4 := hid (below_next B3.out (below_alloc w3 (.cells #[.nilIface, .nilIface, .nilIface, .pointer none, .pointer none, .pointer none, .pointer (some ⟨w1'.heap.size, 0, none⟩), .pointer (some ⟨w2.heap.size, 0, none⟩), .slice none 0 0, .slice none 0 0] 37)))
    have Z1 : Hid (w.heap.size ≤ w1'.heap.size ∧ w.heap.size ≤ w2.heap.size ∧ w.heap.size ≤ w3.heap.size) := ⟨B1.out.size, B2.out.size, B3.out.size⟩
    obtain ⟨lb, hlb⟩ : ∃ x, w1'.heap.size = x := ⟨_, rfl⟩
    obtain ⟨mb, hmb⟩ : ∃ x, w2.heap.size = x := ⟨_, rfl⟩
    obtain ⟨w4, hw4⟩ : ∃ x, w3.alloc (.cells #[.nilIface, .nilIface, .nilIface, .pointer none, .pointer none, .pointer none, .pointer (some ⟨lb, 0, none⟩), .pointer (some ⟨mb, 0, none⟩), .slice none 0 0, .slice none 0 0] 37) = x := ⟨_, rfl⟩
    obtain ⟨xb, hxb⟩ : ∃ x, w3.heap.size = x := ⟨_, rfl⟩
    rw [hlb, hmb, hw4] at B4 L4 M4
    rw [hlb, hmb] at X4
    have X4 : Hid (Blk w4 xb [.nilIface, .nilIface, .nilIface, .pointer none, .pointer none, .pointer none, .pointer (some ⟨lb, 0, none⟩), .pointer (some ⟨mb, 0, none⟩), .slice none 0 0, .slice none 0 0] 37) := by rw [← hw4, ← hxb]; exact X4.out
    rw [hlb, hmb, hxb] at Z1
    rw [hlb, hmb, hw4, hxb]
    clear hlb hmb hw4 hxb L3 M3 B3 B2 L2
    have P4 := hid (PW.start (w := w) (W := w4) HK.out B4.out L4.out M4.out X4.out Z1.out.1 Z1.out.2.1 Z1.out.2.2)
    clear X4 L4 M4 B4 Z1
    refine (P4.out.made256 0 (by decide)).mono ?_
    rintro e w5 ⟨rfl, b5, r5, q5, hP5⟩
    have P5 := hid hP5
    clear hP5 P4
    go_wp2_with fail
    refine (P5.out.made512 1 (by decide)).mono ?_
    rintro e w6 ⟨rfl, b6, r6, q6, hP6⟩
    have P6 := hid hP6
    clear hP6 P5
    go_wp2_with fail
    go_loopw [5] (fun i wr => ∃ (k : Nat) (K : Nat → KD) (pb rb qb : Nat → Nat) (lv mv : Value) (L : List Rn) (tv wv : Value) (tl : List TE), k ≤ m ∧ i = .int .i64 k ∧ PW w w.heap.size K pb rb qb lb lv mb mv L xb tv wv tl wr ∧ Mx K (sm a k) ∧ tot L ≤ k * 300 ∧ tl.length ≤ k) (fun i _ => m - (intOf i).toNat)
    case atStart => exact ⟨0, _, _, _, _, _, _, _, _, _, _, Nat.zero_le _, rfl, P6.out, (fun i hi => by match i, hi with | 0, _ | 1, _ | 2, _ => exact Nat.le_refl _), Int.le_refl _, Nat.le_refl _⟩
    case round =>
      clear P6
      obtain ⟨k, K, pb, rb, qb, lv, mv, L, tv, wv, tl, hk, rfl, hP, hX, hM, htl⟩ := hrel
      have P := hid hP
      have HX := hid hX
      have HM := hid hM
      have HT := hid htl
      clear hP hX hM htl
      have HBig : Hid (tot L ≤ 100000) := by have := HM.out; show tot L ≤ 100000; omega
      by_cases hlt : k < m
      · obtain rfl := HAA.out (by omega)
        obtain ⟨d0, d1, d2, d3, d4⟩ := HS.out wr P.out.gw.bel k hlt
        have hpk := hid (HP.out k hlt)
        have hpb : sm a k + (a k).pn ≤ 8192 := Nat.le_trans (sm_mono a (k + 1) m hlt) HP6.out
        have hsx : Hid (sm a (k + 1) = sm a k + (a k).pn) := rfl
        obtain ⟨q, hq⟩ : ∃ q, a k = q := ⟨_, rfl⟩
        rw [hq] at d0 d1 d2 d3 d4 hpk hpb hsx
        clear hq
        go_wp2_with fail
        refine (P.out.act q.on q.to q.al q.cc _ q.pn (sm a k) q.g (hpk.out _ (Below.refl _ _)).1 hpk.out (by omega) HX.out (by omega) (by have := HT.out; omega) HBig.out).mono ?_
        rintro e w7 ⟨rfl, K', pb', rb', qb', lv', mv', L', tv', wv', tl', hP', hX', hM', ht'⟩
        have P' := hid hP'
        have M' : Hid (tot L' ≤ ((k + 1 : Nat) : Int) * 300) := by have := HM.out; show tot L' ≤ _; omega
        have X' : Hid (Mx K' (sm a (k + 1))) := by show Mx K' _; rw [hsx.out]; exact hX'
        have T' : Hid (tl'.length ≤ k + 1) := by have := HT.out; exact Nat.le_trans ht' (by omega)
        have c6 := hP'.gw.x.cell 6 _ rfl
        have c7 := hP'.gw.x.cell 7 _ rfl
        have LL := hid hP'.gw.l
        have MM := hid hP'.gw.m
        have HLn : Hid (L'.length < 1000000000000000000) := by have := M'.out; have := len_tot hP'.gw.l.pos; show L'.length < _; omega
        clear hP' hX' hM' ht' P HX HM HT d0 d1 d2 d3 d4 HBig hsx hpb
        go_wp2_with fail
        go_region_held3 (fun W' => W'.cell? ⟨xb, 6, none⟩ = some (.pointer (some ⟨lb, 0, none⟩)) ∧ W'.cell? ⟨xb, 7, none⟩ = some (.pointer (some ⟨mb, 0, none⟩))) (go_keep) (first
          | (go_at_call 11; go_must (refine (len20 lb lv' L' _ (LL.out.below (below_drewN _ 1))).mono ?_; rintro e wz ⟨rfl, rfl⟩))
          | (go_at_call 12; go_must (refine (refLen mb mv' L' _ (MM.out.below (below_drewN _ 1)) HLn.out).mono ?_; rintro e wz ⟨rfl, rfl⟩)))
        go_wp2_with fail
        exact ⟨⟨k + 1, K', pb', rb', qb', lv', mv', L', tv', wv', tl', by omega, by go_num, P'.out.below (below_drewN _ 1), X'.out, by have := M'.out; omega, T'.out⟩, by simp [intOf]; omega⟩
      · have ek : k = m := by omega
        subst ek
        obtain ⟨tn, htn⟩ : ∃ x, tl.length = x := ⟨_, rfl⟩
        have R3 : Hid (wr.ownsRow w.heap.size 41 1 tv tn (tl.map (·.a))) := by have := P.out.rw.r3; rw [List.length_map, htn] at this; exact this
        have R4 : Hid (wr.ownsRow w.heap.size 41 1 wv tn (tl.map (·.b))) := by have := P.out.rw.r4; rw [List.length_map, htn] at this; exact this
        obtain ⟨ta, tc, rfl⟩ := rowG_slice R3.out
        obtain ⟨wa, wc, rfl⟩ := rowG_slice R4.out
        have HTN := hid htn
        have htk : tn ≤ 50 := by rw [← htn]; exact Nat.le_trans HT.out hm60
        clear R3 R4 htn
        go_wp2_with fail
        go_loopw [7] (fun i wq => ∃ j : Nat, j ≤ tn ∧ i = .int .i64 j ∧ PW w w.heap.size K pb rb qb lb lv mb mv L xb (.slice ta tn tc) (.slice wa tn wc) tl wq) (fun i _ => tn - (intOf i).toNat)
        case atStart => exact ⟨0, Nat.zero_le _, rfl, P.out⟩
        case round =>
          clear P
          obtain ⟨j, hj, rfl, hP⟩ := hrel
          have P := hid hP
          have c8 := hP.gw.x.cell 8 _ rfl
          have c9 := hP.gw.x.cell 9 _ rfl
          clear hP
          by_cases hjt : j < tn
          · obtain ⟨q, hq⟩ : ∃ q, tl[j]? = some q := ⟨_, List.getElem?_eq_getElem (by have := HTN.out; omega)⟩
            have hqm := P.out.rw.tl.own q (List.mem_of_getElem? hq)
            obtain ⟨ga, gc, e1, hc1⟩ := rowL_cell P.out.rw.r3 (show (tl.map (·.a))[j]? = some q.a from by rw [List.getElem?_map, hq]; rfl)
            obtain ⟨gb, gd, e2, hc2⟩ := rowL_cell P.out.rw.r4 (show (tl.map (·.b))[j]? = some q.b from by rw [List.getElem?_map, hq]; rfl)
            simp only [Value.slice.injEq] at e1 e2
            obtain ⟨rfl, -, rfl⟩ := e1
            obtain ⟨rfl, -, rfl⟩ := e2
            rw [Nat.zero_add] at hc1 hc2
            have OA := hid hqm.1
            have OB := hid hqm.2
            have HN : Hid (q.n ≤ 140737488355999) := Nat.le_trans (P.out.rw.tl.sz q (List.mem_of_getElem? hq)) (by omega)
            clear hqm hq
            go_wp2_with fail
            go_region_held3 (fun W' => W'.cell? ⟨xb, 8, none⟩ = some (.slice (some ⟨ga, 0, none⟩) tn tc) ∧ W'.cell? ⟨xb, 9, none⟩ = some (.slice (some ⟨gb, 0, none⟩) tn wc) ∧ W'.cell? ⟨ga, j, none⟩ = some q.a ∧ W'.cell? ⟨gb, j, none⟩ = some q.b) (go_keep) (first | (go_at_call 13; go_must (refine (same_true _ _ q.n q.f q.f _ (OA.out.reads.drewN 1) (OB.out.reads.drewN 1) HN.out (fun _ _ => rfl)).mono ?_; rintro e wz ⟨rfl, dz, rfl⟩)))
            go_wp2_with fail
            exact ⟨⟨j + 1, by omega, by go_num, P.out.below (below_drewN _ _)⟩, by simp [intOf]; omega⟩
          · have ej : j = tn := by omega
            subst ej
            clear hjt
            have c6 := P.out.gw.x.cell 6 _ rfl
            have c7 := P.out.gw.x.cell 7 _ rfl
            have HLn : Hid (L.length * 24 ≤ 140737488355328) := by have := HBig.out; have := len_tot P.out.gw.l.pos; show L.length * 24 ≤ _; omega
            have HM8 : Hid (j ≤ 1000) := by show j ≤ 1000; omega
            go_wp2_with fail
            go_region_held3 (fun W' => W'.cell? ⟨xb, 6, none⟩ = some (.pointer (some ⟨lb, 0, none⟩)) ∧ W'.cell? ⟨xb, 7, none⟩ = some (.pointer (some ⟨mb, 0, none⟩)) ∧ W'.cell? ⟨xb, 8, none⟩ = some (.slice ta j tc)) (go_keep) (first
              | (go_at_call 15; go_must (refine (runs22 lb lv L _ (P.out.gw.l.below (below_drewN _ 1)) HLn.out).mono ?_; rintro e wa' ⟨ua, rfl, hua, hba⟩; have PA := hid ((P.out.below (below_drewN _ 1)).below hba); have UA := hid hua; have a6 := PA.out.gw.x.cell 6 _ rfl; have a7 := PA.out.gw.x.cell 7 _ rfl; have a8 := PA.out.gw.x.cell 8 _ rfl; clear hua hba))
              | (go_at_call 16; go_must (refine (refRuns20 mb mv L _ PA.out.gw.m HLn.out).mono ?_; rintro e wb' ⟨ub, rfl, hub, hbb⟩; have PB := hid (PA.out.below hbb); have UB := hid hub; have UA2 := hid (UA.out.below hbb); have b6 := PB.out.gw.x.cell 6 _ rfl; have b7 := PB.out.gw.x.cell 7 _ rfl; have b8 := PB.out.gw.x.cell 8 _ rfl; clear hub hbb))
              | (go_at_call 14; go_must (refine (same14 _ _ L L _ UA2.out.reads UB.out.reads (by have := HLn.out; omega) (by have := HLn.out; omega)).mono ?_; rw [decide_eq_true rfl]; rintro e wc' ⟨rfl, dc, rfl⟩; have PC := hid (PB.out.below (below_drewN wb' dc))))
              | (go_at_call 17; go_must (refine (RW.apart0 (wv := .slice wa j wc) (tl := tl) PC.out.gw.x (by decide) PC.out.rw PC.out.gw.hB HTN.out.symm HM8.out).mono ?_; rintro e wd ⟨rfl, hbd⟩; have BD := hid (PC.out.gw.bel.trans hbd.bel); have XD := hid (show Blk wd xb _ 37 from hbd.same.trans PC.out.gw.x); have d6 := XD.out.cell 6 _ rfl; have d7 := XD.out.cell 7 _ rfl; have d8 := XD.out.cell 8 _ rfl; clear hbd)))
            go_wp2_with fail
            go_ret
            exact ⟨rfl, BD.out⟩
end Go.Proofs.YtojldjckpjokcaaGreatDoor.Dg
