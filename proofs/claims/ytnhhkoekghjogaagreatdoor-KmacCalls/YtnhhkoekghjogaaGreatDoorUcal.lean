/- The statement Calls, walked. -/
import Derived.Test.YtnhhkoekghjogaaGreatDoorKk
import Derived.Test.YtnhhkoekghjogaaGreatDoorUmd
import Derived.Test.YtnhhkoekghjogaaGreatDoorKm
import Derived.Test.YtnhhkoekghjogaaGreatDoorUlive
import Derived.Test.YtnhhkoekghjogaaGreatDoorRrlen
import Derived.Test.YtnhhkoekghjogaaGreatDoorRlen
import Derived.Test.YtnhhkoekghjogaaGreatDoorRreads
import Derived.Test.YtnhhkoekghjogaaGreatDoorSapx
namespace Go.Proofs.YtnhhkoekghjogaaGreatDoor.Kc
open Go.ChangeShapes Go.WideShapes Go.ChangeAt Go.RowKit
open Go.Proofs.YtnhhkoekghjogaaGreatDoor.By Go.Proofs.YtnhhkoekghjogaaGreatDoor.Wd
/-- What was told lies apart. -/
theorem RW.apart {W : World} {B g m c xk : Nat} {wv : Value} {tl : List TE} {cx : List Value} {t : TypeId} (hx : Blk W xk cx t) (ht : t ≠ 5) (h : RW W B (.slice (some ⟨g, 0, none⟩) m c) wv tl) (hB : B ≤ W.heap.size) (hm : m = tl.length) (h0 : 0 < m) (h80 : m ≤ 80) :
    Calls Tryz.prog 16 #[.slice (some ⟨g, 0, none⟩) m c] W fun e w' => e = .returned (.bool true) ∧ By.BX B xk W w' := by
  subst hm
  have gt : ∀ j, j < tl.length → ∃ x ∈ tl, tl[j]? = some x ∧ tl.getD j ⟨.slice none 0 0, .slice none 0 0, 0, fun _ => 0⟩ = x := fun j hj => by
    refine ⟨tl[j], List.getElem_mem hj, List.getElem?_eq_getElem hj, ?_⟩
    rw [List.getD_eq_getElem?_getD, List.getElem?_eq_getElem hj]; rfl
  have hrow := h.r3
  have cellAt : ∀ j, j < tl.length → W.cell? ⟨g, j, none⟩ = some (tl.getD j ⟨.slice none 0 0, .slice none 0 0, 0, fun _ => 0⟩).a := fun j hj => by
    obtain ⟨x, _, hx, ex⟩ := gt j hj
    obtain ⟨g', c', e, hc⟩ := rowL_cell hrow (show (tl.map (·.a))[j]? = some x.a from by rw [List.getElem?_map, hx]; rfl)
    simp only [Value.slice.injEq, Option.some.injEq, Addr.mk.injEq, and_true] at e
    rw [ex]
    rw [← e.1, Nat.zero_add] at hc
    exact hc
  have symm : ∀ i j, i < j → j < tl.length → (tl.getD i ⟨.slice none 0 0, .slice none 0 0, 0, fun _ => 0⟩).a.ownBlock = none ∨ (tl.getD i ⟨.slice none 0 0, .slice none 0 0, 0, fun _ => 0⟩).a.ownBlock ≠ (tl.getD j ⟨.slice none 0 0, .slice none 0 0, 0, fun _ => 0⟩).a.ownBlock := fun i j hij hj => by
    have hp := List.pairwise_iff_getElem.1 h.tl.ap i j (by omega) hj hij
    obtain ⟨x, _, hx, ex⟩ := gt i (by omega)
    obtain ⟨y, _, hy, ey⟩ := gt j hj
    rw [ex, ey]
    rw [List.getElem?_eq_getElem (by omega)] at hx hy
    rw [Option.some.inj hx, Option.some.inj hy] at hp
    exact hp
  refine By.apart30x xk B tl.length g c (fun j => (tl.getD j ⟨.slice none 0 0, .slice none 0 0, 0, fun _ => 0⟩).a) (fun j => (tl.getD j ⟨.slice none 0 0, .slice none 0 0, 0, fun _ => 0⟩).n) (fun j => (tl.getD j ⟨.slice none 0 0, .slice none 0 0, 0, fun _ => 0⟩).f) W ⟨fun i j hi hj hne => ?_, fun j hj e => ?_⟩ ⟨fun j hj => ?_, cellAt⟩ (fun j i => ?_) h80 h0 (fun j hj => ?_) hB hx.lt (fun j hj e => ?_)
  · rcases Nat.lt_or_gt_of_ne hne with h1 | h1
    · exact symm i j h1 hj
    · exact apart_symm (symm j i h1 hi)
  · obtain ⟨x, hm, _, ex⟩ := gt j hj
    have e' : x.a.ownBlock = some g := by rw [← ex]; exact e
    obtain ⟨cs, hc⟩ := own8_type (h.tl.own x hm).1 e'
    obtain ⟨_, hn | ⟨g', cap', cur, e2, _, hc2, _⟩⟩ := hrow
    · have := hn.1; cases this
    · simp only [Value.slice.injEq, Option.some.injEq, Addr.mk.injEq, and_true] at e2
      rw [← e2.1, hc] at hc2
      simp only [Option.some.injEq, Obj.cells.injEq] at hc2
      exact absurd hc2.2.1 (by decide)
  · obtain ⟨x, hm, _, ex⟩ := gt j hj
    show By.Own W B (tl.getD j _).a (tl.getD j _).n (tl.getD j _).f
    rw [ex]; exact (h.tl.own x hm).1
  · show 0 ≤ (tl.getD j _).f i ∧ (tl.getD j _).f i < 256
    by_cases hj : j < tl.length
    · obtain ⟨x, hm, _, ex⟩ := gt j hj
      rw [ex]; exact (h.tl.own x hm).1.1 i
    · rw [List.getD_eq_getElem?_getD, List.getElem?_eq_none (by omega)]
      show (0 : Int) ≤ 0 ∧ (0 : Int) < 256
      decide
  · obtain ⟨x, hm, _, ex⟩ := gt j hj
    show (tl.getD j _).n ≤ _
    rw [ex]; exact Nat.le_trans (h.tl.sz x hm) (by omega)
  · obtain ⟨x, hm, _, ex⟩ := gt j hj
    have e' : x.a.ownBlock = some xk := by rw [← ex]; exact e
    obtain ⟨cs, hc⟩ := own8_type (h.tl.own x hm).1 e'
    have := Option.some.inj (hx.symm.trans hc)
    simp only [Obj.cells.injEq] at this
    exact ht this.2.1
theorem apart0 (A : Option Addr) (cap : Nat) (w : World) : Calls Tryz.prog 16 #[.slice A 0 cap] w fun e w' => e = .returned (.bool true) ∧ w' = w := by
  go_enter Tryz.func16, Tryz.ntmps16
  go_wp2
  refine wp_loop_rounds 1 ?_
  rw [rounds_succ]
  go_wp2
  refine wp_loop_rounds 1 ?_
  rw [rounds_succ]
  go_wp2
  refine wp_loop_rounds 1 ?_
  rw [rounds_succ]
  go_wp2
  go_ret
  exact ⟨rfl, rfl⟩
/-- Both sides at the start: no mac yet. -/
theorem PK.start {w W : World} {lb mb xb : Nat} (hk : KT w) (hb : Below w.heap.size w W) (hl : Led W lb (.slice none 0 0) []) (hm : RLed W mb (.slice none 0 0) []) (hx : Blk W xb [.pointer none, .pointer none, .pointer none, .pointer none, .pointer none, .pointer none, .pointer (some ⟨lb, 0, none⟩), .pointer (some ⟨mb, 0, none⟩), .slice none 0 0, .slice none 0 0] 39) (h1 : w.heap.size ≤ lb) (h2 : w.heap.size ≤ mb) (h3 : w.heap.size ≤ xb) : PK w xb lb mb [] [] W :=
  ⟨.slice none 0 0, .slice none 0 0, .slice none 0 0, .slice none 0 0, fun _ => .pointer none, fun _ => .pointer none, fun _ => 0, fun _ => 0, fun _ => none,
    ⟨hb, ⟨hl, h1, fun g hg => by simp [Value.ownBlock] at hg, fun _ _ => .inl rfl, fun _ _ g e => by simp at e, fun _ _ e => absurd rfl e, fun _ _ g _ _ _ e => by simp at e, fun _ _ _ _ _ e => absurd rfl e⟩,
      ⟨hm, h2, fun g hg => by simp [Value.ownBlock] at hg, fun _ _ => .inl rfl, fun _ _ g e => by simp at e, fun _ _ e => absurd rfl e, fun _ _ g _ _ _ e => by simp at e, fun _ _ _ _ _ e => absurd rfl e⟩,
      fun g hg => by simp [Value.ownBlock] at hg, hx, h3, hk⟩,
    ⟨World.ownsRow_nil _ _ _ _, World.ownsRow_nil _ _ _ _, fun g hg => by simp [Value.ownBlock] at hg, ⟨fun q hq => by simp at hq, List.Pairwise.nil, fun q hq => by simp at hq⟩⟩⟩
theorem PK.bel {w0 W : World} {xb lb mb : Nat} {L : List Rn} {tl : List TE} (h : PK w0 xb lb mb L tl W) : Below w0.heap.size w0 W := by
  obtain ⟨_, _, _, _, _, _, _, _, _, h, _⟩ := h; exact h.bel
theorem PK.below {w0 W W' : World} {xb lb mb : Nat} {L : List Rn} {tl : List TE} (h : PK w0 xb lb mb L tl W) (hb : Below W.heap.size W W') : PK w0 xb lb mb L tl W' := by
  obtain ⟨lv, mv, tv, wv, pv, qv, pc, qc, D, h, hr⟩ := h; exact ⟨lv, mv, tv, wv, pv, qv, pc, qc, D, h.below hb, hr.kx (Kx.below hb)⟩
theorem more_tiny {L : List Rn} {c : Nat} (h : More [] L c) (hc : c ≤ 4000000) : Tiny L := ⟨by have := h.1; have h0 : tot ([] : List Rn) = 0 := rfl; omega, by have := h.2; have h0 : ([] : List Rn).length = 0 := rfl; omega⟩
set_option maxRecDepth 4000 in
set_option maxHeartbeats 8000000 in
theorem calls_walk (c1 c2 : CE) (A : Option Addr) (bb off m cap : Nat) (hA : 0 < m → A = some ⟨bb, off, none⟩) (a : Nat → AE) (w : World) (hk : KT w) (hs : ∀ W, Below w.heap.size w W → Scr W bb off m a) (hm : m ≤ cap) (hcap : cap ≤ maxLen) (hpn : ∀ i, i < m → (a i).pn ≤ 140737488355328) (hp : ∀ i, i < m → ∀ W, Below w.heap.size w W → By.RB W (.slice (a i).pa (a i).pn (a i).pc) (a i).pn (a i).g)
    (hc : ∀ c, c = c1 ∨ c = c2 → (∀ W, Below w.heap.size w W → By.RB W (.slice c.ka c.kn c.kc) c.kn c.f ∧ By.RB W (.slice c.ca c.cn c.cc) c.cn c.h) ∧ c.kn ≤ 140737488355328 ∧ c.cn ≤ 140737488355328) :
    Calls Tryz.prog 3 #[.agg #[.int .i64 c1.st, .slice c1.ka c1.kn c1.kc, .slice c1.ca c1.cn c1.cc], .agg #[.int .i64 c2.st, .slice c2.ka c2.kn c2.kc, .slice c2.ca c2.cn c2.cc], .slice A m cap] w fun e w' => e = .returned (.bool true) ∧ Below w.heap.size w w' := by
  have HS := hid hs
  have HAA := hid hA
  have HK := hid hk
  have HPN := hid hpn
  have HP := hid hp
  have HC := hid hcap
  have HCC := hid hc
  clear hs hA hk hpn hp hcap hc
  go_enter Tryz.func3, Tryz.ntmps3
  go_wp2_with fail
  obtain ⟨pb, hpb⟩ : ∃ x, w.heap.size = x := ⟨_, rfl⟩
  obtain ⟨W, hW⟩ : ∃ x, (w.alloc (.cells #[.int .i64 c1.st, .slice c1.ka c1.kn c1.kc, .slice c1.ca c1.cn c1.cc] 24)).alloc (.cells #[.int .i64 c2.st, .slice c2.ka c2.kn c2.kc, .slice c2.ca c2.cn c2.cc] 24) = x := ⟨_, rfl⟩
  have bW : Hid (Below w.heap.size w W) := by rw [← hW]; exact below_next (below_alloc _ _) (below_alloc _ _)
  have Y1 : Hid (Blk W pb [.int .i64 c1.st, .slice c1.ka c1.kn c1.kc, .slice c1.ca c1.cn c1.cc] 24) := by
    rw [← hW]
    exact (Blk.newAt w #[.int .i64 c1.st, .slice c1.ka c1.kn c1.kc, .slice c1.ca c1.cn c1.cc] _ 24 pb hpb.symm rfl).below (below_alloc _ _)
  have Y2 : Hid (Blk W (pb + 1) [.int .i64 c2.st, .slice c2.ka c2.kn c2.kc, .slice c2.ca c2.cn c2.cc] 24) := by
    rw [← hW]
    exact Blk.newAt _ #[.int .i64 c2.st, .slice c2.ka c2.kn c2.kc, .slice c2.ca c2.cn c2.cc] _ 24 (pb + 1) (by simp [hpb]) rfl
  rw [hW, hpb]
  clear hW
  have HB := hid (show ∀ V, Below W.heap.size W V → Below w.heap.size w V from fun V hV => below_next bW.out hV)
  have KW := hid (HK.out.below bW.out)
  have EE : Hid (w.heap.size = pb) := hpb
  clear hpb
  refine (lives1 W KW.out).mono ?_
  rintro e w1 ⟨rfl, hb1⟩
  have B1 := hid hb1
  clear hb1
  obtain ⟨w2, hw2⟩ : ∃ x, w1.alloc (.cells #[.int .i64 c1.st, .slice c1.ka c1.kn c1.kc, .slice c1.ca c1.cn c1.cc, .int .i64 c2.st, .slice c2.ka c2.kn c2.kc, .slice c2.ca c2.cn c2.cc] 24) = x := ⟨_, rfl⟩
  obtain ⟨sb, hsb⟩ : ∃ x, w1.heap.size = x := ⟨_, rfl⟩
  have b12 : Hid (Below w1.heap.size w1 w2) := by rw [← hw2]; exact below_alloc _ _
  have S2 : Hid (Blk w2 sb [.int .i64 c1.st, .slice c1.ka c1.kn c1.kc, .slice c1.ca c1.cn c1.cc, .int .i64 c2.st, .slice c2.ka c2.kn c2.kc, .slice c2.ca c2.cn c2.cc] 24) := by rw [← hw2]; exact Blk.newAt w1 _ _ _ sb hsb.symm rfl
  have B2 := hid (below_next B1.out b12.out)
  have p0 := (Y1.out.below B1.out).cell 0 _ rfl
  have p1 := (Y1.out.below B1.out).cell 1 _ rfl
  have p2 := (Y1.out.below B1.out).cell 2 _ rfl
  have q0 := (Y2.out.below B1.out).cell 0 _ rfl
  have q1 := (Y2.out.below B1.out).cell 1 _ rfl
  have q2 := (Y2.out.below B1.out).cell 2 _ rfl
  go_wp2_with fail
  refine (small1 A bb off m cap HAA.out a sb 2 (fun i => if i = 0 then c1 else c2) w2 (HS.out w2 (HB.out _ B2.out)) (fun i hi => by
    rcases (show i = 0 ∨ i = 1 by omega) with rfl | rfl
    · exact ⟨S2.out.cell 0 _ rfl, S2.out.cell 1 _ rfl, S2.out.cell 2 _ rfl⟩
    · exact ⟨S2.out.cell 3 _ rfl, S2.out.cell 4 _ rfl, S2.out.cell 5 _ rfl⟩) hm HC.out HPN.out (fun i hi => by
    rcases (show i = 0 ∨ i = 1 by omega) with rfl | rfl
    · exact (HCC.out c1 (.inl rfl)).2
    · exact (HCC.out c2 (.inr rfl)).2) (by omega)).mono ?_
  rintro e w3 ⟨⟨y, rfl, hy⟩, d3, hw3⟩
  have B3 : Hid (Below W.heap.size W w3) := by rw [hw3]; exact below_drew' B2.out _
  have HY := hid hy
  clear hw3 hy hw2 hsb p0 p1 p2 q0 q1 q2 b12 S2
  cases y with
  | false =>
    go_wp2
    go_ret
    exact ⟨rfl, HB.out _ B3.out⟩
  | true =>
    obtain ⟨hm40, hp4, hc4⟩ := HY.out rfl
    have HP4 := hid hp4
    have HC4 : Hid ((c1.kn ≤ 4000 ∧ c1.cn ≤ 4000) ∧ c2.kn ≤ 4000 ∧ c2.cn ≤ 4000) := ⟨hc4 0 (by omega), hc4 1 (by omega)⟩
    clear HY hp4 hc4
    go_wp2_with fail
    refine (new9 w3).mono ?_
    rintro e w4 ⟨rfl, hl4, hb4⟩
    have L4 := hid hl4
    have B4 := hid (below_next B3.out hb4)
    clear hl4 hb4
    go_wp2_with fail
    refine (refNew10 w4).mono ?_
    rintro e w5 ⟨rfl, hm5, hb5⟩
    have L5 := hid (L4.out.below hb5)
    have M5 := hid hm5
    have B5 := hid (below_next B4.out hb5)
    clear hm5 hb5
    obtain ⟨lb, hlb⟩ : ∃ x, w3.heap.size = x := ⟨_, rfl⟩
    obtain ⟨mb, hmb⟩ : ∃ x, w4.heap.size = x := ⟨_, rfl⟩
    obtain ⟨xb, hxb⟩ : ∃ x, w5.heap.size = x := ⟨_, rfl⟩
    obtain ⟨w6, hw6⟩ : ∃ x, w5.alloc (.cells #[.pointer none, .pointer none, .pointer none, .pointer none, .pointer none, .pointer none, .pointer (some ⟨lb, 0, none⟩), .pointer (some ⟨mb, 0, none⟩), .slice none 0 0, .slice none 0 0] 39) = x := ⟨_, rfl⟩
    have b56 : Below w5.heap.size w5 w6 := by rw [← hw6]; exact below_alloc _ _
    have X6 : Blk w6 xb [.pointer none, .pointer none, .pointer none, .pointer none, .pointer none, .pointer none, .pointer (some ⟨lb, 0, none⟩), .pointer (some ⟨mb, 0, none⟩), .slice none 0 0, .slice none 0 0] 39 := by rw [← hw6]; exact Blk.newAt w5 _ _ _ xb hxb.symm rfl
    rw [hlb] at L4 L5
    rw [hmb] at M5
    have P6 := hid (PK.start (w := W) KW.out (below_next B5.out b56) (L5.out.below b56) (M5.out.below b56) X6 (by rw [← hlb]; exact B3.out.size) (by rw [← hmb]; exact B4.out.size) (by rw [← hxb]; exact B5.out.size))
    have YY : Hid (∀ V, Below W.heap.size W V → Blk V pb [.int .i64 c1.st, .slice c1.ka c1.kn c1.kc, .slice c1.ca c1.cn c1.cc] 24 ∧ Blk V (pb + 1) [.int .i64 c2.st, .slice c2.ka c2.kn c2.kc, .slice c2.ca c2.cn c2.cc] 24) := fun V hV => ⟨Y1.out.below hV, Y2.out.below hV⟩
    have p0 := (YY.out w6 (below_next B5.out b56)).1.cell 0 _ rfl
    have p1 := (YY.out w6 (below_next B5.out b56)).1.cell 1 _ rfl
    have p2 := (YY.out w6 (below_next B5.out b56)).1.cell 2 _ rfl
    clear b56 X6 L4 L5 M5
    go_wp2_with fail
    refine (P6.out.made 0 (by omega) c1.st c1.ka c1.kn c1.kc c1.ca c1.cn c1.cc c1.f c1.h (fun V hV => ((HCC.out c1 (.inl rfl)).1 V (HB.out V hV)).1) (fun V hV => ((HCC.out c1 (.inl rfl)).1 V (HB.out V hV)).2) HC4.out.1.1 HC4.out.1.2 tiny_nil).mono ?_
    rintro e w7 ⟨rfl, L7, hP7, hM7⟩
    have P7 := hid hP7
    have M7 := hid hM7
    clear hP7 hM7 P6 p0 p1 p2 hw6 hlb hmb hxb
    have q0 := (YY.out w7 P7.out.bel).2.cell 0 _ rfl
    have q1 := (YY.out w7 P7.out.bel).2.cell 1 _ rfl
    have q2 := (YY.out w7 P7.out.bel).2.cell 2 _ rfl
    go_wp2_with fail
    refine (P7.out.made 1 (by omega) c2.st c2.ka c2.kn c2.kc c2.ca c2.cn c2.cc c2.f c2.h (fun V hV => ((HCC.out c2 (.inr rfl)).1 V (HB.out V hV)).1) (fun V hV => ((HCC.out c2 (.inr rfl)).1 V (HB.out V hV)).2) HC4.out.2.1 HC4.out.2.2 (more_tiny M7.out (by omega))).mono ?_
    rintro e w8 ⟨rfl, L8, hP8, hM8⟩
    have P8 := hid hP8
    have M8 : Hid (More [] L8 180000) := ⟨by have := M7.out.1; have := hM8.1; omega, by have := M7.out.2; have := hM8.2; omega⟩
    clear hP8 hM8 P7 M7 q0 q1 q2 YY Y1 Y2 HC4 B3 B4 B5 B1 B2
    go_wp2_with fail
    go_loopw [9] (fun i wr => ∃ (k : Nat) (L : List Rn) (tl : List TE), k ≤ m ∧ i = .int .i64 k ∧ PK W xb lb mb L tl wr ∧ More [] L (180000 + k * 90000) ∧ tl.length ≤ k) (fun i _ => m - (intOf i).toNat)
    case atStart => exact ⟨0, L8, [], Nat.zero_le _, rfl, P8.out, M8.out, Nat.le_refl _⟩
    case round =>
      clear P8 M8
      obtain ⟨k, L, tl, hk, rfl, hP, hM, htl⟩ := hrel
      have P := hid hP
      have HM := hid hM
      have HT := hid htl
      clear hP hM htl
      by_cases hlt : k < m
      · obtain rfl := HAA.out (by omega)
        obtain ⟨d0, d1, d2, d3, d4, d5⟩ := HS.out wr (HB.out _ P.out.bel) k hlt
        have hpk := hid (HP.out k hlt)
        have hpb := HP4.out k hlt
        obtain ⟨q, hq⟩ : ∃ q, a k = q := ⟨_, rfl⟩
        rw [hq] at d0 d1 d2 d3 d4 d5 hpk hpb
        clear hq
        go_wp2_with fail
        refine (P.out.act q.on q.cc q.tgt q.n q.pa q.pn q.pc q.xof q.g (fun V hV => hpk.out V (HB.out V hV)) hpb (by have := HT.out; omega) (more_tiny HM.out (by omega))).mono ?_
        rintro e w9 ⟨rfl, L', tl', hP', hM', ht'⟩
        have P' := hid hP'
        have M' : Hid (More [] L' (180000 + (k + 1) * 90000)) := ⟨by have := HM.out.1; have := hM'.1; omega, by have := HM.out.2; have := hM'.2; omega⟩
        have T' : Hid (tl'.length ≤ k + 1) := by have := HT.out; exact Nat.le_trans ht' (by omega)
        obtain ⟨lv, mv, tv, wv, pv, qv, pc, qc, D, hps, -⟩ := hP'
        have c6 := hps.here.cell 6 _ rfl
        have c7 := hps.here.cell 7 _ rfl
        have LL : Hid (Led w9 lb lv L') := hps.P.led
        have MM : Hid (RLed w9 mb mv L') := hps.Q.led
        have HLn : Hid (L'.length < 1000000000000000000) := by have := M'.out.2; have h0 : ([] : List Rn).length = 0 := rfl; show L'.length < _; omega
        clear hps hM' ht' P HM HT d0 d1 d2 d3 d4 d5
        go_wp2_with fail
        go_region_held3 (fun W' => W'.cell? ⟨xb, 6, none⟩ = some (.pointer (some ⟨lb, 0, none⟩)) ∧ W'.cell? ⟨xb, 7, none⟩ = some (.pointer (some ⟨mb, 0, none⟩))) (go_keep) (first
          | (go_at_call 10; go_must (refine (len20 lb lv L' _ (LL.out.below (below_drewN _ 1))).mono ?_; rintro e wz ⟨rfl, rfl⟩))
          | (go_at_call 11; go_must (refine (refLen mb mv L' _ (MM.out.below (below_drewN _ 1)) HLn.out).mono ?_; rintro e wz ⟨rfl, rfl⟩)))
        go_wp2_with fail
        exact ⟨⟨k + 1, L', tl', by omega, by go_num, P'.out.below (below_drewN _ 1), M'.out, T'.out⟩, by simp [intOf]; omega⟩
      · have ek : k = m := by omega
        subst ek
        obtain ⟨lv, mv, tv, wv, pv, qv, pc, qc, D, hps, hrw⟩ := P.out
        clear P
        have PP := hid hps
        have RR := hid hrw
        clear hps hrw
        obtain ⟨tn, htn⟩ : ∃ x, tl.length = x := ⟨_, rfl⟩
        have R3 : Hid (wr.ownsRow W.heap.size 22 1 tv tn (tl.map (·.a))) := by have := RR.out.r3; rw [List.length_map, htn] at this; exact this
        have R4 : Hid (wr.ownsRow W.heap.size 22 1 wv tn (tl.map (·.b))) := by have := RR.out.r4; rw [List.length_map, htn] at this; exact this
        obtain ⟨ta, tc, rfl⟩ := rowG_slice R3.out
        obtain ⟨wa, wc, rfl⟩ := rowG_slice R4.out
        have HTN := hid htn
        have htk : tn ≤ 40 := by rw [← htn]; exact Nat.le_trans HT.out hm40
        clear R3 R4 htn
        go_wp2_with fail
        go_loopw [11] (fun i wq => ∃ j : Nat, j ≤ tn ∧ i = .int .i64 j ∧ PS W xb lb mb lv mv (.slice ta tn tc) (.slice wa tn wc) pv qv pc qc D D L L wq ∧ RW wq W.heap.size (.slice ta tn tc) (.slice wa tn wc) tl) (fun i _ => tn - (intOf i).toNat)
        case atStart => exact ⟨0, Nat.zero_le _, rfl, PP.out, RR.out⟩
        case round =>
          clear PP RR
          obtain ⟨j, hj, rfl, hP, hR⟩ := hrel
          have P := hid hP
          have R := hid hR
          have c8 := hP.here.cell 8 _ rfl
          have c9 := hP.here.cell 9 _ rfl
          clear hP hR
          by_cases hjt : j < tn
          · obtain ⟨q, hq⟩ : ∃ q, tl[j]? = some q := ⟨_, List.getElem?_eq_getElem (by have := HTN.out; omega)⟩
            have hqm := R.out.tl.own q (List.mem_of_getElem? hq)
            obtain ⟨ga, gc, e1, hc1⟩ := rowL_cell R.out.r3 (show (tl.map (·.a))[j]? = some q.a from by rw [List.getElem?_map, hq]; rfl)
            obtain ⟨gb, gd, e2, hc2⟩ := rowL_cell R.out.r4 (show (tl.map (·.b))[j]? = some q.b from by rw [List.getElem?_map, hq]; rfl)
            simp only [Value.slice.injEq] at e1 e2
            obtain ⟨rfl, -, rfl⟩ := e1
            obtain ⟨rfl, -, rfl⟩ := e2
            rw [Nat.zero_add] at hc1 hc2
            have OA := hid hqm.1
            have OB := hid hqm.2
            have HN : Hid (q.n ≤ 140737488355999) := Nat.le_trans (R.out.tl.sz q (List.mem_of_getElem? hq)) (by omega)
            clear hqm hq
            go_wp2_with fail
            go_region_held3 (fun W' => W'.cell? ⟨xb, 8, none⟩ = some (.slice (some ⟨ga, 0, none⟩) tn tc) ∧ W'.cell? ⟨xb, 9, none⟩ = some (.slice (some ⟨gb, 0, none⟩) tn wc) ∧ W'.cell? ⟨ga, j, none⟩ = some q.a ∧ W'.cell? ⟨gb, j, none⟩ = some q.b) (go_keep) (first | (go_at_call 12; go_must (refine (same_true _ _ q.n q.f q.f _ (OA.out.reads.drewN 1) (OB.out.reads.drewN 1) HN.out (fun _ _ => rfl)).mono ?_; rintro e wz ⟨rfl, dz, rfl⟩)))
            go_wp2_with fail
            exact ⟨⟨j + 1, by omega, by go_num, P.out.below (below_drewN _ _), R.out.kx (Kx.below (below_drewN _ _))⟩, by simp [intOf]; omega⟩
          · have ej : j = tn := by omega
            subst ej
            clear hjt
            have c6 := P.out.here.cell 6 _ rfl
            have c7 := P.out.here.cell 7 _ rfl
            have HLn : Hid (L.length * 24 ≤ 140737488355328) := by have := HM.out.2; have h0 : ([] : List Rn).length = 0 := rfl; show L.length * 24 ≤ _; omega
            by_cases hj0 : 0 < j
            · have hl0 : 0 < tl.length := by have := HTN.out; omega
              obtain ⟨q0, hq0⟩ : ∃ q, tl[0]? = some q := ⟨_, List.getElem?_eq_getElem hl0⟩
              obtain ⟨gt, gtc, et, _⟩ := rowL_cell R.out.r3 (show (tl.map (·.a))[0]? = some q0.a from by rw [List.getElem?_map, hq0]; rfl)
              simp only [Value.slice.injEq] at et
              obtain ⟨rfl, -, rfl⟩ := et
              clear hq0 hl0
              go_wp2_with fail
              go_region_held3 (fun W' => W'.cell? ⟨xb, 6, none⟩ = some (.pointer (some ⟨lb, 0, none⟩)) ∧ W'.cell? ⟨xb, 7, none⟩ = some (.pointer (some ⟨mb, 0, none⟩)) ∧ W'.cell? ⟨xb, 8, none⟩ = some (.slice (some ⟨gt, 0, none⟩) j tc)) (go_keep) (first
                | (go_at_call 14; go_must (refine (runs22 lb lv L _ ((show Led _ lb lv L from P.out.P.led).below (below_drewN _ 1)) HLn.out).mono ?_; rintro e ya ⟨ua, rfl, hua, hba⟩; have PA := hid ((P.out.below (below_drewN _ 1)).below hba); have TLA := hid ((R.out.kx (Kx.below (below_drewN _ 1))).kx (Kx.below hba)); have UA := hid hua; have a6 := PA.out.here.cell 6 _ rfl; have a7 := PA.out.here.cell 7 _ rfl; have a8 := PA.out.here.cell 8 _ rfl; clear hua hba))
                | (go_at_call 15; go_must (refine (refRuns20 mb mv L _ (show RLed _ mb mv L from PA.out.Q.led) HLn.out).mono ?_; rintro e yb ⟨ub, rfl, hub, hbb⟩; have PB := hid (PA.out.below hbb); have TLB := hid (TLA.out.kx (Kx.below hbb)); have UB := hid hub; have UA2 := hid (UA.out.below hbb); have b6 := PB.out.here.cell 6 _ rfl; have b7 := PB.out.here.cell 7 _ rfl; have b8 := PB.out.here.cell 8 _ rfl; clear hub hbb))
                | (go_at_call 13; go_must (refine (same14 _ _ L L _ UA2.out.reads UB.out.reads (by have := HLn.out; omega) (by have := HLn.out; omega)).mono ?_; rw [decide_eq_true rfl]; rintro e yc ⟨rfl, dc, rfl⟩; have PC := hid (PB.out.below (below_drewN yb dc)); have TLC := hid (TLB.out.kx (Kx.below (below_drewN yb dc)))))
                | (go_at_call 16; go_must (refine (RW.apart (wv := .slice wa j wc) (tl := tl) PC.out.here (by decide) TLC.out PC.out.bel.size HTN.out.symm hj0 (by omega)).mono ?_; rintro e wd ⟨rfl, hbd⟩; have BD := hid (PC.out.bel.trans hbd.bel); have XD := hid (show Blk wd xb _ 39 from hbd.same.trans PC.out.here); have d6 := XD.out.cell 6 _ rfl; have d7 := XD.out.cell 7 _ rfl; have d8 := XD.out.cell 8 _ rfl; clear hbd)))
              go_wp2_with fail
              go_ret
              exact ⟨rfl, HB.out _ BD.out⟩
            · obtain rfl : j = 0 := by omega
              go_wp2_with fail
              go_region_held3 (fun W' => W'.cell? ⟨xb, 6, none⟩ = some (.pointer (some ⟨lb, 0, none⟩)) ∧ W'.cell? ⟨xb, 7, none⟩ = some (.pointer (some ⟨mb, 0, none⟩)) ∧ W'.cell? ⟨xb, 8, none⟩ = some (.slice ta 0 tc)) (go_keep) (first
                | (go_at_call 14; go_must (refine (runs22 lb lv L _ ((show Led _ lb lv L from P.out.P.led).below (below_drewN _ 1)) HLn.out).mono ?_; rintro e ya ⟨ua, rfl, hua, hba⟩; have PA := hid ((P.out.below (below_drewN _ 1)).below hba); have TLA := hid ((R.out.kx (Kx.below (below_drewN _ 1))).kx (Kx.below hba)); have UA := hid hua; have a6 := PA.out.here.cell 6 _ rfl; have a7 := PA.out.here.cell 7 _ rfl; have a8 := PA.out.here.cell 8 _ rfl; clear hua hba))
                | (go_at_call 15; go_must (refine (refRuns20 mb mv L _ (show RLed _ mb mv L from PA.out.Q.led) HLn.out).mono ?_; rintro e yb ⟨ub, rfl, hub, hbb⟩; have PB := hid (PA.out.below hbb); have TLB := hid (TLA.out.kx (Kx.below hbb)); have UB := hid hub; have UA2 := hid (UA.out.below hbb); have b6 := PB.out.here.cell 6 _ rfl; have b7 := PB.out.here.cell 7 _ rfl; have b8 := PB.out.here.cell 8 _ rfl; clear hub hbb))
                | (go_at_call 13; go_must (refine (same14 _ _ L L _ UA2.out.reads UB.out.reads (by have := HLn.out; omega) (by have := HLn.out; omega)).mono ?_; rw [decide_eq_true rfl]; rintro e yc ⟨rfl, dc, rfl⟩; have PC := hid (PB.out.below (below_drewN yb dc)); have TLC := hid (TLB.out.kx (Kx.below (below_drewN yb dc)))))
                | (go_at_call 16; go_must (refine (apart0 ta tc _).mono ?_; rintro e wd ⟨rfl, rfl⟩; have BD := hid PC.out.bel)))
              go_wp2_with fail
              go_ret
              exact ⟨rfl, HB.out _ BD.out⟩
end Go.Proofs.YtnhhkoekghjogaaGreatDoor.Kc
