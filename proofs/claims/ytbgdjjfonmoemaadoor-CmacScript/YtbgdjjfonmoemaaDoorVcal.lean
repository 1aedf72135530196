/- The statement CmacScript, walked. -/
import Derived.Test.YtbgdjjfonmoemaaDoorWm
import Derived.Test.YtbgdjjfonmoemaaDoorVscr
import Derived.Test.YtbgdjjfonmoemaaDoorVsap
import Derived.Test.YtbgdjjfonmoemaaDoorYi
import Derived.Deep.RegionHeld3
namespace Go.Proofs.YtbgdjjfonmoemaaDoor.Vm
open Go.ChangeShapes Go.WideShapes Go.ChangeAt Go.RowKit
open Go.Proofs.YtbgdjjfonmoemaaDoor.By Go.Proofs.YtbgdjjfonmoemaaDoor.Gf Go.Proofs.YtbgdjjfonmoemaaDoor.Ae
open Go.Proofs.YtbgdjjfonmoemaaDoor.Kc (own_kept own_mono own8_type)
theorem rowL_cell {w : World} {base n i : Nat} {v x : Value} {xs : List Value} (h : w.ownsRow base 22 1 v n xs) (hi : xs[i]? = some x) : ∃ g cap, v = .slice (some ⟨g, 0, none⟩) n cap ∧ w.cell? ⟨g, 0 + i, none⟩ = some x := by
  obtain ⟨hl, h | ⟨g, cap, cur, e, hb, hc, h1, h2, h3, h4⟩⟩ := h
  · have := h.2
    simp_all
  · refine ⟨g, cap, e, ?_⟩
    rw [Nat.zero_add, cell_of_row w g i cur 22 (0, 0) hc]
    rw [← h4, List.getElem?_take] at hi
    split at hi
    · simpa using hi
    · cases hi

set_option maxHeartbeats 1000000 in
/-- No lists lie apart. -/
theorem apart0 (A : Option Addr) (cap : Nat) (w : World) : Calls Tryd.prog 10 #[.slice A 0 cap] w fun e w' => e = .returned (.bool true) ∧ w' = w := by
  go_enter Tryd.func10, Tryd.ntmps10
  go_wp2_with fail
  go_loopw [3] (fun x wr => x = .int .i64 0 ∧ wr = w) (fun _ _ => 0)
  case atStart => exact ⟨rfl, rfl⟩
  case round =>
    obtain ⟨rfl, rfl⟩ := hrel
    go_wp2_with fail
    go_loopw [5, 6] (fun g x wq => g = .slice none 0 0 ∧ x = .int .i64 0 ∧ wq = wr) (fun _ _ _ => 0)
    case atStart => exact ⟨rfl, rfl, rfl⟩
    case round =>
      obtain ⟨rfl, rfl, rfl⟩ := hrel
      go_wp2_with fail
      go_loopw [9] (fun x wz => x = .int .i64 0 ∧ wz = wr) (fun _ _ => 0)
      case atStart => exact ⟨rfl, rfl⟩
      case round =>
        obtain ⟨rfl, rfl⟩ := hrel
        go_wp2
        go_ret
        exact ⟨rfl, rfl⟩
theorem bx_kp {base : Nat} {xk : Nat → Prop} {W W' : World} (h : By.BX base xk W W') : Kp (fun j => ¬ xk j) W W' := ⟨h.bel.os, h.bel.tape, h.bel.output, h.bel.size, fun k _ hn => h.same k (Classical.not_not.1 hn)⟩
/-- Blocks of ledgers and the record, not of bytes. -/
def Nb (W : World) (xk : Nat → Prop) : Prop := ∀ x, xk x → ∃ cs t, Blk W x cs t ∧ t ≠ 5 ∧ t ≠ 82
theorem OA.bz {W : World} {B n : Nat} {v : Value} {f : Nat → Int} (h : OA W B v n f) : Bz.Own W B v n f := by
  rcases h with h | ⟨rfl, h2, b, rfl, h4, h5⟩
  · exact .of h
  · refine ⟨h2, 82, .inr ⟨rfl, _, rfl⟩, by simp [bl], .inr ⟨b, 16, (bl 16 f).toArray, rfl, h4, h5, by omega, by simp [maxLen], by simp [bl], ?_⟩⟩
    show List.take 16 (bl 16 f) = bl 16 f
    exact List.take_of_length_le (by simp [bl])
theorem OA.nums {W : World} {B n : Nat} {v : Value} {f : Nat → Int} (h : OA W B v n f) : ∀ i, 0 ≤ f i ∧ f i < 256 := by
  rcases h with h | ⟨_, h2, _⟩
  · exact h.1
  · exact h2
/-- What was told lies apart. -/
theorem RW.apart {W : World} {B m c : Nat} {xk : Nat → Prop} {A : Option Addr} {wv : Value} {tl : List TE} {ws : List Value} (hx : Nb W xk) (h : RW W B (.slice A m c) wv (tl.map (·.a)) ws tl) (hB : B ≤ W.heap.size) (hm : m = tl.length) (h80 : m ≤ 1000) :
    Calls Tryd.prog 10 #[.slice A m c] W fun e w' => e = .returned (.bool true) ∧ By.BX B xk W w' := by
  have hlt : ∀ x, xk x → x < W.heap.size := fun x hs => by obtain ⟨cs, t, hb, _⟩ := hx x hs; exact hb.lt
  by_cases h0 : 0 < m
  case neg =>
    obtain rfl : m = 0 := by omega
    refine (apart0 A c W).mono ?_
    rintro e w' ⟨rfl, rfl⟩
    exact ⟨rfl, By.BX.refl hlt⟩
  obtain ⟨g, rfl⟩ : ∃ g, A = some ⟨g, 0, none⟩ := by
    obtain ⟨q0, hq0⟩ : ∃ q, tl[0]? = some q := ⟨_, List.getElem?_eq_getElem (by omega)⟩
    obtain ⟨g, c', e, _⟩ := rowL_cell h.r3 (show (tl.map (·.a))[0]? = some q0.a from by rw [List.getElem?_map, hq0]; rfl)
    simp only [Value.slice.injEq] at e
    exact ⟨g, e.1⟩
  subst hm
  have gt : ∀ j, j < tl.length → ∃ x ∈ tl, tl[j]? = some x ∧ tl.getD j ⟨.slice none 0 0, .slice none 0 0, 0, fun _ => 0⟩ = x := fun j hj => by
    refine ⟨tl[j], List.getElem_mem hj, List.getElem?_eq_getElem hj, ?_⟩
    rw [List.getD_eq_getElem?_getD, List.getElem?_eq_getElem hj]; rfl
  have hrow := h.r3
  have cellAt : ∀ j, j < tl.length → W.cell? ⟨g, j, none⟩ = some (tl.getD j ⟨.slice none 0 0, .slice none 0 0, 0, fun _ => 0⟩).a := fun j hj => by
    obtain ⟨x, _, hx, ex⟩ := gt j hj
    obtain ⟨g', c', e, hc⟩ := rowL_cell hrow (show (tl.map (·.a))[j]? = some x.a from by rw [List.getElem?_map, hx]; rfl)
    simp only [Value.slice.injEq, Option.some.injEq, Addr.mk.injEq, and_true] at e
    rw [ex]
    rw [← e.1, Nat.zero_add] at hc
    exact hc
  have symm : ∀ i j, i < j → j < tl.length → (tl.getD i ⟨.slice none 0 0, .slice none 0 0, 0, fun _ => 0⟩).a.ownBlock = none ∨ (tl.getD i ⟨.slice none 0 0, .slice none 0 0, 0, fun _ => 0⟩).a.ownBlock ≠ (tl.getD j ⟨.slice none 0 0, .slice none 0 0, 0, fun _ => 0⟩).a.ownBlock := fun i j hij hj => by
    have hp := List.pairwise_iff_getElem.1 h.tl.ap i j (by omega) hj hij
    obtain ⟨x, _, hx, ex⟩ := gt i (by omega)
    obtain ⟨y, _, hy, ey⟩ := gt j hj
    rw [ex, ey]
    rw [List.getElem?_eq_getElem (by omega)] at hx hy
    rw [Option.some.inj hx, Option.some.inj hy] at hp
    exact hp
  refine Bz.apart30z xk B tl.length g c (fun j => (tl.getD j ⟨.slice none 0 0, .slice none 0 0, 0, fun _ => 0⟩).a) (fun j => (tl.getD j ⟨.slice none 0 0, .slice none 0 0, 0, fun _ => 0⟩).n) (fun j => (tl.getD j ⟨.slice none 0 0, .slice none 0 0, 0, fun _ => 0⟩).f) W ⟨fun i j hi hj hne => ?_, fun j hj e => ?_⟩ ⟨fun j hj => ?_, cellAt⟩ (fun j i => ?_) h80 h0 (fun j hj => ?_) hB hlt (fun j hj y hy e => ?_)
  · rcases Nat.lt_or_gt_of_ne hne with h1 | h1
    · exact symm i j h1 hj
    · exact apart_symm (symm j i h1 hi)
  · obtain ⟨x, hm, _, ex⟩ := gt j hj
    have e' : x.a.ownBlock = some g := by rw [← ex]; exact e
    obtain ⟨_, cs, t, hc, ht⟩ := (h.tl.own x hm).1.blk e'
    obtain ⟨cs', hc', _⟩ := rowG_type hrow (show (Value.slice (some ⟨g, 0, none⟩) tl.length c).ownBlock = some g from rfl)
    have := blk_ty hc hc'
    rcases ht with rfl | rfl <;> exact absurd this (by decide)
  · obtain ⟨x, hm, _, ex⟩ := gt j hj
    show Bz.Own W B (tl.getD j _).a (tl.getD j _).n (tl.getD j _).f
    rw [ex]; exact (h.tl.own x hm).1.bz
  · show 0 ≤ (tl.getD j _).f i ∧ (tl.getD j _).f i < 256
    by_cases hj : j < tl.length
    · obtain ⟨x, hm, _, ex⟩ := gt j hj
      rw [ex]; exact (h.tl.own x hm).1.nums i
    · rw [List.getD_eq_getElem?_getD, List.getElem?_eq_none (by omega)]
      show (0 : Int) ≤ 0 ∧ (0 : Int) < 256
      decide
  · obtain ⟨x, hm, _, ex⟩ := gt j hj
    show (tl.getD j _).n ≤ _
    rw [ex]; exact Nat.le_trans (h.tl.sz x hm) (by omega)
  · obtain ⟨x, hm, _, ex⟩ := gt j hj
    have e' : x.a.ownBlock = some y := by rw [← ex]; exact e
    obtain ⟨_, cs, t, hc, ht⟩ := (h.tl.own x hm).1.blk e'
    obtain ⟨cx, t', hb, ht', ht2⟩ := hx y hy
    have := blk_ty hb hc
    rcases ht with rfl | rfl
    · exact ht' this
    · exact ht2 this
section
variable {w0 W W' : World} {av : Nat → Prop} {xb lb mb : Nat} {lv mv tv wv : Value} {cv rv : Nat → Value} {cc : Nat → Nat} {D E : Nat → MD} {L M : List Rn} {ts ws : List Value} {tl : List TE}
/-- The record's block and both ledgers' blocks. -/
def KB (xb lb mb : Nat) (lv mv : Value) (x : Nat) : Prop := x = xb ∨ (x = lb ∨ lv.ownBlock = some x) ∨ x = mb ∨ mv.ownBlock = some x
theorem PSm.nb {X : World → Prop} (h : PSm X w0 av xb lb mb lv mv tv wv cv rv cc D E L M W) : Nb W (KB xb lb mb lv mv) := fun x hx => by
  rcases hx with e | (e | e) | e | e
  · subst e; exact ⟨_, _, h.here, by decide, by decide⟩
  · subst e; exact ⟨_, _, show Blk W _ _ 48 from h.led.here, by decide, by decide⟩
  · obtain ⟨cs, hc⟩ := own_blk h.led.own e; exact ⟨_, _, hc, by decide, by decide⟩
  · subst e; exact ⟨_, _, show Blk W _ _ 50 from h.rled.here, by decide, by decide⟩
  · obtain ⟨cs, hc⟩ := own_blk h.rled.own e; exact ⟨_, _, hc, by decide, by decide⟩
/-- Behind ApartBytes: the record and the ledgers are as they were. -/
structure PE (w0 : World) (xb lb mb : Nat) (lv mv tv wv : Value) (cv rv : Nat → Value) (L M : List Rn) (W : World) : Prop where
  bel : Below w0.heap.size w0 W
  here : Blk W xb (pairM cv rv lb mb tv wv) 36
  led : Led W lb lv L
  rled : RLed W mb mv M
theorem PSm.pe {X : World → Prop} (h : PSm X w0 av xb lb mb lv mv tv wv cv rv cc D E L M W) (hb : By.BX w0.heap.size (KB xb lb mb lv mv) W W') : PE w0 xb lb mb lv mv tv wv cv rv L M W' :=
  have hk := bx_kp hb
  ⟨h.bel.trans hb.bel, h.here.kept hk (fun e => e (.inl rfl)), h.led.kept hk (fun e => e (.inr (.inl (.inl rfl)))) (fun _ hg e => e (.inr (.inl (.inr hg)))), h.rled.kept hk (fun e => e (.inr (.inr (.inl rfl)))) (fun _ hg e => e (.inr (.inr (.inr hg))))⟩
theorem PE.below (h : PE w0 xb lb mb lv mv tv wv cv rv L M W) (hb : Below W.heap.size W W') : PE w0 xb lb mb lv mv tv wv cv rv L M W' := ⟨below_next h.bel hb, h.here.below hb, h.led.below hb, h.rled.below hb⟩
/-- Both sides at the start: no macs yet. -/
theorem SCm.start {w W : World} {lb mb xb : Nat} (hk : KM w) (hb : Below w.heap.size w W) (hl : Led W lb (.slice none 0 0) []) (hm : RLed W mb (.slice none 0 0) []) (hx : Blk W xb (pairM (fun _ => .pointer none) (fun _ => .pointer none) lb mb (.slice none 0 0) (.slice none 0 0)) 36) (h1 : w.heap.size ≤ lb) (h2 : w.heap.size ≤ mb) (h3 : w.heap.size ≤ xb) : SCm w xb lb mb 0 W :=
  ⟨[], .slice none 0 0, .slice none 0 0, .slice none 0 0, .slice none 0 0, fun _ => .pointer none, fun _ => .pointer none, fun _ => 0, fun _ => none, [],
    ⟨hb, hx, h3, h1, h2, hl, hm, fun g hg => by simp [Value.ownBlock] at hg, fun g hg => by simp [Value.ownBlock] at hg, fun g hg => by simp [Value.ownBlock] at hg, fun _ _ => (Or.inl rfl : Nm W _), fun _ _ => (Or.inl rfl : RnM W _), fun _ _ _ e => by simp at e, fun _ _ e => absurd rfl e, fun _ _ _ e => by simp at e, fun _ _ _ _ _ _ e => by simp at e, fun _ _ _ _ _ e => absurd rfl e, fun _ _ _ _ _ _ e => by simp at e, hk, RX.exk, ⟨World.ownsRow_nil _ _ _ _, World.ownsRow_nil _ _ _ _, fun g hg => by simp [Value.ownBlock] at hg, ⟨fun q hq => by simp at hq, List.Pairwise.nil, fun q hq => by simp at hq⟩⟩⟩,
    Nat.le_refl _, ⟨hl.pos, by show (0 : Int) ≤ 1000 * ((0 : Nat) : Int); omega, Nat.le_refl _⟩, fun _ _ => Nat.le_refl 0⟩
theorem SCm.bel {T : Nat} (h : SCm w0 xb lb mb T W) : Below w0.heap.size w0 W := by
  obtain ⟨_, _, _, _, _, _, _, _, _, _, h, _⟩ := h; exact h.bel
theorem SCm.below {T : Nat} (h : SCm w0 xb lb mb T W) (hb : Below W.heap.size W W') : SCm w0 xb lb mb T W' := by
  obtain ⟨tl, lv, mv, tv, wv, cv, rv, cc, D, L, h, h1, h2, h3⟩ := h
  exact ⟨tl, lv, mv, tv, wv, cv, rv, cc, D, L, h.below hb, h1, h2, h3⟩
theorem SCm.cells {T : Nat} (h : SCm w0 xb lb mb T W) : W.cell? ⟨xb, 4, none⟩ = some (.pointer (some ⟨lb, 0, none⟩)) ∧ W.cell? ⟨xb, 5, none⟩ = some (.pointer (some ⟨mb, 0, none⟩)) := by
  obtain ⟨tl, lv, mv, tv, wv, cv, rv, cc, D, L, h, _⟩ := h
  exact ⟨h.here.cell 4 _ rfl, h.here.cell 5 _ rfl⟩
end
theorem SCm.make2 {w0 W : World} {xb lb mb T : Nat} (h : SCm w0 xb lb mb T W) (hT : T ≤ 100) (k : Nat) (hk2 : k < 2) (kk : Int) (ek : (k : Int) = kk) (pa : Option Addr) (pn pc : Nat) (f : Nat → Nat) (hp : ∀ V, Below w0.heap.size w0 V → By.RB V (.slice pa pn pc) pn (cb f)) (hpn : pn ≤ 140737488351232) :
    Calls Tryd.prog 7 #[.pointer (some ⟨xb, 0, none⟩), .int .i64 kk, .slice pa pn pc, .pointer (some ⟨lb, 0, none⟩), .pointer (some ⟨mb, 0, none⟩)] W fun e w' => e = .returned (.bool true) ∧ SCm w0 xb lb mb (T + 1) w' := by
  subst ek
  obtain ⟨tl, lv, mv, tv, wv, cv, rv, cc, D, L, h, h1, h2, h3⟩ := h
  refine (h.make k hk2 pa pn pc f hp hpn false h2.pos (h2.room (by omega)).2.2 (fun _ hx => hx.elim) h.yg).mono ?_
  rintro e w' ⟨rfl, ⟨lv', mv', cv', rv', cc', D', h', hD⟩, _⟩
  exact ⟨rfl, tl, lv', mv', tv, wv, cv', rv', cc', D', _, h', by omega, Lt.sel false h2 (lt_nw h2 hT _), fun i hi => by have := hD i hi; have := h3 i hi; omega⟩
theorem nb0 : ∀ i : Nat, (0 : Int) ≤ cb (fun _ : Nat => 0) i ∧ cb (fun _ : Nat => 0) i < 256 := fun _ => ⟨Int.le_refl 0, by show (0 : Int) < 256; decide⟩
set_option maxRecDepth 4000 in
set_option maxHeartbeats 8000000 in
theorem script_walk (a1 : Option Addr) (n1 c1 : Nat) (f1 : Nat → Nat) (a2 : Option Addr) (n2 c2 : Nat) (f2 : Nat → Nat) (A : Option Addr) (bb off m cap : Nat) (hA : 0 < m → A = some ⟨bb, off, none⟩) (a : Nat → AE) (w : World) (hk : KM w) (h1 : ∀ W, Below w.heap.size w W → By.RB W (.slice a1 n1 c1) n1 (cb f1)) (h2 : ∀ W, Below w.heap.size w W → By.RB W (.slice a2 n2 c2) n2 (cb f2)) (hn1 : n1 ≤ 140737488351232) (hn2 : n2 ≤ 140737488351232) (hs : ∀ W, Below w.heap.size w W → Scr W bb off m a) (hm : m ≤ cap) (hcap : cap ≤ maxLen) (hpn : ∀ i, i < m → (a i).kn ≤ 140737488351232 ∧ (a i).dn ≤ 140737488351232) (hp : ∀ i, i < m → ∀ W, Below w.heap.size w W → By.RB W (.slice (a i).ka (a i).kn (a i).kc) (a i).kn (cb (a i).fk) ∧ By.RB W (.slice (a i).da (a i).dn (a i).dc) (a i).dn (cb (a i).fd)) :
    Calls Tryd.prog 3 #[.slice a1 n1 c1, .slice a2 n2 c2, .slice A m cap] w fun e w' => e = .returned (.bool true) ∧ Below w.heap.size w w' := by
  have HS := hid hs
  have HAA := hid hA
  have HK := hid hk
  have HPN := hid hpn
  have HP := hid hp
  have HC := hid hcap
  have HR1 := hid h1
  have HR2 := hid h2
  clear hs hA hk hpn hp hcap h1 h2
  by_cases hm100 : 60 < m
  · go_enter Tryd.func3, Tryd.ntmps3
    go_wp2
    go_ret
    exact ⟨rfl, Below.refl _ _⟩
  have hm100' : ¬ (60 : Int) < (m : Int) := by omega
  go_enter Tryd.func3, Tryd.ntmps3
  go_wp2_with fail
  refine (long1 A bb off m cap HAA.out a w (HS.out w (Below.refl _ _)) (by omega) (fun i hi => Nat.le_trans (HPN.out i hi).2 (by omega))).mono ?_
  rintro e w1 ⟨⟨y, rfl, hy⟩, rfl⟩
  cases y with
  | true =>
    go_wp2
    go_ret
    exact ⟨rfl, Below.refl _ _⟩
  | false =>
  have H4 := hid (hy rfl)
  clear hy
  go_wp2_with fail
  refine (new9 w1).mono ?_
  rintro e w2 ⟨rfl, hl2, hb2⟩
  have L2 := hid hl2
  have B2 := hid hb2
  clear hl2 hb2
  go_wp2_with fail
  refine (refNew10 w2).mono ?_
  rintro e w3 ⟨rfl, hm3, hb3⟩
  have L3 := hid (L2.out.below hb3)
  have M3 := hid hm3
  have B3 := hid (below_next B2.out hb3)
  clear hm3 hb3
  go_wp2_with fail
  have X4 := hid (Blk.new w3 [.pointer none, .pointer none, .pointer none, .pointer none, .pointer (some ⟨w1.heap.size, 0, none⟩), .pointer (some ⟨w2.heap.size, 0, none⟩), .slice none 0 0, .slice none 0 0] 36)
  have L4 := hid (L3.out.below (below_alloc w3 (.cells #[.pointer none, .pointer none, .pointer none, .pointer none, .pointer (some ⟨w1.heap.size, 0, none⟩), .pointer (some ⟨w2.heap.size, 0, none⟩), .slice none 0 0, .slice none 0 0] 36)))
  have M4 := hid (M3.out.below (below_alloc w3 (.cells #[.pointer none, .pointer none, .pointer none, .pointer none, .pointer (some ⟨w1.heap.size, 0, none⟩), .pointer (some ⟨w2.heap.size, 0, none⟩), .slice none 0 0, .slice none 0 0] 36)))
  have B4 := hid (below_next B3.out (below_alloc w3 (.cells #[.pointer none, .pointer none, .pointer none, .pointer none, .pointer (some ⟨w1.heap.size, 0, none⟩), .pointer (some ⟨w2.heap.size, 0, none⟩), .slice none 0 0, .slice none 0 0] 36)))
  have Z1 : Hid (w1.heap.size ≤ w1.heap.size ∧ w1.heap.size ≤ w2.heap.size ∧ w1.heap.size ≤ w3.heap.size) := ⟨Nat.le_refl _, B2.out.size, B3.out.size⟩
  obtain ⟨mb, hmb⟩ : ∃ x, w2.heap.size = x := ⟨_, rfl⟩
  obtain ⟨w4, hw4⟩ : ∃ x, w3.alloc (.cells #[.pointer none, .pointer none, .pointer none, .pointer none, .pointer (some ⟨w1.heap.size, 0, none⟩), .pointer (some ⟨mb, 0, none⟩), .slice none 0 0, .slice none 0 0] 36) = x := ⟨_, rfl⟩
  obtain ⟨xb, hxb⟩ : ∃ x, w3.heap.size = x := ⟨_, rfl⟩
  rw [hmb, hw4] at B4 L4 M4
  rw [hmb] at X4
  have X4' : Hid (Blk w4 xb [.pointer none, .pointer none, .pointer none, .pointer none, .pointer (some ⟨w1.heap.size, 0, none⟩), .pointer (some ⟨mb, 0, none⟩), .slice none 0 0, .slice none 0 0] 36) := by rw [← hw4, ← hxb]; exact X4.out
  rw [hmb, hxb] at Z1
  rw [hmb, hw4, hxb]
  clear hmb hw4 hxb L3 M3 B3 B2 L2 X4
  have P4 := hid (SCm.start (w := w1) (W := w4) (lb := w1.heap.size) HK.out B4.out L4.out M4.out X4'.out Z1.out.1 Z1.out.2.1 Z1.out.2.2)
  clear X4' L4 M4 B4 Z1
  obtain ⟨lb, hlb⟩ : ∃ x, w1.heap.size = x := ⟨_, rfl⟩
  have P4 : Hid (SCm w1 xb lb mb 0 w4) := by rw [← hlb]; exact P4.out
  rw [hlb]
  clear hlb
  have c4 := P4.out.cells.1
  have c5 := P4.out.cells.2
  have P4d := hid (P4.out.below (W' := w4.drew) (below_drewN w4 1))
  go_region_held3 (fun W' => W'.cell? ⟨xb, 4, none⟩ = some (.pointer (some ⟨lb, 0, none⟩)) ∧ W'.cell? ⟨xb, 5, none⟩ = some (.pointer (some ⟨mb, 0, none⟩))) (go_keep) (first
    | (go_at_call 7; go_must (first
      | ((with_reducible refine (P5.out.make2 (by omega) 1 (by decide) 1 rfl a2 n2 c2 f2 HR2.out hn2).mono ?_); rintro e w6 ⟨rfl, hP6⟩; have P6 := hid hP6; have e4 := hP6.cells.1; have e5 := hP6.cells.2; clear hP6)
      | ((with_reducible refine (P4d.out.make2 (by omega) 0 (by decide) 0 rfl a1 n1 c1 f1 HR1.out hn1).mono ?_); rintro e w5 ⟨rfl, hP5⟩; have P5 := hid hP5; have d4 := hP5.cells.1; have d5 := hP5.cells.2; clear hP5))))
  clear P4 P4d P5 c4 c5 d4 d5 e4 e5
  go_wp2_with fail
  go_loopw [8] (fun i wr => ∃ j : Nat, j ≤ m ∧ i = .int .i64 j ∧ SCm w1 xb lb mb (2 + j) wr) (fun i _ => m - (intOf i).toNat)
  case atStart => exact ⟨0, Nat.zero_le _, rfl, P6.out⟩
  case round =>
    clear P6
    obtain ⟨j, hj, rfl, hP⟩ := hrel
    have P := hid hP
    clear hP
    by_cases hlt : j < m
    · obtain rfl := HAA.out (by omega)
      obtain ⟨d0, d1, d2, d3, d4⟩ := HS.out wr P.out.bel j hlt
      have hpk := hid (HP.out j hlt)
      have hpl := hid (HPN.out j hlt)
      have h4k := hid (H4.out j hlt)
      obtain ⟨q, hq⟩ : ∃ q, a j = q := ⟨_, rfl⟩
      rw [hq] at d0 d1 d2 d3 d4 hpk hpl h4k
      clear hq
      go_wp2_with fail
      refine (actAny (2 + j) (by omega) P.out q.on q.kd q.ka q.da q.kn q.kc q.dn q.dc q.mute q.fk q.fd (fun V hV => (hpk.out V hV).1) (fun V hV => (hpk.out V hV).2) hpl.out.1 h4k.out).mono ?_
      rintro e w7 ⟨rfl, hP'⟩
      have P' := hid hP'
      clear hP' P d0 d1 d2 d3 d4
      go_wp2_with fail
      exact ⟨⟨j + 1, by omega, by go_num, by have := P'.out; rw [show 2 + (j + 1) = 2 + j + 1 by omega]; exact this⟩, by simp [intOf]; omega⟩
    · have ej : j = m := by omega
      subst ej
      have P0 : Hid (SCm w1 xb lb mb (2 + j + 2 * 0) wr) := P.out
      clear P
      go_wp2_with fail
      go_loopw [9] (fun i wq => ∃ u : Nat, u ≤ 2 ∧ i = .int .i64 u ∧ SCm w1 xb lb mb (2 + j + 2 * u) wq) (fun i _ => 2 - (intOf i).toNat)
      case atStart => exact ⟨0, by omega, rfl, P0.out⟩
      case round =>
        clear P0
        obtain ⟨u, hu, rfl, hP⟩ := hrel
        have P := hid hP
        clear hP
        by_cases hu2 : u < 2
        · have hu3 : (u : Int) < 2 := by omega
          have NB : Hid (∀ V, Below w1.heap.size w1 V → By.RB V (.slice none 0 0) 0 (cb (fun _ => 0))) := fun V _ => (By.own_nil V 0 (cb (fun _ => 0)) nb0).reads
          go_wp2_with fail
          refine (actAny (2 + j + 2 * u) (by omega) P.out u 5 none none 0 0 0 0 false (fun _ => 0) (fun _ => 0) NB.out NB.out (by omega) (by omega)).mono ?_
          rintro e x1 ⟨rfl, hP'⟩
          have P1 := hid hP'
          clear hP'
          go_wp2_with fail
          refine (actAny (2 + j + 2 * u + 1) (by omega) P1.out u 1 none none 0 0 0 0 false (fun _ => 0) (fun _ => 0) NB.out NB.out (by omega) (by omega)).mono ?_
          rintro e x2 ⟨rfl, hP'⟩
          have P2 := hid hP'
          clear hP'
          go_wp2_with fail
          exact ⟨⟨u + 1, by omega, by go_num, by have := P2.out; rw [show 2 + j + 2 * (u + 1) = 2 + j + 2 * u + 1 + 1 by omega]; exact this⟩, by simp [intOf]; omega⟩
        · have hu3 : ¬ (u : Int) < 2 := by omega
          obtain ⟨tl, lv, mv, tv, wv, cv, rv, cc, D, L, hPS, htl, hLt, hmd⟩ := P.out
          clear P
          have P := hid hPS
          have HT := hid htl
          have HLT := hid hLt
          clear hPS htl hLt hmd
          obtain ⟨tn, htn⟩ : ∃ x, tl.length = x := ⟨_, rfl⟩
          have R3 : Hid (wr.ownsRow w1.heap.size 22 1 tv tn (tl.map (·.a))) := by have := P.out.ex.r3; rw [List.length_map, htn] at this; exact this
          have R4 : Hid (wr.ownsRow w1.heap.size 22 1 wv tn (tl.map (·.b))) := by have := P.out.ex.r4; rw [List.length_map, htn] at this; exact this
          obtain ⟨ta, tc, rfl⟩ := rowG_slice R3.out
          obtain ⟨wa, wc, rfl⟩ := rowG_slice R4.out
          have HTN := hid htn
          have htk : tn ≤ 106 := by have := HT.out; omega
          clear R3 R4 htn
          go_wp2_with fail
          go_loopw [10] (fun i wq => ∃ y : Nat, y ≤ tn ∧ i = .int .i64 y ∧ PSm (RX w1 (.slice ta tn tc) (.slice wa tn wc) (tl.map (·.a)) (tl.map (·.b)) tl) w1 av0 xb lb mb lv mv (.slice ta tn tc) (.slice wa tn wc) cv rv cc D D L L wq) (fun i _ => tn - (intOf i).toNat)
          case atStart => exact ⟨0, Nat.zero_le _, rfl, P.out⟩
          case round =>
            clear P
            obtain ⟨y, hy, rfl, hP⟩ := hrel
            have P := hid hP
            have c6 := hP.here.cell 6 _ rfl
            have c7 := hP.here.cell 7 _ rfl
            clear hP
            by_cases hyt : y < tn
            · obtain ⟨q, hq⟩ : ∃ q, tl[y]? = some q := ⟨_, List.getElem?_eq_getElem (by have := HTN.out; omega)⟩
              have hqm := P.out.ex.tl.own q (List.mem_of_getElem? hq)
              obtain ⟨ga, gc, e1, hc1⟩ := rowL_cell P.out.ex.r3 (show (tl.map (·.a))[y]? = some q.a from by rw [List.getElem?_map, hq]; rfl)
              obtain ⟨gb, gd, e2, hc2⟩ := rowL_cell P.out.ex.r4 (show (tl.map (·.b))[y]? = some q.b from by rw [List.getElem?_map, hq]; rfl)
              simp only [Value.slice.injEq] at e1 e2
              obtain ⟨rfl, -, rfl⟩ := e1
              obtain ⟨rfl, -, rfl⟩ := e2
              rw [Nat.zero_add] at hc1 hc2
              have OA := hid hqm.1
              have OB := hid hqm.2
              have HN : Hid (q.n ≤ 140737488355999) := Nat.le_trans (P.out.ex.tl.sz q (List.mem_of_getElem? hq)) (by omega)
              clear hqm hq
              go_wp2_with fail
              go_region_held3 (fun W' => W'.cell? ⟨xb, 6, none⟩ = some (.slice (some ⟨ga, 0, none⟩) tn tc) ∧ W'.cell? ⟨xb, 7, none⟩ = some (.slice (some ⟨gb, 0, none⟩) tn wc) ∧ W'.cell? ⟨ga, y, none⟩ = some q.a ∧ W'.cell? ⟨gb, y, none⟩ = some q.b) (go_keep) (first | (go_at_call 9; go_must (refine (same_true _ _ q.n q.f q.f _ (OA.out.reads.drewN 1) (OB.out.reads.drewN 1) HN.out (fun _ _ => rfl)).mono ?_; rintro e wz ⟨rfl, dz, rfl⟩)))
              go_wp2_with fail
              exact ⟨⟨y + 1, by omega, by go_num, P.out.below (below_drewN _ _)⟩, by simp [intOf]; omega⟩
            · have ey : y = tn := by omega
              subst ey
              clear hyt
              have c4 := P.out.here.cell 4 _ rfl
              have c5 := P.out.here.cell 5 _ rfl
              have HLn : Hid (L.length * 24 ≤ 140737488355328) := by have := HLT.out.ln; show L.length * 24 ≤ _; omega
              have HM8 : Hid (y ≤ 1000) := by show y ≤ 1000; omega
              go_wp2_with fail
              go_region_held3 (fun W' => W'.cell? ⟨xb, 4, none⟩ = some (.pointer (some ⟨lb, 0, none⟩)) ∧ W'.cell? ⟨xb, 5, none⟩ = some (.pointer (some ⟨mb, 0, none⟩)) ∧ W'.cell? ⟨xb, 6, none⟩ = some (.slice ta y tc)) (go_keep) (first
                | (go_at_call 10; go_must (refine (RW.apart (xk := KB xb lb mb lv mv) (tl := tl) (P.out.below (below_drewN _ 1)).nb (P.out.below (below_drewN _ 1)).ex (P.out.below (below_drewN _ 1)).size HTN.out.symm HM8.out).mono ?_; rintro e wa' ⟨rfl, hba⟩; have PA := hid ((P.out.below (below_drewN _ 1)).pe hba); have a4 := PA.out.here.cell 4 _ rfl; have a5 := PA.out.here.cell 5 _ rfl; have a6 := PA.out.here.cell 6 _ rfl; clear hba))
                | (go_at_call 12; go_must (refine (runs22 lb lv L _ PA.out.led HLn.out).mono ?_; rintro e wb' ⟨ua, rfl, hua, hbb⟩; have PB := hid (PA.out.below hbb); have UA := hid hua; have b4 := PB.out.here.cell 4 _ rfl; have b5 := PB.out.here.cell 5 _ rfl; have b6 := PB.out.here.cell 6 _ rfl; clear hua hbb))
                | (go_at_call 13; go_must (refine (refRuns20 mb mv L _ PB.out.rled HLn.out).mono ?_; rintro e wc' ⟨ub, rfl, hub, hbc⟩; have PC := hid (PB.out.below hbc); have UB := hid hub; have UA2 := hid (UA.out.below hbc); have e4 := PC.out.here.cell 4 _ rfl; have e5 := PC.out.here.cell 5 _ rfl; have e6 := PC.out.here.cell 6 _ rfl; clear hub hbc))
                | (go_at_call 11; go_must (refine (same14 _ _ L L _ UA2.out.reads UB.out.reads (by have := HLn.out; omega) (by have := HLn.out; omega)).mono ?_; rw [decide_eq_true rfl]; rintro e wd' ⟨rfl, dd, rfl⟩; have PD := hid (PC.out.below (below_drewN wc' dd)))))
              go_wp2_with fail
              go_ret
              exact ⟨rfl, PD.out.bel⟩
end Go.Proofs.YtbgdjjfonmoemaaDoor.Vm
