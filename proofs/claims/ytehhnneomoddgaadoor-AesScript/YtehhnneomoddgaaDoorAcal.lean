/- The statement AesScript, walked. -/
import Derived.Test.YtehhnneomoddgaaDoorAact7
import Derived.Test.YtehhnneomoddgaaDoorAscr
import Derived.Test.YtehhnneomoddgaaDoorYt
import Derived.Test.YtehhnneomoddgaaDoorYi
import Derived.Deep.RegionHeld3
namespace Go.Proofs.YtehhnneomoddgaaDoor.Ae
open Go.ChangeShapes Go.WideShapes Go.ChangeAt Go.RowKit
open Go.Proofs.YtehhnneomoddgaaDoor.By Go.Proofs.YtehhnneomoddgaaDoor.Gf
open Go.Proofs.YtehhnneomoddgaaDoor.Kc (own_kept own_mono own8_type)
theorem rowL_cell {w : World} {base n i : Nat} {v x : Value} {xs : List Value} (h : w.ownsRow base 22 1 v n xs) (hi : xs[i]? = some x) : ∃ g cap, v = .slice (some ⟨g, 0, none⟩) n cap ∧ w.cell? ⟨g, 0 + i, none⟩ = some x := by
  obtain ⟨hl, h | ⟨g, cap, cur, e, hb, hc, h1, h2, h3, h4⟩⟩ := h
  · have := h.2
    simp_all
  · refine ⟨g, cap, e, ?_⟩
    rw [Nat.zero_add, cell_of_row w g i cur 22 (0, 0) hc]
    rw [← h4, List.getElem?_take] at hi
    split at hi
    · simpa using hi
    · cases hi

set_option maxHeartbeats 1000000 in
/-- No lists lie apart. -/
theorem apart0 (A : Option Addr) (cap : Nat) (w : World) : Calls Tryd.prog 9 #[.slice A 0 cap] w fun e w' => e = .returned (.bool true) ∧ w' = w := by
  go_enter Tryd.func9, Tryd.ntmps9
  go_wp2_with fail
  go_loopw [3] (fun x wr => x = .int .i64 0 ∧ wr = w) (fun _ _ => 0)
  case atStart => exact ⟨rfl, rfl⟩
  case round =>
    obtain ⟨rfl, rfl⟩ := hrel
    go_wp2_with fail
    go_loopw [5, 6] (fun g x wq => g = .slice none 0 0 ∧ x = .int .i64 0 ∧ wq = wr) (fun _ _ _ => 0)
    case atStart => exact ⟨rfl, rfl, rfl⟩
    case round =>
      obtain ⟨rfl, rfl, rfl⟩ := hrel
      go_wp2_with fail
      go_loopw [9] (fun x wz => x = .int .i64 0 ∧ wz = wr) (fun _ _ => 0)
      case atStart => exact ⟨rfl, rfl⟩
      case round =>
        obtain ⟨rfl, rfl⟩ := hrel
        go_wp2
        go_ret
        exact ⟨rfl, rfl⟩
theorem bx_kp {base : Nat} {xk : Nat → Prop} {W W' : World} (h : By.BX base xk W W') : Kp (fun j => ¬ xk j) W W' := ⟨h.bel.os, h.bel.tape, h.bel.output, h.bel.size, fun k _ hn => h.same k (Classical.not_not.1 hn)⟩
/-- Blocks of ledgers and the record, not of bytes. -/
def Nb (W : World) (xk : Nat → Prop) : Prop := ∀ x, xk x → ∃ cs t, Blk W x cs t ∧ t ≠ 5
/-- What was told lies apart. -/
theorem RW.apart {W : World} {B m c : Nat} {xk : Nat → Prop} {A : Option Addr} {wv : Value} {tl : List TE} {ws : List Value} (hx : Nb W xk) (h : RW W B (.slice A m c) wv (tl.map (·.a)) ws tl) (hB : B ≤ W.heap.size) (hm : m = tl.length) (h80 : m ≤ 1000) :
    Calls Tryd.prog 9 #[.slice A m c] W fun e w' => e = .returned (.bool true) ∧ By.BX B xk W w' := by
  have hlt : ∀ x, xk x → x < W.heap.size := fun x hs => by obtain ⟨cs, t, hb, _⟩ := hx x hs; exact hb.lt
  by_cases h0 : 0 < m
  case neg =>
    obtain rfl : m = 0 := by omega
    refine (Ae.apart0 A c W).mono ?_
    rintro e w' ⟨rfl, rfl⟩
    exact ⟨rfl, By.BX.refl hlt⟩
  obtain ⟨g, rfl⟩ : ∃ g, A = some ⟨g, 0, none⟩ := by
    obtain ⟨q0, hq0⟩ : ∃ q, tl[0]? = some q := ⟨_, List.getElem?_eq_getElem (by omega)⟩
    obtain ⟨g, c', e, _⟩ := rowL_cell h.r3 (show (tl.map (·.a))[0]? = some q0.a from by rw [List.getElem?_map, hq0]; rfl)
    simp only [Value.slice.injEq] at e
    exact ⟨g, e.1⟩
  subst hm
  have gt : ∀ j, j < tl.length → ∃ x ∈ tl, tl[j]? = some x ∧ tl.getD j ⟨.slice none 0 0, .slice none 0 0, 0, fun _ => 0⟩ = x := fun j hj => by
    refine ⟨tl[j], List.getElem_mem hj, List.getElem?_eq_getElem hj, ?_⟩
    rw [List.getD_eq_getElem?_getD, List.getElem?_eq_getElem hj]; rfl
  have hrow := h.r3
  have cellAt : ∀ j, j < tl.length → W.cell? ⟨g, j, none⟩ = some (tl.getD j ⟨.slice none 0 0, .slice none 0 0, 0, fun _ => 0⟩).a := fun j hj => by
    obtain ⟨x, _, hx, ex⟩ := gt j hj
    obtain ⟨g', c', e, hc⟩ := rowL_cell hrow (show (tl.map (·.a))[j]? = some x.a from by rw [List.getElem?_map, hx]; rfl)
    simp only [Value.slice.injEq, Option.some.injEq, Addr.mk.injEq, and_true] at e
    rw [ex]
    rw [← e.1, Nat.zero_add] at hc
    exact hc
  have symm : ∀ i j, i < j → j < tl.length → (tl.getD i ⟨.slice none 0 0, .slice none 0 0, 0, fun _ => 0⟩).a.ownBlock = none ∨ (tl.getD i ⟨.slice none 0 0, .slice none 0 0, 0, fun _ => 0⟩).a.ownBlock ≠ (tl.getD j ⟨.slice none 0 0, .slice none 0 0, 0, fun _ => 0⟩).a.ownBlock := fun i j hij hj => by
    have hp := List.pairwise_iff_getElem.1 h.tl.ap i j (by omega) hj hij
    obtain ⟨x, _, hx, ex⟩ := gt i (by omega)
    obtain ⟨y, _, hy, ey⟩ := gt j hj
    rw [ex, ey]
    rw [List.getElem?_eq_getElem (by omega)] at hx hy
    rw [Option.some.inj hx, Option.some.inj hy] at hp
    exact hp
  refine By.apart30z xk B tl.length g c (fun j => (tl.getD j ⟨.slice none 0 0, .slice none 0 0, 0, fun _ => 0⟩).a) (fun j => (tl.getD j ⟨.slice none 0 0, .slice none 0 0, 0, fun _ => 0⟩).n) (fun j => (tl.getD j ⟨.slice none 0 0, .slice none 0 0, 0, fun _ => 0⟩).f) W ⟨fun i j hi hj hne => ?_, fun j hj e => ?_⟩ ⟨fun j hj => ?_, cellAt⟩ (fun j i => ?_) h80 h0 (fun j hj => ?_) hB hlt (fun j hj y hy e => ?_)
  · rcases Nat.lt_or_gt_of_ne hne with h1 | h1
    · exact symm i j h1 hj
    · exact apart_symm (symm j i h1 hi)
  · obtain ⟨x, hm, _, ex⟩ := gt j hj
    have e' : x.a.ownBlock = some g := by rw [← ex]; exact e
    obtain ⟨cs, hc⟩ := own8_type (h.tl.own x hm).1 e'
    obtain ⟨_, hn | ⟨g', cap', cur, e2, _, hc2, _⟩⟩ := hrow
    · have := hn.1; cases this
    · simp only [Value.slice.injEq, Option.some.injEq, Addr.mk.injEq, and_true] at e2
      rw [← e2.1, hc] at hc2
      simp only [Option.some.injEq, Obj.cells.injEq] at hc2
      exact absurd hc2.2.1 (by decide)
  · obtain ⟨x, hm, _, ex⟩ := gt j hj
    show By.Own W B (tl.getD j _).a (tl.getD j _).n (tl.getD j _).f
    rw [ex]; exact (h.tl.own x hm).1
  · show 0 ≤ (tl.getD j _).f i ∧ (tl.getD j _).f i < 256
    by_cases hj : j < tl.length
    · obtain ⟨x, hm, _, ex⟩ := gt j hj
      rw [ex]; exact (h.tl.own x hm).1.1 i
    · rw [List.getD_eq_getElem?_getD, List.getElem?_eq_none (by omega)]
      show (0 : Int) ≤ 0 ∧ (0 : Int) < 256
      decide
  · obtain ⟨x, hm, _, ex⟩ := gt j hj
    show (tl.getD j _).n ≤ _
    rw [ex]; exact Nat.le_trans (h.tl.sz x hm) (by omega)
  · obtain ⟨x, hm, _, ex⟩ := gt j hj
    have e' : x.a.ownBlock = some y := by rw [← ex]; exact e
    obtain ⟨cs, hc⟩ := own8_type (h.tl.own x hm).1 e'
    obtain ⟨cx, t, hb, ht⟩ := hx y hy
    have := Option.some.inj (hb.symm.trans hc)
    simp only [Obj.cells.injEq] at this
    exact ht this.2.1
section
variable {w0 W W' : World} {xb lb mb : Nat} {lv mv tv wv : Value} {cv rv : Nat → Value} {D E : Nat → KD} {L M : List Rn} {ts ws : List Value} {tl : List TE}
/-- The record's block and both ledgers' blocks. -/
def KB (xb lb mb : Nat) (lv mv : Value) (x : Nat) : Prop := x = xb ∨ (x = lb ∨ lv.ownBlock = some x) ∨ x = mb ∨ mv.ownBlock = some x
theorem PS.nb {X : World → Prop} (h : PS X w0 xb lb mb lv mv tv wv cv rv D E L M W) : Nb W (KB xb lb mb lv mv) := fun x hx => by
  rcases hx with e | (e | e) | e | e
  · subst e; exact ⟨_, _, h.here, by decide⟩
  · subst e; exact ⟨_, _, show Blk W _ _ 47 from h.led.here, by decide⟩
  · obtain ⟨cs, hc⟩ := own_blk h.led.own e; exact ⟨_, _, hc, by decide⟩
  · subst e; exact ⟨_, _, show Blk W _ _ 49 from h.rled.here, by decide⟩
  · obtain ⟨cs, hc⟩ := own_blk h.rled.own e; exact ⟨_, _, hc, by decide⟩
/-- Behind ApartBytes: the record and the ledgers are as they were. -/
structure PE (w0 : World) (xb lb mb : Nat) (lv mv tv wv : Value) (cv rv : Nat → Value) (L M : List Rn) (W : World) : Prop where
  bel : Below w0.heap.size w0 W
  here : Blk W xb (pairC cv rv lb mb tv wv) 35
  led : Led W lb lv L
  rled : RLed W mb mv M
theorem PS.pe {X : World → Prop} (h : PS X w0 xb lb mb lv mv tv wv cv rv D E L M W) (hb : By.BX w0.heap.size (KB xb lb mb lv mv) W W') : PE w0 xb lb mb lv mv tv wv cv rv L M W' :=
  have hk := bx_kp hb
  ⟨h.bel.trans hb.bel, h.here.kept hk (fun e => e (.inl rfl)), h.led.kept hk (fun e => e (.inr (.inl (.inl rfl)))) (fun _ hg e => e (.inr (.inl (.inr hg)))), h.rled.kept hk (fun e => e (.inr (.inr (.inl rfl)))) (fun _ hg e => e (.inr (.inr (.inr hg))))⟩
theorem PE.below (h : PE w0 xb lb mb lv mv tv wv cv rv L M W) (hb : Below W.heap.size W W') : PE w0 xb lb mb lv mv tv wv cv rv L M W' := ⟨below_next h.bel hb, h.here.below hb, h.led.below hb, h.rled.below hb⟩
/-- Both sides at the start: no ciphers yet. -/
theorem PS.start {w W : World} {lb mb xb : Nat} (hk : KM w) (hu : KU w) (hb : Below w.heap.size w W) (hl : Led W lb (.slice none 0 0) []) (hm : RLed W mb (.slice none 0 0) []) (hx : Blk W xb (pairC (fun _ => .pointer none) (fun _ => .pointer none) lb mb (.slice none 0 0) (.slice none 0 0)) 35) (h1 : w.heap.size ≤ lb) (h2 : w.heap.size ≤ mb) (h3 : w.heap.size ≤ xb) :
    PS (RX w (.slice none 0 0) (.slice none 0 0) (([] : List TE).map (·.a)) (([] : List TE).map (·.b)) []) w xb lb mb (.slice none 0 0) (.slice none 0 0) (.slice none 0 0) (.slice none 0 0) (fun _ => .pointer none) (fun _ => .pointer none) (fun _ => none) (fun _ => none) [] [] W :=
  ⟨hb, hx, h3, h1, h2, hl, hm, fun g hg => by simp [Value.ownBlock] at hg, fun g hg => by simp [Value.ownBlock] at hg, fun g hg => by simp [Value.ownBlock] at hg, fun _ _ => .inl rfl, fun _ _ => .inl rfl, fun _ _ _ e => by simp at e, fun _ _ _ e => by simp at e, fun _ e => by simp at e, fun _ e => by simp at e, hk, hu, RX.exk, ⟨World.ownsRow_nil _ _ _ _, World.ownsRow_nil _ _ _ _, fun g hg => by simp [Value.ownBlock] at hg, ⟨fun q hq => by simp at hq, List.Pairwise.nil, fun q hq => by simp at hq⟩⟩⟩
end
theorem nb0 : ∀ i : Nat, (0 : Int) ≤ (fun _ : Nat => (0 : Int)) i ∧ (fun _ : Nat => (0 : Int)) i < 256 := fun _ => ⟨Int.le_refl 0, by show (0 : Int) < 256; decide⟩
theorem PS.make2 {w0 W : World} {xb lb mb : Nat} {lv mv tv wv : Value} {cv rv : Nat → Value} {D : Nat → KD} {L : List Rn} {tl : List TE} (h : PS (RX w0 tv wv (tl.map (·.a)) (tl.map (·.b)) tl) w0 xb lb mb lv mv tv wv cv rv D D L L W) (k : Nat) (hk2 : k < 2) (kk : Int) (ek : (k : Int) = kk) (pa : Option Addr) (pn pc : Nat) (f : Nat → Int) (hp : ∀ V, Below w0.heap.size w0 V → By.RB V (.slice pa pn pc) pn f) (hpn : pn ≤ 140737488351232) (hroom : tot L ≤ 1000) :
    Calls Tryd.prog 6 #[.pointer (some ⟨xb, 0, none⟩), .int .i64 kk, .slice pa pn pc, .pointer (some ⟨lb, 0, none⟩), .pointer (some ⟨mb, 0, none⟩)] W fun e w' => e = .returned (.bool true) ∧ ∃ lv' mv' cv' rv' D' L', PS (RX w0 tv wv (tl.map (·.a)) (tl.map (·.b)) tl) w0 xb lb mb lv' mv' tv wv cv' rv' D' D' L' L' w' ∧ tot L' ≤ tot L + 1 := by
  subst ek
  refine (h.make k hk2 pa pn pc f (hp _ h.bel).1 hp hpn false (room_tot h.led.pos (by omega)) h.yg).mono ?_
  rintro e w' ⟨rfl, lv', mv', cv', rv', D', h'⟩
  exact ⟨rfl, lv', mv', cv', rv', D', _, h', more_N h.led.pos (by omega) _ false⟩
set_option maxRecDepth 4000 in
set_option maxHeartbeats 8000000 in
theorem script_walk (a1 : Option Addr) (n1 c1 : Nat) (f1 : Nat → Int) (a2 : Option Addr) (n2 c2 : Nat) (f2 : Nat → Int) (A : Option Addr) (bb off m cap : Nat) (hA : 0 < m → A = some ⟨bb, off, none⟩) (a : Nat → AE) (w : World) (hk : KM w) (hu : KU w) (h1 : ∀ W, Below w.heap.size w W → By.RB W (.slice a1 n1 c1) n1 f1) (h2 : ∀ W, Below w.heap.size w W → By.RB W (.slice a2 n2 c2) n2 f2) (hn1 : n1 ≤ 140737488351232) (hn2 : n2 ≤ 140737488351232) (hs : ∀ W, Below w.heap.size w W → Scr W bb off m a) (hm : m ≤ cap) (hcap : cap ≤ maxLen) (hpn : ∀ i, i < m → (a i).pn ≤ 140737488351232) (hp : ∀ i, i < m → ∀ W, Below w.heap.size w W → By.RB W (.slice (a i).pa (a i).pn (a i).pc) (a i).pn (a i).g) :
    Calls Tryd.prog 3 #[.slice a1 n1 c1, .slice a2 n2 c2, .slice A m cap] w fun e w' => e = .returned (.bool true) ∧ Below w.heap.size w w' := by
  have HS := hid hs
  have HAA := hid hA
  have HK := hid hk
  have HU := hid hu
  have HPN := hid hpn
  have HP := hid hp
  have HC := hid hcap
  have HR1 := hid h1
  have HR2 := hid h2
  clear hs hA hk hu hpn hp hcap h1 h2
  by_cases hm100 : 100 < m
  · go_enter Tryd.func3, Tryd.ntmps3
    go_wp2
    go_ret
    exact ⟨rfl, Below.refl _ _⟩
  have hm100' : ¬ (100 : Int) < (m : Int) := by omega
  go_enter Tryd.func3, Tryd.ntmps3
  go_wp2_with fail
  refine (new9 _).mono ?_
  rintro e w2 ⟨rfl, hl2, hb2⟩
  have L2 := hid hl2
  have B2 := hid hb2
  clear hl2 hb2
  go_wp2_with fail
  refine (refNew10 w2).mono ?_
  rintro e w3 ⟨rfl, hm3, hb3⟩
  have L3 := hid (L2.out.below hb3)
  have M3 := hid hm3
  have B3 := hid (below_next B2.out hb3)
  clear hm3 hb3
  go_wp2_with fail
  have X4 := hid (Blk.new w3 [.pointer none, .pointer none, .pointer none, .pointer none, .pointer (some ⟨w.heap.size, 0, none⟩), .pointer (some ⟨w2.heap.size, 0, none⟩), .slice none 0 0, .slice none 0 0] 35)
  have L4 := hid (L3.out.below (below_alloc w3 (.cells #[.pointer none, .pointer none, .pointer none, .pointer none, .pointer (some ⟨w.heap.size, 0, none⟩), .pointer (some ⟨w2.heap.size, 0, none⟩), .slice none 0 0, .slice none 0 0] 35)))
  have M4 := hid (M3.out.below (below_alloc w3 (.cells #[.pointer none, .pointer none, .pointer none, .pointer none, .pointer (some ⟨w.heap.size, 0, none⟩), .pointer (some ⟨w2.heap.size, 0, none⟩), .slice none 0 0, .slice none 0 0] 35)))
  have B4 := hid (below_next B3.out (below_alloc w3 (.cells #[.pointer none, .pointer none, .pointer none, .pointer none, .pointer (some ⟨w.heap.size, 0, none⟩), .pointer (some ⟨w2.heap.size, 0, none⟩), .slice none 0 0, .slice none 0 0] 35)))
  have Z1 : Hid (w.heap.size ≤ w.heap.size ∧ w.heap.size ≤ w2.heap.size ∧ w.heap.size ≤ w3.heap.size) := ⟨Nat.le_refl _, B2.out.size, B3.out.size⟩
  obtain ⟨mb, hmb⟩ : ∃ x, w2.heap.size = x := ⟨_, rfl⟩
  obtain ⟨w4, hw4⟩ : ∃ x, w3.alloc (.cells #[.pointer none, .pointer none, .pointer none, .pointer none, .pointer (some ⟨w.heap.size, 0, none⟩), .pointer (some ⟨mb, 0, none⟩), .slice none 0 0, .slice none 0 0] 35) = x := ⟨_, rfl⟩
  obtain ⟨xb, hxb⟩ : ∃ x, w3.heap.size = x := ⟨_, rfl⟩
  rw [hmb, hw4] at B4 L4 M4
  rw [hmb] at X4
  have X4' : Hid (Blk w4 xb [.pointer none, .pointer none, .pointer none, .pointer none, .pointer (some ⟨w.heap.size, 0, none⟩), .pointer (some ⟨mb, 0, none⟩), .slice none 0 0, .slice none 0 0] 35) := by rw [← hw4, ← hxb]; exact X4.out
  rw [hmb, hxb] at Z1
  rw [hmb, hw4, hxb]
  clear hmb hw4 hxb L3 M3 B3 B2 L2 X4
  have P4 := hid (PS.start (w := w) (W := w4) (lb := w.heap.size) HK.out HU.out B4.out L4.out M4.out X4'.out Z1.out.1 Z1.out.2.1 Z1.out.2.2)
  clear X4' L4 M4 B4 Z1
  obtain ⟨lb, hlb⟩ : ∃ x, w.heap.size = x := ⟨_, rfl⟩
  have P4 : Hid (PS (RX w (.slice none 0 0) (.slice none 0 0) (([] : List TE).map (·.a)) (([] : List TE).map (·.b)) []) w xb lb mb (.slice none 0 0) (.slice none 0 0) (.slice none 0 0) (.slice none 0 0) (fun _ => .pointer none) (fun _ => .pointer none) (fun _ => none) (fun _ => none) [] [] w4) := by rw [← hlb]; exact P4.out
  rw [hlb]
  clear hlb
  have c4 := P4.out.here.cell 4 _ rfl
  have c5 := P4.out.here.cell 5 _ rfl
  have P4d := hid (P4.out.below (W' := w4.drew) (below_drewN w4 1))
  go_region_held3 (fun W' => W'.cell? ⟨xb, 4, none⟩ = some (.pointer (some ⟨lb, 0, none⟩)) ∧ W'.cell? ⟨xb, 5, none⟩ = some (.pointer (some ⟨mb, 0, none⟩))) (go_keep) (first
    | (go_at_call 6; go_must (first
      | ((with_reducible refine (P5.out.make2 1 (by decide) 1 rfl a2 n2 c2 f2 HR2.out hn2 (by have := T5.out; have e : tot ([] : List Rn) = 0 := rfl; omega)).mono ?_); rintro e w6 ⟨rfl, lv6, mv6, cv6, rv6, D6, L6, hP6, hT6⟩; have P6 := hid hP6; have T6 := hid hT6; have e4 := hP6.here.cell 4 _ rfl; have e5 := hP6.here.cell 5 _ rfl; clear hP6 hT6)
      | ((with_reducible refine (P4d.out.make2 0 (by decide) 0 rfl a1 n1 c1 f1 HR1.out hn1 (by decide)).mono ?_); rintro e w5 ⟨rfl, lv5, mv5, cv5, rv5, D5, L5, hP5, hT5⟩; have P5 := hid hP5; have T5 := hid hT5; have d4 := hP5.here.cell 4 _ rfl; have d5 := hP5.here.cell 5 _ rfl; clear hP5 hT5))))
  have T7 : Hid (tot L6 ≤ 2) := by have := T5.out; have := T6.out; have e : tot ([] : List Rn) = 0 := rfl; show tot L6 ≤ 2; omega
  clear P4 P4d P5 T5 T6 c4 c5 d4 d5 e4 e5
  go_wp2_with fail
  go_loopw [8] (fun i wr => ∃ (j : Nat) (lv mv tv wv : Value) (cv rv : Nat → Value) (D : Nat → KD) (L : List Rn) (tl : List TE), j ≤ m ∧ i = .int .i64 j ∧ PS (RX w tv wv (tl.map (·.a)) (tl.map (·.b)) tl) w xb lb mb lv mv tv wv cv rv D D L L wr ∧ tot L ≤ j + 2 ∧ tl.length ≤ j) (fun i _ => m - (intOf i).toNat)
  case atStart => exact ⟨0, _, _, _, _, _, _, _, _, _, Nat.zero_le _, rfl, P6.out, by have := T7.out; show tot L6 ≤ ((0 : Nat) : Int) + 2; omega, Nat.le_refl _⟩
  case round =>
    clear P6 T7
    obtain ⟨j, lv, mv, tv, wv, cv, rv, D, L, tl, hj, rfl, hP, hM, htl⟩ := hrel
    have P := hid hP
    have HM := hid hM
    have HT := hid htl
    clear hP hM htl
    have HBig : Hid (tot L ≤ 200) := by have := HM.out; show tot L ≤ 200; omega
    by_cases hlt : j < m
    · obtain rfl := HAA.out (by omega)
      obtain ⟨d0, d1, d2, d3⟩ := HS.out wr P.out.bel j hlt
      have hpk := hid (HP.out j hlt)
      have hpl := hid (HPN.out j hlt)
      obtain ⟨q, hq⟩ : ∃ q, a j = q := ⟨_, rfl⟩
      rw [hq] at d0 d1 d2 d3 hpk hpl
      clear hq
      go_wp2_with fail
      refine (P.out.act q.on q.cc q.pa q.pn q.pc q.sil q.g (hpk.out _ (Below.refl _ _)).1 hpk.out hpl.out (by have := HT.out; omega) (by have := HBig.out; omega)).mono ?_
      rintro e w7 ⟨rfl, lv', mv', tv', wv', cv', rv', D', L', tl', hP', hM', ht'⟩
      have P' := hid hP'
      have M' : Hid (tot L' ≤ ((j + 1 : Nat) : Int) + 2) := by have := HM.out; show tot L' ≤ _; omega
      have T' : Hid (tl'.length ≤ j + 1) := by have := HT.out; exact Nat.le_trans ht' (by omega)
      clear hP' hM' ht' P HM HT d0 d1 d2 d3 HBig
      go_wp2_with fail
      exact ⟨⟨j + 1, lv', mv', tv', wv', cv', rv', D', L', tl', by omega, by go_num, P'.out, by have := M'.out; omega, T'.out⟩, by simp [intOf]; omega⟩
    · have ej : j = m := by omega
      subst ej
      go_wp2_with fail
      go_loopw [9] (fun i wq => ∃ (u : Nat) (lv mv tv wv : Value) (cv rv : Nat → Value) (D : Nat → KD) (L : List Rn) (tl : List TE), u ≤ 2 ∧ i = .int .i64 u ∧ PS (RX w tv wv (tl.map (·.a)) (tl.map (·.b)) tl) w xb lb mb lv mv tv wv cv rv D D L L wq ∧ tot L ≤ 300 + 3 * u ∧ tl.length ≤ 100 + 3 * u) (fun i _ => 2 - (intOf i).toNat)
      case atStart => exact ⟨0, _, _, _, _, _, _, _, _, _, by omega, rfl, P.out, by have := HBig.out; show tot L ≤ 300 + 3 * ((0 : Nat) : Int); omega, by have := HT.out; omega⟩
      case round =>
        clear P HM HT HBig
        obtain ⟨u, lv, mv, tv, wv, cv, rv, D, L, tl, hu, rfl, hP, hM, htl⟩ := hrel
        have P := hid hP
        have HM := hid hM
        have HT := hid htl
        clear hP hM htl
        by_cases hu2 : u < 2
        · have hu3 : (u : Int) < 2 := by omega
          have HM0 : Hid (tot L ≤ 300 + 3 * u) := HM.out
          have HT0 : Hid (tl.length ≤ 100 + 3 * u) := HT.out
          have NB : Hid (∀ V, Below w.heap.size w V → By.RB V (.slice none 0 0) 0 (fun _ => 0)) := fun V _ => (By.own_nil V 0 (fun _ => 0) nb0).reads
          go_wp2_with fail
          refine (P.out.act u 2 none 0 0 false (fun _ => 0) nb0 NB.out (by omega) (by have := HT0.out; omega) (by have := HM0.out; omega)).mono ?_
          rintro e x1 ⟨rfl, lv1, mv1, tv1, wv1, cv1, rv1, D1, L1, tl1, hP', hM', ht'⟩
          have P1 := hid hP'
          have HM1 : Hid (tot L1 ≤ 300 + 3 * u + 1) := by have := HM0.out; show tot L1 ≤ _; omega
          have HT1 : Hid (tl1.length ≤ 100 + 3 * u + 1) := by have := HT0.out; exact Nat.le_trans ht' (by omega)
          clear hP' hM' ht'
          go_wp2_with fail
          refine (P1.out.act u 3 none 0 0 false (fun _ => 0) nb0 NB.out (by omega) (by have := HT1.out; omega) (by have := HM1.out; omega)).mono ?_
          rintro e x2 ⟨rfl, lv2, mv2, tv2, wv2, cv2, rv2, D2, L2, tl2, hP', hM', ht'⟩
          have P2 := hid hP'
          have HM2 : Hid (tot L2 ≤ 300 + 3 * u + 2) := by have := HM1.out; show tot L2 ≤ _; omega
          have HT2 : Hid (tl2.length ≤ 100 + 3 * u + 2) := by have := HT1.out; exact Nat.le_trans ht' (by omega)
          clear hP' hM' ht'
          go_wp2_with fail
          refine (P2.out.act u 0 none 0 0 false (fun _ => 0) nb0 NB.out (by omega) (by have := HT2.out; omega) (by have := HM2.out; omega)).mono ?_
          rintro e x3 ⟨rfl, lv3, mv3, tv3, wv3, cv3, rv3, D3, L3, tl3, hP', hM', ht'⟩
          have P3 := hid hP'
          have HM3 : Hid (tot L3 ≤ 300 + 3 * u + 3) := by have := HM2.out; show tot L3 ≤ _; omega
          have HT3 : Hid (tl3.length ≤ 100 + 3 * u + 3) := by have := HT2.out; exact Nat.le_trans ht' (by omega)
          clear hP' hM' ht'
          go_wp2_with fail
          exact ⟨⟨u + 1, lv3, mv3, tv3, wv3, cv3, rv3, D3, L3, tl3, by omega, by go_num, P3.out, by have := HM3.out; omega, by have := HT3.out; omega⟩, by simp [intOf]; omega⟩
        · have hu3 : ¬ (u : Int) < 2 := by omega
          have HBig : Hid (tot L ≤ 400) := by have := HM.out; show tot L ≤ 400; omega
          obtain ⟨tn, htn⟩ : ∃ x, tl.length = x := ⟨_, rfl⟩
          have R3 : Hid (wr.ownsRow w.heap.size 22 1 tv tn (tl.map (·.a))) := by have := P.out.ex.r3; rw [List.length_map, htn] at this; exact this
          have R4 : Hid (wr.ownsRow w.heap.size 22 1 wv tn (tl.map (·.b))) := by have := P.out.ex.r4; rw [List.length_map, htn] at this; exact this
          obtain ⟨ta, tc, rfl⟩ := rowG_slice R3.out
          obtain ⟨wa, wc, rfl⟩ := rowG_slice R4.out
          have HTN := hid htn
          have htk : tn ≤ 106 := by have := HT.out; omega
          clear R3 R4 htn
          go_wp2_with fail
          go_loopw [10] (fun i wq => ∃ y : Nat, y ≤ tn ∧ i = .int .i64 y ∧ PS (RX w (.slice ta tn tc) (.slice wa tn wc) (tl.map (·.a)) (tl.map (·.b)) tl) w xb lb mb lv mv (.slice ta tn tc) (.slice wa tn wc) cv rv D D L L wq) (fun i _ => tn - (intOf i).toNat)
          case atStart => exact ⟨0, Nat.zero_le _, rfl, P.out⟩
          case round =>
            clear P
            obtain ⟨y, hy, rfl, hP⟩ := hrel
            have P := hid hP
            have c6 := hP.here.cell 6 _ rfl
            have c7 := hP.here.cell 7 _ rfl
            clear hP
            by_cases hyt : y < tn
            · obtain ⟨q, hq⟩ : ∃ q, tl[y]? = some q := ⟨_, List.getElem?_eq_getElem (by have := HTN.out; omega)⟩
              have hqm := P.out.ex.tl.own q (List.mem_of_getElem? hq)
              obtain ⟨ga, gc, e1, hc1⟩ := rowL_cell P.out.ex.r3 (show (tl.map (·.a))[y]? = some q.a from by rw [List.getElem?_map, hq]; rfl)
              obtain ⟨gb, gd, e2, hc2⟩ := rowL_cell P.out.ex.r4 (show (tl.map (·.b))[y]? = some q.b from by rw [List.getElem?_map, hq]; rfl)
              simp only [Value.slice.injEq] at e1 e2
              obtain ⟨rfl, -, rfl⟩ := e1
              obtain ⟨rfl, -, rfl⟩ := e2
              rw [Nat.zero_add] at hc1 hc2
              have OA := hid hqm.1
              have OB := hid hqm.2
              have HN : Hid (q.n ≤ 140737488355999) := Nat.le_trans (P.out.ex.tl.sz q (List.mem_of_getElem? hq)) (by omega)
              clear hqm hq
              go_wp2_with fail
              go_region_held3 (fun W' => W'.cell? ⟨xb, 6, none⟩ = some (.slice (some ⟨ga, 0, none⟩) tn tc) ∧ W'.cell? ⟨xb, 7, none⟩ = some (.slice (some ⟨gb, 0, none⟩) tn wc) ∧ W'.cell? ⟨ga, y, none⟩ = some q.a ∧ W'.cell? ⟨gb, y, none⟩ = some q.b) (go_keep) (first | (go_at_call 8; go_must (refine (same_true _ _ q.n q.f q.f _ (OA.out.reads.drewN 1) (OB.out.reads.drewN 1) HN.out (fun _ _ => rfl)).mono ?_; rintro e wz ⟨rfl, dz, rfl⟩)))
              go_wp2_with fail
              exact ⟨⟨y + 1, by omega, by go_num, P.out.below (below_drewN _ _)⟩, by simp [intOf]; omega⟩
            · have ey : y = tn := by omega
              subst ey
              clear hyt
              have c4 := P.out.here.cell 4 _ rfl
              have c5 := P.out.here.cell 5 _ rfl
              have HLn : Hid (L.length * 24 ≤ 140737488355328) := by have := HBig.out; have := len_tot P.out.led.pos; show L.length * 24 ≤ _; omega
              have HM8 : Hid (y ≤ 1000) := by show y ≤ 1000; omega
              go_wp2_with fail
              go_region_held3 (fun W' => W'.cell? ⟨xb, 4, none⟩ = some (.pointer (some ⟨lb, 0, none⟩)) ∧ W'.cell? ⟨xb, 5, none⟩ = some (.pointer (some ⟨mb, 0, none⟩)) ∧ W'.cell? ⟨xb, 6, none⟩ = some (.slice ta y tc)) (go_keep) (first
                | (go_at_call 9; go_must (refine (RW.apart (xk := KB xb lb mb lv mv) (tl := tl) (P.out.below (below_drewN _ 1)).nb (P.out.below (below_drewN _ 1)).ex (P.out.below (below_drewN _ 1)).size HTN.out.symm HM8.out).mono ?_; rintro e wa' ⟨rfl, hba⟩; have PA := hid ((P.out.below (below_drewN _ 1)).pe hba); have a4 := PA.out.here.cell 4 _ rfl; have a5 := PA.out.here.cell 5 _ rfl; have a6 := PA.out.here.cell 6 _ rfl; clear hba))
                | (go_at_call 11; go_must (refine (runs22 lb lv L _ PA.out.led HLn.out).mono ?_; rintro e wb' ⟨ua, rfl, hua, hbb⟩; have PB := hid (PA.out.below hbb); have UA := hid hua; have b4 := PB.out.here.cell 4 _ rfl; have b5 := PB.out.here.cell 5 _ rfl; have b6 := PB.out.here.cell 6 _ rfl; clear hua hbb))
                | (go_at_call 12; go_must (refine (refRuns20 mb mv L _ PB.out.rled HLn.out).mono ?_; rintro e wc' ⟨ub, rfl, hub, hbc⟩; have PC := hid (PB.out.below hbc); have UB := hid hub; have UA2 := hid (UA.out.below hbc); have e4 := PC.out.here.cell 4 _ rfl; have e5 := PC.out.here.cell 5 _ rfl; have e6 := PC.out.here.cell 6 _ rfl; clear hub hbc))
                | (go_at_call 10; go_must (refine (same14 _ _ L L _ UA2.out.reads UB.out.reads (by have := HLn.out; omega) (by have := HLn.out; omega)).mono ?_; rw [decide_eq_true rfl]; rintro e wd' ⟨rfl, dd, rfl⟩; have PD := hid (PC.out.below (below_drewN wc' dd)))))
              go_wp2_with fail
              go_ret
              exact ⟨rfl, PD.out.bel⟩
end Go.Proofs.YtehhnneomoddgaaDoor.Ae
