/- The walk of the statement Sha512Plays. -/
import Derived.Test.YtdhbkekpjojlnaaDoorJpl11
import Derived.Deep.RegionLaw
import Derived.Deep.AppendLies
import Derived.Deep.RegionHeld3
import Derived.Deep.DeepMust
namespace Go.Proofs.YtdhbkekpjojlnaaDoor.Sg
open Go.ChangeShapes Go.WideShapes Go.ChangeAt Go.RowKit
open Go.Proofs.YtdhbkekpjojlnaaDoor.By Go.Proofs.YtdhbkekpjojlnaaDoor.Wd
theorem PG.below {w0 W W' : World} {B xb lb mb T tn ln : Nat} {tt : Int} (h : PG w0 B xb lb mb T tn tt ln W) (hb : Below W.heap.size W W') : PG w0 B xb lb mb T tn tt ln W' := by
  obtain ⟨sts, rts, tl, L, sv, rv, tv, wv, lv, mv, hP, r⟩ := h
  exact ⟨sts, rts, tl, L, sv, rv, tv, wv, lv, mv, hP.below hb, r⟩
theorem PG.bel {w0 W : World} {B xb lb mb T tn ln : Nat} {tt : Int} (h : PG w0 B xb lb mb T tn tt ln W) : Below B w0 W := by
  obtain ⟨sts, rts, tl, L, sv, rv, tv, wv, lv, mv, hP, r⟩ := h
  exact hP.gs.bel
theorem PG.cells {w0 W : World} {B xb lb mb T tn ln : Nat} {tt : Int} (h : PG w0 B xb lb mb T tn tt ln W) : W.cell? ⟨xb, 0, none⟩ = some (.pointer (some ⟨lb, 0, none⟩)) ∧ W.cell? ⟨xb, 1, none⟩ = some (.pointer (some ⟨mb, 0, none⟩)) := by
  obtain ⟨sts, rts, tl, L, sv, rv, tv, wv, lv, mv, hP, r⟩ := h
  exact ⟨hP.four.here.cell 0 _ rfl, hP.four.here.cell 1 _ rfl⟩
theorem sameL (a b : Value) (L : List Rn) (W : World) (ha : RB W a L) (hb : RB W b L) (hl : L.length < 1000000000000000000) : Calls Tryd.prog 9 #[a, b] W fun e w' => e = .returned (.bool true) ∧ ∃ d, w' = W.drewN d := by
  have h := same14 a b L L W ha hb hl hl
  rwa [decide_eq_true rfl] at h
theorem cell_new3 (w : World) (a b c : Value) (t : TypeId) (g : Nat) (hg : g = w.heap.size) : ∀ j u, [a, b, c][j]? = some u → (w.alloc (.cells #[a, b, c] t)).cell? ((⟨g, 0, none⟩ : Addr).add j) = some u := by
  subst hg
  have h := World.ownsRow_lit (base := 0) (e := t) (size := 1) w #[a, b, c] 3 (Nat.zero_le _) (by simp [maxLen]) rfl
  exact h.cells rfl
theorem nost_new (w : World) : NoSt (w.alloc (.cells Tryd.zeroCells38 38)) w.heap.size := ⟨Tryd.zeroCells38.toList.tail, Blk.newAt w _ _ _ _ rfl (by kernel_rfl), by kernel_rfl⟩
/-- What the first list's making leaves. -/
def Pk (w X W : World) (sv : Value) : Prop := ∃ b0 b1, Below X.heap.size X W ∧ IsSt W b0 none ∧ IsSt W b1 (some (0, fun _ => 0)) ∧ b0 ≠ b1 ∧ w.heap.size ≤ b0 ∧ w.heap.size ≤ b1 ∧ W.ownsRow w.heap.size 33 1 sv 3 [.pointer none, .pointer (some ⟨b0, 0, none⟩), .pointer (some ⟨b1, 0, none⟩)]
theorem pack1 {w X w4 w5 : World} {sv : Value} {b1 : Nat} (hX : w.heap.size ≤ X.heap.size) (hb : Below (X.alloc (.cells Tryd.zeroCells38 38)).heap.size (X.alloc (.cells Tryd.zeroCells38 38)) w4) (s4 : St w4 b1 0 (fun _ => 0)) (e1 : b1 = X.heap.size + 1) (hg : (w4.alloc (.cells #[.pointer none, .pointer (some ⟨X.heap.size, 0, none⟩), .pointer (some ⟨X.heap.size + 1, 0, none⟩)] 33)).grownBy w5 none)
    (hr : w5.ownsRow w.heap.size 33 1 sv 3 [.pointer none, .pointer (some ⟨X.heap.size, 0, none⟩), .pointer (some ⟨X.heap.size + 1, 0, none⟩)]) : Pk w X w5 sv := by
  subst e1
  have b5 := below_next (below_alloc w4 (.cells #[.pointer none, .pointer (some ⟨X.heap.size, 0, none⟩), .pointer (some ⟨X.heap.size + 1, 0, none⟩)] 33)) (below_of_grown hg)
  have k5 := Kp.of_below (fun _ => False) b5
  exact ⟨X.heap.size, X.heap.size + 1, below_next (below_next (below_alloc X _) hb) b5, IsSt.kept (k := none) (IsSt.kept (k := none) (nost_new X) (Kp.of_below (fun _ => False) hb) id) k5 id, IsSt.kept (k := some (0, fun _ => 0)) s4 k5 id, by omega, hX, by omega, hr⟩
theorem pack2 {w X w4 w5 : World} {sv : Value} {b1 : Nat} (hX : w.heap.size ≤ X.heap.size) (hb : Below X.heap.size X w4) (s4 : St w4 b1 0 (fun _ => 0)) (e1 : b1 = X.heap.size) (hg : ((w4.alloc (.cells Tryd.zeroCells38 38)).alloc (.cells #[.pointer none, .pointer (some ⟨w4.heap.size, 0, none⟩), .pointer (some ⟨X.heap.size, 0, none⟩)] 33)).grownBy w5 none)
    (hr : w5.ownsRow w.heap.size 33 1 sv 3 [.pointer none, .pointer (some ⟨w4.heap.size, 0, none⟩), .pointer (some ⟨X.heap.size, 0, none⟩)]) : Pk w X w5 sv := by
  subst e1
  have a1 := below_alloc w4 (.cells Tryd.zeroCells38 38)
  have b5 := below_next (below_alloc (w4.alloc (.cells Tryd.zeroCells38 38)) (.cells #[.pointer none, .pointer (some ⟨w4.heap.size, 0, none⟩), .pointer (some ⟨X.heap.size, 0, none⟩)] 33)) (below_of_grown hg)
  have k5 := Kp.of_below (fun _ => False) b5
  have hz := hb.size
  obtain ⟨c, hc⟩ := IsSt.blk (k := some (0, fun _ => 0)) s4
  have hlt := hc.lt
  exact ⟨w4.heap.size, X.heap.size, below_next (below_next hb a1) b5, IsSt.kept (k := none) (nost_new w4) k5 id, IsSt.kept (k := some (0, fun _ => 0)) (IsSt.kept (k := some (0, fun _ => 0)) s4 (Kp.of_below (fun _ => False) a1) id) k5 id, by omega, by omega, hX, hr⟩
theorem isr_new (w : World) : IsR (w.alloc (.cells #[.slice none 0 0, .bool false] 43)) w.heap.size none := ⟨_, Blk.newAt w _ _ _ _ rfl rfl⟩
/-- What the second list's making leaves. -/
def Pr2 (w X W : World) (sv : Value) : Prop := ∃ b0 b1, Below X.heap.size X W ∧ IsR W b0 none ∧ IsR W b1 (some (0, fun _ => 0)) ∧ b0 ≠ b1 ∧ w.heap.size ≤ b0 ∧ w.heap.size ≤ b1 ∧ W.ownsRow w.heap.size 40 1 sv 3 [.pointer none, .pointer (some ⟨b0, 0, none⟩), .pointer (some ⟨b1, 0, none⟩)]
theorem packr1 {w X w4 w5 : World} {sv : Value} {b1 : Nat} (hX : w.heap.size ≤ X.heap.size) (hb : Below (X.alloc (.cells #[.slice none 0 0, .bool false] 43)).heap.size (X.alloc (.cells #[.slice none 0 0, .bool false] 43)) w4) (s4 : IsR w4 b1 (some (0, fun _ => 0))) (e1 : b1 = X.heap.size + 1) (hg : (w4.alloc (.cells #[.pointer none, .pointer (some ⟨X.heap.size, 0, none⟩), .pointer (some ⟨X.heap.size + 1, 0, none⟩)] 40)).grownBy w5 none)
    (hr : w5.ownsRow w.heap.size 40 1 sv 3 [.pointer none, .pointer (some ⟨X.heap.size, 0, none⟩), .pointer (some ⟨X.heap.size + 1, 0, none⟩)]) : Pr2 w X w5 sv := by
  subst e1
  have b5 := below_next (below_alloc w4 (.cells #[.pointer none, .pointer (some ⟨X.heap.size, 0, none⟩), .pointer (some ⟨X.heap.size + 1, 0, none⟩)] 40)) (below_of_grown hg)
  exact ⟨X.heap.size, X.heap.size + 1, below_next (below_next (below_alloc X _) hb) b5, ((isr_new X).below hb).below b5, s4.below b5, by omega, hX, by omega, hr⟩
theorem packr2 {w X w4 w5 : World} {sv : Value} {b1 : Nat} (hX : w.heap.size ≤ X.heap.size) (hb : Below X.heap.size X w4) (s4 : IsR w4 b1 (some (0, fun _ => 0))) (e1 : b1 = X.heap.size) (hg : ((w4.alloc (.cells #[.slice none 0 0, .bool false] 43)).alloc (.cells #[.pointer none, .pointer (some ⟨w4.heap.size, 0, none⟩), .pointer (some ⟨X.heap.size, 0, none⟩)] 40)).grownBy w5 none)
    (hr : w5.ownsRow w.heap.size 40 1 sv 3 [.pointer none, .pointer (some ⟨w4.heap.size, 0, none⟩), .pointer (some ⟨X.heap.size, 0, none⟩)]) : Pr2 w X w5 sv := by
  subst e1
  have a1 := below_alloc w4 (.cells #[.slice none 0 0, .bool false] 43)
  have b5 := below_next (below_alloc (w4.alloc (.cells #[.slice none 0 0, .bool false] 43)) (.cells #[.pointer none, .pointer (some ⟨w4.heap.size, 0, none⟩), .pointer (some ⟨X.heap.size, 0, none⟩)] 40)) (below_of_grown hg)
  have hz := hb.size
  obtain ⟨c, hc⟩ := IsR.blk (k := some (0, fun _ => 0)) s4
  have hlt := hc.lt
  exact ⟨w4.heap.size, X.heap.size, below_next (below_next hb a1) b5, (isr_new w4).below b5, (s4.below a1).below b5, by omega, by omega, hX, hr⟩
set_option maxRecDepth 100000 in
set_option maxHeartbeats 2000000 in
theorem playsW (sa : Option Addr) (n sc : Nat) (X0 : List Stp) (w : World) (hk : KT w) (hX0 : SB w (.slice sa n sc) X0) (hn : n ≤ 262144) (htk : tk X0 X0.length ≤ 1048576) :
    Calls Tryd.prog 3 #[.slice sa n sc] w fun e w' => e = .returned (.bool true) ∧ Below w.heap.size w w' := by
  have HSB := hid hX0
  have HTK := hid htk
  clear hX0 htk
  have G0 := hid (GS.start w hk)
  clear hk
  obtain ⟨i0, hi, hz0, hz1, hz2⟩ := info_parts infoP
  go_enter Tryd.func3, Tryd.ntmps3
  go_wp2_with fail
  refine (new9 w).mono ?_
  rintro e w1 ⟨rfl, hl1, hb1⟩
  have G1 := hid (G0.out.addLed (o := true) hb1 hl1)
  have z1 := hb1.size
  have B1 := hid hb1
  obtain ⟨lb, hlb⟩ : ∃ x, w.heap.size = x := ⟨_, rfl⟩
  have HLB := hid hlb
  rw [hlb]
  clear hl1 hb1 hlb
  go_wp2_with fail
  refine (refNew10 w1).mono ?_
  rintro e w2 ⟨rfl, hl2, hb2⟩
  have G2 := hid (G1.out.addLed (o := false) hb2 hl2)
  have z2 := hb2.size
  have B2 := hid hb2
  obtain ⟨mb, hmb⟩ : ∃ x, w1.heap.size = x := ⟨_, rfl⟩
  have HMB := hid hmb
  rw [hmb]
  clear hl2 hb2 hmb
  go_wp2_with fail
  obtain ⟨X, hX⟩ : ∃ x, w2.alloc (.cells #[.pointer (some ⟨lb, 0, none⟩), .pointer (some ⟨mb, 0, none⟩), .slice none 0 0, .slice none 0 0, .slice none 0 0, .slice none 0 0] 32) = x := ⟨_, rfl⟩
  rw [hX]
  obtain ⟨xb, hxb⟩ : ∃ x, w2.heap.size = x := ⟨_, rfl⟩
  rw [hxb]
  have hx : Blk X xb [.pointer (some ⟨lb, 0, none⟩), .pointer (some ⟨mb, 0, none⟩), .slice none 0 0, .slice none 0 0, .slice none 0 0, .slice none 0 0] 32 := by rw [← hX]; exact Blk.newAt w2 _ _ _ _ hxb.symm rfl
  have GX := hid (show GS w w.heap.size [] [⟨true, lb, .slice none 0 0, []⟩, ⟨false, mb, .slice none 0 0, []⟩] X from by
    have := G2.out.below (below_alloc w2 (.cells #[.pointer (some ⟨lb, 0, none⟩), .pointer (some ⟨mb, 0, none⟩), .slice none 0 0, .slice none 0 0, .slice none 0 0, .slice none 0 0] 32))
    rw [hX, HLB.out, HMB.out] at this
    rw [HLB.out]
    exact this)
  have c2 := hx.cell 2 _ rfl
  have f2 := hx.frozen 2
  have hxl := hx.lt
  have HX := hid hx
  have szb : w.heap.size ≤ xb := by omega
  have szX : w.heap.size ≤ X.heap.size := by omega
  clear hX hxb hx G0 G1 G2 B1 B2
  rename_i Q0 K0 hK0
  suffices rest : ∀ (t11 t12 t13 t14 t15 t16 t17 t18 t19 t20 t21 t22 sv : Value) (b0 b1 : Nat) (W' : World), PL w w.heap.size xb lb mb [none, some (b0, none), some (b1, some (0, fun _ => 0))] [] [] [] [] sv (.slice none 0 0) (.slice none 0 0) (.slice none 0 0) (.slice none 0 0) (.slice none 0 0) W' → K0 ⟨#[.slice sa n sc, undef, .bool false, .pointer (some ⟨xb, 0, none⟩), undef, undef, undef, .pointer (some ⟨lb, 0, none⟩), .pointer (some ⟨mb, 0, none⟩), .agg #[.pointer (some ⟨lb, 0, none⟩), .pointer (some ⟨mb, 0, none⟩), .slice none 0 0, .slice none 0 0, .slice none 0 0, .slice none 0 0], .pointer (some ⟨xb, 0, none⟩), t11, t12, t13, t14, t15, t16, t17, t18, t19, t20, t21, t22, undef, undef, undef, undef, undef, undef, undef, undef, undef, undef, undef, undef, undef, undef, undef, undef, undef, undef, undef, undef, undef, undef, undef, undef, undef, undef, undef, undef, undef, undef, undef, undef, undef, undef, undef, undef, undef, undef, undef, undef, undef, undef, undef, undef, undef, undef, undef, undef, undef, undef, undef, undef, undef, undef, undef, undef, undef, undef, undef, undef, undef, undef, undef, undef, undef, undef, undef, undef, undef, undef, undef, undef, undef, undef, undef, undef, undef, undef, undef, undef, undef, undef, undef, undef, undef, undef, undef, undef, undef, undef, undef, undef, undef, undef, undef, undef, undef, undef, undef, undef, undef, undef, undef, undef], []⟩ W' by
    go_region_law (first | (go_simp; go_at_call 6; refine (new12 _).mono ?_; rintro r4 w4 ⟨rfl, s4, hb4⟩; have S4 := hid s4; have B4 := hid hb4; have X4 : Hid (Blk w4 xb [.pointer (some ⟨lb, 0, none⟩), .pointer (some ⟨mb, 0, none⟩), .slice none 0 0, .slice none 0 0, .slice none 0 0, .slice none 0 0] 32) := (by first | exact HX.out.below ⟨hb4.os, hb4.tape, hb4.output, hb4.size, hb4.block⟩ | exact (HX.out.alloc (.cells Tryd.zeroCells38 38)).below ⟨hb4.os, hb4.tape, hb4.output, hb4.size, hb4.block⟩); have j4 := X4.out.cell 2 _ rfl; have hl4 : xb < w4.heap.size := X4.out.lt; clear s4 hb4) | (refine step_append_lies _ rfl (.tmp 15) (.tmp 19) 28 rfl w.heap.size 33 i0 (.pointer none) 1 8 Tryd.underlying28 hi hz0 hz1 hz2 rfl (by decide) (.slice none 0 0) 0 [] rfl (World.ownsRow_nil _ _ _ _) ⟨_, 0, none⟩ 3 3 [.pointer none, _, _] rfl rfl (cell_new3 _ _ _ _ _ _ (by first | rfl | simp)) (by intro v hv; simp at hv; rcases hv with rfl | rfl | rfl <;> rfl) (by decide) (by simp [maxLen]) (by omega) (by simp; omega) _ rfl ?_; intro gq cq w5 hown hgrow hat hltq; have X5 : Hid (Blk w5 xb [.pointer (some ⟨lb, 0, none⟩), .pointer (some ⟨mb, 0, none⟩), .slice none 0 0, .slice none 0 0, .slice none 0 0, .slice none 0 0] 32) := (by first | exact (X4.out.alloc _).below (below_of_grown hgrow) | exact ((X4.out.alloc _).alloc _).below (below_of_grown hgrow)); have c5 := X5.out.cell 2 _ rfl; have f5 := X5.out.frozen 2; have PK : Hid (Pk w X w5 (.slice (some ⟨gq, 0, none⟩) 3 cq)) := (by first | exact pack1 szX ⟨B4.out.os, B4.out.tape, B4.out.output, B4.out.size, B4.out.block⟩ S4.out (by simp) hgrow hown | exact pack2 szX ⟨B4.out.os, B4.out.tape, B4.out.output, B4.out.size, B4.out.block⟩ S4.out (by first | rfl | simp) hgrow hown); clear hgrow hown hat))
    all_goals (show K0 _ _)
    all_goals (
      obtain ⟨b0, b1, q1, q2, q3, q4, q5, q6, q7⟩ := PK.out
      exact rest _ _ _ _ _ _ _ _ _ _ _ _ _ _ _ _ (init1 GX.out HX.out szb q1 q2 q3 q4 q5 q6 q7))
  intro t11 t12 t13 t14 t15 t16 t17 t18 t19 t20 t21 t22 sv b0 b1 W' hP
  refine hK0 _ _ ?_
  clear hK0 HX GX c2 f2 hxl
  go_wp2_with fail
  obtain ⟨j0, hj, hy0, hy1, hy2⟩ := info_parts infoQ
  have HP := hid hP
  have HX := hid hP.four.here
  have c3 := hP.four.here.cell 3 _ rfl
  have f3 := hP.four.here.frozen 3
  have szX : w.heap.size ≤ W'.heap.size := hP.gs.hB
  have hxl := hP.four.here.lt
  clear hP
  rename_i Q1 K1 hK1
  suffices rest2 : ∀ (t23 t24 t25 t26 t27 t28 t29 t30 t31 t32 t33 t34 : Value) (rv : Value) (c0 c1 : Nat) (V : World), PL w w.heap.size xb lb mb [none, some (b0, none), some (b1, some (0, fun _ => 0))] [none, some (c0, none), some (c1, some (0, fun _ => 0))] [] [] [] sv rv (.slice none 0 0) (.slice none 0 0) (.slice none 0 0) (.slice none 0 0) V → K1 ⟨#[.slice sa n sc, undef, .bool false, .pointer (some ⟨xb, 0, none⟩), undef, undef, undef, .pointer (some ⟨lb, 0, none⟩), .pointer (some ⟨mb, 0, none⟩), .agg #[.pointer (some ⟨lb, 0, none⟩), .pointer (some ⟨mb, 0, none⟩), .slice none 0 0, .slice none 0 0, .slice none 0 0, .slice none 0 0], .pointer (some ⟨xb, 0, none⟩), t11, t12, t13, t14, t15, t16, t17, t18, t19, t20, t21, t22, t23, t24, t25, t26, t27, t28, t29, t30, t31, t32, t33, t34, undef, undef, undef, undef, undef, undef, undef, undef, undef, undef, undef, undef, undef, undef, undef, undef, undef, undef, undef, undef, undef, undef, undef, undef, undef, undef, undef, undef, undef, undef, undef, undef, undef, undef, undef, undef, undef, undef, undef, undef, undef, undef, undef, undef, undef, undef, undef, undef, undef, undef, undef, undef, undef, undef, undef, undef, undef, undef, undef, undef, undef, undef, undef, undef, undef, undef, undef, undef, undef, undef, undef, undef, undef, undef, undef, undef, undef, undef, undef, undef, undef, undef, undef, undef, undef, undef, undef, undef, undef, undef, undef, undef], []⟩ V by
    go_region_law (first | (go_simp; go_at_call 7; refine (rnew11 _).mono ?_; rintro r4 w4 ⟨rfl, s4, hb4⟩; have S4 := hid s4; have B4 := hid hb4; have X4 : Hid (Blk w4 xb [.pointer (some ⟨lb, 0, none⟩), .pointer (some ⟨mb, 0, none⟩), sv, .slice none 0 0, .slice none 0 0, .slice none 0 0] 32) := (by first | exact HX.out.below ⟨hb4.os, hb4.tape, hb4.output, hb4.size, hb4.block⟩ | exact (HX.out.alloc (.cells #[.slice none 0 0, .bool false] 43)).below ⟨hb4.os, hb4.tape, hb4.output, hb4.size, hb4.block⟩); have j4 := X4.out.cell 3 _ rfl; have hl4 : xb < w4.heap.size := X4.out.lt; clear s4 hb4) | (refine step_append_lies _ rfl (.tmp 27) (.tmp 31) 29 rfl w.heap.size 40 j0 (.pointer none) 1 8 Tryd.underlying29 hj hy0 hy1 hy2 rfl (by decide) (.slice none 0 0) 0 [] rfl (World.ownsRow_nil _ _ _ _) ⟨_, 0, none⟩ 3 3 [.pointer none, _, _] rfl rfl (cell_new3 _ _ _ _ _ _ (by first | rfl | simp)) (by intro v hv; simp at hv; rcases hv with rfl | rfl | rfl <;> rfl) (by decide) (by simp [maxLen]) (by omega) (by simp; omega) _ rfl ?_; intro gq cq w5 hown hgrow hat hltq; have X5 : Hid (Blk w5 xb [.pointer (some ⟨lb, 0, none⟩), .pointer (some ⟨mb, 0, none⟩), sv, .slice none 0 0, .slice none 0 0, .slice none 0 0] 32) := (by first | exact (X4.out.alloc _).below (below_of_grown hgrow) | exact ((X4.out.alloc _).alloc _).below (below_of_grown hgrow)); have c5 := X5.out.cell 3 _ rfl; have f5 := X5.out.frozen 3; have PK : Hid (Pr2 w W' w5 (.slice (some ⟨gq, 0, none⟩) 3 cq)) := (by first | exact packr1 szX ⟨B4.out.os, B4.out.tape, B4.out.output, B4.out.size, B4.out.block⟩ S4.out (by simp) hgrow hown | exact packr2 szX ⟨B4.out.os, B4.out.tape, B4.out.output, B4.out.size, B4.out.block⟩ S4.out (by first | rfl | simp) hgrow hown); clear hgrow hown hat))
    all_goals (show K1 _ _)
    all_goals (
      obtain ⟨c0, c1, q1, q2, q3, q4, q5, q6, q7⟩ := PK.out
      exact rest2 _ _ _ _ _ _ _ _ _ _ _ _ _ _ _ _ (init2 HP.out q1 q2 q3 q4 q5 q6 q7))
  intro t23 t24 t25 t26 t27 t28 t29 t30 t31 t32 t33 t34 rv c0 c1 V hG
  refine hK1 _ _ ?_
  clear hK1 HX HP c3 f3 hxl szX
  have PG0 := hid (init3 hG)
  obtain ⟨gs, cs, e1, hcs⟩ := hG.viewS (n := 3) rfl (by omega)
  have k2 := hG.four.here.cell 2 _ rfl
  have k4 := hcs 2 _ rfl
  subst e1
  simp only [sp] at k4
  clear hG hcs
  go_wp2_with fail
  have HLEN : Hid (n = X0.length) := by
    obtain ⟨a, cap, e, _⟩ := HSB.out
    simp at e
    exact e.2.1
  go_loopw [4] (fun i wr => ∃ k : Nat, k ≤ n ∧ i = .int .i64 k ∧ PG w w.heap.size xb lb mb (tk X0 k) k ((tk X0 k : Int) + 2 * k) k wr) (fun i _ => n - (intOf i).toNat)
  case atStart => exact ⟨0, Nat.zero_le _, rfl, PG0.out⟩
  case round =>
    clear PG0 k2 k4
    obtain ⟨k, hk, rfl, hpg⟩ := hrel
    have G := hid hpg
    have hT := tk_mono X0 k
    have hT2 := HTK.out
    clear hpg
    by_cases hlt : k < n
    · obtain ⟨s, hs⟩ : ∃ s, X0[k]? = some s := ⟨_, List.getElem?_eq_getElem (by have := HLEN.out; omega)⟩
      have hT3 := tk_mono X0 (k + 1)
      have hT4 := tk_succ hs
      obtain ⟨bb, off, ha, hq, HST⟩ : ∃ bb off, sa = some ⟨bb, off, none⟩ ∧ s.q < 256 ∧ Hid (∀ W', Below w.heap.size w W' → (W'.cell? ⟨bb, off + k * 3, none⟩ = some (.int .i64 s.d) ∧ W'.cell? ⟨bb, off + k * 3 + 1, none⟩ = some (.int .u8 (s.q : Int)) ∧ W'.cell? ⟨bb, off + k * 3 + 2, none⟩ = some (.slice s.pa s.pn s.pc)) ∧ By.RB W' (.slice s.pa s.pn s.pc) s.pn s.g) := by
        obtain ⟨a, cap, e, hc⟩ := HSB.out
        simp at e
        obtain ⟨rfl, _, _⟩ := e
        obtain ⟨bb, off, ea, _, _, _, hq, _⟩ := hc k s hs
        refine ⟨bb, off, ea, hq, fun W' hb => ?_⟩
        obtain ⟨a', cap', e', hc'⟩ := HSB.out.below hb
        obtain ⟨b2, o2, ea2, c0, c1, c2, _, hr⟩ := hc' k s hs
        simp at e'
        rw [← e'.1, ea] at ea2
        simp at ea2
        obtain ⟨rfl, rfl⟩ := ea2
        exact ⟨⟨c0, c1, c2⟩, hr⟩
      subst ha
      have hE : Hid (tk X0 (k + 1) = tk X0 k + s.pn) := hT4
      obtain ⟨⟨u0, u1, u2⟩, _⟩ := HST.out wr G.out.bel
      obtain ⟨y0, y1⟩ := G.out.cells
      have GD := hid (G.out.below (below_drewN wr 1))
      have HPB : Hid (∀ w', Below w.heap.size w w' → By.RB w' (.slice s.pa s.pn s.pc) s.pn s.g) := fun w' h => (HST.out w' h).2
      go_wp2_with fail
      have i1 : (k : Int) < (n : Int) := by omega
      go_region_held3 (fun W' => W'.cell? ⟨xb, 0, none⟩ = some (.pointer (some ⟨lb, 0, none⟩)) ∧ W'.cell? ⟨xb, 1, none⟩ = some (.pointer (some ⟨mb, 0, none⟩)) ∧ W'.cell? ⟨bb, off + k * 3, none⟩ = some (.int .i64 s.d) ∧ W'.cell? ⟨bb, off + k * 3 + 1, none⟩ = some (.int .u8 (s.q : Int)) ∧ W'.cell? ⟨bb, off + k * 3 + 2, none⟩ = some (.slice s.pa s.pn s.pc)) (go_keep) (first
        | (go_at_call 8; go_must (refine (step12 w.heap.size xb lb mb (tk X0 k) k k s.q _ s.d s.pa s.pn s.pc w _ hq GD.out (by omega) (by omega) (by omega) (by omega) s.g HPB.out).mono ?_; rintro r1 w1 ⟨rfl, h1⟩; have G1 := hid h1; obtain ⟨y0', y1'⟩ := h1.cells; obtain ⟨⟨z0', z1', z2'⟩, _⟩ := HST.out w1 h1.bel; obtain ⟨sts, rts, tl, L, sv1, rv1, tv1, wv1, lv1, mv1, hP, _, _, _, _, _, _, hLl⟩ := h1; have P1 := hid hP; clear hP))
        | (go_at_call 10; go_must (refine (runs22 lb lv1 L _ P1.out.ledP (by omega)).mono ?_; rintro r2 w2 ⟨v2, rfl, ho2, hb2⟩; have G2 := hid (G1.out.below hb2); have P2 := hid (P1.out.below hb2); have R2 := hid ho2.reads; obtain ⟨y0', y1'⟩ := G2.out.cells; obtain ⟨⟨z0', z1', z2'⟩, _⟩ := HST.out w2 G2.out.bel; clear ho2 hb2))
        | (go_at_call 11; go_must (refine (refRuns20 mb mv1 L _ P2.out.ledR (by omega)).mono ?_; rintro r3 w3 ⟨v3, rfl, ho3, hb3⟩; have G3 := hid (G2.out.below hb3); have R3 := hid ho3.reads; have R2' := hid (R2.out.below hb3); obtain ⟨y0', y1'⟩ := G3.out.cells; obtain ⟨⟨z0', z1', z2'⟩, _⟩ := HST.out w3 G3.out.bel; clear ho3 hb3))
        | (go_at_call 9; go_must (refine (sameL v2 v3 L _ R2'.out R3.out (by omega)).mono ?_; rintro r4 w4 ⟨rfl, d4, rfl⟩; have G4 := hid (G3.out.below (below_drewN w3 d4)))))
      go_wp2_with fail
      have hE2 := hE.out
      refine ⟨⟨k + 1, by omega, by go_num, G4.out.mono (by omega) (by omega) (by omega) (by omega)⟩, by simp [intOf]; omega⟩
    · have ek : k = n := by omega
      subst ek
      obtain ⟨sts, rts, tl, L, sv1, rv1, tv1, wv1, lv1, mv1, hP, hkd, hs3, hs12, htl, hlk, htt, hLl⟩ := G.out
      have hrl : rts.length = sts.length := by
        have := congrArg List.length hkd
        simpa using this.symm
      obtain ⟨m, hm⟩ : ∃ z, sts.length = z := ⟨_, rfl⟩
      rw [hm] at hs3 hs12 hrl
      obtain ⟨gs', cs', e1, hcs⟩ := hP.viewS hm (by omega)
      obtain ⟨gr', cr', e2, hcr⟩ := hP.viewR hrl (by omega)
      subst e1 e2
      have HP := hid hP
      have KS : Hid (∀ j, j < m → ∃ e e', sts[j]? = some e ∧ rts[j]? = some e' ∧ kd e' = kd e) := fun j hj => by
        obtain ⟨_, e, e', a1, a2, a3⟩ := kinds_at hkd (by rw [hm]; exact hj)
        exact ⟨e, e', a1, a2, a3⟩
      clear G hP hcs hcr hkd hlk htt
      go_wp2_with fail
      go_loopw [5] (fun i wr => ∃ j : Nat, j ≤ m ∧ i = .int .i64 j ∧ ∃ tl tv wv, PL w w.heap.size xb lb mb sts rts tl L L (.slice (some ⟨gs', 0, none⟩) m cs') (.slice (some ⟨gr', 0, none⟩) m cr') tv wv lv1 mv1 wr ∧ tl.length ≤ k + j ∧ j ≤ tl.length) (fun i _ => m - (intOf i).toNat)
      case atStart => exact ⟨0, Nat.zero_le _, rfl, tl, _, _, HP.out, htl, Nat.zero_le _⟩
      case round =>
        clear HP
        obtain ⟨j, hj, rfl, tl2, tv2, wv2, hp2, ht1, ht2⟩ := hrel
        have P := hid hp2
        have y2 := hp2.four.here.cell 2 _ rfl
        obtain ⟨gx1, cx1, ex1, hcs⟩ := hp2.viewS hm (by omega)
        obtain ⟨gx2, cx2, ex2, hcr⟩ := hp2.viewR hrl (by omega)
        simp only [Value.slice.injEq, Option.some.injEq, Addr.mk.injEq, and_true, true_and] at ex1 ex2
        obtain ⟨rfl, rfl⟩ := ex1
        obtain ⟨rfl, rfl⟩ := ex2
        by_cases hlt : j < m
        · obtain ⟨e, e', he, he', hke⟩ := KS.out j hlt
          have HE := hid he
          have HE' := hid he'
          have HKE := hid hke
          have CV : Hid (∀ {tl tv wv V}, PL w w.heap.size xb lb mb sts rts tl L L (.slice (some ⟨gs', 0, none⟩) m cs') (.slice (some ⟨gr', 0, none⟩) m cr') tv wv lv1 mv1 V → V.cell? ⟨xb, 2, none⟩ = some (.slice (some ⟨gs', 0, none⟩) m cs') ∧ V.cell? ⟨xb, 3, none⟩ = some (.slice (some ⟨gr', 0, none⟩) m cr') ∧ V.cell? ⟨gs', j, none⟩ = some (sp e) ∧ V.cell? ⟨gr', j, none⟩ = some (sp e')) := fun {tl tv wv V} h => by
            obtain ⟨gy1, cy1, ey1, hc1⟩ := h.viewS hm (by omega)
            obtain ⟨gy2, cy2, ey2, hc2⟩ := h.viewR hrl (by omega)
            simp only [Value.slice.injEq, Option.some.injEq, Addr.mk.injEq, and_true, true_and] at ey1 ey2
            obtain ⟨rfl, rfl⟩ := ey1
            obtain ⟨rfl, rfl⟩ := ey2
            exact ⟨h.four.here.cell 2 _ rfl, h.four.here.cell 3 _ rfl, hc1 j e he, hc2 j e' he'⟩
          have PD := hid (P.out.below (below_drewN wr 1))
          obtain ⟨u2, u3, u4, u5⟩ := CV.out P.out
          have i1 : (j : Int) < (m : Int) := by omega
          clear hp2 hcs hcr he he' hke
          go_wp2_with fail
          go_region_held3 (fun W' => W'.cell? ⟨xb, 2, none⟩ = some (.slice (some ⟨gs', 0, none⟩) m cs') ∧ W'.cell? ⟨xb, 3, none⟩ = some (.slice (some ⟨gr', 0, none⟩) m cr') ∧ W'.cell? ⟨gs', j, none⟩ = some (sp e) ∧ W'.cell? ⟨gr', j, none⟩ = some (sp e')) (go_keep) (first
            | (go_at_call 13; go_must (refine (PD.out.formP HE.out).mono ?_; rintro r1 w1 ⟨b1', rfl, o1, hb1⟩; have P1 := hid (PD.out.below hb1); have O1 := hid o1; have sz1 := hb1.size; obtain ⟨z2, z3, z4, z5⟩ := CV.out P1.out; clear o1 hb1))
            | (go_at_call 14; go_must (refine (P1.out.formR HE'.out).mono ?_; rintro r2 w2 ⟨b2', rfl, o2, hb2⟩; rw [HKE.out] at o2; have P2 := hid (P1.out.below hb2); have O1' := hid (ku_below hb2 _ _ _ _ O1.out); have O2 := hid o2; obtain ⟨z2', z3', z4', z5'⟩ := CV.out P2.out; clear o2 hb2))
            | (go_at_call 12; go_must (refine (P2.out.tell _ _ (fn (kd e)) (ff (kd e)) (own_base O1'.out PD.out.gs.hB) (own_base O2.out P1.out.gs.hB) (fn_le _) (by omega) (PD.out.fresh O1'.out)).mono ?_; rintro r3 w3 ⟨rfl, tv3, wv3, h3'⟩; have P3 := hid h3'; obtain ⟨z2'', z3'', z4'', z5''⟩ := CV.out h3'; clear h3')))
          go_wp2_with fail
          exact ⟨⟨j + 1, by omega, by go_num, _, _, _, P3.out, by simp; omega, by simp; omega⟩, by simp [intOf]; omega⟩
        · have ek : j = m := by omega
          subst ek
          obtain ⟨mm, hmm⟩ : ∃ z, tl2.length = z := ⟨_, rfl⟩
          rw [hmm] at ht1 ht2
          obtain ⟨gt, ct, et, hct⟩ := hp2.viewT hmm (by omega)
          obtain ⟨gw, cw, ew, hcw⟩ := hp2.viewW hmm (by omega)
          subst et ew
          have HMM := hid hmm
          clear hp2 hcs hcr hct hcw hmm
          go_wp2_with fail
          go_loopw [6] (fun i wr => ∃ t : Nat, t ≤ mm ∧ i = .int .i64 t ∧ PL w w.heap.size xb lb mb sts rts tl2 L L (.slice (some ⟨gs', 0, none⟩) j cs') (.slice (some ⟨gr', 0, none⟩) j cr') (.slice (some ⟨gt, 0, none⟩) mm ct) (.slice (some ⟨gw, 0, none⟩) mm cw) lv1 mv1 wr) (fun i _ => mm - (intOf i).toNat)
          case atStart => exact ⟨0, Nat.zero_le _, rfl, P.out⟩
          case round =>
            clear P y2
            obtain ⟨t, ht, rfl, hp3⟩ := hrel
            have P := hid hp3
            have y4 := hp3.four.here.cell 4 _ rfl
            have y5 := hp3.four.here.cell 5 _ rfl
            obtain ⟨gx1, cx1, ex1, hct⟩ := hp3.viewT HMM.out (by omega)
            obtain ⟨gx2, cx2, ex2, hcw⟩ := hp3.viewW HMM.out (by omega)
            simp only [Value.slice.injEq, Option.some.injEq, Addr.mk.injEq, and_true, true_and] at ex1 ex2
            obtain ⟨rfl, rfl⟩ := ex1
            obtain ⟨rfl, rfl⟩ := ex2
            by_cases hlt : t < mm
            · obtain ⟨q, hq⟩ : ∃ q, tl2[t]? = some q := ⟨_, List.getElem?_eq_getElem (by have := HMM.out; omega)⟩
              obtain ⟨o1, o2, o3⟩ := hp3.told.own q (List.mem_of_getElem? hq)
              have x1 := hct t q hq
              have x2 := hcw t q hq
              have HQ : Hid (∀ d, Calls Tryd.prog 15 #[q.t, q.w] (wr.drewN d) fun e w' => e = .returned (.bool true) ∧ ∃ x, w' = (wr.drewN d).drewN x) := fun d => By.same_true q.t q.w q.n q.f q.f (wr.drewN d) (o1.reads.drewN d) (o2.reads.drewN d) (by omega) (fun _ _ => rfl)
              have i1 : (t : Int) < (mm : Int) := by omega
              obtain ⟨qt, eqt⟩ : ∃ z, q.t = z := ⟨_, rfl⟩
              obtain ⟨qw, eqw⟩ : ∃ z, q.w = z := ⟨_, rfl⟩
              rw [eqt] at x1 HQ
              rw [eqw] at x2 HQ
              clear hp3 hct hcw o1 o2 o3 eqt eqw hq
              go_wp2_with fail
              go_quiet ((go_at_call 15; exact Calls.quiet_of (HQ.out _)))
              go_wp2_with fail
              exact ⟨⟨t + 1, by omega, by go_num, P.out.below (below_drewN _ _)⟩, by simp [intOf]; omega⟩
            · have ek : t = mm := by omega
              subst ek
              have HAP := hid (hp3.apart HMM.out (by omega) (by omega) rfl hct)
              clear hp3 hct hcw y5
              go_wp2_with fail
              refine HAP.out.mono ?_
              rintro e w9 ⟨rfl, hb9⟩
              have BF := hid (P.out.gs.bel.trans hb9)
              clear hb9
              go_wp2
              go_ret
              exact ⟨rfl, BF.out⟩
end Go.Proofs.YtdhbkekpjojlnaaDoor.Sg
