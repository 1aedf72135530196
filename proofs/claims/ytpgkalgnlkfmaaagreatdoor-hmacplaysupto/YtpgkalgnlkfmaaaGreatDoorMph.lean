/- The walk of the statement HmacPlays. -/
import Derived.Test.YtpgkalgnlkfmaaaGreatDoorMpg
import Derived.Deep.RegionLaw
import Derived.Deep.AppendLies
import Derived.Deep.RegionHeld3
import Derived.Deep.DeepMust
namespace Go.Proofs.YtpgkalgnlkfmaaaGreatDoor.Dg
open Go.ChangeShapes Go.WideShapes Go.ChangeAt Go.RowKit
open Go.Proofs.YtpgkalgnlkfmaaaGreatDoor.By
open Go.Proofs.YtpgkalgnlkfmaaaGreatDoor.Sh (Blk size_alloc)
/-- Two values, appended to no list. -/
theorem wpList_pair {w : World} {ops : Array Oper} {rest : List Oper} {o : Oper} {a : Act} {Q : Exit → Act → World → Prop} (t el : TypeId) (z : Value) (bytes : Nat) (hut : Tryz.prog.underlying t = some (.slice el)) (hinfo : (Tryz.prog.info? el).map (fun i => (i.zero, i.size, i.bytes)) = some (some z, 1, bytes)) (hz : z.cells.size = 1) (hby : bytes ≤ 24) (hgd : o.guard = none) (s x : Operand)
    (ho : o.op = .call { callee := .builtin .append, args := #[s, x], argTypes := #[t, t] })
    (v1 v2 : Value) (hv : ∀ u ∈ [v1, v2], u.oneCell' = true) (ad : Addr)
    (hs : a.eval s = .slice none 0 0) (hx : a.eval x = .slice (some ad) 2 2) (hc : ∀ j u, [v1, v2][j]? = some u → w.cell? (ad.add j) = some u)
    (h : ∀ u' w', w'.ownsRow w.heap.size el 1 u' 2 [v1, v2] → Below w.heap.size w w' → wpList Tryz.prog ops Q rest (a.put o.dst u') w') : wpList Tryz.prog ops Q (o :: rest) a w := by
  obtain ⟨i0, hi, hz0, hz1, hz2⟩ := info_parts hinfo
  refine wpList_append_grows _ hgd s x t ho el i0 z 1 bytes hut hi hz0 hz1 hz2 hz (by decide) none 0 0 [] hs (fun _ => ⟨rfl, rfl⟩) rfl (fun b hb => by cases hb) ad 2 2 [v1, v2] hx rfl hc hv (by simp) (by simp [maxLen]) (by simp; omega) ?_
  intro u' w' hown hgr
  exact h u' w' (by simpa using hown) (below_of_grown hgr)
theorem cell_new2 (w : World) (a b : Value) (t : TypeId) (g : Nat) (hg : g = w.heap.size) : ∀ j u, [a, b][j]? = some u → (w.alloc (.cells #[a, b] t)).cell? ((⟨g, 0, none⟩ : Addr).add j) = some u := by
  subst hg
  have h := World.ownsRow_lit (base := 0) (e := t) (size := 1) w #[a, b] 2 (Nat.zero_le _) (by simp [maxLen]) rfl
  exact h.cells rfl
theorem PG.cells {w0 W : World} {B xb lb mb T tn : Nat} {tt : Int} {av : Nat → Prop} (h : PG w0 B xb lb mb T tn tt av W) : W.cell? ⟨xb, 0, none⟩ = some (.pointer (some ⟨lb, 0, none⟩)) ∧ W.cell? ⟨xb, 1, none⟩ = some (.pointer (some ⟨mb, 0, none⟩)) := by
  obtain ⟨sts, rts, tl, L, sv, rv, tv, wv, lv, mv, hP, r⟩ := h
  exact ⟨hP.four.here.cell 0 _ rfl, hP.four.here.cell 1 _ rfl⟩
theorem sameL (a b : Value) (L : List Rn) (W : World) (ha : RB W a L) (hb : RB W b L) (hl : L.length < 1000000000000000000) : Calls Tryz.prog 8 #[a, b] W fun e w' => e = .returned (.bool true) ∧ ∃ d, w' = W.drewN d := by
  have h := same14 a b L L W ha hb hl hl
  rwa [decide_eq_true rfl] at h
set_option maxRecDepth 100000 in
set_option maxHeartbeats 2000000 in
theorem playsW (sa : Option Addr) (n sc : Nat) (X0 : List Stp) (w : World) (hk : KT w) (hX0 : SB w (.slice sa n sc) X0) (hn : n ≤ 174762) (htk : tk X0 X0.length ≤ 1048576) :
    Calls Tryz.prog 3 #[.slice sa n sc] w fun e w' => e = .returned (.bool true) ∧ Below w.heap.size w w' := by
  have HSB := hid hX0
  have HTK := hid htk
  clear hX0 htk
  have G0 := hid (GM.start w hk)
  clear hk
  go_enter Tryz.func3, Tryz.ntmps3
  go_wp2_with fail
  refine (new9 w).mono ?_
  rintro e w1 ⟨rfl, hl1, hb1⟩
  have G1 := hid (G0.out.addLed (o := true) hb1 hl1)
  have z1 := hb1.size
  have B1 := hid hb1
  obtain ⟨lb, hlb⟩ : ∃ x, w.heap.size = x := ⟨_, rfl⟩
  have HLB := hid hlb
  rw [hlb]
  clear hl1 hb1 hlb
  go_wp2_with fail
  refine (refNew10 w1).mono ?_
  rintro e w2 ⟨rfl, hl2, hb2⟩
  have G2 := hid (G1.out.addLed (o := false) hb2 hl2)
  have z2 := hb2.size
  have B2 := hid hb2
  obtain ⟨mb, hmb⟩ : ∃ x, w1.heap.size = x := ⟨_, rfl⟩
  have HMB := hid hmb
  rw [hmb]
  clear hl2 hb2 hmb
  go_wp2_with (at_builtin; go_must (refine wpList_pair 28 33 (.pointer none) 8 Tryz.underlying28 infoP rfl (by decide) rfl _ _ rfl _ _ ?c1 ⟨_, 0, none⟩ rfl rfl (cell_new2 _ _ _ _ _ (by simp)) ?_))
  case c1 => intro u hu; simp at hu; rcases hu with rfl | rfl <;> rfl
  intro u1 w3 hown hb3
  obtain ⟨X, hX⟩ : ∃ x, w2.alloc (.cells #[.pointer (some ⟨lb, 0, none⟩), .pointer (some ⟨mb, 0, none⟩), .slice none 0 0, .slice none 0 0, .slice none 0 0, .slice none 0 0] 32) = x := ⟨_, rfl⟩
  obtain ⟨xb, hxb⟩ : ∃ x, w2.heap.size = x := ⟨_, rfl⟩
  have hXs : X.heap.size = xb + 1 := by rw [← hX, ← hxb]; simp
  rw [hX] at hb3
  rw [hxb] at hown hb3
  rw [hxb]
  have hx : Blk X xb [.pointer (some ⟨lb, 0, none⟩), .pointer (some ⟨mb, 0, none⟩), .slice none 0 0, .slice none 0 0, .slice none 0 0, .slice none 0 0] 32 := by rw [← hX]; exact Sg.Blk.newAt w2 _ _ _ _ hxb.symm rfl
  have GX : GM w w.heap.size [] [⟨true, lb, .slice none 0 0, []⟩, ⟨false, mb, .slice none 0 0, []⟩] X := by
    have := G2.out.below (below_alloc w2 (.cells #[.pointer (some ⟨lb, 0, none⟩), .pointer (some ⟨mb, 0, none⟩), .slice none 0 0, .slice none 0 0, .slice none 0 0, .slice none 0 0] 32))
    rw [hX, HLB.out, HMB.out] at this
    rw [HLB.out]
    exact this
  have szb : w.heap.size ≤ xb := by omega
  have hb3' : Below ((X.alloc (.cells #[.int .i64 0, .nilIface, .nilIface, .nilIface] 38)).alloc (.cells #[.pointer none, .pointer (some ⟨xb + 1, 0, none⟩)] 33)).heap.size ((X.alloc (.cells #[.int .i64 0, .nilIface, .nilIface, .nilIface] 38)).alloc (.cells #[.pointer none, .pointer (some ⟨xb + 1, 0, none⟩)] 33)) w3 := by
    rw [show ((X.alloc (.cells #[.int .i64 0, .nilIface, .nilIface, .nilIface] 38)).alloc (.cells #[.pointer none, .pointer (some ⟨xb + 1, 0, none⟩)] 33)).heap.size = xb + 1 + 1 + 1 from by simp [hXs]]
    exact hb3
  have bX1 := below_next (below_alloc (X.alloc (.cells #[.int .i64 0, .nilIface, .nilIface, .nilIface] 38)) (.cells #[.pointer none, .pointer (some ⟨xb + 1, 0, none⟩)] 33)) hb3'
  have s0 : Blk w3 (xb + 1) nm4 38 := (Sg.Blk.newAt X #[.int .i64 0, .nilIface, .nilIface, .nilIface] _ _ _ hXs.symm rfl).below bX1
  have bX := below_next (below_alloc X (.cells #[.int .i64 0, .nilIface, .nilIface, .nilIface] 38)) bX1
  have hr1 : w3.ownsRow w.heap.size 33 1 u1 2 [.pointer none, .pointer (some ⟨xb + 1, 0, none⟩)] := ⟨hown.1, by
    rcases hown.2 with h' | ⟨g, c, cur, e1, e2, e3⟩
    · exact .inl h'
    · exact .inr ⟨g, c, cur, e1, by omega, e3⟩⟩
  obtain ⟨ua, uc, rfl⟩ := rowG_slice hr1
  have P1 := hid (init1 GX hx szb bX s0 (by omega) hr1)
  have x3 := hx.below bX
  have c2 := x3.cell 2 _ rfl
  have f2 := x3.frozen 2
  have hl3 := x3.lt
  have j3 := P1.out.four.here.cell 3 _ rfl
  have j3f := P1.out.four.here.frozen 3
  have hs3 : (w3.setCell ⟨xb, 2, none⟩ (.slice ua 2 uc)).heap.size = w3.heap.size := by simp [World.setCell]
  clear hown hb3 hb3' bX1 s0 hr1 hx GX G0 G1 G2 B1 B2
  go_wp2_with (at_builtin; go_must (refine wpList_pair 29 39 (.pointer none) 8 Tryz.underlying29 infoQ rfl (by decide) rfl _ _ rfl _ _ ?c1 ⟨_, 0, none⟩ rfl rfl (cell_new2 _ _ _ _ _ (by simp)) ?_))
  case c1 => intro u hu; simp at hu; rcases hu with rfl | rfl <;> rfl
  intro u2 w4 hown hb4
  obtain ⟨U, hU⟩ : ∃ x, w3.setCell ⟨xb, 2, none⟩ (.slice ua 2 uc) = x := ⟨_, rfl⟩
  have P2 := P1.out
  rw [hU] at P2 hb4 hs3
  obtain ⟨c0, hc0⟩ : ∃ x, w3.heap.size = x := ⟨_, rfl⟩
  rw [hc0] at hown hb4 hs3
  rw [hc0]
  have szU : w.heap.size ≤ U.heap.size := P2.gm.hB
  have hb4' : Below ((U.alloc (.cells #[.int .u8 0, .slice none 0 0, .slice none 0 0, .bool false] 43)).alloc (.cells #[.pointer none, .pointer (some ⟨c0, 0, none⟩)] 39)).heap.size ((U.alloc (.cells #[.int .u8 0, .slice none 0 0, .slice none 0 0, .bool false] 43)).alloc (.cells #[.pointer none, .pointer (some ⟨c0, 0, none⟩)] 39)) w4 := by
    rw [show ((U.alloc (.cells #[.int .u8 0, .slice none 0 0, .slice none 0 0, .bool false] 43)).alloc (.cells #[.pointer none, .pointer (some ⟨c0, 0, none⟩)] 39)).heap.size = c0 + 1 + 1 from by simp [hs3]]
    exact hb4
  have bU1 := below_next (below_alloc (U.alloc (.cells #[.int .u8 0, .slice none 0 0, .slice none 0 0, .bool false] 43)) (.cells #[.pointer none, .pointer (some ⟨c0, 0, none⟩)] 39)) hb4'
  have s0 : IsQ w4 c0 none := ⟨_, _, _, (Sg.Blk.newAt U #[.int .u8 0, .slice none 0 0, .slice none 0 0, .bool false] _ _ _ hs3.symm rfl).below bU1⟩
  have bU := below_next (below_alloc U (.cells #[.int .u8 0, .slice none 0 0, .slice none 0 0, .bool false] 43)) bU1
  have hr2 : w4.ownsRow w.heap.size 39 1 u2 2 [.pointer none, .pointer (some ⟨c0, 0, none⟩)] := ⟨hown.1, by
    rcases hown.2 with h' | ⟨g, c, cur, e1, e2, e3⟩
    · exact .inl h'
    · exact .inr ⟨g, c, cur, e1, by omega, e3⟩⟩
  obtain ⟨va, vc, rfl⟩ := rowG_slice hr2
  have P4 := init2 P2 bU s0 (by omega) hr2
  have PG0 := hid (init3 P4)
  have x4 := (PLg.below P2 bU).four.here
  have d3 := x4.cell 3 _ rfl
  have d3f := x4.frozen 3
  have hl4 := x4.lt
  clear hown hb4 hb4' bU1 s0 hr2 P4 P2 P1 c2 f2 hl3 j3 j3f x3 x4 hU bX
  go_wp2_with fail
  have HLEN : Hid (n = X0.length) := by
    obtain ⟨a, cap, e, _⟩ := HSB.out
    simp at e
    exact e.2.1
  go_loopw [4] (fun i wr => ∃ k : Nat, k ≤ n ∧ i = .int .i64 k ∧ PG w w.heap.size xb lb mb (tk X0 k) k ((tk X0 k : Int) + 7 * k) (fun _ => False) wr) (fun i _ => n - (intOf i).toNat)
  case atStart => exact ⟨0, Nat.zero_le _, rfl, PG0.out⟩
  case round =>
    clear PG0
    obtain ⟨k, hk, rfl, hpg⟩ := hrel
    have G := hid hpg
    have hT := tk_mono X0 k
    have hT2 := HTK.out
    clear hpg
    by_cases hlt : k < n
    · obtain ⟨s, hs⟩ : ∃ s, X0[k]? = some s := ⟨_, List.getElem?_eq_getElem (by have := HLEN.out; omega)⟩
      have hT3 := tk_mono X0 (k + 1)
      have hT4 := tk_succ hs
      obtain ⟨bb, off, ha, hq, HST⟩ : ∃ bb off, sa = some ⟨bb, off, none⟩ ∧ s.q < 256 ∧ Hid (∀ W', Below w.heap.size w W' → (W'.cell? ⟨bb, off + k * 5, none⟩ = some (.int .i64 s.d) ∧ W'.cell? ⟨bb, off + k * 5 + 1, none⟩ = some (.int .u8 (s.q : Int)) ∧ W'.cell? ⟨bb, off + k * 5 + 2, none⟩ = some (.int .u8 s.al) ∧ W'.cell? ⟨bb, off + k * 5 + 3, none⟩ = some (.slice s.pa s.pn s.pc) ∧ W'.cell? ⟨bb, off + k * 5 + 4, none⟩ = some (.slice s.qa s.qn s.qc)) ∧ By.RB W' (.slice s.pa s.pn s.pc) s.pn s.g ∧ By.RB W' (.slice s.qa s.qn s.qc) s.qn s.g2) := by
        obtain ⟨a, cap, e, hc⟩ := HSB.out
        simp at e
        obtain ⟨rfl, _, _⟩ := e
        obtain ⟨bb, off, ea, _, hq, _⟩ := hc k s hs
        refine ⟨bb, off, ea, hq, fun W' hb => ?_⟩
        obtain ⟨a', cap', e', hc'⟩ := HSB.out.below hb
        obtain ⟨b2, o2, ea2, cc, _, hr⟩ := hc' k s hs
        simp at e'
        rw [← e'.1, ea] at ea2
        simp at ea2
        obtain ⟨rfl, rfl⟩ := ea2
        exact ⟨cc, hr⟩
      subst ha
      have hE : Hid (tk X0 (k + 1) = tk X0 k + (s.pn + s.qn)) := hT4
      obtain ⟨⟨v0, v1, v2, v3, v4⟩, _⟩ := HST.out wr G.out.bel.1
      obtain ⟨y0, y1⟩ := G.out.cells
      have GD := hid (G.out.below (below_drewN wr 1))
      have HPB : Hid (∀ w', Below w.heap.size w w' → By.RB w' (.slice s.pa s.pn s.pc) s.pn s.g) := fun w' h => (HST.out w' h).2.1
      have HPB2 : Hid (∀ w', Below w.heap.size w w' → By.RB w' (.slice s.qa s.qn s.qc) s.qn s.g2) := fun w' h => (HST.out w' h).2.2
      go_wp2_with fail
      have i1 : (k : Int) < (n : Int) := by omega
      go_region_held3 (fun W' => W'.cell? ⟨xb, 0, none⟩ = some (.pointer (some ⟨lb, 0, none⟩)) ∧ W'.cell? ⟨xb, 1, none⟩ = some (.pointer (some ⟨mb, 0, none⟩)) ∧ W'.cell? ⟨bb, off + k * 5, none⟩ = some (.int .i64 s.d) ∧ W'.cell? ⟨bb, off + k * 5 + 1, none⟩ = some (.int .u8 (s.q : Int)) ∧ W'.cell? ⟨bb, off + k * 5 + 2, none⟩ = some (.int .u8 s.al) ∧ W'.cell? ⟨bb, off + k * 5 + 3, none⟩ = some (.slice s.pa s.pn s.pc) ∧ W'.cell? ⟨bb, off + k * 5 + 4, none⟩ = some (.slice s.qa s.qn s.qc)) (go_keep) (first
        | (go_at_call 7; go_must (refine (step_any w.heap.size xb lb mb (tk X0 k) k s.q s.d s.al _ s.pa s.qa s.pn s.pc s.qn s.qc w _ hq GD.out (by omega) (by omega) (by omega) s.g s.g2 HPB.out HPB2.out).mono ?_; rintro r1 w1' ⟨rfl, h1⟩; have G1 := hid h1; obtain ⟨y0', y1'⟩ := h1.cells; obtain ⟨⟨z0', z1', z2', z3', z4'⟩, _⟩ := HST.out w1' h1.bel.1; obtain ⟨sts, rts, tl, L, sv1, rv1, tv1, wv1, lv1, mv1, hP, _, _, _, _, _, htt, _⟩ := h1; have P1 := hid hP; have hLl := len_tot hP.lled.pos; clear hP))
        | (go_at_call 9; go_must (refine (runs22 lb lv1 L _ P1.out.lled (by omega)).mono ?_; rintro r2 w2' ⟨vv2, rfl, ho2, hb2⟩; have G2 := hid (G1.out.below hb2); have P2 := hid (PLg.below P1.out hb2); have R2 := hid ho2.reads; obtain ⟨y0', y1'⟩ := G2.out.cells; obtain ⟨⟨z0', z1', z2', z3', z4'⟩, _⟩ := HST.out w2' G2.out.bel.1; clear ho2 hb2))
        | (go_at_call 10; go_must (refine (refRuns20 mb mv1 L _ P2.out.mled (by omega)).mono ?_; rintro r3 w3' ⟨vv3, rfl, ho3, hb3⟩; have G3 := hid (G2.out.below hb3); have R3 := hid ho3.reads; have R2' := hid (R2.out.below hb3); obtain ⟨y0', y1'⟩ := G3.out.cells; obtain ⟨⟨z0', z1', z2', z3', z4'⟩, _⟩ := HST.out w3' G3.out.bel.1; clear ho3 hb3))
        | (go_at_call 8; go_must (refine (sameL vv2 vv3 L _ R2'.out R3.out (by omega)).mono ?_; rintro r4 w4' ⟨rfl, d4, rfl⟩; have G4 := hid (G3.out.below (below_drewN w3' d4)))))
      go_wp2_with fail
      have hE2 := hE.out
      refine ⟨⟨k + 1, by omega, by go_num, G4.out.mono (by omega) (by omega) (by omega)⟩, by simp [intOf]; omega⟩
    · have ek : k = n := by omega
      subst ek
      obtain ⟨sts, rts, tl, L, sv1, rv1, tv1, wv1, lv1, mv1, hP, hkd, hs3', hs12, htl, hlk, htt, _⟩ := G.out
      have hrl : rts.length = sts.length := by
        have := congrArg List.length hkd
        simpa using this.symm
      obtain ⟨m, hm⟩ : ∃ z, sts.length = z := ⟨_, rfl⟩
      rw [hm] at hs3' hs12 hrl
      obtain ⟨gs', cs', e1, hcs⟩ := PL.viewS hP hm (by omega)
      obtain ⟨gr', cr', e2, hcr⟩ := PL.viewR hP hrl (by omega)
      subst e1 e2
      have HP := hid hP
      have KS : Hid (∀ j, j < m → ∃ e e', sts[j]? = some e ∧ rts[j]? = some e' ∧ kdQ e' = kdP e) := fun j hj => by
        obtain ⟨_, e, e', a1, a2, a3⟩ := kinds_at hkd (by rw [hm]; exact hj)
        exact ⟨e, e', a1, a2, a3⟩
      have MX := hid hlk
      clear G hP hcs hcr hkd hlk htt
      go_wp2_with fail
      go_loopw [5] (fun i wr => ∃ j : Nat, j ≤ m ∧ i = .int .i64 j ∧ ∃ tl tv wv, PL w w.heap.size xb lb mb (fun _ => False) sts rts tl L L (.slice (some ⟨gs', 0, none⟩) m cs') (.slice (some ⟨gr', 0, none⟩) m cr') tv wv lv1 mv1 wr ∧ tl.length ≤ k + j ∧ j ≤ tl.length) (fun i _ => m - (intOf i).toNat)
      case atStart => exact ⟨0, Nat.zero_le _, rfl, tl, _, _, HP.out, htl, Nat.zero_le _⟩
      case round =>
        clear HP
        obtain ⟨j, hj, rfl, tl2, tv2, wv2, hp2, ht1, ht2⟩ := hrel
        have P := hid hp2
        have y2 := hp2.four.here.cell 2 _ rfl
        obtain ⟨gx1, cx1, ex1, hcs⟩ := PL.viewS hp2 hm (by omega)
        obtain ⟨gx2, cx2, ex2, hcr⟩ := PL.viewR hp2 hrl (by omega)
        simp only [Value.slice.injEq, Option.some.injEq, Addr.mk.injEq, and_true, true_and] at ex1 ex2
        obtain ⟨rfl, rfl⟩ := ex1
        obtain ⟨rfl, rfl⟩ := ex2
        by_cases hlt : j < m
        · obtain ⟨e, e', he, he', hke⟩ := KS.out j hlt
          have HE := hid he
          have HE' := hid he'
          have HKE := hid hke
          have HMX := hid (show Mx (tk X0 k) (kdQ e') by rw [hke]; exact lens_at MX.out he)
          have CV : Hid (∀ {tl tv wv V}, PL w w.heap.size xb lb mb (fun _ => False) sts rts tl L L (.slice (some ⟨gs', 0, none⟩) m cs') (.slice (some ⟨gr', 0, none⟩) m cr') tv wv lv1 mv1 V → V.cell? ⟨xb, 2, none⟩ = some (.slice (some ⟨gs', 0, none⟩) m cs') ∧ V.cell? ⟨xb, 3, none⟩ = some (.slice (some ⟨gr', 0, none⟩) m cr') ∧ V.cell? ⟨gs', j, none⟩ = some (spP e) ∧ V.cell? ⟨gr', j, none⟩ = some (spQ e')) := fun {tl tv wv V} h => by
            obtain ⟨gy1, cy1, ey1, hc1⟩ := PL.viewS h hm (by omega)
            obtain ⟨gy2, cy2, ey2, hc2⟩ := PL.viewR h hrl (by omega)
            simp only [Value.slice.injEq, Option.some.injEq, Addr.mk.injEq, and_true, true_and] at ey1 ey2
            obtain ⟨rfl, rfl⟩ := ey1
            obtain ⟨rfl, rfl⟩ := ey2
            exact ⟨h.four.here.cell 2 _ rfl, h.four.here.cell 3 _ rfl, hc1 j e he, hc2 j e' he'⟩
          have PD := hid (PLg.below P.out (below_drewN wr 1))
          obtain ⟨u2, u3, u4, u5⟩ := CV.out P.out
          have i1 : (j : Int) < (m : Int) := by omega
          clear hp2 hcs hcr he he' hke
          go_wp2_with fail
          go_region_held3 (fun W' => W'.cell? ⟨xb, 2, none⟩ = some (.slice (some ⟨gs', 0, none⟩) m cs') ∧ W'.cell? ⟨xb, 3, none⟩ = some (.slice (some ⟨gr', 0, none⟩) m cr') ∧ W'.cell? ⟨gs', j, none⟩ = some (spP e) ∧ W'.cell? ⟨gr', j, none⟩ = some (spQ e')) (go_keep) (first
            | (go_at_call 12; go_must (refine (PL.formP PD.out e HE.out).mono ?_; rintro r1 w1' ⟨b1', rfl, o1, hb1⟩; have P1 := hid (PLg.below PD.out hb1); have O1 := hid o1; obtain ⟨z2, z3, z4, z5⟩ := CV.out P1.out; clear o1 hb1))
            | (go_at_call 13; go_must (refine (PL.formQ P1.out e' HE'.out HMX.out (by omega)).mono ?_; rintro r2 w2' ⟨b2', rfl, o2, hb2⟩; rw [HKE.out] at o2; have P2 := hid (PLg.below P1.out hb2); have O1' := hid ((ku_below hb2).own _ _ _ _ O1.out); have O2 := hid o2; obtain ⟨z2', z3', z4', z5'⟩ := CV.out P2.out; clear o2 hb2))
            | (go_at_call 11; go_must (refine (PLg.tell P2.out _ _ (fn (kdP e)) (ff (kdP e)) (own_base O1'.out PD.out.gm.hB) (own_base O2.out P1.out.gm.hB) (fn_le _) (by omega) (PLg.fresh PD.out O1'.out)).mono ?_; rintro r3 w3' ⟨rfl, tv3, wv3, h3', -⟩; have P3 := hid h3'; obtain ⟨z2'', z3'', z4'', z5''⟩ := CV.out h3'; clear h3')))
          go_wp2_with fail
          exact ⟨⟨j + 1, by omega, by go_num, _, _, _, P3.out, by simp; omega, by simp; omega⟩, by simp [intOf]; omega⟩
        · have ek : j = m := by omega
          subst ek
          obtain ⟨mm, hmm⟩ : ∃ z, tl2.length = z := ⟨_, rfl⟩
          rw [hmm] at ht1 ht2
          obtain ⟨gt, ct, et, hct⟩ := PL.viewT hp2 hmm (by omega)
          obtain ⟨gw, cw, ew, hcw⟩ := PL.viewW hp2 hmm (by omega)
          subst et ew
          have HMM := hid hmm
          clear hp2 hcs hcr hct hcw hmm
          go_wp2_with fail
          go_loopw [6] (fun i wr => ∃ t : Nat, t ≤ mm ∧ i = .int .i64 t ∧ PL w w.heap.size xb lb mb (fun _ => False) sts rts tl2 L L (.slice (some ⟨gs', 0, none⟩) j cs') (.slice (some ⟨gr', 0, none⟩) j cr') (.slice (some ⟨gt, 0, none⟩) mm ct) (.slice (some ⟨gw, 0, none⟩) mm cw) lv1 mv1 wr) (fun i _ => mm - (intOf i).toNat)
          case atStart => exact ⟨0, Nat.zero_le _, rfl, P.out⟩
          case round =>
            clear P y2
            obtain ⟨t, ht, rfl, hp3⟩ := hrel
            have P := hid hp3
            have y4 := hp3.four.here.cell 4 _ rfl
            have y5 := hp3.four.here.cell 5 _ rfl
            obtain ⟨gx1, cx1, ex1, hct⟩ := PL.viewT hp3 HMM.out (by omega)
            obtain ⟨gx2, cx2, ex2, hcw⟩ := PL.viewW hp3 HMM.out (by omega)
            simp only [Value.slice.injEq, Option.some.injEq, Addr.mk.injEq, and_true, true_and] at ex1 ex2
            obtain ⟨rfl, rfl⟩ := ex1
            obtain ⟨rfl, rfl⟩ := ex2
            by_cases hlt : t < mm
            · obtain ⟨q, hq⟩ : ∃ q, tl2[t]? = some q := ⟨_, List.getElem?_eq_getElem (by have := HMM.out; omega)⟩
              obtain ⟨o1, o2, o3⟩ := hp3.told.own q (List.mem_of_getElem? hq)
              have x1 := hct t q hq
              have x2 := hcw t q hq
              have HQ : Hid (∀ d, Calls Tryz.prog 14 #[q.t, q.w] (wr.drewN d) fun e w' => e = .returned (.bool true) ∧ ∃ x, w' = (wr.drewN d).drewN x) := fun d => By.same_true q.t q.w q.n q.f q.f (wr.drewN d) (o1.reads.drewN d) (o2.reads.drewN d) (by omega) (fun _ _ => rfl)
              have i1 : (t : Int) < (mm : Int) := by omega
              obtain ⟨qt, eqt⟩ : ∃ z, q.t = z := ⟨_, rfl⟩
              obtain ⟨qw, eqw⟩ : ∃ z, q.w = z := ⟨_, rfl⟩
              rw [eqt] at x1 HQ
              rw [eqw] at x2 HQ
              clear hp3 hct hcw o1 o2 o3 eqt eqw hq
              go_wp2_with fail
              go_quiet ((go_at_call 14; exact Calls.quiet_of (HQ.out _)))
              go_wp2_with fail
              exact ⟨⟨t + 1, by omega, by go_num, PLg.below P.out (below_drewN _ _)⟩, by simp [intOf]; omega⟩
            · have ek : t = mm := by omega
              subst ek
              have HAP := hid (PL.apart hp3 HMM.out (by omega) (by omega) rfl hct)
              clear hp3 hct hcw y5
              go_wp2_with fail
              refine HAP.out.mono ?_
              rintro e w9 ⟨rfl, hb9⟩
              have BF := hid (P.out.gm.bel.trans hb9)
              clear hb9
              go_wp2
              go_ret
              exact ⟨rfl, BF.out⟩
end Go.Proofs.YtpgkalgnlkfmaaaGreatDoor.Dg
