/- The walk of CostRows: runs of each, codes, runs of all; each answer is new memory. -/
import Derived.Test.YtdmacflcjbkkpaaGreatJn
import Derived.Test.YtdmacflcjbkkpaaGreatJl
import Derived.Test.YtdmacflcjbkkpaaGreatCia
import Derived.Test.YtdmacflcjbkkpaaGreatJq
namespace Go.Proofs.YtdmacflcjbkkpaaGreat.Cd
open Go.Proofs.YtdmacflcjbkkpaaGreat.Co
open Go.ChangeShapes Go.WideShapes Go.ChangeAt Go.RowKit
open Go.Proofs.YtdmacflcjbkkpaaGreat (Rn RB Own sm putL SameOrNew types_ne row_kept same14 AP Inv1 apart15)
open Go.Proofs.YtdmacflcjbkkpaaGreat.Ou (Sk sv sL LDk SVk LDk_run SVk_run)
open Go.Proofs.YtdmacflcjbkkpaaGreat.Tb (Blk Blk.newAt put_all Kp.setCells)
theorem rb_cong {w : World} {v : Value} {n : Nat} {f g : Nat → Sk} (h : Sx.RB w v n f) (e : ∀ i, i < n → f i = g i) : Sx.RB w v n g := by
  obtain ⟨a, cap, rfl, h1, h2, h0 | ⟨b, off, rfl, hc⟩⟩ := h
  · exact ⟨a, cap, rfl, h1, h2, .inl h0⟩
  · exact ⟨_, cap, rfl, h1, h2, .inr ⟨b, off, rfl, by rw [← Sx.sl_congr n f g e]; exact hc⟩⟩
theorem rr_lt (f : Nat → Sk) (k : Nat) : (rr f k).length ≤ 5 := (row_len _ _).2
theorem jn_len (f : Nat → Sk) (k : Nat) : (jn [] (rws P00 (lf f k))).length ≤ 5 * k := by rw [AA_jn]; exact AA_len f k
theorem cc_b (f : Nat → Sk) (i : Nat) : 0 ≤ cc f i ∧ cc f i ≤ 11 := cod_b _ _
theorem row_ne {w : World} {base r : Nat} {v : Value} {n : Nat} {xs cs : List Value} {t : TypeId} (h : w.ownsRow base 33 1 v n xs) (hb : Blk w r cs t) (ht : t ≠ 33) : v.ownBlock ≠ some r := fun e1 => by
  rcases h.2 with ⟨hu, _⟩ | ⟨g', cap, cur, hu, _, hg', _⟩
  · rw [hu] at e1; cases e1
  · rw [hu] at e1
    simp only [Value.ownBlock, Option.some.injEq] at e1
    subst e1
    rw [show w.heap[g']? = _ from hb] at hg'
    simp only [Option.some.injEq, Obj.cells.injEq] at hg'
    exact ht hg'.2.1
theorem own_ec {w : World} {g n : Nat} {f : Nat → Sk} {base : Nat} (h : Blk w g ((List.range n).map (fun i => .int .i64 (cc f i))) 34) (hb : base ≤ g) (hn : n ≤ 1000) : Ec.Own w base (.slice (some ⟨g, 0, none⟩) n n) n (cc f) :=
  ⟨fun i => by have := cc_b f i; omega, by simp [Ec.bl], .inr ⟨g, n, ((List.range n).map (fun i => Value.int .i64 (cc f i))).toArray, rfl, hb, h, Nat.le_refl _, by unfold maxLen; omega, by simp, by rw [List.take_of_length_le (by simp)]; rfl⟩⟩
/-- All lists, in one row: two, n, n more. -/
def vAll (a b : Value) (u um : Nat → Value) (n j : Nat) : Value := if j = 0 then a else if j = 1 then b else if j < 2 + n then u (j - 2) else um (j - 2 - n)
def fAll (R : List Ru) (F : Nat → List Ru) (n j : Nat) : List Ru := if j < 2 then R else if j < 2 + n then F (j - 2) else F (j - 2 - n)
theorem vAll_get (a b : Value) (u um : Nat → Value) (n j : Nat) (hj : j < 2 + n + n) : ([a, b] ++ (List.range n).map u ++ (List.range n).map um)[j]? = some (vAll a b u um n j) := by
  unfold vAll
  by_cases h0 : j = 0
  · subst h0; rfl
  rw [if_neg h0]
  by_cases h1 : j = 1
  · subst h1; rfl
  rw [if_neg h1]
  by_cases h2 : j < 2 + n
  · rw [if_pos h2, List.getElem?_append_left (by simp; omega), List.getElem?_append_right (by simp; omega)]
    rw [show j - [a, b].length = j - 2 from rfl, List.getElem?_map, List.getElem?_range (by omega)]; rfl
  · rw [if_neg h2, List.getElem?_append_right (by simp; omega)]
    rw [show j - ([a, b] ++ (List.range n).map u).length = j - 2 - n by simp; omega, List.getElem?_map, List.getElem?_range (by omega)]; rfl
set_option maxRecDepth 100000 in
set_option maxHeartbeats 8000000 in
theorem rows_w (v : Value) (n : Nat) (f : Nat → Sk) (w : World) (h : Sx.RB w v n f) (hs : ∀ i, i < n → SkIn (f i)) (hn : (n + 6) * 56 ≤ 140737488355328) :
    Calls Tryz.prog 4 #[v] w fun e w' => e = .returned (.bool true) ∧ Below w.heap.size w w' := by
  obtain ⟨a, c, e0, hnc, hcm, hz⟩ := id h
  subst e0
  obtain ⟨i0, hi0, hz0, hz1, hz2⟩ := info_parts infoR
  have H := hid h
  have HS := hid hs
  have n1 : n ≤ 100000000000000 := by omega
  have c1 : c ≤ 9223372036854775807 := by unfold maxLen at hcm; omega
  have LE := hid (Sx.lent_ok _ n f w h hn)
  have HN6 := hid hn
  clear h hs hn hcm hz
  by_cases hlt : 300 < n
  · have h3 : 300 < (n : Int) := by omega
    clear LE
    go_enter Tryz.func4, Tryz.ntmps4
    go_wp2
    go_ret
    exact ⟨rfl, Below.refl _ _⟩
  · have h3 : ¬ 300 < (n : Int) := by omega
    have hn3 : n ≤ 300 := by omega
    go_enter Tryz.func4, Tryz.ntmps4
    go_wp2_with fail
    refine LE.out.mono ?_
    rintro e W1 ⟨full, rfl, hof, b1⟩
    have RF := hid hof.reads
    obtain ⟨fa, fcap, rfl, fnc, fcm, _⟩ := hof.reads
    have RO : Hid (Sx.RB W1 (.slice fa n fcap) n f) := hid (rb_cong (RF.out.first n (by omega)) (fun i hi => by unfold Sx.lent; rw [if_pos hi]))
    have B1 := hid b1
    have fc1 : fcap ≤ 9223372036854775807 := by unfold maxLen at fcm; omega
    have q1 : (n : Int) ≤ ((n + 6 : Nat) : Int) := by omega
    have q2 : (n : Int) ≤ (fcap : Int) := by omega
    have q3 : (0 : Int) ≤ (n : Int) := by omega
    clear hof fcm b1 LE
    have EC := hid (each_apart _ n f W1 RO.out HS.out (by omega))
    go_wp2_with fail
    refine EC.out.mono ?_
    rintro e W2 ⟨ge, u, rfl, ke, ⟨Be, hbe⟩, hge, b2⟩
    have KE := hid ke
    have OE := hid hbe
    have B2 := hid b2
    have RO2 := hid (RO.out.below b2)
    clear EC ke hbe hge b2
    have EC := hid (each_apart _ n f W2 RO2.out HS.out (by omega))
    go_wp2_with fail
    refine EC.out.mono ?_
    rintro e W3 ⟨gm, um, rfl, km, ⟨Bm, hbm⟩, hgm, b3⟩
    have KM := hid km
    have OM := hid hbm
    have B3 := hid b3
    have RO3 := hid (RO2.out.below b3)
    clear EC km hbm hgm b3
    have CC := hid (codes_ok _ n f W3 RO3.out HS.out (by omega))
    go_wp2_with fail
    refine CC.out.mono ?_
    rintro e W4 ⟨gc, rfl, kc, hgc, b4⟩
    have KC := hid kc
    have GC := hid hgc
    have B4 := hid b4
    have RO4 := hid (RO3.out.below b4)
    clear CC kc hgc b4
    have CC := hid (codes_ok _ n f W4 RO4.out HS.out (by omega))
    go_wp2_with fail
    refine CC.out.mono ?_
    rintro e W5 ⟨gd, rfl, kd, hgd, b5⟩
    have KD := hid kd
    have GD := hid hgd
    have B5 := hid b5
    have RO5 := hid (RO4.out.below b5)
    clear CC kd hgd b5
    have RC0 := hid (runs_ok _ n f W5 RO5.out HS.out (by omega))
    go_wp2_with fail
    refine RC0.out.mono ?_
    rintro e W6 ⟨vr, rfl, hor, b6⟩
    have OR := hid hor
    have B6 := hid b6
    have RO6 := hid (RO5.out.below b6)
    clear RC0 hor b6
    have RC0 := hid (runs_ok _ n f W6 RO6.out HS.out (by omega))
    go_wp2_with fail
    refine RC0.out.mono ?_
    rintro e W7 ⟨vt, rfl, hot, b7⟩
    have OT := hid hot
    have B7 := hid b7
    clear RC0 hot b7
    have B17 := hid (below_next (below_next (below_next (below_next (below_next (below_next B1.out B2.out) B3.out) B4.out) B5.out) B6.out) B7.out)
    have EW := hid (deach_ok _ n f W7 (H.out.below B17.out) HS.out (by omega))
    go_wp2_with fail
    refine EW.out.mono ?_
    rintro e W8 ⟨vw, T, rfl, hrow, hT, hown, b8⟩
    have OW := hid hown
    have HT := hid hT
    have ROW := hid hrow
    have B8 := hid b8
    have BF8 := hid (below_next (below_next (below_next (below_next (below_next (below_next B2.out B3.out) B4.out) B5.out) B6.out) B7.out) b8)
    clear EW hown hT hrow b8
    obtain ⟨wa, wc, rfl⟩ : ∃ a c, vw = .slice a n c := by
      rcases ROW.out.2 with ⟨rfl, h0⟩ | ⟨g, cap, cur, rfl, _⟩
      · exact ⟨none, 0, by rw [h0]⟩
      · exact ⟨_, cap, rfl⟩
    have KP := hid (Sx.kept_ok (.slice fa (n + 6) fcap) _ n f W8 (RF.out.below BF8.out) (H.out.below (below_next B17.out B8.out)) HN6.out)
    go_wp2_with fail
    refine KP.out.mono ?_
    rintro e W9 ⟨rfl, b9⟩
    have B9 := hid b9
    clear KP b9
    have T89 := hid B9.out
    have T79 := hid (below_next B8.out T89.out)
    have T69 := hid (below_next B7.out T79.out)
    have T59 := hid (below_next B6.out T69.out)
    have T49 := hid (below_next B5.out T59.out)
    have T39 := hid (below_next B4.out T49.out)
    have T29 := hid (below_next B3.out T39.out)
    have KE9 := hid (KE.out.below T29.out)
    have OE9 : Hid (∀ i, i < n → Own W9 (Be i) (u i) (rr f i)) := hid fun i hi => (OE.out i hi).1.below T29.out
    have KM9 := hid (KM.out.below T39.out)
    have OM9 : Hid (∀ i, i < n → Own W9 (Bm i) (um i) (rr f i)) := hid fun i hi => (OM.out i hi).1.below T39.out
    have KC9 := hid (KC.out.below T49.out)
    have KD9 := hid (KD.out.below T59.out)
    have OR9 := hid (OR.out.below T69.out)
    have OT9 := hid (OT.out.below T79.out)
    have OW9 : Hid (∀ i, i < n → ∃ x, T[i]? = some x ∧ Own W9 W7.heap.size x (rr f i)) := hid fun i hi => by obtain ⟨x, e, o⟩ := OW.out i hi; exact ⟨x, e, o.below T89.out⟩
    have ROW9 := hid (row_kept ROW.out (Kp.of_below (fun _ => False) T89.out) (fun _ _ e => e))
    have H9 := hid (H.out.below (below_next B17.out T79.out))
    have n300 : n ≤ 300 := hn3
    go_wp2
    go_loopw [12] (fun x wr => ∃ k : Nat, k ≤ n ∧ x = .int .i64 k ∧ Below W9.heap.size W9 wr) (fun x _ => n - (RowKit.intOf x).toNat)
    case atStart => exact ⟨0, Nat.zero_le _, rfl, Below.refl _ _⟩
    case round =>
      obtain ⟨k, hk, rfl, hbel⟩ := hrel
      have HB := hid hbel
      clear hbel
      by_cases hltk : k < n
      · obtain ⟨x, hx, ox⟩ := OW9.out k hltk
        have oe := OE9.out k hltk
        have om := OM9.out k hltk
        have x1 := (KE9.out.below HB.out).cell k (u k) (by rw [List.getElem?_map, List.getElem?_range hltk]; rfl)
        have x2 := (KM9.out.below HB.out).cell k (um k) (by rw [List.getElem?_map, List.getElem?_range hltk]; rfl)
        obtain ⟨gw, rfl, cw⟩ : ∃ g, wa = some ⟨g, 0, none⟩ ∧ W9.cell? ⟨g, k, none⟩ = some x := by
          have h2 := ROW9.out
          rcases ROW9.out.2 with ⟨_, h0⟩ | ⟨g, cap, cur, hv, _, hg, _⟩
          · omega
          · simp only [Value.slice.injEq, true_and] at hv
            obtain ⟨rfl, rfl⟩ := hv
            exact ⟨g, rfl, by rw [h2.cellAt k (by omega)]; exact hx⟩
        have x3 : wr.cell? ⟨gw, k, none⟩ = some x := by rw [HB.out.cell (p := ⟨gw, k, none⟩) (block_lt_of_cell cw)]; exact cw
        obtain ⟨L, hL⟩ : ∃ L, rr f k = L := ⟨_, rfl⟩
        have lL : L.length ≤ 5 := by rw [← hL]; exact rr_lt f k
        rw [hL] at ox oe om
        obtain ⟨y1, hy1⟩ : ∃ v, u k = v := ⟨_, rfl⟩
        obtain ⟨y2, hy2⟩ : ∃ v, um k = v := ⟨_, rfl⟩
        rw [hy1] at x1 oe
        rw [hy2] at x2 om
        obtain ⟨a1, d1, m1, rfl⟩ := oe.isSlice
        obtain ⟨a2, d2, m2, rfl⟩ := om.isSlice
        obtain ⟨a3, d3, m3, rfl⟩ := ox.isSlice
        have R1 := hid (oe.below HB.out).reads
        have R2 := hid (om.below HB.out).reads
        have R3 := hid (ox.below HB.out).reads
        have SA : Hid (∀ d, Calls Tryz.prog 11 #[.slice a1 d1 m1, .slice a3 d3 m3] (wr.drewN d) fun e w4 => e = .returned (.bool true) ∧ ∃ d', w4 = (wr.drewN d).drewN d') := hid fun d => by
          have h := same14 _ _ L L (wr.drewN d) (R1.out.below (below_drewN _ _)) (R3.out.below (below_drewN _ _)) (by omega) (by omega)
          rw [decide_eq_true rfl] at h
          exact h
        have SB : Hid (∀ d, Calls Tryz.prog 11 #[.slice a2 d2 m2, .slice a3 d3 m3] (wr.drewN d) fun e w4 => e = .returned (.bool true) ∧ ∃ d', w4 = (wr.drewN d).drewN d') := hid fun d => by
          have h := same14 _ _ L L (wr.drewN d) (R2.out.below (below_drewN _ _)) (R3.out.below (below_drewN _ _)) (by omega) (by omega)
          rw [decide_eq_true rfl] at h
          exact h
        have kn : (k : Int) < (n : Int) := by omega
        have kz : (0 : Int) ≤ (k : Int) := by omega
        clear ox oe om hx cw hL hy1 hy2 lL
        go_wp2_with fail
        go_quiet (first
          | (go_at_call 11; with_reducible refine (SA.out _).mono ?_; rintro e w4 ⟨rfl, d, rfl⟩; exact ⟨rfl, _, drewN_two _ _ _⟩)
          | (go_at_call 11; with_reducible refine (SB.out _).mono ?_; rintro e w4 ⟨rfl, d, rfl⟩; exact ⟨rfl, _, drewN_two _ _ _⟩))
        go_wp2
        go_roundw
        case rel => exact ⟨k + 1, by omega, by go_num, below_next HB.out (below_drewN _ _)⟩
        case measure => simp [RowKit.intOf]; omega
      · have e : n = k := by omega
        subst e
        have DC := hid (dcodes_ok _ n f wr (H9.out.below HB.out) HS.out (by omega))
        go_wp2_with fail
        refine DC.out.mono ?_
        rintro e W11 ⟨vc, rfl, hrc, b11⟩
        have VC := hid (rc_row hrc)
        have X11 := hid (below_next HB.out b11)
        clear DC hrc b11
        have SC := hid (samec2 (.slice (some ⟨gc, 0, none⟩) n n) vc n (cc f) W11 (rc_blk (KC9.out.below X11.out)) VC.out (by omega))
        go_wp2_with fail
        refine SC.out.mono ?_
        rintro e W12 ⟨rfl, b12⟩
        have X12 := hid (below_next X11.out b12)
        clear SC b12
        have SC := hid (samec2 (.slice (some ⟨gd, 0, none⟩) n n) (.slice (some ⟨gc, 0, none⟩) n n) n (cc f) W12 (rc_blk (KD9.out.below X12.out)) (rc_blk (KC9.out.below X12.out)) (by omega))
        go_wp2_with fail
        refine SC.out.mono ?_
        rintro e W13 ⟨rfl, b13⟩
        have X13 := hid (below_next X12.out b13)
        clear SC b13
        have DR := hid (druns_ok _ n f W13 (H9.out.below X13.out) HS.out (by omega))
        go_wp2_with fail
        refine DR.out.mono ?_
        rintro e W14 ⟨vq, rfl, hoq, b14⟩
        have OQ := hid hoq
        have X14 := hid (below_next X13.out b14)
        clear DR b14
        have JL := jn_len f n
        obtain ⟨JR, hJ⟩ : ∃ L, jn [] (rws P00 (lf f n)) = L := ⟨_, rfl⟩
        rw [hJ] at JL OQ OR OT OR9 OT9
        obtain ⟨ra, rn, rc', rfl⟩ := OR9.out.isSlice
        obtain ⟨ta, tn, tc, rfl⟩ := OT9.out.isSlice
        obtain ⟨qa, qn, qc, rfl⟩ := OQ.out.isSlice
        have S1 : Hid (Calls Tryz.prog 11 #[.slice ra rn rc', .slice qa qn qc] W14 fun e w4 => e = .returned (.bool true) ∧ Below W14.heap.size W14 w4) := hid (by
          have h := same14 _ _ JR JR W14 (OR9.out.below X14.out).reads OQ.out.reads (by omega) (by omega)
          rw [decide_eq_true rfl] at h
          refine Calls.mono h ?_
          rintro e w4 ⟨he, d, rfl⟩
          exact ⟨he, below_drewN _ _⟩)
        clear hoq hJ
        go_wp2_with fail
        refine S1.out.mono ?_
        rintro e W15 ⟨rfl, b15⟩
        have X15 := hid (below_next X14.out b15)
        clear S1 b15
        have S1 : Hid (Calls Tryz.prog 11 #[.slice ta tn tc, .slice ra rn rc'] W15 fun e w4 => e = .returned (.bool true) ∧ Below W15.heap.size W15 w4) := hid (by
          have h := same14 _ _ JR JR W15 (OT9.out.below X15.out).reads (OR9.out.below X15.out).reads (by omega) (by omega)
          rw [decide_eq_true rfl] at h
          refine Calls.mono h ?_
          rintro e w4 ⟨he, d, rfl⟩
          exact ⟨he, below_drewN _ _⟩)
        go_wp2_with fail
        refine S1.out.mono ?_
        rintro e W16 ⟨rfl, b16⟩
        have X16 := hid (below_next X15.out b16)
        clear S1 b16
        obtain ⟨WA, hWA⟩ : ∃ U, W16.alloc (.cells #[.slice ra rn rc', .slice ta tn tc] 33) = U := ⟨_, rfl⟩
        have R1 : Hid (WA.ownsRow W16.heap.size 33 1 (.slice (some ⟨W16.heap.size, 0, none⟩) 2 2) 2 [.slice ra rn rc', .slice ta tn tc]) := hid (by rw [← hWA]; exact World.ownsRow_lit W16 #[.slice ra rn rc', .slice ta tn tc] 2 (Nat.le_refl _) (by simp [maxLen]) rfl)
        have XA := hid (below_next X16.out (show Below W16.heap.size W16 WA by rw [← hWA]; exact below_alloc _ _))
        have SA : Hid (W16.heap.size < WA.heap.size) := hid (by rw [← hWA]; simp)
        have KEA := hid (KE9.out.below XA.out)
        have SX16 := X16.out.size
        go_wp2_with (at_builtin; go_must (refine wpList_append_own _ rfl _ _ 30 rfl W16.heap.size 33 i0 (.slice none 0 0) 1 24 Tryz.underlying30 hi0 hz0 hz1 hz2 rfl (by decide) _ _ _ rfl R1.out ⟨ge, 0, none⟩ n n ((List.range n).map u) rfl ?l1 ?c1 ?c2 ?c3 ?c4 ?c5 ?_))
        case l1 => simp
        case c1 => intro j x hx; rw [Go.Proofs.YtdmacflcjbkkpaaGreat.add_plain, Nat.zero_add]; exact KEA.out.cell j x hx
        case c2 =>
          intro x hx
          obtain ⟨j, hj, rfl⟩ := List.mem_map.1 hx
          obtain ⟨p1, p2, p3, e⟩ := (OE9.out j (by simpa using hj)).isSlice
          rw [e]; rfl
        case c3 => simp [maxLen]; omega
        case c4 => omega
        case c5 => exact Nat.le_of_lt SA.out
        intro va W17 hr17 hg17 _
        clear hWA
        have R2 := hid hr17
        have X17 := hid (XA.out.grown hg17 (Nat.le_trans SX16 (Nat.le_of_lt SA.out)) (fun q hq => by simp only [Value.ownBlock, Option.some.injEq] at hq; omega))
        have S17 : Hid (W16.heap.size ≤ W17.heap.size) := hid (Nat.le_trans (Nat.le_of_lt SA.out) hg17.size)
        have KMA := hid (KM9.out.below X17.out)
        clear hr17 hg17
        go_wp2_with (at_builtin; go_must (refine wpList_append_own _ rfl _ _ 30 rfl W16.heap.size 33 i0 (.slice none 0 0) 1 24 Tryz.underlying30 hi0 hz0 hz1 hz2 rfl (by decide) _ _ _ rfl R2.out ⟨gm, 0, none⟩ n n ((List.range n).map um) rfl ?l1 ?c1 ?c2 ?c3 ?c4 ?c5 ?_))
        case l1 => simp
        case c1 => intro j x hx; rw [Go.Proofs.YtdmacflcjbkkpaaGreat.add_plain, Nat.zero_add]; exact KMA.out.cell j x hx
        case c2 =>
          intro x hx
          obtain ⟨j, hj, rfl⟩ := List.mem_map.1 hx
          obtain ⟨p1, p2, p3, e⟩ := (OM9.out j (by simpa using hj)).isSlice
          rw [e]; rfl
        case c3 => simp [maxLen]; omega
        case c4 => omega
        case c5 => exact S17.out
        intro vb W18 hr18 hg18 _
        have R3 := hid hr18
        have X18 := hid (X17.out.grown hg18 (Nat.le_trans SX16 S17.out) (fun q hq => by have := (R2.out.lt q hq).1; omega))
        clear hr18 hg18
        obtain ⟨gL, cL, rfl⟩ : ∃ g c, vb = .slice (some ⟨g, 0, none⟩) (2 + n + n) c := by
          rcases R3.out.2 with ⟨_, h0⟩ | ⟨g, cap, cur, rfl, _⟩
          · omega
          · exact ⟨g, cap, rfl⟩
        have S18 : Hid (W16.heap.size ≤ W18.heap.size) := hid (by have := (R3.out.lt gL rfl); omega)
        have BW9 := hid (below_next B17.out T79.out)
        have BW18 := hid (below_next BW9.out X18.out)
        obtain ⟨WB, hWB⟩ : ∃ U, W18.alloc (.cells #[.slice (some ⟨gc, 0, none⟩) n n, .slice (some ⟨gd, 0, none⟩) n n] 49) = U := ⟨_, rfl⟩
        have XB := hid (show Below W18.heap.size W18 WB by rw [← hWB]; exact below_alloc _ _)
        have gcl := KC.out.lt
        have gdl := KD.out.lt
        have gcm := GC.out
        have gdm := GD.out
        have z1 := B1.out.size
        have z2 := B2.out.size
        have z3 := B3.out.size
        have z4 := B4.out.size
        have z5 := B5.out.size
        have z6 := B6.out.size
        have z7 := B7.out.size
        have z9 := T79.out.size
        have z18 := X18.out.size
        have AC : Hid (Calls Tryz.prog 25 #[.slice (some ⟨W18.heap.size, 0, none⟩) 2 2] WB fun e w' => e = .returned (.bool true) ∧ Ec.Bz (fun q => q = gc ∨ q = gd) w.heap.size WB w') := hid (by
          have o1 : Ec.Own W18 w.heap.size (.slice (some ⟨gc, 0, none⟩) n n) n (cc f) := own_ec (KC9.out.below X18.out) (by omega) (by omega)
          have o2 : Ec.Own W18 w.heap.size (.slice (some ⟨gd, 0, none⟩) n n) n (cc f) := own_ec (KD9.out.below X18.out) (by omega) (by omega)
          have ap := Ec.ap_of [.slice (some ⟨gc, 0, none⟩) n n, .slice (some ⟨gd, 0, none⟩) n n] W18.heap.size (fun i j hij hj => by
            have hj : j < 2 := hj
            obtain rfl : i = 0 := by omega
            obtain rfl : j = 1 := by omega
            exact .inr (fun e => by
              have e : some gc = some gd := e
              simp only [Option.some.injEq] at e
              omega)) (fun j hj q hq => by
            have hj : j < 2 := hj
            have : j = 0 ∨ j = 1 := by omega
            rcases this with rfl | rfl
            · have hq : some gc = some q := hq
              simp only [Option.some.injEq] at hq
              omega
            · have hq : some gd = some q := hq
              simp only [Option.some.injEq] at hq
              omega)
          have iv := Ec.inv1_lit W18 w.heap.size [.slice (some ⟨gc, 0, none⟩) n n, .slice (some ⟨gd, 0, none⟩) n n] #[.slice (some ⟨gc, 0, none⟩) n n, .slice (some ⟨gd, 0, none⟩) n n] rfl (fun _ => n) (fun _ => cc f) (fun j hj => by
            have hj : j < 2 := hj
            have : j = 0 ∨ j = 1 := by omega
            rcases this with rfl | rfl
            · exact o1
            · exact o2)
          rw [hWB] at iv
          exact Ec.apart30 w.heap.size 2 W18.heap.size 2 _ (fun _ => n) (fun _ => cc f) WB ap iv (fun j i => by have := cc_b f i; omega) (by decide) (by decide) (fun j _ => by omega) (Nat.le_trans (below_next BW18.out XB.out).size (Nat.le_refl _)) _ (fun j hj q hq => by
            have hj : j < 2 := hj
            have : j = 0 ∨ j = 1 := by omega
            rcases this with rfl | rfl
            · have hq : some gc = some q := hq
              simp only [Option.some.injEq] at hq
              exact .inl hq.symm
            · have hq : some gd = some q := hq
              simp only [Option.some.injEq] at hq
              exact .inr hq.symm))
        clear gcl gdl gcm gdm z1 z2 z3 z4 z5 z6 z7 z9 z18
        go_wp2_with fail
        clear hWB
        refine AC.out.mono ?_
        rintro e W20 ⟨rfl, bz⟩
        have BZ := hid bz
        clear AC bz
        have AR : Hid (Calls Tryz.prog 14 #[.slice (some ⟨gL, 0, none⟩) (2 + n + n) cL] W20 fun e w' => e = .returned (.bool true) ∧ Kp (fun q => w.heap.size ≤ q) W20 w') := hid (by
          have z1 := B1.out.size
          have z2 := B2.out.size
          have z3 := B3.out.size
          have z4 := B4.out.size
          have z5 := B5.out.size
          have z6 := B6.out.size
          have z7 := B7.out.size
          have z9 := T79.out.size
          have z16 := SX16
          have zl := (R3.out.lt gL rfl).1
          have KCB := KC9.out.below (below_next X18.out XB.out)
          have KDB := KD9.out.below (below_next X18.out XB.out)
          have RB1 := row_kept R3.out (Kp.of_below (fun _ => False) XB.out) (fun _ _ e => e)
          have R20 := row_kept RB1 BZ.out.2 (fun g e1 e2 => by
            rcases e2 with e2 | e2
            · exact row_ne RB1 KCB (by decide) (e2 ▸ e1)
            · exact row_ne RB1 KDB (by decide) (e2 ▸ e1))
          have mv : ∀ b x L, Own W9 b x L → Own W20 b x L := fun b x L o => by
            have o1 := o.below (below_next X18.out XB.out)
            refine o1.kept BZ.out.2 (fun g e1 e2 => ?_)
            rcases e2 with e2 | e2
            · exact own_nt (o1.base (Nat.zero_le _)) KCB (by decide) g e1 e2
            · exact own_nt (o1.base (Nat.zero_le _)) KDB (by decide) g e1 e2
          have num : ∀ j, j < 2 + n + n → ∀ q, (vAll (.slice ra rn rc') (.slice ta tn tc) u um n j).ownBlock = some q → (j = 0 ∧ W5.heap.size ≤ q ∧ q < W6.heap.size) ∨ (j = 1 ∧ W6.heap.size ≤ q ∧ q < W7.heap.size) ∨ (∃ i, i < n ∧ j = i + 2 ∧ (u i).ownBlock = some q ∧ W1.heap.size ≤ q ∧ Be i ≤ q ∧ q < W2.heap.size) ∨ (∃ i, i < n ∧ j = i + 2 + n ∧ (um i).ownBlock = some q ∧ W2.heap.size ≤ q ∧ Bm i ≤ q ∧ q < W3.heap.size) := fun j hj q hq => by
            unfold vAll at hq
            by_cases h0 : j = 0
            · rw [if_pos h0] at hq
              exact .inl ⟨h0, OR.out.lt q hq⟩
            rw [if_neg h0] at hq
            by_cases h1 : j = 1
            · rw [if_pos h1] at hq
              exact .inr (.inl ⟨h1, OT.out.lt q hq⟩)
            rw [if_neg h1] at hq
            by_cases h2 : j < 2 + n
            · rw [if_pos h2] at hq
              obtain ⟨o, m1, _⟩ := OE.out (j - 2) (by omega)
              have := o.lt q hq
              exact .inr (.inr (.inl ⟨j - 2, by omega, by omega, hq, by omega, this.1, this.2⟩))
            · rw [if_neg h2] at hq
              obtain ⟨o, m1, _⟩ := OM.out (j - 2 - n) (by omega)
              have := o.lt q hq
              exact .inr (.inr (.inr ⟨j - 2 - n, by omega, by omega, hq, by omega, this.1, this.2⟩))
          have dj : ∀ i j, i < j → j < 2 + n + n → ∀ g, (vAll (.slice ra rn rc') (.slice ta tn tc) u um n i).ownBlock = some g → (vAll (.slice ra rn rc') (.slice ta tn tc) u um n j).ownBlock ≠ some g := fun i j hij hj g h1 h2 => by
            have a := num i (by omega) g h1
            have b := num j hj g h2
            rcases a with ⟨a0, a1, a2⟩ | ⟨a0, a1, a2⟩ | ⟨a, ha, a0, aq, a1, a2, a3⟩ | ⟨a, ha, a0, aq, a1, a2, a3⟩ <;> rcases b with ⟨b0, b1, b2⟩ | ⟨b0, b1, b2⟩ | ⟨b, hb, b0, bq, b1, b2, b3⟩ | ⟨b, hb, b0, bq, b1, b2, b3⟩
            all_goals first
              | omega
              | (have := (OE.out b hb).2.2 a (by omega) g aq; omega)
              | (have := (OM.out b hb).2.2 a (by omega) g aq; omega)
          refine apart15 (fun q => w.heap.size ≤ q) w.heap.size (2 + n + n) gL cL (vAll (.slice ra rn rc') (.slice ta tn tc) u um n) (fun j => (fAll JR (rr f) n j).length) (fAll JR (rr f) n) W20 ⟨fun i j hi hj hne g h1 h2 => (Nat.lt_or_gt_of_ne hne).elim (fun h => dj i j h hj g h1 h2) (fun h => dj j i h hi g h2 h1), fun j hj e => ?_⟩ ⟨fun j hj => ?_, fun j hj => ?_⟩ (fun _ _ => rfl) (by omega) (fun j hj => ?_) (Nat.le_trans (below_next BW18.out XB.out).size BZ.out.1.size) (by have := R20.lt gL rfl; omega) (fun j hj q hq => ?_)
          · have := num j hj gL e
            rcases this with ⟨_, _, _⟩ | ⟨_, _, _⟩ | ⟨a, _, _, _, _, _, _⟩ | ⟨a, _, _, _, _, _, _⟩ <;> omega
          · unfold vAll fAll
            by_cases h0 : j = 0
            · rw [if_pos h0, if_pos (by omega)]
              exact mv _ _ _ (OR9.out.base (by omega))
            rw [if_neg h0]
            by_cases h1 : j = 1
            · rw [if_pos h1, if_pos (by omega)]
              exact mv _ _ _ (OT9.out.base (by omega))
            rw [if_neg h1]
            by_cases h2 : j < 2 + n
            · rw [if_pos h2, if_neg (by omega), if_pos h2]
              have m1 := (OE.out (j - 2) (by omega)).2.1
              exact mv _ _ _ ((OE9.out (j - 2) (by omega)).base (by omega))
            · rw [if_neg h2, if_neg (by omega), if_neg h2]
              have m1 := (OM.out (j - 2 - n) (by omega)).2.1
              exact mv _ _ _ ((OM9.out (j - 2 - n) (by omega)).base (by omega))
          · rw [R20.cellAt j (by omega)]
            have e := vAll_get (.slice ra rn rc') (.slice ta tn tc) u um n j hj
            rw [List.append_assoc] at e
            exact e
          · show ((fAll JR (rr f) n j).length + 7) * 24 ≤ _
            have : (fAll JR (rr f) n j).length ≤ 1500 := by
              unfold fAll
              split
              · omega
              · split
                · exact Nat.le_trans (rr_lt f _) (by omega)
                · exact Nat.le_trans (rr_lt f _) (by omega)
            omega
          · have := num j hj q hq
            show w.heap.size ≤ q
            rcases this with ⟨_, _, _⟩ | ⟨_, _, _⟩ | ⟨a, _, _, _, _, _, _⟩ | ⟨a, _, _, _, _, _, _⟩ <;> omega)
        go_wp2_with fail
        refine AR.out.mono ?_
        rintro e W21 ⟨rfl, kz⟩
        have BE : Hid (Below w.heap.size w W21) := hid (by
          have b1 := below_next BW18.out XB.out
          exact (b1.trans BZ.out.1).trans (kz.below (Nat.le_trans b1.size BZ.out.1.size) (fun k hk e => by omega)))
        clear kz
        go_wp2
        go_ret
        exact ⟨rfl, BE.out⟩
end Go.Proofs.YtdmacflcjbkkpaaGreat.Cd
