/- The statement Pieces, walked. -/
import Derived.Test.YtidejhkajabdfaaDoorSlnone
import Derived.Test.YtidejhkajabdfaaDoorScut
import Derived.Deep.RegionWith
import Derived.Deep.RegionHeld3
import Derived.Deep.DeepMust
import Derived.Deep.DeepCutAuto
namespace Go.Proofs.YtidejhkajabdfaaDoor.Kc
open Go.ChangeShapes Go.WideShapes Go.ChangeAt Go.RowKit
open Go.Proofs.YtidejhkajabdfaaDoor.By Go.Proofs.YtidejhkajabdfaaDoor.Wd
/-- The sponge behind m bytes of the message f. -/
def zi (r : Nat) (f : Nat → Int) (m : Nat) : Z := Z.ins r zz f m
theorem zi_c {r : Nat} (hr : 0 < r) (f : Nat → Int) (m : Nat) : (zi r f m).c = m / r := by
  unfold zi; rw [(ins_count (z := zz) hr f m).1]
  show 0 + (0 + m) / r = _
  rw [Nat.zero_add, Nat.zero_add]
theorem zi_next (r : Nat) (f : Nat → Int) (m q : Nat) : Z.ins r (zi r f m) (fun i => f (m + i)) q = zi r f (m + q) := (ins_add r zz f m q).symm
theorem evk_big {L : List Rn} (h : Pos L) (hl : L.length ≤ 1000) (ht : tot L ≤ 1000000) (c : Nat) (hc : c ≤ 1000000) : Big (evk L c) := by
  have h3 := evk_len L c
  refine ⟨?_, by omega⟩
  rw [evk_tot h c (by omega)]; omega
theorem evk_nil_big (c : Nat) (hc : c ≤ 1000000) : Big (evk [] c) := evk_big pos_nil (by decide) (by decide) c hc
theorem evk_nil_tot (c : Nat) (hc : c ≤ 1000000) : tot (evk [] c) = c := by
  rw [evk_tot pos_nil c (by show (0 : Int) + c ≤ _; omega)]; show (0 : Int) + c = c; omega
section
variable {w0 W : World} {B b lb n m r : Nat} {sf : Int} {sts1 sts2 : List (Nat × SK)} {leds1 leds2 : List LE} {f : Nat → Int} {rv x : Value} {us : List Value}
/-- A piece is taken in. -/
theorem GS.piece (h : GS w0 B (sts1 ++ (b, some (r, sf, zi r f m, false)) :: sts2) (leds1 ++ ⟨true, lb, rv, evk [] (zi r f m).c⟩ :: leds2) W) (hc : Cuts W B f (x :: us) m n) (hn : n ≤ 3000) (hr : 8 ≤ r) :
    Calls Tryd.prog 24 #[.pointer (some ⟨b, 0, none⟩), .pointer (some ⟨lb, 0, none⟩), x] W fun e w' => e = .returned (.int .i64 0) ∧ ∃ q rv', m + q ≤ n ∧ GS w0 B (sts1 ++ (b, some (r, sf, zi r f (m + q), false)) :: sts2) (leds1 ++ ⟨true, lb, rv', evk [] (zi r f (m + q)).c⟩ :: leds2) w' ∧ Ko W w' ∧ Cuts w' B f us (m + q) n := by
  obtain ⟨q, hq, hu⟩ := hc
  have hle := hu.le
  have hko := fun w' hk => (h.koB (W' := w') hk).1
  refine (h.write q x (fun i => f (m + i)) (fun w' hk => (hko w' hk).own hq |>.reads) (by omega) (evk_nil_big _ (by rw [zi_c (by omega)]; exact Nat.le_trans (Nat.div_le_self _ _) (by omega)))).mono ?_
  rintro e w' ⟨rfl, rv', hG, hk⟩
  refine ⟨rfl, q, rv', hle, ?_, hk, hu.ko hk⟩
  rw [zi_next, ← evk_add] at hG
  have e1 : (zi r f m).c + ((zi r f (m + q)).c - (zi r f m).c) = (zi r f (m + q)).c := by
    rw [zi_c (by omega), zi_c (by omega)]
    have := Nat.div_le_div_right (c := r) (Nat.le_add_right m q)
    omega
  rw [e1] at hG
  exact hG
end
/-- A list of bytes of the call's own is gone on with. -/
theorem GS.grow {w0 W W' : World} {B B2 n : Nat} {sts : List (Nat × SK)} {leds : List LE} {v : Value} {f : Nat → Int} (h : GS w0 B sts leds W) (ho : By.Own W B2 v n f) (hB : B ≤ B2) (hg : W.grownBy W' v.ownBlock) : GS w0 B sts leds W' ∧ ∀ g cs t, Blk W g cs t → g < B2 → Blk W' g cs t := by
  cases e : v.ownBlock with
  | none =>
    rw [e] at hg
    exact ⟨h.below (below_of_grown hg), fun g cs t hb _ => hb.below (below_of_grown hg)⟩
  | some g =>
    rw [e] at hg
    obtain ⟨cs, hc⟩ := own8_type ho e
    have hge := own_row ho g e
    have hk : Kp (fun k => k = g) W W' := (Kp.of_grown hg).mono (fun k _ e => (Option.some.inj e).symm)
    exact ⟨h.other (t := 5) (cs := cs.toList) (by show W.heap[g]? = _; rw [hc]) (by decide) (by decide) (by decide) (by decide) hk (by omega), fun k cs t hb hk2 => hb.kept hk (by omega)⟩
theorem say_cat (r : Nat) (y : Z) (m : Nat) (i : Nat) : cat m (Z.say r y) (Z.say r (Z.out r y m)) i = Z.say r y i := by
  unfold cat
  split
  · rfl
  · rw [← say_add, show m + (i - m) = i from by omega]
set_option maxRecDepth 4000 in
set_option maxHeartbeats 8000000 in
theorem pieces_walk (a c d : Option Addr) (n cap nc cc nd cd : Nat) (f g h : Nat → Int) (k0 sf o0 : Int) (w : World) (hr : By.RB w (.slice a n cap) n f) (hg : By.RB w (.slice c nc cc) nc g) (hh : By.RB w (.slice d nd cd) nd h) (hsf : 0 ≤ sf ∧ sf < 256) (hk : KT w) (hnc : nc ≤ 1048576) (hnd : nd ≤ 1048576) :
    Calls Tryd.prog 4 #[.int .i64 k0, .int .u8 sf, .agg #[.slice a n cap, .slice c nc cc, .int .i64 o0, .slice d nd cd]] w fun e w' => e = .returned (.bool true) ∧ Below w.heap.size w w' := by
  have HR := hid hr
  have HG := hid hg
  have HH := hid hh
  have HSF := hid hsf
  have HX := hid (Blk.new w [.slice a n cap, .slice c nc cc, .int .i64 o0, .slice d nd cd] 50)
  have G0 := hid ((GS.start w hk).below (below_alloc w (.cells #[.slice a n cap, .slice c nc cc, .int .i64 o0, .slice d nd cd] 50)))
  clear hr hg hh hk hsf
  go_enter Tryd.func4, Tryd.ntmps4
  go_wp2_with fail
  refine (lives1 _ G0.out.kt).mono ?_
  rintro e w1 ⟨rfl, hb1⟩
  have G1 := hid (G0.out.below hb1)
  have X1 := hid (HX.out.below hb1)
  obtain ⟨B, hB⟩ : ∃ B, w.heap.size = B := ⟨_, rfl⟩
  have HB := hid hB
  rw [hB] at G1 X1
  rw [hB]
  clear hB hb1 G0 HX
  have x0 := X1.out.cell 0 _ rfl
  have x1 := X1.out.cell 1 _ rfl
  have x2 := X1.out.cell 2 _ rfl
  by_cases hn : 3000 < n
  · go_wp2
    go_ret
    refine ⟨rfl, ?_⟩
    rw [HB.out]
    exact G1.out.bel
  · go_wp2_with fail
    refine (rateOf1 k0 w1).mono ?_
    rintro e w1' ⟨⟨r, hr1, hr2, hr3, rfl⟩, rfl⟩
    go_wp2_with fail
    refine (pickN o0 3000 (by omega) (by omega) w1').mono ?_
    rintro e w1 ⟨⟨out, hout, rfl⟩, rfl⟩
    go_wp2_with fail
    refine (newOk r sf w1 hr1 hr2 hr3 HSF.out).mono ?_
    rintro e w2 ⟨rfl, hs2, hb2⟩
    have G2 := hid (G1.out.addNew hb2 (k := some (r, sf, zi r f 0, false)) hs2)
    have X2 := hid (X1.out.below hb2)
    clear hs2 hb2 G1 X1 x0 x1 x2
    obtain ⟨b1, e1⟩ : ∃ b, w1.heap.size = b := ⟨_, rfl⟩
    rw [e1] at G2
    rw [e1]
    clear e1
    go_wp2_with fail
    refine (newOk r sf w2 hr1 hr2 hr3 HSF.out).mono ?_
    rintro e w3 ⟨rfl, hs3, hb3⟩
    have G3 := hid (G2.out.addNew hb3 (k := some (r, sf, zi r f 0, false)) hs3)
    have X3 := hid (X2.out.below hb3)
    clear hs3 hb3 G2 X2
    obtain ⟨b2, e2⟩ : ∃ b, w2.heap.size = b := ⟨_, rfl⟩
    rw [e2] at G3
    rw [e2]
    clear e2
    go_wp2_with fail
    refine (new9 w3).mono ?_
    rintro e w4 ⟨rfl, hl4, hb4⟩
    have G4 := hid (G3.out.addLed hb4 (o := true) hl4)
    have X4 := hid (X3.out.below hb4)
    clear hl4 hb4 G3 X3
    obtain ⟨l1, e3⟩ : ∃ b, w3.heap.size = b := ⟨_, rfl⟩
    rw [e3] at G4
    rw [e3]
    clear e3
    go_wp2_with fail
    refine (new9 w4).mono ?_
    rintro e w5 ⟨rfl, hl5, hb5⟩
    have G5 := hid (show GS w B [(b1, some (r, sf, zi r f 0, false)), (b2, some (r, sf, zi r f 0, false))] [⟨true, l1, .slice none 0 0, evk [] (zi r f 0).c⟩, ⟨true, w4.heap.size, .slice none 0 0, []⟩] w5 from G4.out.addLed hb5 (o := true) hl5)
    have X5 := hid (X4.out.below hb5)
    clear hl5 hb5 G4 X4
    obtain ⟨l2, e4⟩ : ∃ b, w4.heap.size = b := ⟨_, rfl⟩
    rw [e4] at G5
    rw [e4]
    clear e4
    have x0 := X5.out.cell 0 _ rfl
    have x1 := X5.out.cell 1 _ rfl
    go_wp2_with fail
    refine (cut27 a c n cap nc cc f g _ (HR.out.below (by rw [HB.out]; exact G5.out.bel)) (HG.out.below (by rw [HB.out]; exact G5.out.bel)) (by omega) hnc).mono ?_
    rintro e w6 ⟨pv, vs, rfl, hrow, hcut, hb, hvl, hv0, -⟩
    have G6 := hid (G5.out.below hb)
    have X6 := hid (X5.out.below hb)
    have R6 := hid (row_mono hrow G5.out.hB)
    have C6 := hid (Cuts.mono hcut G5.out.hB)
    have VL := hid hvl
    obtain ⟨A, cp, rfl⟩ := row_slice hrow
    clear hrow hcut hb G5 X5 x0 x1 hvl
    go_wp2_with fail
    go_loopw [16] (fun x wr => ∃ (i m : Nat) (rv : Value), i ≤ vs.length ∧ x = .int .i64 i ∧ m ≤ n ∧ Cuts wr B f (vs.drop i) m n ∧ wr.ownsRow B 39 1 (.slice A vs.length cp) vs.length vs ∧ Blk wr B [.slice a n cap, .slice c nc cc, .int .i64 o0, .slice d nd cd] 50 ∧ GS w B [(b1, some (r, sf, zi r f m, false)), (b2, some (r, sf, zi r f 0, false))] [⟨true, l1, rv, evk [] (zi r f m).c⟩, ⟨true, l2, .slice none 0 0, []⟩] wr) (fun x _ => vs.length - (intOf x).toNat)
    case atStart => exact ⟨0, 0, _, by omega, rfl, by omega, C6.out, R6.out, X6.out, G6.out⟩
    case round =>
      clear G6 R6 C6 X6
      obtain ⟨i, m, rv, hi, rfl, hmn, hcut, hrow, hX, hG⟩ := hrel
      have C := hid hcut
      have R := hid hrow
      have X := hid hX
      have G := hid hG
      clear hcut hrow hG hX
      by_cases h1 : i < vs.length
      · obtain ⟨x, hx⟩ : ∃ x, vs[i]? = some x := ⟨_, List.getElem?_eq_getElem h1⟩
        obtain ⟨ga, gc, e, hcell⟩ := rowL_cell R.out hx
        simp only [Value.slice.injEq, true_and] at e
        obtain ⟨rfl, rfl⟩ := e
        rw [Nat.zero_add] at hcell
        have hd : vs.drop i = x :: vs.drop (i + 1) := by rw [List.drop_eq_getElem_cons h1]; congr 1; rw [List.getElem?_eq_getElem h1] at hx; exact Option.some.inj hx
        have D := hid hd
        rw [hd] at C
        have VLo := VL.out
        clear hx hd
        go_wp2_with fail
        refine (GS.piece (sts1 := []) (leds1 := []) G.out C.out (by omega) hr1).mono ?_
        rintro e w7 ⟨rfl, q, rv', hmq, hG7, hko, hC7⟩
        have G7 := hid hG7
        have C7 := hid hC7
        have R7 := hid (hko.row R.out)
        have X7 := hid (hko _ _ _ X.out (by decide) (by decide) (by decide) (by decide))
        clear hG7 hC7 hko G C R X hcell
        go_wp2_with fail
        refine ⟨⟨i + 1, m + q, rv', by omega, by go_num, hmq, C7.out, R7.out, X7.out, G7.out⟩, by simp [intOf]; omega⟩
      · have ei : i = vs.length := by omega
        subst ei
        have em : m = n := by have := C.out; rw [List.drop_length] at this; exact this
        subst em
        clear C R h1
        obtain ⟨Q, hQ⟩ : ∃ Q, m / r = Q := ⟨_, rfl⟩
        have hQ1 : Q ≤ 3000 := by rw [← hQ]; exact Nat.le_trans (Nat.div_le_self _ _) (by omega)
        have hdv : ((m : Int)).tdiv (r : Int) = (Q : Int) := by rw [Int.tdiv_eq_ediv_of_nonneg (by omega), ← hQ]; rfl
        have hdv2 : (m : Int) / (r : Int) = (Q : Int) := by rw [← hQ]; rfl
        have HQ := hid hQ
        have HZC : Hid ((zi r f m).c = Q) := by rw [zi_c (show 0 < r by omega) f m]; exact hQ
        clear hQ
        have nr0 : ¬ (r : Int) = 0 := by omega
        have nr1 : ¬ r = 0 := by omega
        have hwd : IntKind.i64.wrap (Q : Int) = (Q : Int) := by rw [IntKind.wrap_i64]; omega
        rw [HZC.out] at G
        have HT : Hid (tot (evk [] Q) = (Q : Int)) := evk_nil_tot _ (by omega)
        have HNB : Hid (∀ k, k < B → ¬ (k = b2 ∨ SE ⟨true, l2, .slice none 0 0, []⟩ k)) := fun k hk e => by
          have g1 := GS.mid (sts1 := [(b1, _)]) (sts2 := []) G.out
          have g2 := GS.midL (leds1 := [⟨true, l1, rv, _⟩]) (leds2 := []) G.out
          rcases e with e | e | e
          · have := g1.2.1; omega
          · have := g2.2.1; have e' : k = l2 := e; rw [e'] at hk; exact absurd hk (by have h3 : B ≤ l2 := this; omega)
          · have := g2.2.2.1 k e; omega
        have E9 : Hid ((Z.ins r (zi r f 0) f m).c - (zi r f 0).c = Q) := HZC.out
        have Gd := hid (G.out.below (below_drewN wr 1))
        have Xd := hid (X.out.drewN 1)
        have HOK := hid (GS.mid (sts1 := []) (sts2 := [(b2, _)]) G.out).1.ok
        have x0 := X.out.cell 0 _ rfl
        go_wp2_with fail
        go_cut [118] from 82 (fun t W => t = .bool false ∧ ∃ rv1 rv2, Blk W B [.slice a m cap, .slice c nc cc, .int .i64 o0, .slice d nd cd] 50 ∧ GS w B [(b1, some (r, sf, Z.fin r sf (zi r f m), true)), (b2, some (r, sf, zi r f m, false))] [⟨true, l1, rv1, evk (evk [] Q) 1⟩, ⟨true, l2, rv2, evk [] Q⟩] W)
        case first =>
          go_region_held3 (fun W' => W'.cell? ⟨B, 0, none⟩ = some (.slice a m cap)) (go_keep) (first
            | (go_at_call 24; go_must (refine (GS.write (sts1 := [(b1, _)]) (sts2 := []) (leds1 := [⟨true, l1, rv, _⟩]) (leds2 := []) Gd.out m _ f (fun w' hk => rb_in HR.out HB.out.symm Gd.out.bel hk HNB.out) (by omega) big_nil).mono ?_; rintro e w8 ⟨rfl, rv8, hG8, hko8⟩; rw [E9.out] at hG8; have G8 := hid (show GS w B [(b1, some (r, sf, zi r f m, false)), (b2, some (r, sf, zi r f m, false))] [⟨true, l1, rv, evk [] Q⟩, ⟨true, l2, rv8, evk [] Q⟩] w8 from hG8); have X8 := hid (hko8 _ _ _ Xd.out (by decide) (by decide) (by decide) (by decide)); have x8 := X8.out.cell 0 _ rfl; have LL1 := hid (show Led w8 l1 rv (evk [] Q) from (GS.midL (leds1 := []) (leds2 := [⟨true, l2, rv8, _⟩]) G8.out).1); have LL2 := hid (show Led w8 l2 rv8 (evk [] Q) from (GS.midL (leds1 := [⟨true, l1, rv, _⟩]) (leds2 := []) G8.out).1); have SP1 := hid (show Sp w8 b1 r sf (zi r f m) false from (GS.mid (sts1 := []) (sts2 := [(b2, _)]) G8.out).1); clear hG8 hko8))
            | (go_at_call 13; go_must (first
                | ((with_reducible refine (len20 l1 rv (evk [] Q) _ LL1.out).mono ?_); rw [HT.out]; rintro e w' ⟨rfl, rfl⟩)
                | ((with_reducible refine (len20 l2 rv8 (evk [] Q) _ LL2.out).mono ?_); rw [HT.out]; rintro e w' ⟨rfl, rfl⟩)))
            | (go_at_call 25; go_must (first
                | ((with_reducible refine (form_sp b1 r sf (zi r f m) false _ SP1.out).mono ?_); rintro e w9 ⟨rfl, hF9, hb9⟩; have F9 := hid (rb_blk hF9 (fmf_b HOK.out.b false) (by decide)); have G9 := hid (G8.out.below hb9); have X9 := hid (X8.out.below hb9); have x9 := X9.out.cell 0 _ rfl; have SP2 := hid (show Sp w9 b2 r sf (zi r f m) false from (GS.mid (sts1 := [(b1, _)]) (sts2 := []) G9.out).1); clear hF9 hb9)
                | ((with_reducible refine (form_sp b2 r sf (zi r f m) false _ SP2.out).mono ?_); rintro e w10 ⟨rfl, hF10, hb10⟩; have F10 := hid (rb_blk hF10 (fmf_b HOK.out.b false) (by decide)); have G10 := hid (G9.out.below hb10); have X10 := hid (X9.out.below hb10); have x10 := X10.out.cell 0 _ rfl; have F9' := hid (F9.out.below hb10); clear hF10 hb10)))
            | (go_at_call 15; go_must (refine (same_true _ _ 203 _ _ _ F9'.out F10.out (by omega) (fun _ _ => rfl)).mono ?_; rintro e w11 ⟨rfl, d11, rfl⟩))
            | (go_at_call 26; go_must (refine (GS.close (sts1 := []) (sts2 := [(b2, _)]) (leds1 := []) (leds2 := [⟨true, l2, rv8, _⟩]) (G10.out.below (below_drewN w10 d11)) (evk_nil_big _ (by omega))).mono ?_; rintro e w12 ⟨rfl, rv12, hG12, hko12⟩; have G12 := hid hG12; have X12 := hid (hko12 _ _ _ (X10.out.drewN d11) (by decide) (by decide) (by decide) (by decide)); have x12 := X12.out.cell 0 _ rfl; clear hG12 hko12)))
          go_wp2_with fail
          go_meet
          case rel => exact ⟨rfl, rv12, rv8, X12.out, G12.out⟩
        case rest =>
          clear Gd Xd G X x0 HNB E9
          obtain ⟨rfl, rv1, rv2, hX, hG⟩ := hcut
          have X := hid hX
          have G := hid hG
          clear hX hG
          go_wp2_with fail
          refine (GS.readO (sts1 := [(b1, _)]) (sts2 := []) (leds1 := [⟨true, l1, rv1, _⟩]) (leds2 := []) G.out out (by omega) (evk_nil_big _ (by omega))).mono ?_
          rintro e w7 ⟨ga, rfl, hga, hall, rv7, hG7, hko7⟩
          obtain ⟨y, hy⟩ : ∃ y, Z.fin r sf (zi r f m) = y := ⟨_, rfl⟩
          have HYK : Hid (y.Ok r true) := by rw [← hy]; exact Z.Ok.fin _ true sf (by omega)
          have HYP : Hid (y.p = 0) := by rw [← hy]; rfl
          rw [hy] at hG7 hall
          have hG' : GS w B [(b1, some (r, sf, Z.out r y 0, true)), (b2, some (r, sf, Z.out r y out, true))] [⟨true, l1, rv1, evk (evk [] Q) (1 + ((Z.out r y 0).c - y.c))⟩, ⟨true, l2, rv7, evk (evk (evk [] Q) 1) ((Z.out r y out).c - y.c)⟩] w7 := by
            rw [show (Z.out r y 0).c - y.c = 0 from Nat.sub_self _]
            exact hG7
          have G7 := hid hG'
          have HY := hid hy
          have X7 := hid (hko7 _ _ _ X.out (by decide) (by decide) (by decide) (by decide))
          have A7 := hid hall
          have HGA : Hid (B ≤ ga) := Nat.le_trans (by have := G.out.hB; exact this) hga
          clear hG7 hall hko7 hga hy G X hG'
          have x3 := X7.out.cell 3 _ rfl
          go_wp2_with fail
          refine (cut27 (some ⟨ga, 0, none⟩) d out out nd cd (Z.say r y) h _ (rb_blk A7.out (say_b HYK.out (by omega)) (Nat.le_trans (Nat.le_of_lt hout) (by decide))) (HH.out.below (by rw [HB.out]; exact G7.out.bel)) (by omega) hnd).mono ?_
          rintro e w8 ⟨pv, us, rfl, hrow, hcut, hb, hul, hu0, -⟩
          have G8 := hid (G7.out.below hb)
          have X8 := hid (X7.out.below hb)
          have A8 := hid (A7.out.below hb)
          have R8 := hid (row_mono hrow G7.out.hB)
          have C8 := hid (Cuts.mono hcut G7.out.hB)
          have UL := hid hul
          obtain ⟨A', cp', rfl⟩ := row_slice hrow
          clear hrow hcut hb G7 X7 A7 x3 hul
          go_wp2_with fail
          obtain ⟨B2, hB2⟩ : ∃ x, w8.heap.size = x := ⟨_, rfl⟩
          have HB2 := hid hB2
          have hBB : B ≤ B2 := by rw [← hB2]; exact G8.out.hB
          clear hB2
          go_loopw [18, 20] (fun t x wr => ∃ (i m : Nat) (rv : Value), i ≤ us.length ∧ x = .int .i64 i ∧ m ≤ out ∧ Cuts w8 B (Z.say r y) (us.drop i) m out ∧ Ko w8 wr ∧ By.Own wr B2 t m (Z.say r y) ∧ B2 ≤ wr.heap.size ∧ GS w B [(b1, some (r, sf, Z.out r y m, true)), (b2, some (r, sf, Z.out r y out, true))] [⟨true, l1, rv, evk (evk [] Q) (1 + ((Z.out r y m).c - y.c))⟩, ⟨true, l2, rv7, evk (evk (evk [] Q) 1) ((Z.out r y out).c - y.c)⟩] wr) (fun _ x _ => us.length - (intOf x).toNat)
          case atStart => exact ⟨0, 0, _, by omega, rfl, by omega, C8.out, Ko.below (Below.refl _ _), own_nil _ _ _ (say_b HYK.out (by omega)), Nat.le_of_eq HB2.out.symm, G8.out⟩
          case round =>
            clear G8 C8
            obtain ⟨i, m', rv, hi, rfl, hmn, hcut, hko, hown, hsz, hG⟩ := hrel
            have C := hid hcut
            have KO := hid hko
            have OW := hid hown
            have G := hid hG
            have HSZ := hid hsz
            clear hcut hko hown hG hsz
            by_cases h1 : i < us.length
            · obtain ⟨x, hx⟩ : ∃ x, us[i]? = some x := ⟨_, List.getElem?_eq_getElem h1⟩
              obtain ⟨ga', gc', e, hcell⟩ := rowL_cell (KO.out.row R8.out) hx
              simp only [Value.slice.injEq, true_and] at e
              obtain ⟨rfl, rfl⟩ := e
              rw [Nat.zero_add] at hcell
              have hd : us.drop i = x :: us.drop (i + 1) := by rw [List.drop_eq_getElem_cons h1]; congr 1; rw [List.getElem?_eq_getElem h1] at hx; exact Option.some.inj hx
              rw [hd] at C
              obtain ⟨q, hq, hu⟩ := C.out
              have hle := hu.le
              obtain ⟨_, xa, xc, rfl, _, _, _⟩ := hq.reads
              have HU := hid hu
              have ULo := UL.out
              have HCM := hid (out_c_le r y m')
              have HCM2 := hid (out_c_le r (Z.out r y m') q)
              have HCU := hid (out_c_up r y m')
              clear hx hd hu hq C
              go_wp2_with fail
              refine (GS.readS (sts1 := []) (sts2 := [(b2, _)]) (leds1 := []) (leds2 := [⟨true, l2, rv7, _⟩]) G.out q (by omega) ?_).mono ?_
              · rw [← evk_add]
                exact evk_nil_big _ (by have := HCU.out; omega)
              rintro e w9 ⟨g9, rfl, hg9, ho9, rv9, hG9, hko9⟩
              rw [← out_add, ← evk_add] at hG9
              have e9 : 1 + ((Z.out r y m').c - y.c) + ((Z.out r y (m' + q)).c - (Z.out r y m').c) = 1 + ((Z.out r y (m' + q)).c - y.c) := by
                have h2 := HCM.out
                have h3 := HCM2.out
                rw [← out_add] at h3
                omega
              rw [e9] at hG9
              have G9 := hid hG9
              have O9 := hid (hko9.own OW.out)
              have P9 := hid (rb_blk ho9 (say_b (HYK.out.out (by omega) m') (by omega)) (Nat.le_trans (show q ≤ 3000 by omega) (by decide)))
              have K9 := hid (KO.out.trans hko9)
              have HZ9 : Hid (B2 ≤ w9.heap.size) := Nat.le_trans HSZ.out (by have := G.out.hB; have := ho9.lt; omega)
              clear hG9 ho9 hko9 hg9 hcell G KO OW HSZ
              have hmq : m' + q ≤ 140737488355328 := by omega
              go_wp2_with (at_builtin; go_must (refine wpList_cat rfl _ _ rfl B2 m' q _ _ (Z.say r y) (Z.say r (Z.out r y m')) rfl O9.out rfl P9.out hmq HZ9.out ?_))
              intro t' w10 hown10 hgrow10
              obtain ⟨hG10, hk10⟩ := G9.out.grow O9.out hBB hgrow10
              have G10 := hid hG10
              have O10 := hid (own_congr hown10 (say_b HYK.out (by omega)) (fun i _ => say_cat r y m' i))
              have K10 : Hid (Ko w8 w10) := fun g cs t hb n1 n2 n3 n4 => hk10 g cs t (K9.out g cs t hb n1 n2 n3 n4) (by have := hb.lt; have := HB2.out; omega)
              have HZ10 : Hid (B2 ≤ w10.heap.size) := Nat.le_trans HZ9.out hgrow10.size
              clear hG10 hk10 hown10 hgrow10 G9 O9 K9 P9
              go_wp2_with fail
              exact ⟨⟨i + 1, m' + q, rv9, by omega, by go_num, hle, HU.out, K10.out, O10.out, HZ10.out, G10.out⟩, by simp [intOf]; omega⟩
            · have ei : i = us.length := by omega
              subst ei
              have em : m' = out := by have := C.out; rw [List.drop_length] at this; exact this
              subst em
              clear C h1
              have X := hid (KO.out _ _ _ X8.out (by decide) (by decide) (by decide) (by decide))
              have AL := hid (KO.out _ _ _ A8.out (by decide) (by decide) (by decide) (by decide))
              have x0 := X.out.cell 0 _ rfl
              obtain ⟨C, hC⟩ : ∃ C, (Z.out r y m').c - y.c = C := ⟨_, rfl⟩
              have hC1 : C ≤ 3000 := by have := out_c_up r y m'; omega
              have hC2 : 0 < m' → ((m' : Int) - 1).tdiv (r : Int) = (C : Int) := fun h0 => by
                obtain ⟨k, rfl⟩ : ∃ k, m' = k + 1 := ⟨m' - 1, by omega⟩
                rw [show ((k + 1 : Nat) : Int) - 1 = (k : Int) from by omega, Int.tdiv_eq_ediv_of_nonneg (by omega), ← hC, (out_count (show 0 < r by omega) HYP.out k).1, Nat.add_sub_cancel_left]
                rfl
              have hC3 : 0 < m' → ((m' : Int) - 1) / (r : Int) = (C : Int) := fun h0 => by
                rw [← hC2 h0, Int.tdiv_eq_ediv_of_nonneg (show (0 : Int) ≤ (m' : Int) - 1 by omega)]
              have hC0 : m' = 0 → C = 0 := fun h0 => by rw [← hC, h0]; exact Nat.sub_self _
              have HLL : Hid (evk (evk (evk [] Q) 1) C = evk (evk [] Q) (1 + C)) := (evk_add _ 1 C).symm
              have HTT : Hid (tot (evk (evk [] Q) (1 + C)) = ((Q + 1 + C : Nat) : Int)) := by
                show tot (evk (evk [] Q) (1 + C)) = _; rw [← evk_add, evk_nil_tot (Q + (1 + C)) (by omega)]; omega
              rw [hC] at G
              rw [HLL.out] at G
              have HC := hid hC
              have HC2 := hid hC2
              have HC3 := hid hC3
              have HC0 := hid hC0
              clear hC hC2 hC3 hC0
              go_upto_if 167 with fail
              go_cut [23] from 166 (fun t W => t = .int .i64 ((Q + 1 + C : Nat) : Int) ∧ W = wr)
              case first =>
                by_cases h0 : 0 < m'
                · have h0' : (0 : Int) < m' := by omega
                  have t1 := HC2.out h0
                  have t2 := HC3.out h0
                  have wC : IntKind.i64.wrap (C : Int) = (C : Int) := by rw [IntKind.wrap_i64]; omega
                  go_wp2_with fail
                  go_meet
                  case rel => exact ⟨by go_num, rfl⟩
                · have h0' : ¬ (0 : Int) < m' := by omega
                  have hC := HC0.out (by omega)
                  go_wp2_with fail
                  go_meet
                  case rel => exact ⟨by rw [hC]; go_num, rfl⟩
              case rest =>
                obtain ⟨rfl, rfl⟩ := hcut
                have HLn : Hid ((evk (evk [] Q) (1 + C)).length * 24 ≤ 140737488355328) := by
                  have h1 := evk_len (evk [] Q) (1 + C)
                  have h2 := evk_len [] Q
                  have h3 : ([] : List Rn).length = 0 := rfl
                  show (evk (evk [] Q) (1 + C)).length * 24 ≤ 140737488355328
                  omega
                go_wp2_with fail
                refine (same_true _ _ m' _ _ _ OW.out.reads (rb_blk AL.out (say_b HYK.out (by omega)) (Nat.le_trans (Nat.le_of_lt hout) (by decide))) (by omega) (fun _ _ => rfl)).mono ?_
                rintro e w11 ⟨rfl, d11, rfl⟩
                have G11 := hid (G.out.below (below_drewN _ d11))
                clear G OW AL KO X x0
                go_wp2_with fail
                refine (len20 l1 _ _ _ (GS.midL (leds1 := []) (leds2 := [⟨true, l2, rv7, _⟩]) G11.out).1).mono ?_
                rw [HTT.out]
                rintro e w12 ⟨rfl, rfl⟩
                go_wp2_with fail
                refine (runs22 l1 _ _ _ (GS.midL (leds1 := []) (leds2 := [⟨true, l2, rv7, _⟩]) G11.out).1 HLn.out).mono ?_
                rintro e w13 ⟨u13, rfl, hu13, hb13⟩
                have U13 := hid hu13
                have G13 := hid (G11.out.below hb13)
                clear hu13 hb13 G11
                go_wp2_with fail
                refine (runs22 l2 _ _ _ (GS.midL (leds1 := [⟨true, l1, rv, _⟩]) (leds2 := []) G13.out).1 HLn.out).mono ?_
                rintro e w14 ⟨u14, rfl, hu14, hb14⟩
                have U14 := hid hu14
                have V14 := hid (U13.out.below hb14)
                have G14 := hid (G13.out.below hb14)
                clear hu14 hb14 G13 U13
                go_wp2_with fail
                refine (same14 _ _ _ _ _ V14.out.reads U14.out.reads (by have := HLn.out; omega) (by have := HLn.out; omega)).mono ?_
                rw [decide_eq_true rfl]
                rintro e w15 ⟨rfl, d15, rfl⟩
                have G15 := hid (G14.out.below (below_drewN w14 d15))
                clear G14 U14 V14
                go_wp2_with fail
                refine (form_sp b1 r sf _ true _ (GS.mid (sts1 := []) (sts2 := [(b2, _)]) G15.out).1).mono ?_
                rintro e w16 ⟨rfl, hF16, hb16⟩
                have F16 := hid (rb_blk hF16 (fmf_b (HYK.out.out (by omega) m').b true) (by decide))
                have G16 := hid (G15.out.below hb16)
                clear hF16 hb16 G15
                go_wp2_with fail
                refine (form_sp b2 r sf _ true _ (GS.mid (sts1 := [(b1, _)]) (sts2 := []) G16.out).1).mono ?_
                rintro e w17 ⟨rfl, hF17, hb17⟩
                have F17 := hid (rb_blk hF17 (fmf_b (HYK.out.out (by omega) m').b true) (by decide))
                have F16' := hid (F16.out.below hb17)
                have G17 := hid (G16.out.below hb17)
                clear hF17 hb17 G16 F16
                go_wp2_with fail
                refine (same_true _ _ 203 _ _ _ F16'.out F17.out (by omega) (fun _ _ => rfl)).mono ?_
                rintro e w18 ⟨rfl, d18, rfl⟩
                have G18 := hid (G17.out.below (below_drewN w17 d18))
                clear G17 F16' F17
                go_wp2
                go_ret
                refine ⟨rfl, ?_⟩
                rw [HB.out]
                exact G18.out.bel
end Go.Proofs.YtidejhkajabdfaaDoor.Kc
