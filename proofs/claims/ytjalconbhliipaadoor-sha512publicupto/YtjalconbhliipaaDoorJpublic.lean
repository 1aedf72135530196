/- The law Sha512Public, walked. -/
import Derived.Test.YtjalconbhliipaaDoorJpieces
namespace Go.Proofs.YtjalconbhliipaaDoor.Sg
open Go.ChangeShapes Go.WideShapes Go.ChangeAt Go.RowKit
open Go.Proofs.YtjalconbhliipaaDoor.By Go.Proofs.YtjalconbhliipaaDoor.Wd

def mn (x y : Int) : Int := if y < x then y else x
@[go_sem high] theorem run_mn {P : Program} {w : World} (ts : Array TypeId) (t : TypeId) (k k' : IntKind) (x y : Int) : (Builtin.min_ ts t #[.int k x, .int k' y]).run P w = .ok (.int k (mn x y)) w := run_min_int2 w ts t k k' x y
theorem bel_d1 {B : Nat} {w w' : World} (h : Below B w w') : Below B w w'.drew := below_drew' h 1
theorem bel_dn {B : Nat} {w w' : World} (h : Below B w w') {d : Nat} : Below B w (w'.drewN d) := below_drew' h d
/-- Pieces that were cut: as long as the cuts say. -/
structure PCS (W : World) (B n nc : Nat) (f g : Nat → Int) (A : Option Addr) (cp : Nat) (vs : List Value) (i m : Nat) : Prop where
  row : W.ownsRow B 41 1 (.slice A vs.length cp) vs.length vs
  cuts : Cuts W B f (vs.drop i) m n
  lens : vs.map slLen = rest g n nc 0 0
theorem PCS.ko {W W' : World} {B n nc : Nat} {f g : Nat → Int} {A : Option Addr} {cp : Nat} {vs : List Value} {i m : Nat} (h : PCS W B n nc f g A cp vs i m) (hk : Ko W W') : PCS W' B n nc f g A cp vs i m := ⟨hk.row h.row, h.cuts.ko hk, h.lens⟩
theorem PCS.below {W W' : World} {B n nc : Nat} {f g : Nat → Int} {A : Option Addr} {cp : Nat} {vs : List Value} {i m : Nat} (h : PCS W B n nc f g A cp vs i m) (hb : Below W.heap.size W W') : PCS W' B n nc f g A cp vs i m := h.ko (Ko.below hb)
theorem own_slLen {w : World} {B m : Nat} {v : Value} {f : Nat → Int} (h : By.Own w B v m f) : slLen v = m := by
  obtain ⟨_, _, h | ⟨g, cap, cur, rfl, _⟩⟩ := h
  · obtain ⟨rfl, rfl⟩ := h; rfl
  · rfl
/-- A piece of known length is written, with a ledger. -/
theorem GS.pieceQ {w0 W : World} {B b lb n m q : Nat} {sts1 sts2 : List (Nat × SK)} {leds1 leds2 : List LE} {f : Nat → Int} {rv x : Value} (h : GS w0 B (sts1 ++ (b, some (m, f)) :: sts2) (leds1 ++ ⟨true, lb, rv, evs512 [] (m / 128)⟩ :: leds2) W) (hv : By.Own W B x q (fun i => f (m + i))) (hq : m + q ≤ n) (hn : n ≤ 1048576) :
    Calls Tryd.prog 27 #[.pointer (some ⟨b, 0, none⟩), .pointer (some ⟨lb, 0, none⟩), x] W fun e w' => e = .returned (.int .i64 0) ∧ ∃ rv', GS w0 B (sts1 ++ (b, some (m + q, f)) :: sts2) (leds1 ++ ⟨true, lb, rv', evs512 [] ((m + q) / 128)⟩ :: leds2) w' ∧ Ko W w' := by
  refine (h.write q x (fun i => f (m + i)) (fun w' hk => ((h.koB hk).1.own hv).reads) (by omega) (evs512_big pos_nil' wide_nil _ (by omega))).mono ?_
  rintro e w' ⟨rfl, rv', hG, hko⟩
  rw [st_cat, evs512_add, show m / 128 + ((m + q) / 128 - m / 128) = (m + q) / 128 from by omega] at hG
  exact ⟨rfl, rv', hG, hko⟩
theorem Cuts.cut {w : World} {B m n q : Nat} {f : Nat → Int} {x : Value} {us : List Value} (h : Cuts w B f (x :: us) m n) (hq : slLen x = q) : By.Own w B x q (fun i => f (m + i)) ∧ Cuts w B f us (m + q) n ∧ m + q ≤ n := by
  obtain ⟨k, hv, hus⟩ := h
  obtain rfl : k = q := by rw [← own_slLen hv]; exact hq
  exact ⟨hv, hus, hus.le⟩
set_option maxRecDepth 4000 in
set_option maxHeartbeats 1600000 in
theorem public_walk (a a' c : Option Addr) (np cap nq cap' nc cc : Nat) (f f' g : Nat → Int) (w : World) (hr : By.RB w (.slice a np cap) np f) (hr' : By.RB w (.slice a' nq cap') nq f') (hg : By.RB w (.slice c nc cc) nc g) (hk : KT w) (hn : np ≤ 1048576) (_hn' : nq ≤ 1048576) (hnc : nc ≤ 1048576) :
    Calls Tryd.prog 7 #[.slice a np cap, .slice a' nq cap', .slice c nc cc] w fun e w' => e = .returned (.bool true) ∧ Below w.heap.size w w' := by
  have HG := hid hg
  have G0 := hid (GS.start w hk)
  have hc1 := rb_cap hr
  have hc2 := rb_cap hr'
  obtain ⟨n, en⟩ : ∃ n : Nat, mn (np : Int) (nq : Int) = n := by unfold mn; split; exact ⟨nq, rfl⟩; exact ⟨np, rfl⟩
  have n1 : n ≤ np := by unfold mn at en; split at en <;> omega
  have n2 : n ≤ nq := by unfold mn at en; split at en <;> omega
  have HR := hid (hr.first n n1)
  have HR' := hid (hr'.first n n2)
  have q1 : (n : Int) ≤ cap := by omega
  have q2 : (n : Int) ≤ cap' := by omega
  clear hr hr' hg hk
  go_enter Tryd.func7, Tryd.ntmps7
  go_wp2_with fail
  refine (new9 _).mono ?_
  rintro e w1 ⟨rfl, hl, hb⟩
  have G1 := hid (G0.out.addLed hb (o := true) hl)
  clear hl hb G0
  go_wp2_with fail
  refine (new9 _).mono ?_
  rintro e w2 ⟨rfl, hl, hb⟩
  have G2 := hid (show GS w w.heap.size [] [⟨true, w.heap.size, .slice none 0 0, []⟩, ⟨true, w1.heap.size, .slice none 0 0, []⟩] w2 from G1.out.addLed hb (o := true) hl)
  clear hl hb G1
  go_wp2_with fail
  refine (new12 _).mono ?_
  rintro e w3 ⟨rfl, hs, hb⟩
  have G3 := hid (G2.out.addNew hb (k := some (0, f)) (St.congr hs HR.out.1 (fun i hi => by omega)))
  clear hs hb G2
  go_wp2_with fail
  refine (new12 _).mono ?_
  rintro e w4 ⟨rfl, hs, hb⟩
  have G4 := hid (show GS w w.heap.size [(w2.heap.size, some (0, f)), (w3.heap.size, some (0, f'))] [⟨true, w.heap.size, .slice none 0 0, evs512 [] (0 / 128)⟩, ⟨true, w1.heap.size, .slice none 0 0, evs512 [] (0 / 128)⟩] w4 from G3.out.addNew hb (k := some (0, f')) (St.congr hs HR'.out.1 (fun i hi => by omega)))
  clear hs hb G3
  go_wp2_with fail
  refine (awake29 _ G4.out.kt).mono ?_
  rintro e w5 ⟨rfl, hb⟩
  have G5 := hid (G4.out.below hb)
  clear hb G4
  go_wp2_with fail
  have h6 := hid (Below.refl w5.heap.size w5)
  have FA := hid (fun W' (h : Below w5.heap.size w5 W') => HR.out.below (G5.out.bel.trans (h.mono G5.out.hB)))
  have FB := hid (fun W' (h : Below w5.heap.size w5 W') => HR'.out.below (G5.out.bel.trans (h.mono G5.out.hB)))
  have FC := hid (fun W' (h : Below w5.heap.size w5 W') => HG.out.below (G5.out.bel.trans (h.mono G5.out.hB)))
  go_region_held3 (fun _ => True) (trivial) (first
    | (go_at_call 31; go_must (first
      | (with_reducible refine (cut27 a c n cap nc cc f g _ (FA.out _ ?b1) (FC.out _ ?b2) (by omega) hnc).mono ?_; (case b1 => (first | with_reducible exact Below.refl _ _ | with_reducible exact h6.out | with_reducible exact bel_d1 (Below.refl _ _) | with_reducible exact bel_d1 h6.out | with_reducible exact bel_dn (Below.refl _ _) | with_reducible exact bel_dn h6.out)); (case b2 => (first | with_reducible exact Below.refl _ _ | with_reducible exact h6.out | with_reducible exact bel_d1 (Below.refl _ _) | with_reducible exact bel_d1 h6.out | with_reducible exact bel_dn (Below.refl _ _) | with_reducible exact bel_dn h6.out)); rintro e x6 ⟨pv, vs, rfl, hrow, hcut, hb, hvl, hv0, hls⟩; have h6 := hid (below_next (bel_d1 (Below.refl w5.heap.size w5)) hb); have X6 := hid (And.intro hrow (And.intro hcut (And.intro hb hls))); have V0 := hid hv0; have VL := hid hvl; clear hrow hcut hb hvl hv0 hls)
      | (with_reducible refine (cut27 a' c n cap' nc cc f' g _ (FB.out _ ?b1) (FC.out _ ?b2) (by omega) hnc).mono ?_; (case b1 => (first | with_reducible exact Below.refl _ _ | with_reducible exact h6.out | with_reducible exact bel_d1 (Below.refl _ _) | with_reducible exact bel_d1 h6.out | with_reducible exact bel_dn (Below.refl _ _) | with_reducible exact bel_dn h6.out)); (case b2 => (first | with_reducible exact Below.refl _ _ | with_reducible exact h6.out | with_reducible exact bel_d1 (Below.refl _ _) | with_reducible exact bel_d1 h6.out | with_reducible exact bel_dn (Below.refl _ _) | with_reducible exact bel_dn h6.out)); rintro e x7 ⟨pv', vs', rfl, hrow, hcut, hb, hvl, hv0, hls⟩; have X7 := hid (And.intro hrow (And.intro hcut (And.intro hb hls))); clear hrow hcut hb hvl hv0 hls))))
  obtain ⟨hrow, hcut, hb, hls⟩ := X6.out
  obtain ⟨hrow', hcut', hb', hls'⟩ := X7.out
  have z5 := hid G5.out.hB
  have zx : w.heap.size ≤ x6.heap.size := Nat.le_trans z5.out h6.out.size
  have G7 := hid ((G5.out.below h6.out).below hb')
  obtain ⟨A, cp, rfl⟩ := row_slice hrow
  obtain ⟨A', cp', rfl⟩ := row_slice hrow'
  have el : vs'.length = vs.length := by have h := congrArg List.length (hls'.trans hls.symm); simpa using h
  have P7 := hid (PCS.below (show PCS x6 w.heap.size n nc f g A cp vs 0 0 from ⟨row_mono hrow z5.out, Cuts.mono hcut z5.out, hls⟩) hb')
  have P7' := hid (show PCS x7 w.heap.size n nc f' g A' cp' vs' 0 0 from ⟨row_mono hrow' zx, Cuts.mono hcut' zx, hls'⟩)
  have EL := hid el
  obtain ⟨l1, e1⟩ : ∃ x, w1.heap.size = x := ⟨_, rfl⟩
  obtain ⟨b2, e2⟩ : ∃ x, w2.heap.size = x := ⟨_, rfl⟩
  obtain ⟨b3, e3⟩ : ∃ x, w3.heap.size = x := ⟨_, rfl⟩
  rw [e1, e2, e3] at G7
  rw [e1, e2, e3]
  clear hrow hcut hb hls hrow' hcut' hb' hls' X6 X7 G5 e1 e2 e3 zx FA FB FC h6 el
  go_wp2_with fail
  go_loopw [14] (fun x wr => ∃ (i m : Nat) (rv rv' : Value), i ≤ vs.length ∧ x = .int .i64 i ∧ m ≤ n ∧ PCS wr w.heap.size n nc f g A cp vs i m ∧ PCS wr w.heap.size n nc f' g A' cp' vs' i m ∧ GS w w.heap.size [(b2, some (m, f)), (b3, some (m, f'))] [⟨true, w.heap.size, rv, evs512 [] (m / 128)⟩, ⟨true, l1, rv', evs512 [] (m / 128)⟩] wr) (fun x _ => vs.length - (intOf x).toNat)
  case atStart => exact ⟨0, 0, _, _, by omega, rfl, by omega, P7.out, P7'.out, G7.out⟩
  case round =>
    clear P7 P7' G7
    obtain ⟨i, m, rv, rv', hi, rfl, hmn, hP, hP', hG⟩ := hrel
    have P := hid hP
    have P' := hid hP'
    have G := hid hG
    clear hP hP' hG
    by_cases h1 : i < vs.length
    · have h1' : i < vs'.length := by rw [EL.out]; exact h1
      obtain ⟨x, hx⟩ : ∃ x, vs[i]? = some x := ⟨_, List.getElem?_eq_getElem h1⟩
      obtain ⟨x', hx'⟩ : ∃ x, vs'[i]? = some x := ⟨_, List.getElem?_eq_getElem h1'⟩
      obtain ⟨ga, gc, e, hcell⟩ := rowL_cell P.out.row hx
      simp only [Value.slice.injEq, true_and] at e
      obtain ⟨rfl, rfl⟩ := e
      rw [Nat.zero_add] at hcell
      have D : vs.drop i = x :: vs.drop (i + 1) := by rw [List.drop_eq_getElem_cons h1]; congr 1; rw [List.getElem?_eq_getElem h1] at hx; exact Option.some.inj hx
      have D' : vs'.drop i = x' :: vs'.drop (i + 1) := by rw [List.drop_eq_getElem_cons h1']; congr 1; rw [List.getElem?_eq_getElem h1'] at hx'; exact Option.some.inj hx'
      have C := hid (show Cuts wr w.heap.size f (x :: vs.drop (i + 1)) m n from by rw [← D]; exact P.out.cuts)
      have C' := hid (show Cuts wr w.heap.size f' (x' :: vs'.drop (i + 1)) m n from by rw [← D']; exact P'.out.cuts)
      have SL := hid (show slLen x = slLen x' from by
        have h := P.out.lens.trans P'.out.lens.symm
        have h2 : (vs.map slLen)[i]? = (vs'.map slLen)[i]? := by rw [h]
        rw [List.getElem?_map, List.getElem?_map, hx, hx'] at h2
        simpa using h2)
      have HX' := hid hx'
      obtain ⟨q, hq⟩ : ∃ q, slLen x = q := ⟨_, rfl⟩
      obtain ⟨hv, hus, hle⟩ := C.out.cut hq
      obtain ⟨hv', hus', -⟩ := C'.out.cut (show slLen x' = q from by rw [← SL.out]; exact hq)
      have X := hid hv
      have X' := hid hv'
      have U := hid hus
      have U' := hid hus'
      have LN := hid P.out.lens
      have LN' := hid P'.out.lens
      have R := hid P.out.row
      have R' := hid P'.out.row
      have HLE := hid hle
      clear hx hx' D D' hq SL hv hv' hus hus' C C' P P' hle
      go_wp2_with fail
      refine (GS.pieceQ (sts1 := []) (sts2 := [(b3, some (m, f'))]) (leds1 := []) (leds2 := [⟨true, l1, rv', evs512 [] (m / 128)⟩]) G.out X.out HLE.out (by omega)).mono ?_
      rintro e y1 ⟨rfl, rw1, hG, hko⟩
      have G1 := hid (show GS w w.heap.size [(b2, some (m + q, f)), (b3, some (m, f'))] [⟨true, w.heap.size, rw1, evs512 [] ((m + q) / 128)⟩, ⟨true, l1, rv', evs512 [] (m / 128)⟩] y1 from hG)
      have X1' := hid (hko.own X'.out)
      have U1 := hid (U.out.ko hko)
      have U1' := hid (U'.out.ko hko)
      have R1 := hid (hko.row R.out)
      have R1' := hid (hko.row R'.out)
      obtain ⟨ga', gc', e, hcell'⟩ := rowL_cell R1'.out HX'.out
      simp only [Value.slice.injEq, EL.out, true_and] at e
      obtain ⟨rfl, rfl⟩ := e
      rw [Nat.zero_add] at hcell'
      have h1i : (i : Int) < (vs'.length : Int) := by have := EL.out; omega
      clear hG hko G X X' U U' R R' hcell
      go_wp2_with fail
      refine (GS.pieceQ (sts1 := [(b2, some (m + q, f))]) (sts2 := []) (leds1 := [⟨true, w.heap.size, rw1, evs512 [] ((m + q) / 128)⟩]) (leds2 := []) G1.out X1'.out HLE.out (by omega)).mono ?_
      rintro e y2 ⟨rfl, rw2, hG, hko⟩
      obtain ⟨M, hM⟩ : ∃ M, evs512 [] ((m + q) / 128) = M := ⟨_, rfl⟩
      have hMl : Hid (M.length ≤ 1) := by show M.length ≤ 1; rw [← hM]; exact evs512_len pos_nil' _
      have HM := hid hM
      rw [hM] at hG
      have G2 := hid (show GS w w.heap.size [(b2, some (m + q, f)), (b3, some (m + q, f'))] [⟨true, w.heap.size, rw1, M⟩, ⟨true, l1, rw2, M⟩] y2 from hG)
      have P2 := hid (show PCS y2 w.heap.size n nc f g _ _ vs (i + 1) (m + q) from ⟨hko.row R1.out, U1.out.ko hko, LN.out⟩)
      have P2' := hid (show PCS y2 w.heap.size n nc f' g _ _ vs' (i + 1) (m + q) from ⟨hko.row R1'.out, U1'.out.ko hko, LN'.out⟩)
      clear hG hko G1 X1' U1 U1' R1 R1' hcell' hM LN LN' h1i
      go_wp2_with fail
      refine (runs22 w.heap.size rw1 M _ (GS.midL (leds1 := []) (leds2 := [⟨true, l1, rw2, M⟩]) G2.out).1 (by have := hMl.out; omega)).mono ?_
      rintro e y3 ⟨r3, rfl, hu, hb⟩
      have A3 := hid hu
      have G3 := hid (G2.out.below hb)
      have P3 := hid (P2.out.below hb)
      have P3' := hid (P2'.out.below hb)
      clear hu hb G2 P2 P2'
      go_wp2_with fail
      refine (runs22 l1 rw2 M _ (GS.midL (leds1 := [⟨true, w.heap.size, rw1, M⟩]) (leds2 := []) G3.out).1 (by have := hMl.out; omega)).mono ?_
      rintro e y4 ⟨r4, rfl, hu, hb⟩
      have A4 := hid hu
      have B3 := hid (A3.out.below hb)
      have G4 := hid (G3.out.below hb)
      have P4 := hid (P3.out.below hb)
      have P4' := hid (P3'.out.below hb)
      clear hu hb G3 P3 P3' A3
      go_wp2_with fail
      refine (same14 _ _ M M _ B3.out.reads A4.out.reads (by have := hMl.out; omega) (by have := hMl.out; omega)).mono ?_
      rw [decide_eq_true (show M = M from rfl)]
      rintro e y5 ⟨rfl, d5, rfl⟩
      obtain ⟨Y5, hY⟩ : ∃ x, y4.drewN d5 = x := ⟨_, rfl⟩
      have hb : Below y4.heap.size y4 Y5 := by rw [← hY]; exact below_drewN y4 d5
      rw [hY]
      clear hY
      have G5 := hid (G4.out.below hb)
      rw [← HM.out] at G5
      have P5 := hid (P4.out.below hb)
      have P5' := hid (P4'.out.below hb)
      clear hb G4 P4 P4' A4 B3
      have hvl := VL.out
      go_wp2
      exact ⟨⟨i + 1, m + q, rw1, rw2, by omega, by go_num, HLE.out, P5.out, P5'.out, G5.out⟩, by simp [intOf]; omega⟩
    · have ei : i = vs.length := by omega
      subst ei
      obtain rfl : m = n := by have := P.out.cuts; rwa [List.drop_length] at this
      have T1 : Hid (Big (evs512 [] (m / 128))) := evs512_big pos_nil' wide_nil _ (by omega)
      clear P P'
      go_wp2_with fail
      refine (GS.sum (sts1 := []) (sts2 := [(b3, some (m, f'))]) (leds1 := []) (leds2 := [⟨true, l1, rv', evs512 [] (m / 128)⟩]) G.out (by omega) T1.out).mono ?_
      rintro e y2 ⟨v2, rl2, rfl, -, hG, -⟩
      have G2 := hid (show GS w w.heap.size [(b2, some (m, f)), (b3, some (m, f'))] [⟨true, w.heap.size, rl2, evs512 (evs512 [] (m / 128)) (last m)⟩, ⟨true, l1, rv', evs512 [] (m / 128)⟩] y2 from hG)
      clear hG G
      go_wp2_with fail
      refine (GS.sum (sts1 := [(b2, some (m, f))]) (sts2 := []) (leds1 := [⟨true, w.heap.size, rl2, evs512 (evs512 [] (m / 128)) (last m)⟩]) (leds2 := []) G2.out (by omega) T1.out).mono ?_
      rintro e y3 ⟨v3, rl3, rfl, -, hG, -⟩
      obtain ⟨M, hM⟩ : ∃ M, evs512 (evs512 [] (m / 128)) (last m) = M := ⟨_, rfl⟩
      have TR := hid (show Room M ∧ M.length ≤ 1 from by
        rw [← hM, evs512_add]
        have hlm : last m ≤ 2 := by unfold last zs; omega
        exact ⟨evs512_room pos_nil' wide_nil.big _ (by omega), evs512_len pos_nil' _⟩)
      rw [hM] at hG
      have G3 := hid (show GS w w.heap.size [(b2, some (m, f)), (b3, some (m, f'))] [⟨true, w.heap.size, rl2, M⟩, ⟨true, l1, rl3, M⟩] y3 from hG)
      clear hG G2 hM
      go_wp2_with fail
      refine (GS.wipe (sts1 := []) (sts2 := [(b3, some (m, f'))]) (leds1 := []) (leds2 := [⟨true, l1, rl3, M⟩]) G3.out TR.out.1).mono ?_
      rintro e y4 ⟨rfl, rl4, hG, -⟩
      have G4 := hid (show GS w w.heap.size [(b2, none), (b3, some (m, f'))] [⟨true, w.heap.size, rl4, putL M ⟨8, 200, 1⟩⟩, ⟨true, l1, rl3, M⟩] y4 from hG)
      clear hG G3
      go_wp2_with fail
      refine (GS.wipe (sts1 := [(b2, none)]) (sts2 := []) (leds1 := [⟨true, w.heap.size, rl4, putL M ⟨8, 200, 1⟩⟩]) (leds2 := []) G4.out TR.out.1).mono ?_
      rintro e y5 ⟨rfl, rl5, hG, -⟩
      obtain ⟨N, hN⟩ : ∃ N, putL M ⟨8, 200, 1⟩ = N := ⟨_, rfl⟩
      have NL : Hid (N.length ≤ 2) := by show N.length ≤ 2; rw [← hN]; have := (putL_len (L := M) (r := ⟨8, 200, 1⟩)).1; have := TR.out.2; omega
      rw [hN] at hG
      have G5 := hid (show GS w w.heap.size [(b2, none), (b3, none)] [⟨true, w.heap.size, rl4, N⟩, ⟨true, l1, rl5, N⟩] y5 from hG)
      clear hG G4 hN
      go_wp2_with fail
      refine (runs22 w.heap.size rl4 N _ (GS.midL (leds1 := []) (leds2 := [⟨true, l1, rl5, N⟩]) G5.out).1 (by have := NL.out; omega)).mono ?_
      rintro e y6 ⟨r6, rfl, hu, hb⟩
      have A6 := hid hu
      have G6 := hid (G5.out.below hb)
      clear hu hb G5
      go_wp2_with fail
      refine (runs22 l1 rl5 N _ (GS.midL (leds1 := [⟨true, w.heap.size, rl4, N⟩]) (leds2 := []) G6.out).1 (by have := NL.out; omega)).mono ?_
      rintro e y7 ⟨r7, rfl, hu, hb⟩
      have A7 := hid hu
      have B6 := hid (A6.out.below hb)
      have G7 := hid (G6.out.below hb)
      clear hu hb G6 A6
      go_wp2_with fail
      refine (same14 _ _ N N _ B6.out.reads A7.out.reads (by have := NL.out; omega) (by have := NL.out; omega)).mono ?_
      rw [decide_eq_true (show N = N from rfl)]
      rintro e y8 ⟨rfl, d8, rfl⟩
      go_wp2
      go_ret
      exact ⟨rfl, below_drew' G7.out.bel d8⟩
end Go.Proofs.YtjalconbhliipaaDoor.Sg
