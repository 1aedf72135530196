/- The law Sha512Pieces, walked. -/
import Derived.Test.YtjalconbhliipaaDoorJcut
import Derived.Test.YtjalconbhliipaaDoorJlives
namespace Go.Proofs.YtjalconbhliipaaDoor.Sg
open Go.ChangeShapes Go.WideShapes Go.ChangeAt Go.RowKit
open Go.Proofs.YtjalconbhliipaaDoor.By Go.Proofs.YtjalconbhliipaaDoor.Wd

/-- The clone, once it is made. -/
def CO (W : World) (B n stop i : Nat) (f : Nat → Int) (vs : List Value) (co : List (Nat × SK)) (cl : Value) : Prop :=
  (i ≤ stop ∧ co = [] ∧ cl = .pointer none) ∨ (stop < i ∧ ∃ bc mc, co = [(bc, some (mc, f))] ∧ cl = .pointer (some ⟨bc, 0, none⟩) ∧ Cuts W B f (vs.drop stop) mc n)
theorem Cuts.ko {W W' : World} {B : Nat} {f : Nat → Int} {vs : List Value} {s e : Nat} (h : Cuts W B f vs s e) (hk : Ko W W') : Cuts W' B f vs s e := h.imp (fun _ _ _ ho => hk.own ho)
theorem CO.ko {W W' : World} {B n stop i : Nat} {f : Nat → Int} {vs : List Value} {co : List (Nat × SK)} {cl : Value} (h : CO W B n stop i f vs co cl) (hk : Ko W W') : CO W' B n stop i f vs co cl := by
  rcases h with h | ⟨h1, bc, mc, h2, h3, h4⟩
  · exact .inl h
  · exact .inr ⟨h1, bc, mc, h2, h3, h4.ko hk⟩
def z0 : Nat → Int := fun _ => 0
theorem st_cat {m q : Nat} {f : Nat → Int} : (some (m + q, cat m f (fun i => f (m + i))) : SK) = some (m + q, f) := by rw [cat_self]
/-- A piece is written, with a ledger. -/
theorem GS.piece {w0 W : World} {B b lb n m : Nat} {sts1 sts2 : List (Nat × SK)} {leds1 leds2 : List LE} {f : Nat → Int} {rv x : Value} {us : List Value} (h : GS w0 B (sts1 ++ (b, some (m, f)) :: sts2) (leds1 ++ ⟨true, lb, rv, evs512 [] (m / 128)⟩ :: leds2) W) (hc : Cuts W B f (x :: us) m n) (hn : n ≤ 1048576) :
    Calls Tryd.prog 27 #[.pointer (some ⟨b, 0, none⟩), .pointer (some ⟨lb, 0, none⟩), x] W fun e w' => e = .returned (.int .i64 0) ∧ ∃ q rv', m + q ≤ n ∧ GS w0 B (sts1 ++ (b, some (m + q, f)) :: sts2) (leds1 ++ ⟨true, lb, rv', evs512 [] ((m + q) / 128)⟩ :: leds2) w' ∧ Cuts w' B f us (m + q) n ∧ Ko W w' := by
  obtain ⟨q, hv, hus⟩ := hc
  have hq : m + q ≤ n := hus.le
  refine (h.write q x (fun i => f (m + i)) (fun w' hk => ((h.koB hk).1.own hv).reads) (by omega) (evs512_big pos_nil' wide_nil _ (by omega))).mono ?_
  rintro e w' ⟨rfl, rv', hG, hko⟩
  rw [st_cat, evs512_add, show m / 128 + ((m + q) / 128 - m / 128) = (m + q) / 128 from by omega] at hG
  exact ⟨rfl, q, rv', hq, hG, hus.ko hko, hko⟩
/-- A piece is written, without a ledger. -/
theorem GS.piece0 {w0 W : World} {B b n m : Nat} {sts1 sts2 : List (Nat × SK)} {leds : List LE} {f : Nat → Int} {x : Value} {us : List Value} (h : GS w0 B (sts1 ++ (b, some (m, f)) :: sts2) leds W) (hc : Cuts W B f (x :: us) m n) (hn : n ≤ 1048576) :
    Calls Tryd.prog 27 #[.pointer (some ⟨b, 0, none⟩), .pointer none, x] W fun e w' => e = .returned (.int .i64 0) ∧ ∃ q, m + q ≤ n ∧ GS w0 B (sts1 ++ (b, some (m + q, f)) :: sts2) leds w' ∧ Cuts w' B f us (m + q) n ∧ Ko W w' := by
  obtain ⟨q, hv, hus⟩ := hc
  have hq : m + q ≤ n := hus.le
  refine (h.write0 q x (fun i => f (m + i)) (fun w' hk => ((h.koS hk).1.own hv).reads) (by omega)).mono ?_
  rintro e w' ⟨rfl, hG, hko⟩
  rw [st_cat] at hG
  exact ⟨rfl, q, hq, hG, hus.ko hko, hko⟩
theorem blocks26 (n : Nat) (h1 : 1 ≤ n) (w : World) (hn : n ≤ 9000000000000000000) : Calls Tryd.prog 26 #[.int .i64 n] w fun e w' => ∃ v, e = .returned v ∧ Own w' w.heap.size v [⟨2, 128, n⟩] ∧ Below w.heap.size w w' := by
  have h2 : ¬ (n : Int) < 1 := by omega
  go_enter Tryd.func26, Tryd.ntmps26
  go_wp2
  go_ret
  refine ⟨_, rfl, Go.Proofs.YtjalconbhliipaaDoor.own_lit w [⟨2, 128, n⟩] _ (fun r hr => ?_) rfl (by show 1 ≤ maxLen; decide), below_alloc _ _⟩
  obtain rfl := List.mem_singleton.1 hr
  exact ⟨by show (0 : Int) ≤ 2 ∧ (2 : Int) < 256; decide, by show (-9223372036854775808 : Int) ≤ 128 ∧ (128 : Int) ≤ 9223372036854775807; decide, by show -9223372036854775808 ≤ (n : Int) ∧ (n : Int) ≤ 9223372036854775807; omega⟩
theorem blocks_eq (n : Nat) : blocks n = (n + 16) / 128 + 1 := by unfold blocks zs; omega
set_option maxRecDepth 4000 in
set_option maxHeartbeats 1600000 in
theorem pieces_walk (a c : Option Addr) (n cap nc cc : Nat) (f g : Nat → Int) (at' : Int) (w : World) (hr : By.RB w (.slice a n cap) n f) (hg : By.RB w (.slice c nc cc) nc g) (hat : 0 ≤ at' ∧ at' < 256) (hk : KT w) (hn : n ≤ 1048576) (hnc : nc ≤ 1048576) :
    Calls Tryd.prog 6 #[.slice a n cap, .slice c nc cc, .int .u8 at'] w fun e w' => e = .returned (.bool true) ∧ Below w.heap.size w w' := by
  have HR := hid hr
  have HG := hid hg
  have G0 := hid (GS.start w hk)
  clear hr hg hk
  go_enter Tryd.func6, Tryd.ntmps6
  go_wp2_with fail
  refine (new12 _).mono ?_
  rintro e w1 ⟨rfl, hs, hb⟩
  have G1 := hid (G0.out.addNew hb (k := some (0, z0)) hs)
  clear hs hb G0
  go_wp2_with fail
  refine (new12 _).mono ?_
  rintro e w2 ⟨rfl, hs, hb⟩
  have G2 := hid (show GS w w.heap.size [(w.heap.size, some (0, z0)), (w1.heap.size, some (0, f))] [] w2 from G1.out.addNew hb (k := some (0, f)) (St.congr hs HR.out.1 (fun i hi => by omega)))
  clear hs hb G1
  go_wp2_with fail
  refine (new9 _).mono ?_
  rintro e w3 ⟨rfl, hl, hb⟩
  have G3 := hid (G2.out.addLed hb (o := true) hl)
  clear hl hb G2
  go_wp2_with fail
  refine (new9 _).mono ?_
  rintro e w4 ⟨rfl, hl, hb⟩
  have G4 := hid (show GS w w.heap.size [(w.heap.size, some (0, z0)), (w1.heap.size, some (0, f))] [⟨true, w2.heap.size, .slice none 0 0, []⟩, ⟨true, w3.heap.size, .slice none 0 0, evs512 [] (0 / 128)⟩] w4 from G3.out.addLed hb (o := true) hl)
  clear hl hb G3
  go_wp2_with fail
  refine (awake29 _ G4.out.kt).mono ?_
  rintro e w5 ⟨rfl, hb⟩
  have G5 := hid (G4.out.below hb)
  clear hb G4
  go_wp2_with fail
  refine (cut27 a c n cap nc cc f g _ (HR.out.below G5.out.bel) (HG.out.below G5.out.bel) hn hnc).mono ?_
  rintro e w6 ⟨pv, vs, rfl, hrow, hcut, hb, hvl, hv0, -⟩
  have G6 := hid (G5.out.below hb)
  have R6 := hid (row_mono hrow G5.out.hB)
  have C6 := hid (Cuts.mono hcut G5.out.hB)
  obtain ⟨A, cp, rfl⟩ := row_slice hrow
  clear hrow hcut hb G5
  obtain ⟨sp, hsp⟩ : ∃ sp : Nat, at' % (vs.length : Int) = sp := ⟨(at' % (vs.length : Int)).toNat, by rw [Int.toNat_of_nonneg (Int.emod_nonneg _ (by omega))]⟩
  have hsl : sp < vs.length := by have := Int.emod_lt_of_pos at' (show (0 : Int) < vs.length by omega); omega
  have htm : at'.tmod (vs.length : Int) = sp := by rw [Int.tmod_eq_emod_of_nonneg hat.1]; exact hsp
  have hv0' : ¬ (vs.length : Int) = 0 := by omega
  have VL := hid hvl
  obtain ⟨b1, eb1⟩ : ∃ x, w1.heap.size = x := ⟨_, rfl⟩
  obtain ⟨l2, el2⟩ : ∃ x, w2.heap.size = x := ⟨_, rfl⟩
  obtain ⟨l3, el3⟩ : ∃ x, w3.heap.size = x := ⟨_, rfl⟩
  rw [eb1, el2, el3] at G6
  rw [eb1, el2, el3]
  clear eb1 el2 el3
  go_wp2_with fail
  go_loopw [13, 14] (fun cl x wr => ∃ (i m : Nat) (co : List (Nat × SK)) (rv : Value), i ≤ vs.length ∧ x = .int .i64 i ∧ m ≤ n ∧ CO wr w.heap.size n sp i f vs co cl ∧ Cuts wr w.heap.size f (vs.drop i) m n ∧ wr.ownsRow w.heap.size 41 1 (.slice A vs.length cp) vs.length vs ∧ GS w w.heap.size ([(w.heap.size, some (0, z0)), (b1, some (m, f))] ++ co) [⟨true, l2, .slice none 0 0, []⟩, ⟨true, l3, rv, evs512 [] (m / 128)⟩] wr) (fun _ x _ => vs.length - (intOf x).toNat)
  case atStart => exact ⟨0, 0, [], _, by omega, rfl, by omega, .inl ⟨by omega, rfl, rfl⟩, C6.out, R6.out, G6.out⟩
  case round =>
    clear G6 R6 C6
    obtain ⟨i, m, co, rv, hi, rfl, hmn, hco, hcut, hrow, hG⟩ := hrel
    have CC := hid hco
    have C := hid hcut
    have R := hid hrow
    have G := hid hG
    clear hco hcut hrow hG
    by_cases h1 : i < vs.length
    · obtain ⟨x, hx⟩ : ∃ x, vs[i]? = some x := ⟨_, List.getElem?_eq_getElem h1⟩
      obtain ⟨ga, gc, e, hcell⟩ := rowL_cell R.out hx
      simp only [Value.slice.injEq, true_and] at e
      obtain ⟨rfl, rfl⟩ := e
      rw [Nat.zero_add] at hcell
      have hd : vs.drop i = x :: vs.drop (i + 1) := by rw [List.drop_eq_getElem_cons h1]; congr 1; rw [List.getElem?_eq_getElem h1] at hx; exact Option.some.inj hx
      have D := hid hd
      have HB : Hid (Big (evs512 [] (m / 128))) := evs512_big pos_nil' wide_nil _ (by omega)
      clear hx hd
      by_cases h2 : i = sp
      · subst h2
        obtain ⟨-, rfl, rfl⟩ : i ≤ i ∧ co = [] ∧ u13 = .pointer none := by
          rcases CC.out with h | ⟨h, _⟩
          · exact h
          · omega
        clear CC
        go_wp2_with fail
        refine (GS.sum0 (sts1 := [(w.heap.size, some (0, z0))]) (sts2 := []) G.out (by omega)).mono ?_
        rintro e x1 ⟨v1, rfl, -, hb⟩
        have G1 := hid (G.out.below hb)
        have C1 := hid (C.out.ko (Ko.below hb))
        have R1 := hid ((Ko.below hb).row R.out)
        obtain ⟨ga', gc', e, hcell1⟩ := rowL_cell R1.out (show vs[i]? = some x from by rw [← List.head?_drop, D.out]; rfl)
        simp only [Value.slice.injEq, true_and, Option.some.injEq, Addr.mk.injEq, and_true] at e
        obtain ⟨rfl, rfl⟩ := e
        rw [Nat.zero_add] at hcell1
        clear hb G C R hcell
        go_wp2_with fail
        refine (clone28 _ _ _ _ (GS.mid (sts1 := [(w.heap.size, some (0, z0))]) (sts2 := []) G1.out).1).mono ?_
        rintro e x2 ⟨rfl, hs, hb⟩
        have G2 := hid (show GS w w.heap.size [(w.heap.size, some (0, z0)), (b1, some (m, f)), (x1.heap.size, some (m, f))] _ x2 from G1.out.addNew hb (k := some (m, f)) hs)
        have C2 := hid (C1.out.ko (Ko.below hb))
        have R2 := hid ((Ko.below hb).row R1.out)
        obtain ⟨ga2, gc2, e, hcell2⟩ := rowL_cell R2.out (show vs[i]? = some x from by rw [← List.head?_drop, D.out]; rfl)
        simp only [Value.slice.injEq, true_and, Option.some.injEq, Addr.mk.injEq, and_true] at e
        obtain ⟨rfl, rfl⟩ := e
        rw [Nat.zero_add] at hcell2
        clear hs hb G1 C1 R1 hcell1
        go_wp2_with fail
        have C3 := hid (show Cuts x2 w.heap.size f (x :: vs.drop (i + 1)) m n from by rw [← D.out]; exact C2.out)
        refine (GS.piece (sts1 := [(w.heap.size, some (0, z0))]) (sts2 := [(x1.heap.size, some (m, f))]) (leds1 := [⟨true, l2, .slice none 0 0, []⟩]) (leds2 := []) G2.out C3.out hn).mono ?_
        rintro e x3 ⟨rfl, q, rv', hq, hG, hc, hko⟩
        have G3 := hid hG
        have C4 := hid hc
        have R3 := hid (hko.row R2.out)
        have C5 := hid (C2.out.ko hko)
        clear hG hc hko G2 C2 C3 R2 hcell2
        go_wp2
        exact ⟨⟨i + 1, m + q, [(x1.heap.size, some (m, f))], rv', by omega, by go_num, hq, .inr ⟨by omega, _, m, rfl, rfl, C5.out⟩, C4.out, R3.out, G3.out⟩, by simp [intOf]; omega⟩
      · have h2' : ¬ (i : Int) = (sp : Int) := by omega
        go_wp2_with fail
        have C3 := hid (show Cuts wr w.heap.size f (x :: vs.drop (i + 1)) m n from by rw [← D.out]; exact C.out)
        refine (GS.piece (sts1 := [(w.heap.size, some (0, z0))]) (sts2 := co) (leds1 := [⟨true, l2, .slice none 0 0, []⟩]) (leds2 := []) G.out C3.out hn).mono ?_
        rintro e x3 ⟨rfl, q, rv', hq, hG, hc, hko⟩
        have G3 := hid hG
        have C4 := hid hc
        have R3 := hid (hko.row R.out)
        have CC3 := hid (CC.out.ko hko)
        clear hG hc hko G C C3 R CC hcell
        go_wp2
        refine ⟨⟨i + 1, m + q, co, rv', by omega, by go_num, hq, ?_, C4.out, R3.out, G3.out⟩, by simp [intOf]; omega⟩
        rcases CC3.out with ⟨h, h'⟩ | ⟨h, h'⟩
        · exact .inl ⟨by omega, h'⟩
        · exact .inr ⟨by omega, h'⟩
    · have ei : i = vs.length := by omega
      subst ei
      obtain ⟨-, bc, mc, rfl, rfl, hcs⟩ : sp < vs.length ∧ ∃ bc mc, co = [(bc, some (mc, f))] ∧ u13 = .pointer (some ⟨bc, 0, none⟩) ∧ Cuts wr w.heap.size f (vs.drop sp) mc n := by
        rcases CC.out with ⟨h, _⟩ | h
        · omega
        · exact h
      obtain rfl : m = n := by have := C.out; rwa [List.drop_length] at this
      have CS := hid hcs
      clear hcs CC C
      go_wp2_with fail
      go_loopw [17] (fun x wr => ∃ i mc : Nat, i ≤ vs.length ∧ x = .int .i64 i ∧ mc ≤ m ∧ Cuts wr w.heap.size f (vs.drop i) mc m ∧ wr.ownsRow w.heap.size 41 1 (.slice A vs.length cp) vs.length vs ∧ GS w w.heap.size [(w.heap.size, some (0, z0)), (b1, some (m, f)), (bc, some (mc, f))] [⟨true, l2, .slice none 0 0, []⟩, ⟨true, l3, rv, evs512 [] (m / 128)⟩] wr) (fun x _ => vs.length - (intOf x).toNat)
      case atStart => exact ⟨sp, mc, by omega, rfl, CS.out.le, CS.out, R.out, G.out⟩
      case round =>
        clear G R CS
        obtain ⟨i, mc, hi, rfl, hmc, hcut, hrow, hG⟩ := hrel
        have C := hid hcut
        have R := hid hrow
        have G := hid hG
        clear hcut hrow hG
        by_cases h1 : i < vs.length
        · obtain ⟨x, hx⟩ : ∃ x, vs[i]? = some x := ⟨_, List.getElem?_eq_getElem h1⟩
          obtain ⟨ga, gc, e, hcell⟩ := rowL_cell R.out hx
          simp only [Value.slice.injEq, true_and] at e
          obtain ⟨rfl, rfl⟩ := e
          rw [Nat.zero_add] at hcell
          have hd : vs.drop i = x :: vs.drop (i + 1) := by rw [List.drop_eq_getElem_cons h1]; congr 1; rw [List.getElem?_eq_getElem h1] at hx; exact Option.some.inj hx
          have C3 := hid (show Cuts wr w.heap.size f (x :: vs.drop (i + 1)) mc m from by rw [← hd]; exact C.out)
          clear hx hd
          go_wp2_with fail
          refine (GS.piece0 (sts1 := [(w.heap.size, some (0, z0)), (b1, some (m, f))]) (sts2 := []) G.out C3.out hn).mono ?_
          rintro e x3 ⟨rfl, q, hq, hG, hc, hko⟩
          have G3 := hid hG
          have C4 := hid hc
          have R3 := hid (hko.row R.out)
          clear hG hc hko G C C3 R hcell
          go_wp2
          exact ⟨⟨i + 1, mc + q, by omega, by go_num, hq, C4.out, R3.out, G3.out⟩, by simp [intOf]; omega⟩
        · have ei : i = vs.length := by omega
          subst ei
          obtain rfl : mc = m := by have := C.out; rwa [List.drop_length] at this
          clear C R
          obtain ⟨N, eN⟩ : ∃ N, N = mc := ⟨_, rfl⟩
          rw [← eN] at hn HR G
          rw [← eN]
          clear eN
          have T1 : Hid (Big (evs512 [] (N / 128))) := evs512_big pos_nil' wide_nil _ (by omega)
          go_wp2_with fail
          refine (GS.write (sts1 := []) (sts2 := [(b1, some (N, f)), (bc, some (N, f))]) (leds1 := []) (leds2 := [⟨true, l3, rv, evs512 [] (N / 128)⟩]) G.out N _ f (fun w' hk => HR.out.below (GS.koB (sts1 := []) (leds1 := []) G.out hk).2) (by omega) wide_nil.big).mono ?_
          rintro e y1 ⟨rfl, rl, hG, -⟩
          rw [cat0, Nat.zero_add, show N / 128 - 0 / 128 = N / 128 from by omega] at hG
          have G1 := hid (show GS w w.heap.size [(w.heap.size, some (N, f)), (b1, some (N, f)), (bc, some (N, f))] [⟨true, l2, rl, evs512 [] (N / 128)⟩, ⟨true, l3, rv, evs512 [] (N / 128)⟩] y1 from hG)
          clear hG G
          go_wp2_with fail
          refine (GS.sum (sts1 := []) (sts2 := [(b1, some (N, f)), (bc, some (N, f))]) (leds1 := []) (leds2 := [⟨true, l3, rv, evs512 [] (N / 128)⟩]) G1.out (by omega) T1.out).mono ?_
          rintro e y2 ⟨v2, rl2, rfl, hv, hG, -⟩
          have U2 := hid hv
          have G2 := hid (show GS w w.heap.size [(w.heap.size, some (N, f)), (b1, some (N, f)), (bc, some (N, f))] [⟨true, l2, rl2, evs512 (evs512 [] (N / 128)) (last N)⟩, ⟨true, l3, rv, evs512 [] (N / 128)⟩] y2 from hG)
          clear hv hG G1
          go_wp2_with fail
          refine (GS.sum (sts1 := [(w.heap.size, some (N, f))]) (sts2 := [(bc, some (N, f))]) (leds1 := [⟨true, l2, rl2, evs512 (evs512 [] (N / 128)) (last N)⟩]) (leds2 := []) G2.out (by omega) T1.out).mono ?_
          rintro e y3 ⟨v3, rl3, rfl, hv, hG, hko⟩
          have U3 := hid hv
          have V2 := hid (hko.own U2.out)
          obtain ⟨M, hM⟩ : ∃ M, evs512 (evs512 [] (N / 128)) (last N) = M := ⟨_, rfl⟩
          rw [hM] at hG
          have hM1 := hid (show M = [⟨2, 128, ((blocks N : Nat) : Int)⟩] from by
            rw [← hM, evs512_add, blocks_last]
            have h1 := blocks_pos N
            have h2 : blocks N ≤ 100000 := by rw [blocks_eq]; omega
            have := evs_one (blocks N - 1) (by omega)
            rwa [show blocks N - 1 + 1 = blocks N from by omega] at this)
          have G3 := hid (show GS w w.heap.size [(w.heap.size, some (N, f)), (b1, some (N, f)), (bc, some (N, f))] [⟨true, l2, rl2, M⟩, ⟨true, l3, rl3, M⟩] y3 from hG)
          clear hv hG hko G2 U2 hM
          go_wp2_with fail
          refine (GS.sum0 (sts1 := [(w.heap.size, some (N, f)), (b1, some (N, f))]) (sts2 := []) G3.out (by omega)).mono ?_
          rintro e y4 ⟨v4, rfl, hv, hb⟩
          have U4 := hid hv
          have W2 := hid (own_below V2.out hb)
          have W3 := hid (own_below U3.out hb)
          have G4 := hid (G3.out.below hb)
          clear hv hb G3 V2 U3
          go_wp2_with fail
          refine (same_true _ _ 64 _ _ _ W2.out.reads W3.out.reads (by omega) (fun _ _ => rfl)).mono ?_
          rintro e y5 ⟨rfl, d5, rfl⟩
          go_wp2_with fail
          refine (same_true _ _ 64 _ _ _ (W2.out.reads.drewN d5) (U4.out.reads.drewN d5) (by omega) (fun _ _ => rfl)).mono ?_
          rintro e y6 ⟨rfl, d6, rfl⟩
          obtain ⟨Y, hY⟩ : ∃ x, (y4.drewN d5).drewN d6 = x := ⟨_, rfl⟩
          have hb : Below y4.heap.size y4 Y := by rw [← hY]; exact below_drew' (below_drewN y4 d5) d6
          rw [hY]
          clear hY
          have X2 := hid (own_below W2.out hb)
          have G5 := hid (G4.out.below hb)
          clear hb G4 W2 W3 U4
          go_wp2_with fail
          refine (sum23 N _ f none [] (fun _ => False) _ G5.out.kt (fun e => e) (lg_nil _ _) pos_nil' (fun w' h' => HR.out.below (G5.out.bel.trans ((below_kp h').mono G5.out.hB))) (by omega) wide_nil).mono ?_
          rintro e y7 ⟨u7, rfl, hu, -, hk7⟩
          have hb := below_kp hk7
          have U7 := hid hu
          have Z2 := hid (own_below X2.out hb)
          have G7 := hid (G5.out.below hb)
          clear hu hk7 hb G5 X2
          go_wp2_with fail
          refine (same_true _ _ 64 _ _ _ Z2.out.reads U7.out.reads (by omega) (fun _ _ => rfl)).mono ?_
          rintro e y8 ⟨rfl, d8, rfl⟩
          obtain ⟨g2, c2, rfl, -⟩ := own_cells Z2.out (by omega)
          obtain ⟨Y8, hY⟩ : ∃ x, y7.drewN d8 = x := ⟨_, rfl⟩
          have hb : Below y7.heap.size y7 Y8 := by rw [← hY]; exact below_drewN y7 d8
          rw [hY]
          clear hY
          have G8 := hid (G7.out.below hb)
          clear hb G7 Z2 U7
          go_wp2_with fail
          refine (form30 _ _ _ _ (GS.mid (sts1 := []) (sts2 := [(b1, some (N, f)), (bc, some (N, f))]) G8.out).1).mono ?_
          rintro e f1 ⟨uf1, rfl, hu, hb⟩
          have UF1 := hid hu
          have GF1 := hid (G8.out.below hb)
          clear hu hb G8
          go_wp2_with fail
          refine (form30 _ _ _ _ (GS.mid (sts1 := [(w.heap.size, some (N, f))]) (sts2 := [(bc, some (N, f))]) GF1.out).1).mono ?_
          rintro e f1' ⟨uf1', rfl, hu, hb⟩
          have UG1 := hid hu
          have VF1 := hid (own_below UF1.out hb)
          have GH1 := hid (GF1.out.below hb)
          clear hu hb GF1 UF1
          go_wp2_with fail
          refine (same_true _ _ 200 _ _ _ VF1.out.reads UG1.out.reads (by omega) (fun _ _ => rfl)).mono ?_
          rintro e f1'' ⟨rfl, df1, rfl⟩
          obtain ⟨YF1, hY⟩ : ∃ x, f1'.drewN df1 = x := ⟨_, rfl⟩
          have hb : Below f1'.heap.size f1' YF1 := by rw [← hY]; exact below_drewN f1' df1
          rw [hY]
          clear hY
          have G9 := hid (GH1.out.below hb)
          clear hb GH1 VF1 UG1
          go_wp2_with fail
          refine (form30 _ _ _ _ (GS.mid (sts1 := []) (sts2 := [(b1, some (N, f)), (bc, some (N, f))]) G9.out).1).mono ?_
          rintro e f2 ⟨uf2, rfl, hu, hb⟩
          have UF2 := hid hu
          have GF2 := hid (G9.out.below hb)
          clear hu hb G9
          go_wp2_with fail
          refine (form30 _ _ _ _ (GS.mid (sts1 := [(w.heap.size, some (N, f)), (b1, some (N, f))]) (sts2 := []) GF2.out).1).mono ?_
          rintro e f2' ⟨uf2', rfl, hu, hb⟩
          have UG2 := hid hu
          have VF2 := hid (own_below UF2.out hb)
          have GH2 := hid (GF2.out.below hb)
          clear hu hb GF2 UF2
          go_wp2_with fail
          refine (same_true _ _ 200 _ _ _ VF2.out.reads UG2.out.reads (by omega) (fun _ _ => rfl)).mono ?_
          rintro e f2'' ⟨rfl, df2, rfl⟩
          obtain ⟨YF2, hY⟩ : ∃ x, f2'.drewN df2 = x := ⟨_, rfl⟩
          have hb : Below f2'.heap.size f2' YF2 := by rw [← hY]; exact below_drewN f2' df2
          rw [hY]
          clear hY
          have GP := hid (GH2.out.below hb)
          clear hb GH2 VF2 UG2
          go_wp2_with fail
          refine (len31 _ _ _ _ (GS.mid (sts1 := [(w.heap.size, some (N, f))]) (sts2 := [(bc, some (N, f))]) GP.out).1).mono ?_
          rintro e fz ⟨rfl, rfl⟩
          have GQ := hid GP.out
          clear GP
          have TR : Hid (M.length ≤ 1) := by show M.length ≤ 1; rw [hM1.out]; simp
          have LB := hid (blocks_pos N)
          have E26 := hid (blocks_eq N)
          go_wp2_with fail
          refine (runs22 l2 rl2 M _ (GS.midL (leds1 := []) (leds2 := [⟨true, l3, rl3, M⟩]) GQ.out).1 (by have := TR.out; omega)).mono ?_
          rintro e q1 ⟨r1, rfl, hu, hb⟩
          have A1 := hid hu
          have H1 := hid (GQ.out.below hb)
          clear hu hb GQ
          go_wp2_with fail
          refine (runs22 l3 rl3 M _ (GS.midL (leds1 := [⟨true, l2, rl2, M⟩]) (leds2 := []) H1.out).1 (by have := TR.out; omega)).mono ?_
          rintro e q2 ⟨r2, rfl, hu, hb⟩
          have A2 := hid hu
          have B1 := hid (A1.out.below hb)
          have H2 := hid (H1.out.below hb)
          clear hu hb H1 A1
          go_wp2_with fail
          refine (same14 _ _ M M _ B1.out.reads A2.out.reads (by have := TR.out; omega) (by have := TR.out; omega)).mono ?_
          rw [decide_eq_true (show M = M from rfl)]
          rintro e q3 ⟨rfl, d3, rfl⟩
          obtain ⟨Q3, hQ⟩ : ∃ x, q2.drewN d3 = x := ⟨_, rfl⟩
          have hb : Below q2.heap.size q2 Q3 := by rw [← hQ]; exact below_drewN q2 d3
          rw [hQ]
          clear hQ
          have H3 := hid (H2.out.below hb)
          clear hb H2 A2 B1
          go_wp2_with fail
          refine (runs22 l2 rl2 M _ (GS.midL (leds1 := []) (leds2 := [⟨true, l3, rl3, M⟩]) H3.out).1 (by have := TR.out; omega)).mono ?_
          rintro e q4 ⟨r4, rfl, hu, hb⟩
          have A4 := hid hu
          have H4 := hid (H3.out.below hb)
          clear hu hb H3
          go_wp2_with fail
          rw [show ((N : Int) + 16) / 128 + 1 = ((blocks N : Nat) : Int) from by have := E26.out; omega]
          refine (blocks26 (blocks N) LB.out _ (by have := E26.out; omega)).mono ?_
          rintro e q5 ⟨r5, rfl, hu, hb⟩
          have A5 := hid hu
          have B4 := hid (A4.out.below hb)
          have H5 := hid (H4.out.below hb)
          clear hu hb H4 A4
          go_wp2_with fail
          refine (same14 _ _ M [⟨2, 128, ((blocks N : Nat) : Int)⟩] _ B4.out.reads A5.out.reads (by have := TR.out; omega) (by show 1 < 1000000000000000000; decide)).mono ?_
          rw [decide_eq_true (show M = [⟨2, 128, ((blocks N : Nat) : Int)⟩] from hM1.out)]
          rintro e q6 ⟨rfl, d6', rfl⟩
          obtain ⟨Q6, hQ⟩ : ∃ x, q5.drewN d6' = x := ⟨_, rfl⟩
          have hb : Below q5.heap.size q5 Q6 := by rw [← hQ]; exact below_drewN q5 d6'
          rw [hQ]
          clear hQ
          have H6 := hid (H5.out.below hb)
          clear hb H5 A5 B4
          go_wp2_with fail
          refine (GS.reset (sts1 := [(w.heap.size, some (N, f))]) (sts2 := [(bc, some (N, f))]) H6.out).mono ?_
          rintro e q7 ⟨rfl, hG, -⟩
          have H7 := hid (show GS w w.heap.size [(w.heap.size, some (N, f)), (b1, some (0, fun _ => 0)), (bc, some (N, f))] [⟨true, l2, rl2, M⟩, ⟨true, l3, rl3, M⟩] q7 from hG)
          clear hG H6
          go_wp2_with fail
          refine (len31 _ _ _ _ (GS.mid (sts1 := [(w.heap.size, some (N, f))]) (sts2 := [(bc, some (N, f))]) H7.out).1).mono ?_
          rintro e q7 ⟨rfl, rfl⟩
          go_wp2_with fail
          refine (form30 _ _ _ _ (GS.mid (sts1 := [(w.heap.size, some (N, f))]) (sts2 := [(bc, some (N, f))]) H7.out).1).mono ?_
          rintro e q8 ⟨u8, rfl, hu, hb⟩
          have U8 := hid hu
          have H8 := hid (H7.out.below hb)
          clear hu hb H7
          go_wp2_with fail
          refine (new12 _).mono ?_
          rintro e q9 ⟨rfl, hs, hb⟩
          have S9 := hid hs
          have U9 := hid (own_below U8.out hb)
          have H9 := hid (H8.out.below hb)
          clear hs hb H8 U8
          go_wp2_with fail
          refine (form30 _ _ _ _ S9.out).mono ?_
          rintro e q10 ⟨u10, rfl, hu, hb⟩
          have U10 := hid hu
          have V9 := hid (own_below U9.out hb)
          have H10 := hid (H9.out.below hb)
          clear hu hb H9 U9 S9
          go_wp2_with fail
          refine (same_true _ _ 200 _ _ _ V9.out.reads U10.out.reads (by omega) (fun _ _ => rfl)).mono ?_
          rintro e q11 ⟨rfl, d11, rfl⟩
          obtain ⟨Q11, hQ⟩ : ∃ x, q10.drewN d11 = x := ⟨_, rfl⟩
          have hb : Below q10.heap.size q10 Q11 := by rw [← hQ]; exact below_drewN q10 d11
          rw [hQ]
          clear hQ
          have H11 := hid (H10.out.below hb)
          clear hb H10 V9 U10
          go_wp2_with fail
          refine (form30 _ _ _ _ (GS.mid (sts1 := []) (sts2 := [(b1, some (0, fun _ => 0)), (bc, some (N, f))]) H11.out).1).mono ?_
          rintro e q12 ⟨u12, rfl, hu, hb⟩
          have U12 := hid hu
          have H12 := hid (H11.out.below hb)
          clear hu hb H11
          go_wp2_with fail
          refine (form30 _ _ _ _ (GS.mid (sts1 := [(w.heap.size, some (N, f)), (b1, some (0, fun _ => 0))]) (sts2 := []) H12.out).1).mono ?_
          rintro e q13 ⟨u13', rfl, hu, hb⟩
          have U13 := hid hu
          have V12 := hid (own_below U12.out hb)
          have H13 := hid (H12.out.below hb)
          clear hu hb H12 U12
          go_wp2_with fail
          refine (same_true _ _ 200 _ _ _ V12.out.reads U13.out.reads (by omega) (fun _ _ => rfl)).mono ?_
          rintro e q14 ⟨rfl, d14, rfl⟩
          go_wp2
          go_ret
          exact ⟨rfl, below_drew' H13.out.bel d14⟩
end Go.Proofs.YtjalconbhliipaaDoor.Sg
