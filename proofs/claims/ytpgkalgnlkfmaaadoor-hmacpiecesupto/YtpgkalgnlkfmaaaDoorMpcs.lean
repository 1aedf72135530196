/- The law HmacPieces. -/
import Derived.Test.YtpgkalgnlkfmaaaDoorZmk
import Derived.Test.YtpgkalgnlkfmaaaDoorMev
import Derived.Test.YtpgkalgnlkfmaaaDoorJcut
namespace Go.Proofs.YtpgkalgnlkfmaaaDoor.Dg
open Go.ChangeShapes Go.WideShapes Go.ChangeAt Go.RowKit
open Go.Proofs.YtpgkalgnlkfmaaaDoor.By
open Go.Proofs.YtpgkalgnlkfmaaaDoor.Sh (Blk size_alloc)
open Go.Proofs.YtpgkalgnlkfmaaaDoor.Sg (Cuts)
theorem algF (w : World) : Calls Tryd.prog 21 #[.bool false] w fun e w' => e = .returned (.tuple #[.int .u8 1, .int .i64 64]) ∧ w' = w := by
  go_enter Tryd.func21, Tryd.ntmps21
  go_wp2
  go_ret2
  exact ⟨rfl, rfl⟩
theorem algT (w : World) : Calls Tryd.prog 21 #[.bool true] w fun e w' => e = .returned (.tuple #[.int .u8 2, .int .i64 128]) ∧ w' = w := by
  go_enter Tryd.func21, Tryd.ntmps21
  go_wp2
  go_ret2
  exact ⟨rfl, rfl⟩
theorem IsMk.congr {W : World} {b : Nat} {a : Bool} {K f g : Nat → Int} {m b0 b1 b2 : Nat} (h : IsMk W b ⟨a, K, m, f, b0, b1, b2⟩) (hg : BB g) (e : ∀ i, i < m → f i = g i) : IsMk W b ⟨a, K, m, g, b0, b1, b2⟩ :=
  ⟨h.here, h.s0.congr (inr_b hg) (fun i hi => inr_congr a K f g m e i hi), h.s1, h.s2, h.n01, h.n02, h.n12, hg⟩
theorem GM.congr {w0 W : World} {B b m b0 b1 b2 : Nat} {s1 s2 : List EM} {leds : List LE} {a : Bool} {K f g : Nat → Int} (h : GM w0 B (s1 ++ (b, some ⟨a, K, m, f, b0, b1, b2⟩) :: s2) leds W) (hg : BB g) (e : ∀ i, i < m → f i = g i) : GM w0 B (s1 ++ (b, some ⟨a, K, m, g, b0, b1, b2⟩) :: s2) leds W :=
  (h.turnS (S := fun _ => False) (p' := (b, some ⟨a, K, m, g, b0, b1, b2⟩)) (Kp.refl _ _) (fun _ e _ => e.elim) (h.mid.congr hg e) (fun j hj => .inl (by
    rcases hj with e | ⟨y, e, hy⟩
    · exact .inl e
    · cases e; exact .inr ⟨_, rfl, hy⟩))).1
theorem cuts_ko {W W' : World} {B : Nat} {f : Nat → Int} {vs : List Value} {s e : Nat} (h : Cuts W B f vs s e) (hk : Ko W W') : Cuts W' B f vs s e := h.imp (fun _ _ _ ho => hk.own ho)
theorem row_ko {W W' : World} (h : Ko W W') {base n : Nat} {v : Value} {xs : List Value} (ho : W.ownsRow base 24 1 v n xs) : W'.ownsRow base 24 1 v n xs := h.row (by decide) ho
/-- What a write turns stays apart from lists of bytes. -/
theorem GM.ownB {w0 W W' : World} {B b : Nat} {x : MB} {s1 s2 : List EM} {l1 l2 : List LE} {e : LE} (h : GM w0 B (s1 ++ (b, some x) :: s2) (l1 ++ e :: l2) W) (hk : Kp (fun j => j = x.b0 ∨ SE e j) W W') {base n : Nat} {v : Value} {f : Nat → Int} (ho : By.Own W base v n f) : By.Own W' base v n f :=
  Sg.own_kept ho hk (fun g hg hs => by
    obtain ⟨c, hc⟩ := Sg.own8_type ho hg
    have hu : Blk W g c.toList 5 := by show W.heap[g]? = _; rw [hc]
    rcases hs with e1 | e1
    · obtain ⟨c', t', hb', ht'⟩ := (h.st (b, some x) (by simp)).1.kind (j := g) (.inr ⟨x, rfl, .inl e1⟩)
      exact Blk.ne hu hb' (oth_m (by decide) ht') rfl
    · obtain ⟨c', t', hb', ht'⟩ := (h.led e (by simp)).1.kind e1
      exact Blk.ne hu hb' (oth_l (by decide) ht') rfl)
theorem GM.ownS {w0 W W' : World} {B b : Nat} {x : MB} {s1 s2 : List EM} {leds : List LE} (h : GM w0 B (s1 ++ (b, some x) :: s2) leds W) (hk : Kp (fun j => j = x.b0) W W') {base n : Nat} {v : Value} {f : Nat → Int} (ho : By.Own W base v n f) : By.Own W' base v n f :=
  Sg.own_kept ho hk (fun g hg e1 => by
    obtain ⟨c, hc⟩ := Sg.own8_type ho hg
    have hu : Blk W g c.toList 5 := by show W.heap[g]? = _; rw [hc]
    obtain ⟨c', t', hb', ht'⟩ := (h.st (b, some x) (by simp)).1.kind (j := g) (.inr ⟨x, rfl, .inl e1⟩)
    exact Blk.ne hu hb' (oth_m (by decide) ht') rfl)
/-- A piece is written, with a ledger. -/
theorem GM.piece {w0 W : World} {B b lb n m b0 b1 b2 : Nat} {a : Bool} {K f : Nat → Int} {s1 s2 : List EM} {l1 l2 : List LE} {rv v : Value} {us : List Value} (h : GM w0 B (s1 ++ (b, some ⟨a, K, m, f, b0, b1, b2⟩) :: s2) (l1 ++ ⟨true, lb, rv, evs a [] (m / bk a)⟩ :: l2) W) (hc : Cuts W B f (v :: us) m n) (hn : n ≤ 1048576) :
    Calls Tryd.prog 18 #[.pointer (some ⟨b, 0, none⟩), .pointer (some ⟨lb, 0, none⟩), v] W fun e w' => e = .returned (.int .i64 0) ∧ ∃ q rv', m + q ≤ n ∧ GM w0 B (s1 ++ (b, some ⟨a, K, m + q, f, b0, b1, b2⟩) :: s2) (l1 ++ ⟨true, lb, rv', evs a [] ((m + q) / bk a)⟩ :: l2) w' ∧ Cuts w' B f us (m + q) n ∧ Ko W w' := by
  obtain ⟨q, hv, hus⟩ := hc
  have hq : m + q ≤ n := hus.le
  have h64 := bk_div a m
  have ht := evsT a Sg.pos_nil' (m / bk a) (by show (0 : Int) + ((m / bk a : Nat) : Int) ≤ 1000000000; omega)
  refine (h.write q v (fun i => f (m + i)) (fun w' hk => (h.ownB hk hv).reads) (by show m + q ≤ 5500000; omega) (by rw [ht]; show (0 : Int) + ((m / bk a : Nat) : Int) ≤ 900000; omega)).mono ?_
  rintro e w' ⟨rfl, rv', hG, hko⟩
  have e1 : cat m f (fun i => f (m + i)) = f := Sg.cat_self m f
  have e2 : m / bk a + ((m + q) / bk a - m / bk a) = (m + q) / bk a := by cases a; show m / 64 + ((m + q) / 64 - m / 64) = (m + q) / 64; omega; show m / 128 + ((m + q) / 128 - m / 128) = (m + q) / 128; omega
  have hG' : GM w0 B (s1 ++ (b, some ⟨a, K, m + q, cat m f (fun i => f (m + i)), b0, b1, b2⟩) :: s2) (l1 ++ ⟨true, lb, rv', evs a (evs a [] (m / bk a)) ((m + q) / bk a - m / bk a)⟩ :: l2) w' := hG
  rw [e1, evs_add, e2] at hG'
  exact ⟨rfl, q, rv', hq, hG', cuts_ko hus hko, hko⟩
theorem GM.piece0 {w0 W : World} {B b n m b0 b1 b2 : Nat} {a : Bool} {K f : Nat → Int} {s1 s2 : List EM} {leds : List LE} {v : Value} {us : List Value} (h : GM w0 B (s1 ++ (b, some ⟨a, K, m, f, b0, b1, b2⟩) :: s2) leds W) (hc : Cuts W B f (v :: us) m n) (hn : n ≤ 1048576) :
    Calls Tryd.prog 18 #[.pointer (some ⟨b, 0, none⟩), .pointer none, v] W fun e w' => e = .returned (.int .i64 0) ∧ ∃ q, m + q ≤ n ∧ GM w0 B (s1 ++ (b, some ⟨a, K, m + q, f, b0, b1, b2⟩) :: s2) leds w' ∧ Cuts w' B f us (m + q) n ∧ Ko W w' := by
  obtain ⟨q, hv, hus⟩ := hc
  have hq : m + q ≤ n := hus.le
  refine (h.write0 q v (fun i => f (m + i)) (fun w' hk => (h.ownS hk hv).reads) (by show m + q ≤ 5500000; omega)).mono ?_
  rintro e w' ⟨rfl, hG, hko⟩
  have e1 : cat m f (fun i => f (m + i)) = f := Sg.cat_self m f
  have hG' : GM w0 B (s1 ++ (b, some ⟨a, K, m + q, cat m f (fun i => f (m + i)), b0, b1, b2⟩) :: s2) leds w' := hG
  rw [e1] at hG'
  exact ⟨rfl, q, hq, hG', cuts_ko hus hko, hko⟩
/-- The clone, once it is made. -/
def CO (W : World) (B n stop i : Nat) (a : Bool) (K f : Nat → Int) (vs : List Value) (co : List EM) (cl : Value) : Prop :=
  (i ≤ stop ∧ co = [] ∧ cl = .pointer none) ∨ (stop < i ∧ ∃ bc c0 c1 c2 mc, co = [(bc, some ⟨a, K, mc, f, c0, c1, c2⟩)] ∧ cl = .pointer (some ⟨bc, 0, none⟩) ∧ Cuts W B f (vs.drop stop) mc n)
theorem CO.ko {W W' : World} {B n stop i : Nat} {a : Bool} {K f : Nat → Int} {vs : List Value} {co : List EM} {cl : Value} (h : CO W B n stop i a K f vs co cl) (hk : Ko W W') : CO W' B n stop i a K f vs co cl := by
  rcases h with h | ⟨h1, bc, c0, c1, c2, mc, h2, h3, h4⟩
  · exact .inl h
  · exact .inr ⟨h1, bc, c0, c1, c2, mc, h2, h3, cuts_ko h4 hk⟩
theorem ev_all256 (N : Nat) (hN : N ≤ 1048576) : sev false (evs false [] (N / bk false)) N = [⟨1, 64, (((N + 8) / 64 + 2 : Nat) : Int)⟩] := by
  unfold sev
  rw [evs_add]
  have e : N / bk false + (last false N + 1) = (N + 8) / 64 + 1 + 1 := by
    show N / 64 + (Sh.last N + 1) = _
    unfold Sh.last Sh.zs; omega
  rw [e]
  exact Sh.evs_one _ (by omega)
set_option maxRecDepth 8000 in
set_option maxHeartbeats 8000000 in
theorem pieces256 (ka a c : Option Addr) (nk kcap n cap nc cc : Nat) (kf f g : Nat → Int) (at' : Int) (w : World) (hrk : By.RB w (.slice ka nk kcap) nk kf) (hr : By.RB w (.slice a n cap) n f) (hg : By.RB w (.slice c nc cc) nc g) (hat : 0 ≤ at' ∧ at' < 256) (hk : KT w) (hnk : nk ≤ 1048576) (hn : n ≤ 1048576) (hnc : nc ≤ 1048576) :
    Calls Tryd.prog 4 #[.bool false, .slice ka nk kcap, .slice a n cap, .slice c nc cc, .int .u8 at'] w fun e w' => e = .returned (.bool true) ∧ Below w.heap.size w w' := by
  have HRK := hid hrk
  have HR := hid hr
  have HG := hid hg
  have HK := hid hk
  clear hrk hr hg hk
  go_enter Tryd.func4, Tryd.ntmps4
  go_wp2_with fail
  refine (algF _).mono ?_
  rintro e w1 ⟨rfl, hw⟩
  subst w1
  go_wp2_with fail
  refine (new9 _).mono ?_
  rintro e w1 ⟨rfl, hl, hb⟩
  have G1 := hid ((GM.start w HK.out).addLed hb (o := true) hl)
  clear hl hb
  go_wp2_with fail
  refine (GM.new0 G1.out false nk _ kf (HRK.out.below G1.out.bel) (by omega)).mono ?_
  rintro e w2 ⟨b, b0, b1, b2, rfl, hG, -, -⟩
  have G2 := hid (show GM w w.heap.size ([] ++ (b, some ⟨false, kb false nk kf, 0, f, b0, b1, b2⟩) :: []) ([] ++ ⟨true, w.heap.size, .slice none 0 0, evs false [] (0 / bk false)⟩ :: []) w2 from GM.congr (s1 := []) (s2 := []) hG HR.out.1 (fun i hi => by omega))
  clear hG G1
  obtain ⟨K, hK⟩ : ∃ K, kb false nk kf = K := ⟨_, rfl⟩
  rw [hK] at G2
  go_wp2_with fail
  refine (awake1 _ G2.out.kt).mono ?_
  rintro e w3 ⟨rfl, hb⟩
  have G3 := hid (G2.out.below hb)
  clear hb G2
  go_wp2_with fail
  refine (formM b _ _ (GM.mid (s1 := []) (s2 := []) G3.out)).mono ?_
  rintro e w4 ⟨ff, rfl, hf, hb⟩
  have F4 := hid (show By.Own w4 w.heap.size ff 312 (mfm false K 0 f) from Sg.own_mono hf G3.out.bel.size)
  have G4 := hid (G3.out.below hb)
  clear hf hb G3
  obtain ⟨fa, fc, rfl⟩ := own_sl F4.out
  go_wp2_with fail
  refine (Sg.cut27 a c n cap nc cc f g _ (HR.out.below G4.out.bel) (HG.out.below G4.out.bel) hn hnc).mono ?_
  rintro e w6 ⟨pv, vs, rfl, hrow, hcut, hb, hvl, hv0, -⟩
  have G6 := hid (G4.out.below hb)
  have F6 := hid (own_below F4.out hb)
  have R6 := hid (Sg.row_mono hrow G4.out.hB)
  have C6 := hid (Sg.Cuts.mono hcut G4.out.hB)
  obtain ⟨A, cp, rfl⟩ := Sg.row_slice hrow
  clear hrow hcut hb G4 F4
  obtain ⟨sp, hsp⟩ : ∃ sp : Nat, at' % (vs.length : Int) = sp := ⟨(at' % (vs.length : Int)).toNat, by rw [Int.toNat_of_nonneg (Int.emod_nonneg _ (by omega))]⟩
  have hsl : sp < vs.length := by have := Int.emod_lt_of_pos at' (show (0 : Int) < vs.length by omega); omega
  have htm : at'.tmod (vs.length : Int) = sp := by rw [Int.tmod_eq_emod_of_nonneg hat.1]; exact hsp
  have hv0' : ¬ (vs.length : Int) = 0 := by omega
  have VL := hid hvl
  go_wp2_with fail
  go_loopw [19, 20] (fun cl x wr => ∃ (i m : Nat) (co : List EM) (rv : Value), i ≤ vs.length ∧ x = .int .i64 i ∧ m ≤ n ∧ CO wr w.heap.size n sp i false K f vs co cl ∧ Cuts wr w.heap.size f (vs.drop i) m n ∧ wr.ownsRow w.heap.size 24 1 (.slice A vs.length cp) vs.length vs ∧ By.Own wr w.heap.size (.slice fa 312 fc) 312 (mfm false K 0 f) ∧ GM w w.heap.size ([] ++ (b, some ⟨false, K, m, f, b0, b1, b2⟩) :: co) ([] ++ ⟨true, w.heap.size, rv, evs false [] (m / bk false)⟩ :: []) wr) (fun _ x _ => vs.length - (intOf x).toNat)
  case atStart => exact ⟨0, 0, [], _, by omega, rfl, by omega, .inl ⟨by omega, rfl, rfl⟩, C6.out, R6.out, F6.out, G6.out⟩
  case round =>
    clear G6 R6 C6 F6
    obtain ⟨i, m, co, rv, hi, rfl, hmn, hco, hcut, hrow, hfo, hG⟩ := hrel
    have CC := hid hco
    have C := hid hcut
    have R := hid hrow
    have F := hid hfo
    have G := hid hG
    clear hco hcut hrow hG hfo
    by_cases h1 : i < vs.length
    · obtain ⟨x, hx⟩ : ∃ x, vs[i]? = some x := ⟨_, List.getElem?_eq_getElem h1⟩
      obtain ⟨ga, gc, e, hcell⟩ := Sg.rowL_cell R.out hx
      simp only [Value.slice.injEq, true_and] at e
      obtain ⟨rfl, rfl⟩ := e
      rw [Nat.zero_add] at hcell
      have hd : vs.drop i = x :: vs.drop (i + 1) := by rw [List.drop_eq_getElem_cons h1]; congr 1; rw [List.getElem?_eq_getElem h1] at hx; exact Option.some.inj hx
      have D := hid hd
      clear hx hd
      by_cases h2 : i = sp
      · subst h2
        obtain ⟨-, rfl, rfl⟩ : i ≤ i ∧ co = [] ∧ u19 = .pointer none := by
          rcases CC.out with h | ⟨h, _⟩
          · exact h
          · omega
        clear CC
        go_wp2_with fail
        refine (GM.sum0 (s1 := []) (s2 := []) G.out (by show m ≤ 4900000; omega)).mono ?_
        rintro e x1 ⟨v1, rfl, -, hb⟩
        have G1 := hid (G.out.below hb)
        have C1 := hid (cuts_ko C.out (Ko.below hb))
        have R1 := hid (row_ko (Ko.below hb) R.out)
        have F1 := hid (own_below F.out hb)
        clear hb G C R F hcell
        go_wp2_with fail
        refine (GM.clone (s1 := []) (s2 := []) G1.out).mono ?_
        rintro e x2 ⟨bc, c0, c1, c2, rfl, hG, hb, -⟩
        have G2 := hid (show GM w w.heap.size ([] ++ (b, some ⟨false, K, m, f, b0, b1, b2⟩) :: [(bc, some ⟨false, K, m, f, c0, c1, c2⟩)]) ([] ++ ⟨true, w.heap.size, rv, evs false [] (m / bk false)⟩ :: []) x2 from hG)
        have C2 := hid (cuts_ko C1.out (Ko.below hb))
        have R2 := hid (row_ko (Ko.below hb) R1.out)
        have F2 := hid (own_below F1.out hb)
        obtain ⟨ga2, gc2, e, hcell2⟩ := Sg.rowL_cell R2.out (show vs[i]? = some x from by rw [← List.head?_drop, D.out]; rfl)
        simp only [Value.slice.injEq, true_and, Option.some.injEq, Addr.mk.injEq, and_true] at e
        obtain ⟨rfl, rfl⟩ := e
        rw [Nat.zero_add] at hcell2
        clear hG hb G1 C1 R1 F1
        go_wp2_with fail
        have C3 := hid (show Cuts x2 w.heap.size f (x :: vs.drop (i + 1)) m n from by rw [← D.out]; exact C2.out)
        refine (GM.piece (s1 := []) (s2 := [(bc, some ⟨false, K, m, f, c0, c1, c2⟩)]) (l1 := []) (l2 := []) G2.out C3.out hn).mono ?_
        rintro e x3 ⟨rfl, q, rv', hq, hG, hc, hko⟩
        have G3 := hid hG
        have C4 := hid hc
        have R3 := hid (row_ko hko R2.out)
        have C5 := hid (cuts_ko C2.out hko)
        have F3 := hid (hko.own F2.out)
        clear hG hc hko G2 C2 C3 R2 F2 hcell2
        go_wp2
        exact ⟨⟨i + 1, m + q, [(bc, some ⟨false, K, m, f, c0, c1, c2⟩)], rv', by omega, by go_num, hq, .inr ⟨by omega, bc, c0, c1, c2, m, rfl, rfl, C5.out⟩, C4.out, R3.out, F3.out, G3.out⟩, by simp [intOf]; omega⟩
      · have h2' : ¬ (i : Int) = (sp : Int) := by omega
        go_wp2_with fail
        have C3 := hid (show Cuts wr w.heap.size f (x :: vs.drop (i + 1)) m n from by rw [← D.out]; exact C.out)
        refine (GM.piece (s1 := []) (s2 := co) (l1 := []) (l2 := []) G.out C3.out hn).mono ?_
        rintro e x3 ⟨rfl, q, rv', hq, hG, hc, hko⟩
        have G3 := hid hG
        have C4 := hid hc
        have R3 := hid (row_ko hko R.out)
        have CC3 := hid (CC.out.ko hko)
        have F3 := hid (hko.own F.out)
        clear hG hc hko G C C3 R CC F hcell
        go_wp2
        refine ⟨⟨i + 1, m + q, co, rv', by omega, by go_num, hq, ?_, C4.out, R3.out, F3.out, G3.out⟩, by simp [intOf]; omega⟩
        rcases CC3.out with ⟨h, h'⟩ | ⟨h, h'⟩
        · exact .inl ⟨by omega, h'⟩
        · exact .inr ⟨by omega, h'⟩
    · have ei : i = vs.length := by omega
      subst ei
      obtain ⟨-, bc, c0, c1, c2, mc, rfl, rfl, hcs⟩ : sp < vs.length ∧ ∃ bc c0 c1 c2 mc, co = [(bc, some ⟨false, K, mc, f, c0, c1, c2⟩)] ∧ u19 = .pointer (some ⟨bc, 0, none⟩) ∧ Cuts wr w.heap.size f (vs.drop sp) mc n := by
        rcases CC.out with ⟨h, _⟩ | h
        · omega
        · exact h
      obtain rfl : m = n := by have := C.out; rwa [List.drop_length] at this
      have CS := hid hcs
      clear hcs CC C
      go_wp2_with fail
      go_loopw [23] (fun x wr => ∃ i mc : Nat, i ≤ vs.length ∧ x = .int .i64 i ∧ mc ≤ m ∧ Cuts wr w.heap.size f (vs.drop i) mc m ∧ wr.ownsRow w.heap.size 24 1 (.slice A vs.length cp) vs.length vs ∧ By.Own wr w.heap.size (.slice fa 312 fc) 312 (mfm false K 0 f) ∧ GM w w.heap.size ([(b, some ⟨false, K, m, f, b0, b1, b2⟩)] ++ (bc, some ⟨false, K, mc, f, c0, c1, c2⟩) :: []) ([] ++ ⟨true, w.heap.size, rv, evs false [] (m / bk false)⟩ :: []) wr) (fun x _ => vs.length - (intOf x).toNat)
      case atStart => exact ⟨sp, mc, by omega, rfl, CS.out.le, CS.out, R.out, F.out, G.out⟩
      case round =>
        clear G R CS F
        obtain ⟨i, mc, hi, rfl, hmc, hcut, hrow, hfo, hG⟩ := hrel
        have C := hid hcut
        have R := hid hrow
        have F := hid hfo
        have G := hid hG
        clear hcut hrow hG hfo
        by_cases h1 : i < vs.length
        · obtain ⟨x, hx⟩ : ∃ x, vs[i]? = some x := ⟨_, List.getElem?_eq_getElem h1⟩
          obtain ⟨ga, gc, e, hcell⟩ := Sg.rowL_cell R.out hx
          simp only [Value.slice.injEq, true_and] at e
          obtain ⟨rfl, rfl⟩ := e
          rw [Nat.zero_add] at hcell
          have hd : vs.drop i = x :: vs.drop (i + 1) := by rw [List.drop_eq_getElem_cons h1]; congr 1; rw [List.getElem?_eq_getElem h1] at hx; exact Option.some.inj hx
          have C3 := hid (show Cuts wr w.heap.size f (x :: vs.drop (i + 1)) mc m from by rw [← hd]; exact C.out)
          clear hx hd
          go_wp2_with fail
          refine (GM.piece0 (s1 := [(b, some ⟨false, K, m, f, b0, b1, b2⟩)]) (s2 := []) G.out C3.out hn).mono ?_
          rintro e x3 ⟨rfl, q, hq, hG, hc, hko⟩
          have G3 := hid hG
          have C4 := hid hc
          have R3 := hid (row_ko hko R.out)
          have F3 := hid (hko.own F.out)
          clear hG hc hko G C C3 R F hcell
          go_wp2
          exact ⟨⟨i + 1, mc + q, by omega, by go_num, hq, C4.out, R3.out, F3.out, G3.out⟩, by simp [intOf]; omega⟩
        · have ei : i = vs.length := by omega
          subst ei
          obtain rfl : mc = m := by have := C.out; rwa [List.drop_length] at this
          clear C R
          obtain ⟨N, eN⟩ : ∃ N, N = mc := ⟨_, rfl⟩
          rw [← eN] at hn HR G
          rw [← eN]
          clear eN
          have tN := evsT false Sg.pos_nil' (N / bk false) (by show (0 : Int) + ((N / 64 : Nat) : Int) ≤ 1000000000; omega)
          have tN2 : tot (evs false [] (N / bk false)) ≤ 800000 := by rw [tN]; show (0 : Int) + ((N / 64 : Nat) : Int) ≤ 800000; omega
          go_wp2_with fail
          refine (GM.sum (s1 := []) (s2 := [(bc, some ⟨false, K, N, f, c0, c1, c2⟩)]) (l1 := []) (l2 := []) G.out (by show N ≤ 4900000; omega) tN2).mono ?_
          rintro e z1 ⟨xv, rvx, rfl, hv, hG, hko⟩
          have X_1 := hid (show By.Own z1 wr.heap.size xv 32 (hm false K N f) from hv)
          clear hv
          have G_1 := hid (show GM w w.heap.size ([] ++ (b, some ⟨false, K, N, f, b0, b1, b2⟩) :: [(bc, some ⟨false, K, N, f, c0, c1, c2⟩)]) ([] ++ ⟨true, w.heap.size, rvx, sev false (evs false [] (N / bk false)) N⟩ :: []) z1 from hG)
          have F_1 := hid (hko.own F.out)
          clear hG hko G F
          obtain ⟨xa, xc, rfl⟩ := own_sl X_1.out
          go_wp2_with fail
          refine (GM.sum0 (s1 := [(b, some ⟨false, K, N, f, b0, b1, b2⟩)]) (s2 := []) G_1.out (by show N ≤ 4900000; omega)).mono ?_
          rintro e z2 ⟨yv, rfl, hv, hb⟩
          have Y_2 := hid (show By.Own z2 z1.heap.size yv 32 (hm false K N f) from hv)
          clear hv
          have G_2 := hid (G_1.out.below hb)
          have F_2 := hid (own_below F_1.out hb)
          have X_2 := hid (own_below X_1.out hb)
          clear hb G_1 F_1 X_1
          have HC := hid (tagM false nk N (.slice ka nk kcap) (.slice a N cap) kf f none [] (fun _ => False) z2 G_2.out.kt id id trivial Sg.pos_nil' (fun w' hk' => (HRK.out.below G_2.out.bel).below (Sg.below_kp hk')) (fun w' hk' => (HR.out.below G_2.out.bel).below (Sg.below_kp hk')) (by omega) (by omega) (by decide))
          rw [hK] at HC
          go_wp2_with fail
          refine HC.out.mono ?_
          rintro e z3 ⟨zv, rfl, hv, -, hkz⟩
          have hb := Sg.below_kp hkz
          have Z_3 := hid (show By.Own z3 z2.heap.size zv 32 (hm false K N f) from hv)
          clear hv hkz HC
          have G_3 := hid (G_2.out.below hb)
          have F_3 := hid (own_below F_2.out hb)
          have X_3 := hid (own_below X_2.out hb)
          have Y_3 := hid (own_below Y_2.out hb)
          clear hb G_2 F_2 X_2 Y_2
          have hdv : ((64 : Int) / 8) = 8 := by decide
          go_wp2_with fail
          refine (sizeM b _ _ (GM.mid (s1 := []) (s2 := [(bc, some ⟨false, K, N, f, c0, c1, c2⟩)]) G_3.out)).mono ?_
          rintro e q1 ⟨rfl, hw⟩
          subst q1
          go_wp2_with fail
          refine (same_true _ _ 32 _ _ _ X_3.out.reads Y_3.out.reads (by decide) (fun _ _ => rfl)).mono ?_
          rintro e z4 ⟨rfl, d4, hw⟩
          have hb : Below z3.heap.size z3 z4 := by rw [hw]; exact below_drewN z3 d4
          clear hw
          have G_4 := hid (G_3.out.below hb)
          have F_4 := hid (own_below F_3.out hb)
          have X_4 := hid (own_below X_3.out hb)
          have Y_4 := hid (own_below Y_3.out hb)
          have Z_4 := hid (own_below Z_3.out hb)
          clear hb G_3 F_3 X_3 Y_3 Z_3
          go_wp2_with fail
          refine (same_true _ _ 32 _ _ _ X_4.out.reads Z_4.out.reads (by decide) (fun _ _ => rfl)).mono ?_
          rintro e z5 ⟨rfl, d5, hw⟩
          have hb : Below z4.heap.size z4 z5 := by rw [hw]; exact below_drewN z4 d5
          clear hw
          have G_5 := hid (G_4.out.below hb)
          have F_5 := hid (own_below F_4.out hb)
          have X_5 := hid (own_below X_4.out hb)
          have Y_5 := hid (own_below Y_4.out hb)
          have Z_5 := hid (own_below Z_4.out hb)
          clear hb G_4 F_4 X_4 Y_4 Z_4
          clear Y_5
          clear Z_5
          go_wp2_with fail
          refine (formM b _ _ (GM.mid (s1 := []) (s2 := [(bc, some ⟨false, K, N, f, c0, c1, c2⟩)]) G_5.out)).mono ?_
          rintro e z6 ⟨pv6, rfl, hv, hb⟩
          have P_6 := hid (show By.Own z6 z5.heap.size pv6 312 (mfm false K N f) from hv)
          clear hv
          have G_6 := hid (G_5.out.below hb)
          have F_6 := hid (own_below F_5.out hb)
          have X_6 := hid (own_below X_5.out hb)
          clear hb G_5 F_5 X_5
          go_wp2_with fail
          refine (formM bc _ _ (GM.mid (s1 := [(b, some ⟨false, K, N, f, b0, b1, b2⟩)]) (s2 := []) G_6.out)).mono ?_
          rintro e z7 ⟨qv7, rfl, hv, hb⟩
          have Q_7 := hid (show By.Own z7 z6.heap.size qv7 312 (mfm false K N f) from hv)
          clear hv
          have G_7 := hid (G_6.out.below hb)
          have F_7 := hid (own_below F_6.out hb)
          have X_7 := hid (own_below X_6.out hb)
          have P_7 := hid (own_below P_6.out hb)
          clear hb G_6 F_6 X_6 P_6
          go_wp2_with fail
          refine (same_true _ _ 312 _ _ _ P_7.out.reads Q_7.out.reads (by decide) (fun _ _ => rfl)).mono ?_
          rintro e z8 ⟨rfl, d8, hw⟩
          have hb : Below z7.heap.size z7 z8 := by rw [hw]; exact below_drewN z7 d8
          clear hw
          have G_8 := hid (G_7.out.below hb)
          have F_8 := hid (own_below F_7.out hb)
          have X_8 := hid (own_below X_7.out hb)
          have P_8 := hid (own_below P_7.out hb)
          have Q_8 := hid (own_below Q_7.out hb)
          clear hb G_7 F_7 X_7 P_7 Q_7
          clear P_8
          clear Q_8
          have TL := hid (show sev false (evs false [] (N / bk false)) N = [⟨1, 64, (((N + 8) / 64 + 2 : Nat) : Int)⟩] from ev_all256 N hn)
          have hE : (((N + 8) / 64 + 2 : Nat) : Int) = ((N : Int) + 8) / 64 + 2 := by omega
          obtain ⟨E, eE⟩ : ∃ E : Int, (((N + 8) / 64 + 2 : Nat) : Int) = E := ⟨_, rfl⟩
          rw [eE] at TL hE
          have hEb : 0 ≤ E ∧ E ≤ 1000000 := by omega
          rw [TL.out] at G_8
          have hE2 : ((N : Int) + 8) / 64 + 2 = E := hE.symm
          clear hE eE TL
          go_wp2_with fail
          refine (runs22 _ _ _ _ (GM.midL (l1 := []) (l2 := []) G_8.out).1 (by show 1 * 24 ≤ 140737488355328; decide)).mono ?_
          rintro e z9 ⟨r1, rfl, ho, hb⟩
          have O1 := hid ho
          clear ho
          have G_9 := hid (G_8.out.below hb)
          have F_9 := hid (own_below F_8.out hb)
          have X_9 := hid (own_below X_8.out hb)
          clear hb G_8 F_8 X_8
          go_wp2_with fail
          refine (events256 E hEb.1 (by omega) _).mono ?_
          rintro e z10 ⟨r2, rfl, ho, hb⟩
          have O2 := hid ho
          have O3 := hid (O1.out.below hb)
          clear ho O1
          have G_10 := hid (G_9.out.below hb)
          have F_10 := hid (own_below F_9.out hb)
          have X_10 := hid (own_below X_9.out hb)
          clear hb G_9 F_9 X_9
          go_wp2_with fail
          refine (same14 _ _ [⟨1, 64, E⟩] [⟨1, 64, E⟩] _ O3.out.reads O2.out.reads (by show 1 < 1000000000000000000; decide) (by show 1 < 1000000000000000000; decide)).mono ?_
          rw [decide_eq_true (show ([⟨1, 64, E⟩] : List Rn) = [⟨1, 64, E⟩] from rfl)]
          rintro e z11 ⟨rfl, d11, hw⟩
          have hb : Below z10.heap.size z10 z11 := by rw [hw]; exact below_drewN z10 d11
          clear hw O2 O3
          have G_11 := hid (G_10.out.below hb)
          have F_11 := hid (own_below F_10.out hb)
          have X_11 := hid (own_below X_10.out hb)
          clear hb G_10 F_10 X_10
          go_wp2_with fail
          refine (formM bc _ _ (GM.mid (s1 := [(b, some ⟨false, K, N, f, b0, b1, b2⟩)]) (s2 := []) G_11.out)).mono ?_
          rintro e z12 ⟨hv12, rfl, hv, hb⟩
          have H_12 := hid (show By.Own z12 z11.heap.size hv12 312 (mfm false K N f) from hv)
          clear hv
          have G_12 := hid (G_11.out.below hb)
          have F_12 := hid (own_below F_11.out hb)
          have X_12 := hid (own_below X_11.out hb)
          clear hb G_11 F_11 X_11
          go_wp2_with fail
          refine (GM.reset (s1 := []) (s2 := [(bc, some ⟨false, K, N, f, c0, c1, c2⟩)]) G_12.out).mono ?_
          rintro e z13 ⟨rfl, c9, hG, hko⟩
          have G_13 := hid (show GM w w.heap.size ([] ++ (b, some ⟨false, K, 0, f, c9, b1, b2⟩) :: [(bc, some ⟨false, K, N, f, c0, c1, c2⟩)]) ([] ++ ⟨true, w.heap.size, rvx, [⟨1, 64, E⟩]⟩ :: []) z13 from GM.congr (s1 := []) (s2 := [(bc, some ⟨false, K, N, f, c0, c1, c2⟩)]) hG HR.out.1 (fun i hi => by omega))
          have F_13 := hid (hko.own F_12.out)
          have X_13 := hid (hko.own X_12.out)
          have H_13 := hid (hko.own H_12.out)
          clear hG hko G_12 F_12 X_12 H_12
          go_wp2_with fail
          refine (formM b _ _ (GM.mid (s1 := []) (s2 := [(bc, some ⟨false, K, N, f, c0, c1, c2⟩)]) G_13.out)).mono ?_
          rintro e z14 ⟨pv14, rfl, hv, hb⟩
          have P_14 := hid (show By.Own z14 z13.heap.size pv14 312 (mfm false K 0 f) from hv)
          clear hv
          have G_14 := hid (G_13.out.below hb)
          have F_14 := hid (own_below F_13.out hb)
          have X_14 := hid (own_below X_13.out hb)
          have H_14 := hid (own_below H_13.out hb)
          clear hb G_13 F_13 X_13 H_13
          go_wp2_with fail
          refine (same_true _ _ 312 _ _ _ P_14.out.reads F_14.out.reads (by decide) (fun _ _ => rfl)).mono ?_
          rintro e z15 ⟨rfl, d15, hw⟩
          have hb : Below z14.heap.size z14 z15 := by rw [hw]; exact below_drewN z14 d15
          clear hw
          have G_15 := hid (G_14.out.below hb)
          have F_15 := hid (own_below F_14.out hb)
          have X_15 := hid (own_below X_14.out hb)
          have H_15 := hid (own_below H_14.out hb)
          have P_15 := hid (own_below P_14.out hb)
          clear hb G_14 F_14 X_14 H_14 P_14
          clear P_15
          clear F_15
          have HC := hid (GM.write0 (s1 := []) (s2 := [(bc, some ⟨false, K, N, f, c0, c1, c2⟩)]) G_15.out N (.slice a N cap) f (fun w' hk' => HR.out.below (G_15.out.bel.trans (hk'.below G_15.out.hB (fun k hk e => by have e' : k = c9 := e; have := (G_15.out.st (b, some ⟨false, K, 0, f, c9, b1, b2⟩) (by simp)).2 c9 (.inr ⟨_, rfl, .inl rfl⟩); omega)))) (by show 0 + N ≤ 5500000; omega))
          go_wp2_with fail
          refine HC.out.mono ?_
          rintro e z16 ⟨rfl, hG0, hko⟩
          have hG : GM w w.heap.size ([] ++ (b, some ⟨false, K, N, f, c9, b1, b2⟩) :: [(bc, some ⟨false, K, N, f, c0, c1, c2⟩)]) ([] ++ ⟨true, w.heap.size, rvx, [⟨1, 64, E⟩]⟩ :: []) z16 := by
            have h : GM w w.heap.size ([] ++ (b, some ⟨false, K, 0 + N, cat 0 f f, c9, b1, b2⟩) :: [(bc, some ⟨false, K, N, f, c0, c1, c2⟩)]) ([] ++ ⟨true, w.heap.size, rvx, [⟨1, 64, E⟩]⟩ :: []) z16 := hG0
            rw [Nat.zero_add, show cat 0 f f = f from Sg.cat0 _ _] at h
            exact h
          clear hG0 HC
          have G_16 := hid (hG)
          have X_16 := hid (hko.own X_15.out)
          have H_16 := hid (hko.own H_15.out)
          clear hG hko G_15 X_15 H_15
          go_wp2_with fail
          refine (formM b _ _ (GM.mid (s1 := []) (s2 := [(bc, some ⟨false, K, N, f, c0, c1, c2⟩)]) G_16.out)).mono ?_
          rintro e z17 ⟨pv17, rfl, hv, hb⟩
          have P_17 := hid (show By.Own z17 z16.heap.size pv17 312 (mfm false K N f) from hv)
          clear hv
          have G_17 := hid (G_16.out.below hb)
          have X_17 := hid (own_below X_16.out hb)
          have H_17 := hid (own_below H_16.out hb)
          clear hb G_16 X_16 H_16
          go_wp2_with fail
          refine (same_true _ _ 312 _ _ _ P_17.out.reads H_17.out.reads (by decide) (fun _ _ => rfl)).mono ?_
          rintro e z18 ⟨rfl, d18, hw⟩
          have hb : Below z17.heap.size z17 z18 := by rw [hw]; exact below_drewN z17 d18
          clear hw
          have G_18 := hid (G_17.out.below hb)
          have X_18 := hid (own_below X_17.out hb)
          have H_18 := hid (own_below H_17.out hb)
          have P_18 := hid (own_below P_17.out hb)
          clear hb G_17 X_17 H_17 P_17
          clear P_18
          go_wp2_with fail
          refine (GM.sum0 (s1 := []) (s2 := [(bc, some ⟨false, K, N, f, c0, c1, c2⟩)]) G_18.out (by show N ≤ 4900000; omega)).mono ?_
          rintro e z19 ⟨av, rfl, hv, hb⟩
          have A_19 := hid (show By.Own z19 z18.heap.size av 32 (hm false K N f) from hv)
          clear hv
          have G_19 := hid (G_18.out.below hb)
          have X_19 := hid (own_below X_18.out hb)
          have H_19 := hid (own_below H_18.out hb)
          clear hb G_18 X_18 H_18
          go_wp2_with fail
          refine (same_true _ _ 32 _ _ _ A_19.out.reads X_19.out.reads (by decide) (fun _ _ => rfl)).mono ?_
          rintro e z20 ⟨rfl, d20, hw⟩
          have hb : Below z19.heap.size z19 z20 := by rw [hw]; exact below_drewN z19 d20
          clear hw
          have G_20 := hid (G_19.out.below hb)
          have X_20 := hid (own_below X_19.out hb)
          have H_20 := hid (own_below H_19.out hb)
          have A_20 := hid (own_below A_19.out hb)
          clear hb G_19 X_19 H_19 A_19
          clear A_20
          clear X_20
          go_wp2_with fail
          refine (formM bc _ _ (GM.mid (s1 := [(b, some ⟨false, K, N, f, c9, b1, b2⟩)]) (s2 := []) G_20.out)).mono ?_
          rintro e z21 ⟨pv21, rfl, hv, hb⟩
          have P_21 := hid (show By.Own z21 z20.heap.size pv21 312 (mfm false K N f) from hv)
          clear hv
          have G_21 := hid (G_20.out.below hb)
          have H_21 := hid (own_below H_20.out hb)
          clear hb G_20 H_20
          go_wp2_with fail
          refine (same_true _ _ 312 _ _ _ P_21.out.reads H_21.out.reads (by decide) (fun _ _ => rfl)).mono ?_
          rintro e z22 ⟨rfl, d22, hw⟩
          have hb : Below z21.heap.size z21 z22 := by rw [hw]; exact below_drewN z21 d22
          clear hw
          have G_22 := hid (G_21.out.below hb)
          have H_22 := hid (own_below H_21.out hb)
          have P_22 := hid (own_below P_21.out hb)
          clear hb G_21 H_21 P_21
          go_wp2
          go_ret
          exact ⟨rfl, G_22.out.bel⟩
theorem ev_all512 (N : Nat) (hN : N ≤ 1048576) : sev true (evs true [] (N / bk true)) N = [⟨2, 128, (((N + 16) / 128 + 2 : Nat) : Int)⟩] := by
  unfold sev
  rw [evs_add]
  have e : N / bk true + (last true N + 1) = (N + 16) / 128 + 1 + 1 := by
    show N / 128 + (Sg.last N + 1) = _
    unfold Sg.last Sg.zs; omega
  rw [e]
  exact Sg.evs_one _ (by omega)
set_option maxRecDepth 8000 in
set_option maxHeartbeats 8000000 in
theorem pieces512 (ka a c : Option Addr) (nk kcap n cap nc cc : Nat) (kf f g : Nat → Int) (at' : Int) (w : World) (hrk : By.RB w (.slice ka nk kcap) nk kf) (hr : By.RB w (.slice a n cap) n f) (hg : By.RB w (.slice c nc cc) nc g) (hat : 0 ≤ at' ∧ at' < 256) (hk : KT w) (hnk : nk ≤ 1048576) (hn : n ≤ 1048576) (hnc : nc ≤ 1048576) :
    Calls Tryd.prog 4 #[.bool true, .slice ka nk kcap, .slice a n cap, .slice c nc cc, .int .u8 at'] w fun e w' => e = .returned (.bool true) ∧ Below w.heap.size w w' := by
  have HRK := hid hrk
  have HR := hid hr
  have HG := hid hg
  have HK := hid hk
  clear hrk hr hg hk
  go_enter Tryd.func4, Tryd.ntmps4
  go_wp2_with fail
  refine (algT _).mono ?_
  rintro e w1 ⟨rfl, hw⟩
  subst w1
  go_wp2_with fail
  refine (new9 _).mono ?_
  rintro e w1 ⟨rfl, hl, hb⟩
  have G1 := hid ((GM.start w HK.out).addLed hb (o := true) hl)
  clear hl hb
  go_wp2_with fail
  refine (GM.new0 G1.out true nk _ kf (HRK.out.below G1.out.bel) (by omega)).mono ?_
  rintro e w2 ⟨b, b0, b1, b2, rfl, hG, -, -⟩
  have G2 := hid (show GM w w.heap.size ([] ++ (b, some ⟨true, kb true nk kf, 0, f, b0, b1, b2⟩) :: []) ([] ++ ⟨true, w.heap.size, .slice none 0 0, evs true [] (0 / bk true)⟩ :: []) w2 from GM.congr (s1 := []) (s2 := []) hG HR.out.1 (fun i hi => by omega))
  clear hG G1
  obtain ⟨K, hK⟩ : ∃ K, kb true nk kf = K := ⟨_, rfl⟩
  rw [hK] at G2
  go_wp2_with fail
  refine (awake1 _ G2.out.kt).mono ?_
  rintro e w3 ⟨rfl, hb⟩
  have G3 := hid (G2.out.below hb)
  clear hb G2
  go_wp2_with fail
  refine (formM b _ _ (GM.mid (s1 := []) (s2 := []) G3.out)).mono ?_
  rintro e w4 ⟨ff, rfl, hf, hb⟩
  have F4 := hid (show By.Own w4 w.heap.size ff 600 (mfm true K 0 f) from Sg.own_mono hf G3.out.bel.size)
  have G4 := hid (G3.out.below hb)
  clear hf hb G3
  obtain ⟨fa, fc, rfl⟩ := own_sl F4.out
  go_wp2_with fail
  refine (Sg.cut27 a c n cap nc cc f g _ (HR.out.below G4.out.bel) (HG.out.below G4.out.bel) hn hnc).mono ?_
  rintro e w6 ⟨pv, vs, rfl, hrow, hcut, hb, hvl, hv0, -⟩
  have G6 := hid (G4.out.below hb)
  have F6 := hid (own_below F4.out hb)
  have R6 := hid (Sg.row_mono hrow G4.out.hB)
  have C6 := hid (Sg.Cuts.mono hcut G4.out.hB)
  obtain ⟨A, cp, rfl⟩ := Sg.row_slice hrow
  clear hrow hcut hb G4 F4
  obtain ⟨sp, hsp⟩ : ∃ sp : Nat, at' % (vs.length : Int) = sp := ⟨(at' % (vs.length : Int)).toNat, by rw [Int.toNat_of_nonneg (Int.emod_nonneg _ (by omega))]⟩
  have hsl : sp < vs.length := by have := Int.emod_lt_of_pos at' (show (0 : Int) < vs.length by omega); omega
  have htm : at'.tmod (vs.length : Int) = sp := by rw [Int.tmod_eq_emod_of_nonneg hat.1]; exact hsp
  have hv0' : ¬ (vs.length : Int) = 0 := by omega
  have VL := hid hvl
  go_wp2_with fail
  go_loopw [19, 20] (fun cl x wr => ∃ (i m : Nat) (co : List EM) (rv : Value), i ≤ vs.length ∧ x = .int .i64 i ∧ m ≤ n ∧ CO wr w.heap.size n sp i true K f vs co cl ∧ Cuts wr w.heap.size f (vs.drop i) m n ∧ wr.ownsRow w.heap.size 24 1 (.slice A vs.length cp) vs.length vs ∧ By.Own wr w.heap.size (.slice fa 600 fc) 600 (mfm true K 0 f) ∧ GM w w.heap.size ([] ++ (b, some ⟨true, K, m, f, b0, b1, b2⟩) :: co) ([] ++ ⟨true, w.heap.size, rv, evs true [] (m / bk true)⟩ :: []) wr) (fun _ x _ => vs.length - (intOf x).toNat)
  case atStart => exact ⟨0, 0, [], _, by omega, rfl, by omega, .inl ⟨by omega, rfl, rfl⟩, C6.out, R6.out, F6.out, G6.out⟩
  case round =>
    clear G6 R6 C6 F6
    obtain ⟨i, m, co, rv, hi, rfl, hmn, hco, hcut, hrow, hfo, hG⟩ := hrel
    have CC := hid hco
    have C := hid hcut
    have R := hid hrow
    have F := hid hfo
    have G := hid hG
    clear hco hcut hrow hG hfo
    by_cases h1 : i < vs.length
    · obtain ⟨x, hx⟩ : ∃ x, vs[i]? = some x := ⟨_, List.getElem?_eq_getElem h1⟩
      obtain ⟨ga, gc, e, hcell⟩ := Sg.rowL_cell R.out hx
      simp only [Value.slice.injEq, true_and] at e
      obtain ⟨rfl, rfl⟩ := e
      rw [Nat.zero_add] at hcell
      have hd : vs.drop i = x :: vs.drop (i + 1) := by rw [List.drop_eq_getElem_cons h1]; congr 1; rw [List.getElem?_eq_getElem h1] at hx; exact Option.some.inj hx
      have D := hid hd
      clear hx hd
      by_cases h2 : i = sp
      · subst h2
        obtain ⟨-, rfl, rfl⟩ : i ≤ i ∧ co = [] ∧ u19 = .pointer none := by
          rcases CC.out with h | ⟨h, _⟩
          · exact h
          · omega
        clear CC
        go_wp2_with fail
        refine (GM.sum0 (s1 := []) (s2 := []) G.out (by show m ≤ 4900000; omega)).mono ?_
        rintro e x1 ⟨v1, rfl, -, hb⟩
        have G1 := hid (G.out.below hb)
        have C1 := hid (cuts_ko C.out (Ko.below hb))
        have R1 := hid (row_ko (Ko.below hb) R.out)
        have F1 := hid (own_below F.out hb)
        clear hb G C R F hcell
        go_wp2_with fail
        refine (GM.clone (s1 := []) (s2 := []) G1.out).mono ?_
        rintro e x2 ⟨bc, c0, c1, c2, rfl, hG, hb, -⟩
        have G2 := hid (show GM w w.heap.size ([] ++ (b, some ⟨true, K, m, f, b0, b1, b2⟩) :: [(bc, some ⟨true, K, m, f, c0, c1, c2⟩)]) ([] ++ ⟨true, w.heap.size, rv, evs true [] (m / bk true)⟩ :: []) x2 from hG)
        have C2 := hid (cuts_ko C1.out (Ko.below hb))
        have R2 := hid (row_ko (Ko.below hb) R1.out)
        have F2 := hid (own_below F1.out hb)
        obtain ⟨ga2, gc2, e, hcell2⟩ := Sg.rowL_cell R2.out (show vs[i]? = some x from by rw [← List.head?_drop, D.out]; rfl)
        simp only [Value.slice.injEq, true_and, Option.some.injEq, Addr.mk.injEq, and_true] at e
        obtain ⟨rfl, rfl⟩ := e
        rw [Nat.zero_add] at hcell2
        clear hG hb G1 C1 R1 F1
        go_wp2_with fail
        have C3 := hid (show Cuts x2 w.heap.size f (x :: vs.drop (i + 1)) m n from by rw [← D.out]; exact C2.out)
        refine (GM.piece (s1 := []) (s2 := [(bc, some ⟨true, K, m, f, c0, c1, c2⟩)]) (l1 := []) (l2 := []) G2.out C3.out hn).mono ?_
        rintro e x3 ⟨rfl, q, rv', hq, hG, hc, hko⟩
        have G3 := hid hG
        have C4 := hid hc
        have R3 := hid (row_ko hko R2.out)
        have C5 := hid (cuts_ko C2.out hko)
        have F3 := hid (hko.own F2.out)
        clear hG hc hko G2 C2 C3 R2 F2 hcell2
        go_wp2
        exact ⟨⟨i + 1, m + q, [(bc, some ⟨true, K, m, f, c0, c1, c2⟩)], rv', by omega, by go_num, hq, .inr ⟨by omega, bc, c0, c1, c2, m, rfl, rfl, C5.out⟩, C4.out, R3.out, F3.out, G3.out⟩, by simp [intOf]; omega⟩
      · have h2' : ¬ (i : Int) = (sp : Int) := by omega
        go_wp2_with fail
        have C3 := hid (show Cuts wr w.heap.size f (x :: vs.drop (i + 1)) m n from by rw [← D.out]; exact C.out)
        refine (GM.piece (s1 := []) (s2 := co) (l1 := []) (l2 := []) G.out C3.out hn).mono ?_
        rintro e x3 ⟨rfl, q, rv', hq, hG, hc, hko⟩
        have G3 := hid hG
        have C4 := hid hc
        have R3 := hid (row_ko hko R.out)
        have CC3 := hid (CC.out.ko hko)
        have F3 := hid (hko.own F.out)
        clear hG hc hko G C C3 R CC F hcell
        go_wp2
        refine ⟨⟨i + 1, m + q, co, rv', by omega, by go_num, hq, ?_, C4.out, R3.out, F3.out, G3.out⟩, by simp [intOf]; omega⟩
        rcases CC3.out with ⟨h, h'⟩ | ⟨h, h'⟩
        · exact .inl ⟨by omega, h'⟩
        · exact .inr ⟨by omega, h'⟩
    · have ei : i = vs.length := by omega
      subst ei
      obtain ⟨-, bc, c0, c1, c2, mc, rfl, rfl, hcs⟩ : sp < vs.length ∧ ∃ bc c0 c1 c2 mc, co = [(bc, some ⟨true, K, mc, f, c0, c1, c2⟩)] ∧ u19 = .pointer (some ⟨bc, 0, none⟩) ∧ Cuts wr w.heap.size f (vs.drop sp) mc n := by
        rcases CC.out with ⟨h, _⟩ | h
        · omega
        · exact h
      obtain rfl : m = n := by have := C.out; rwa [List.drop_length] at this
      have CS := hid hcs
      clear hcs CC C
      go_wp2_with fail
      go_loopw [23] (fun x wr => ∃ i mc : Nat, i ≤ vs.length ∧ x = .int .i64 i ∧ mc ≤ m ∧ Cuts wr w.heap.size f (vs.drop i) mc m ∧ wr.ownsRow w.heap.size 24 1 (.slice A vs.length cp) vs.length vs ∧ By.Own wr w.heap.size (.slice fa 600 fc) 600 (mfm true K 0 f) ∧ GM w w.heap.size ([(b, some ⟨true, K, m, f, b0, b1, b2⟩)] ++ (bc, some ⟨true, K, mc, f, c0, c1, c2⟩) :: []) ([] ++ ⟨true, w.heap.size, rv, evs true [] (m / bk true)⟩ :: []) wr) (fun x _ => vs.length - (intOf x).toNat)
      case atStart => exact ⟨sp, mc, by omega, rfl, CS.out.le, CS.out, R.out, F.out, G.out⟩
      case round =>
        clear G R CS F
        obtain ⟨i, mc, hi, rfl, hmc, hcut, hrow, hfo, hG⟩ := hrel
        have C := hid hcut
        have R := hid hrow
        have F := hid hfo
        have G := hid hG
        clear hcut hrow hG hfo
        by_cases h1 : i < vs.length
        · obtain ⟨x, hx⟩ : ∃ x, vs[i]? = some x := ⟨_, List.getElem?_eq_getElem h1⟩
          obtain ⟨ga, gc, e, hcell⟩ := Sg.rowL_cell R.out hx
          simp only [Value.slice.injEq, true_and] at e
          obtain ⟨rfl, rfl⟩ := e
          rw [Nat.zero_add] at hcell
          have hd : vs.drop i = x :: vs.drop (i + 1) := by rw [List.drop_eq_getElem_cons h1]; congr 1; rw [List.getElem?_eq_getElem h1] at hx; exact Option.some.inj hx
          have C3 := hid (show Cuts wr w.heap.size f (x :: vs.drop (i + 1)) mc m from by rw [← hd]; exact C.out)
          clear hx hd
          go_wp2_with fail
          refine (GM.piece0 (s1 := [(b, some ⟨true, K, m, f, b0, b1, b2⟩)]) (s2 := []) G.out C3.out hn).mono ?_
          rintro e x3 ⟨rfl, q, hq, hG, hc, hko⟩
          have G3 := hid hG
          have C4 := hid hc
          have R3 := hid (row_ko hko R.out)
          have F3 := hid (hko.own F.out)
          clear hG hc hko G C C3 R F hcell
          go_wp2
          exact ⟨⟨i + 1, mc + q, by omega, by go_num, hq, C4.out, R3.out, F3.out, G3.out⟩, by simp [intOf]; omega⟩
        · have ei : i = vs.length := by omega
          subst ei
          obtain rfl : mc = m := by have := C.out; rwa [List.drop_length] at this
          clear C R
          obtain ⟨N, eN⟩ : ∃ N, N = mc := ⟨_, rfl⟩
          rw [← eN] at hn HR G
          rw [← eN]
          clear eN
          have tN := evsT true Sg.pos_nil' (N / bk true) (by show (0 : Int) + ((N / 128 : Nat) : Int) ≤ 1000000000; omega)
          have tN2 : tot (evs true [] (N / bk true)) ≤ 800000 := by rw [tN]; show (0 : Int) + ((N / 128 : Nat) : Int) ≤ 800000; omega
          go_wp2_with fail
          refine (GM.sum (s1 := []) (s2 := [(bc, some ⟨true, K, N, f, c0, c1, c2⟩)]) (l1 := []) (l2 := []) G.out (by show N ≤ 4900000; omega) tN2).mono ?_
          rintro e z1 ⟨xv, rvx, rfl, hv, hG, hko⟩
          have X_1 := hid (show By.Own z1 wr.heap.size xv 64 (hm true K N f) from hv)
          clear hv
          have G_1 := hid (show GM w w.heap.size ([] ++ (b, some ⟨true, K, N, f, b0, b1, b2⟩) :: [(bc, some ⟨true, K, N, f, c0, c1, c2⟩)]) ([] ++ ⟨true, w.heap.size, rvx, sev true (evs true [] (N / bk true)) N⟩ :: []) z1 from hG)
          have F_1 := hid (hko.own F.out)
          clear hG hko G F
          obtain ⟨xa, xc, rfl⟩ := own_sl X_1.out
          go_wp2_with fail
          refine (GM.sum0 (s1 := [(b, some ⟨true, K, N, f, b0, b1, b2⟩)]) (s2 := []) G_1.out (by show N ≤ 4900000; omega)).mono ?_
          rintro e z2 ⟨yv, rfl, hv, hb⟩
          have Y_2 := hid (show By.Own z2 z1.heap.size yv 64 (hm true K N f) from hv)
          clear hv
          have G_2 := hid (G_1.out.below hb)
          have F_2 := hid (own_below F_1.out hb)
          have X_2 := hid (own_below X_1.out hb)
          clear hb G_1 F_1 X_1
          have HC := hid (tagM true nk N (.slice ka nk kcap) (.slice a N cap) kf f none [] (fun _ => False) z2 G_2.out.kt id id trivial Sg.pos_nil' (fun w' hk' => (HRK.out.below G_2.out.bel).below (Sg.below_kp hk')) (fun w' hk' => (HR.out.below G_2.out.bel).below (Sg.below_kp hk')) (by omega) (by omega) (by decide))
          rw [hK] at HC
          go_wp2_with fail
          refine HC.out.mono ?_
          rintro e z3 ⟨zv, rfl, hv, -, hkz⟩
          have hb := Sg.below_kp hkz
          have Z_3 := hid (show By.Own z3 z2.heap.size zv 64 (hm true K N f) from hv)
          clear hv hkz HC
          have G_3 := hid (G_2.out.below hb)
          have F_3 := hid (own_below F_2.out hb)
          have X_3 := hid (own_below X_2.out hb)
          have Y_3 := hid (own_below Y_2.out hb)
          clear hb G_2 F_2 X_2 Y_2
          have hdv : ((128 : Int) / 8) = 16 := by decide
          go_wp2_with fail
          refine (sizeM b _ _ (GM.mid (s1 := []) (s2 := [(bc, some ⟨true, K, N, f, c0, c1, c2⟩)]) G_3.out)).mono ?_
          rintro e q1 ⟨rfl, hw⟩
          subst q1
          go_wp2_with fail
          refine (same_true _ _ 64 _ _ _ X_3.out.reads Y_3.out.reads (by decide) (fun _ _ => rfl)).mono ?_
          rintro e z4 ⟨rfl, d4, hw⟩
          have hb : Below z3.heap.size z3 z4 := by rw [hw]; exact below_drewN z3 d4
          clear hw
          have G_4 := hid (G_3.out.below hb)
          have F_4 := hid (own_below F_3.out hb)
          have X_4 := hid (own_below X_3.out hb)
          have Y_4 := hid (own_below Y_3.out hb)
          have Z_4 := hid (own_below Z_3.out hb)
          clear hb G_3 F_3 X_3 Y_3 Z_3
          go_wp2_with fail
          refine (same_true _ _ 64 _ _ _ X_4.out.reads Z_4.out.reads (by decide) (fun _ _ => rfl)).mono ?_
          rintro e z5 ⟨rfl, d5, hw⟩
          have hb : Below z4.heap.size z4 z5 := by rw [hw]; exact below_drewN z4 d5
          clear hw
          have G_5 := hid (G_4.out.below hb)
          have F_5 := hid (own_below F_4.out hb)
          have X_5 := hid (own_below X_4.out hb)
          have Y_5 := hid (own_below Y_4.out hb)
          have Z_5 := hid (own_below Z_4.out hb)
          clear hb G_4 F_4 X_4 Y_4 Z_4
          clear Y_5
          clear Z_5
          go_wp2_with fail
          refine (formM b _ _ (GM.mid (s1 := []) (s2 := [(bc, some ⟨true, K, N, f, c0, c1, c2⟩)]) G_5.out)).mono ?_
          rintro e z6 ⟨pv6, rfl, hv, hb⟩
          have P_6 := hid (show By.Own z6 z5.heap.size pv6 600 (mfm true K N f) from hv)
          clear hv
          have G_6 := hid (G_5.out.below hb)
          have F_6 := hid (own_below F_5.out hb)
          have X_6 := hid (own_below X_5.out hb)
          clear hb G_5 F_5 X_5
          go_wp2_with fail
          refine (formM bc _ _ (GM.mid (s1 := [(b, some ⟨true, K, N, f, b0, b1, b2⟩)]) (s2 := []) G_6.out)).mono ?_
          rintro e z7 ⟨qv7, rfl, hv, hb⟩
          have Q_7 := hid (show By.Own z7 z6.heap.size qv7 600 (mfm true K N f) from hv)
          clear hv
          have G_7 := hid (G_6.out.below hb)
          have F_7 := hid (own_below F_6.out hb)
          have X_7 := hid (own_below X_6.out hb)
          have P_7 := hid (own_below P_6.out hb)
          clear hb G_6 F_6 X_6 P_6
          go_wp2_with fail
          refine (same_true _ _ 600 _ _ _ P_7.out.reads Q_7.out.reads (by decide) (fun _ _ => rfl)).mono ?_
          rintro e z8 ⟨rfl, d8, hw⟩
          have hb : Below z7.heap.size z7 z8 := by rw [hw]; exact below_drewN z7 d8
          clear hw
          have G_8 := hid (G_7.out.below hb)
          have F_8 := hid (own_below F_7.out hb)
          have X_8 := hid (own_below X_7.out hb)
          have P_8 := hid (own_below P_7.out hb)
          have Q_8 := hid (own_below Q_7.out hb)
          clear hb G_7 F_7 X_7 P_7 Q_7
          clear P_8
          clear Q_8
          have TL := hid (show sev true (evs true [] (N / bk true)) N = [⟨2, 128, (((N + 16) / 128 + 2 : Nat) : Int)⟩] from ev_all512 N hn)
          have hE : (((N + 16) / 128 + 2 : Nat) : Int) = ((N : Int) + 16) / 128 + 2 := by omega
          obtain ⟨E, eE⟩ : ∃ E : Int, (((N + 16) / 128 + 2 : Nat) : Int) = E := ⟨_, rfl⟩
          rw [eE] at TL hE
          have hEb : 0 ≤ E ∧ E ≤ 1000000 := by omega
          rw [TL.out] at G_8
          have hE2 : ((N : Int) + 16) / 128 + 2 = E := hE.symm
          clear hE eE TL
          go_wp2_with fail
          refine (runs22 _ _ _ _ (GM.midL (l1 := []) (l2 := []) G_8.out).1 (by show 1 * 24 ≤ 140737488355328; decide)).mono ?_
          rintro e z9 ⟨r1, rfl, ho, hb⟩
          have O1 := hid ho
          clear ho
          have G_9 := hid (G_8.out.below hb)
          have F_9 := hid (own_below F_8.out hb)
          have X_9 := hid (own_below X_8.out hb)
          clear hb G_8 F_8 X_8
          go_wp2_with fail
          refine (events512 E hEb.1 (by omega) _).mono ?_
          rintro e z10 ⟨r2, rfl, ho, hb⟩
          have O2 := hid ho
          have O3 := hid (O1.out.below hb)
          clear ho O1
          have G_10 := hid (G_9.out.below hb)
          have F_10 := hid (own_below F_9.out hb)
          have X_10 := hid (own_below X_9.out hb)
          clear hb G_9 F_9 X_9
          go_wp2_with fail
          refine (same14 _ _ [⟨2, 128, E⟩] [⟨2, 128, E⟩] _ O3.out.reads O2.out.reads (by show 1 < 1000000000000000000; decide) (by show 1 < 1000000000000000000; decide)).mono ?_
          rw [decide_eq_true (show ([⟨2, 128, E⟩] : List Rn) = [⟨2, 128, E⟩] from rfl)]
          rintro e z11 ⟨rfl, d11, hw⟩
          have hb : Below z10.heap.size z10 z11 := by rw [hw]; exact below_drewN z10 d11
          clear hw O2 O3
          have G_11 := hid (G_10.out.below hb)
          have F_11 := hid (own_below F_10.out hb)
          have X_11 := hid (own_below X_10.out hb)
          clear hb G_10 F_10 X_10
          go_wp2_with fail
          refine (formM bc _ _ (GM.mid (s1 := [(b, some ⟨true, K, N, f, b0, b1, b2⟩)]) (s2 := []) G_11.out)).mono ?_
          rintro e z12 ⟨hv12, rfl, hv, hb⟩
          have H_12 := hid (show By.Own z12 z11.heap.size hv12 600 (mfm true K N f) from hv)
          clear hv
          have G_12 := hid (G_11.out.below hb)
          have F_12 := hid (own_below F_11.out hb)
          have X_12 := hid (own_below X_11.out hb)
          clear hb G_11 F_11 X_11
          go_wp2_with fail
          refine (GM.reset (s1 := []) (s2 := [(bc, some ⟨true, K, N, f, c0, c1, c2⟩)]) G_12.out).mono ?_
          rintro e z13 ⟨rfl, c9, hG, hko⟩
          have G_13 := hid (show GM w w.heap.size ([] ++ (b, some ⟨true, K, 0, f, c9, b1, b2⟩) :: [(bc, some ⟨true, K, N, f, c0, c1, c2⟩)]) ([] ++ ⟨true, w.heap.size, rvx, [⟨2, 128, E⟩]⟩ :: []) z13 from GM.congr (s1 := []) (s2 := [(bc, some ⟨true, K, N, f, c0, c1, c2⟩)]) hG HR.out.1 (fun i hi => by omega))
          have F_13 := hid (hko.own F_12.out)
          have X_13 := hid (hko.own X_12.out)
          have H_13 := hid (hko.own H_12.out)
          clear hG hko G_12 F_12 X_12 H_12
          go_wp2_with fail
          refine (formM b _ _ (GM.mid (s1 := []) (s2 := [(bc, some ⟨true, K, N, f, c0, c1, c2⟩)]) G_13.out)).mono ?_
          rintro e z14 ⟨pv14, rfl, hv, hb⟩
          have P_14 := hid (show By.Own z14 z13.heap.size pv14 600 (mfm true K 0 f) from hv)
          clear hv
          have G_14 := hid (G_13.out.below hb)
          have F_14 := hid (own_below F_13.out hb)
          have X_14 := hid (own_below X_13.out hb)
          have H_14 := hid (own_below H_13.out hb)
          clear hb G_13 F_13 X_13 H_13
          go_wp2_with fail
          refine (same_true _ _ 600 _ _ _ P_14.out.reads F_14.out.reads (by decide) (fun _ _ => rfl)).mono ?_
          rintro e z15 ⟨rfl, d15, hw⟩
          have hb : Below z14.heap.size z14 z15 := by rw [hw]; exact below_drewN z14 d15
          clear hw
          have G_15 := hid (G_14.out.below hb)
          have F_15 := hid (own_below F_14.out hb)
          have X_15 := hid (own_below X_14.out hb)
          have H_15 := hid (own_below H_14.out hb)
          have P_15 := hid (own_below P_14.out hb)
          clear hb G_14 F_14 X_14 H_14 P_14
          clear P_15
          clear F_15
          have HC := hid (GM.write0 (s1 := []) (s2 := [(bc, some ⟨true, K, N, f, c0, c1, c2⟩)]) G_15.out N (.slice a N cap) f (fun w' hk' => HR.out.below (G_15.out.bel.trans (hk'.below G_15.out.hB (fun k hk e => by have e' : k = c9 := e; have := (G_15.out.st (b, some ⟨true, K, 0, f, c9, b1, b2⟩) (by simp)).2 c9 (.inr ⟨_, rfl, .inl rfl⟩); omega)))) (by show 0 + N ≤ 5500000; omega))
          go_wp2_with fail
          refine HC.out.mono ?_
          rintro e z16 ⟨rfl, hG0, hko⟩
          have hG : GM w w.heap.size ([] ++ (b, some ⟨true, K, N, f, c9, b1, b2⟩) :: [(bc, some ⟨true, K, N, f, c0, c1, c2⟩)]) ([] ++ ⟨true, w.heap.size, rvx, [⟨2, 128, E⟩]⟩ :: []) z16 := by
            have h : GM w w.heap.size ([] ++ (b, some ⟨true, K, 0 + N, cat 0 f f, c9, b1, b2⟩) :: [(bc, some ⟨true, K, N, f, c0, c1, c2⟩)]) ([] ++ ⟨true, w.heap.size, rvx, [⟨2, 128, E⟩]⟩ :: []) z16 := hG0
            rw [Nat.zero_add, show cat 0 f f = f from Sg.cat0 _ _] at h
            exact h
          clear hG0 HC
          have G_16 := hid (hG)
          have X_16 := hid (hko.own X_15.out)
          have H_16 := hid (hko.own H_15.out)
          clear hG hko G_15 X_15 H_15
          go_wp2_with fail
          refine (formM b _ _ (GM.mid (s1 := []) (s2 := [(bc, some ⟨true, K, N, f, c0, c1, c2⟩)]) G_16.out)).mono ?_
          rintro e z17 ⟨pv17, rfl, hv, hb⟩
          have P_17 := hid (show By.Own z17 z16.heap.size pv17 600 (mfm true K N f) from hv)
          clear hv
          have G_17 := hid (G_16.out.below hb)
          have X_17 := hid (own_below X_16.out hb)
          have H_17 := hid (own_below H_16.out hb)
          clear hb G_16 X_16 H_16
          go_wp2_with fail
          refine (same_true _ _ 600 _ _ _ P_17.out.reads H_17.out.reads (by decide) (fun _ _ => rfl)).mono ?_
          rintro e z18 ⟨rfl, d18, hw⟩
          have hb : Below z17.heap.size z17 z18 := by rw [hw]; exact below_drewN z17 d18
          clear hw
          have G_18 := hid (G_17.out.below hb)
          have X_18 := hid (own_below X_17.out hb)
          have H_18 := hid (own_below H_17.out hb)
          have P_18 := hid (own_below P_17.out hb)
          clear hb G_17 X_17 H_17 P_17
          clear P_18
          go_wp2_with fail
          refine (GM.sum0 (s1 := []) (s2 := [(bc, some ⟨true, K, N, f, c0, c1, c2⟩)]) G_18.out (by show N ≤ 4900000; omega)).mono ?_
          rintro e z19 ⟨av, rfl, hv, hb⟩
          have A_19 := hid (show By.Own z19 z18.heap.size av 64 (hm true K N f) from hv)
          clear hv
          have G_19 := hid (G_18.out.below hb)
          have X_19 := hid (own_below X_18.out hb)
          have H_19 := hid (own_below H_18.out hb)
          clear hb G_18 X_18 H_18
          go_wp2_with fail
          refine (same_true _ _ 64 _ _ _ A_19.out.reads X_19.out.reads (by decide) (fun _ _ => rfl)).mono ?_
          rintro e z20 ⟨rfl, d20, hw⟩
          have hb : Below z19.heap.size z19 z20 := by rw [hw]; exact below_drewN z19 d20
          clear hw
          have G_20 := hid (G_19.out.below hb)
          have X_20 := hid (own_below X_19.out hb)
          have H_20 := hid (own_below H_19.out hb)
          have A_20 := hid (own_below A_19.out hb)
          clear hb G_19 X_19 H_19 A_19
          clear A_20
          clear X_20
          go_wp2_with fail
          refine (formM bc _ _ (GM.mid (s1 := [(b, some ⟨true, K, N, f, c9, b1, b2⟩)]) (s2 := []) G_20.out)).mono ?_
          rintro e z21 ⟨pv21, rfl, hv, hb⟩
          have P_21 := hid (show By.Own z21 z20.heap.size pv21 600 (mfm true K N f) from hv)
          clear hv
          have G_21 := hid (G_20.out.below hb)
          have H_21 := hid (own_below H_20.out hb)
          clear hb G_20 H_20
          go_wp2_with fail
          refine (same_true _ _ 600 _ _ _ P_21.out.reads H_21.out.reads (by decide) (fun _ _ => rfl)).mono ?_
          rintro e z22 ⟨rfl, d22, hw⟩
          have hb : Below z21.heap.size z21 z22 := by rw [hw]; exact below_drewN z21 d22
          clear hw
          have G_22 := hid (G_21.out.below hb)
          have H_22 := hid (own_below H_21.out hb)
          have P_22 := hid (own_below P_21.out hb)
          clear hb G_21 H_21 P_21
          go_wp2
          go_ret
          exact ⟨rfl, G_22.out.bel⟩
end Go.Proofs.YtpgkalgnlkfmaaaDoor.Dg
