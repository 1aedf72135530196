/- Plain of the document. -/
import Derived.Test.YtnadpglfliiplaaUrs
namespace Go.Proofs.Ytnadpglfliiplaa.Ou
open Go.ChangeShapes Go.WideShapes Go.ChangeAt Go.RowKit
open Go.Proofs.Ytnadpglfliiplaa.By
open Go.Proofs.Ytnadpglfliiplaa.Tb (Blk Blk.newAt)
/-- The fields that have been laid: their numbers. -/
def sq (q : Nu) (S : List Nat) : Nu := ⟨q.k, if S.contains 1 then q.h else 0, if S.contains 2 then q.a else 0, if S.contains 3 then q.c else 0, if S.contains 4 then q.o else 0⟩
def sN (S : List Nat) (n : Nat) : Nat := if S.contains 5 then n else 0
def sM (S : List Nat) (n : Nat) : Nat := if S.contains 6 then n else 0
structure RP (w W0 : World) (q : Nu) (dA mA : Value) (n : Nat) (f : Nat → Int) (nm : Nat) (g : Nat → Int) (v : Value) (l S : List Nat) (d m : Value) (W : World) : Prop where
  ka : Blk W w.heap.size (oL q dA mA) 26
  kr : Blk W (w.heap.size + 1) zA.toList 26
  kp : Blk W W0.heap.size (oL (sq q S) d m) 26
  o1 : By.Own W (W0.heap.size + 1) d (sN S n) f
  o2 : By.Own W (W0.heap.size + 1) m (sM S nm) g
  ap : d.ownBlock = none ∨ d.ownBlock ≠ m.ownBlock
  nb : NB W (W0.heap.size + 1) v l
  bw : Below w.heap.size w W
  z0 : W0.heap.size = w.heap.size + 1 + 1
theorem sq_cells (q : Nu) (S : List Nat) (d m : Value) (x : Nat) (u : Value) (hx : (x = 1 ∧ u = .int .i64 q.h) ∨ (x = 2 ∧ u = .int .u8 q.a) ∨ (x = 3 ∧ u = .int .i64 q.c) ∨ (x = 4 ∧ u = .int .i64 q.o)) : (oL (sq q S) d m).set x u = oL (sq q (S ++ [x])) d m := by
  rcases hx with ⟨rfl, rfl⟩ | ⟨rfl, rfl⟩ | ⟨rfl, rfl⟩ | ⟨rfl, rfl⟩ <;> simp [oL, sq]
theorem ct (S : List Nat) (x y : Nat) (h : ¬ y = x) : (S ++ [x]).contains y = S.contains y := by simp [h]
theorem sNM (S : List Nat) (x n : Nat) (hx : x ≤ 4) : sN (S ++ [x]) n = sN S n ∧ sM (S ++ [x]) n = sM S n := by
  unfold sN sM
  rw [ct S x 5 (by omega), ct S x 6 (by omega)]
  exact ⟨rfl, rfl⟩
theorem RP.num {w W0 W V : World} {q : Nu} {dA mA d m v u : Value} {n nm x : Nat} {f g : Nat → Int} {l S : List Nat} (h : RP w W0 q dA mA n f nm g v l S d m W) (hx : (x = 1 ∧ u = .int .i64 q.h) ∨ (x = 2 ∧ u = .int .u8 q.a) ∨ (x = 3 ∧ u = .int .i64 q.c) ∨ (x = 4 ∧ u = .int .i64 q.o)) (hV : W.setCell ⟨W0.heap.size, x, none⟩ u = V) : RP w W0 q dA mA n f nm g v l (S ++ [x]) d m V := by
  have kk := Kp.setCell (w := W) W0.heap.size x u
  have z := h.z0
  have r1 := own_row h.o1
  have r2 := own_row h.o2
  have e := fun n => sNM S x n (by omega)
  subst hV
  exact ⟨h.ka.kept kk (by omega), h.kr.kept kk (by omega), by rw [← sq_cells q S d m x u hx]; exact h.kp.set x u, by rw [(e n).1]; exact own_keptB h.o1 kk (fun j e h => by have := r1 j e; omega), by rw [(e nm).2]; exact own_keptB h.o2 kk (fun j e h => by have := r2 j e; omega), h.ap, h.nb.kept kk (fun j e => by omega), h.bw.trans (kk.below h.bw.size (fun j hj => by omega)), z⟩
theorem RP.data {w W0 W V X : World} {q : Nu} {dA mA d d' m v : Value} {n nm : Nat} {f g : Nat → Int} {l S : List Nat} (h : RP w W0 q dA mA n f nm g v l S d m W) (ho : By.Own V W.heap.size d' n f) (hb : Below W.heap.size W V) (hV : V.setCell ⟨W0.heap.size, 5, none⟩ d' = X) : RP w W0 q dA mA n f nm g v l (S ++ [5]) d' m X := by
  have kk := Kp.setCell (w := V) W0.heap.size 5 d'
  have z := h.z0
  have lp := h.kp.lt
  have r1 := own_row ho
  have r2 := own_row h.o2
  have bv := below_next h.bw hb
  have e1 : sq q (S ++ [5]) = sq q S := by simp [sq]
  have e2 : sN (S ++ [5]) n = n := by simp [sN]
  have e3 : sM (S ++ [5]) nm = sM S nm := by simp [sM]
  subst hV
  exact ⟨(h.ka.below hb).kept kk (by omega), (h.kr.below hb).kept kk (by omega), by rw [e1]; exact (h.kp.below hb).set 5 d', by rw [e2]; exact own_base (own_keptB ho kk (fun j e h => by have := r1 j e; omega)) (by omega), by rw [e3]; exact own_keptB (own_below h.o2 hb) kk (fun j e h => by have := r2 j e; omega), apart_symm (own_apart h.o2 (Nat.le_refl _) ho), (h.nb.below hb).kept kk (fun j e => by omega), bv.trans (kk.below bv.size (fun j hj => by omega)), z⟩
theorem RP.more {w W0 W V X : World} {q : Nu} {dA mA d m m' v : Value} {n nm : Nat} {f g : Nat → Int} {l S : List Nat} (h : RP w W0 q dA mA n f nm g v l S d m W) (ho : By.Own V W.heap.size m' nm g) (hb : Below W.heap.size W V) (hV : V.setCell ⟨W0.heap.size, 6, none⟩ m' = X) : RP w W0 q dA mA n f nm g v l (S ++ [6]) d m' X := by
  have kk := Kp.setCell (w := V) W0.heap.size 6 m'
  have z := h.z0
  have lp := h.kp.lt
  have r1 := own_row ho
  have r2 := own_row h.o1
  have bv := below_next h.bw hb
  have e1 : sq q (S ++ [6]) = sq q S := by simp [sq]
  have e2 : sM (S ++ [6]) nm = nm := by simp [sM]
  have e3 : sN (S ++ [6]) n = sN S n := by simp [sN]
  subst hV
  exact ⟨(h.ka.below hb).kept kk (by omega), (h.kr.below hb).kept kk (by omega), by rw [e1]; exact (h.kp.below hb).set 6 m', by rw [e3]; exact own_keptB (own_below h.o1 hb) kk (fun j e h => by have := r2 j e; omega), by rw [e2]; exact own_base (own_keptB ho kk (fun j e h => by have := r1 j e; omega)) (by omega), own_apart h.o1 (Nat.le_refl _) ho, (h.nb.below hb).kept kk (fun j e => by omega), bv.trans (kk.below bv.size (fun j hj => by omega)), z⟩
theorem FL_le (k : Int) (j x : Nat) (h : (FL k)[j]? = some x) : x = 1 ∨ x = 2 ∨ x = 3 ∨ x = 4 ∨ x = 5 ∨ x = 6 := by
  have : x ∈ FL k := List.mem_of_getElem? h
  unfold FL at this
  repeat' (split at this)
  all_goals (simp at this <;> omega)
theorem FL_len (k : Int) : (FL k).length ≤ 5 := by
  unfold FL
  repeat' (first | split | decide)
theorem FL_end (q : Nu) (n nm : Nat) (hk : 0 ≤ q.k ∧ q.k < 256) : sq q (FL q.k) = pq q ∧ sN (FL q.k) n = pN q n ∧ sM (FL q.k) nm = pM q nm := by
  have e : ∀ k : Nat, k < 256 → (FL k).contains 1 = uH k ∧ (FL k).contains 2 = uA k ∧ (FL k).contains 3 = uC k ∧ (FL k).contains 4 = uO k ∧ (FL k).contains 5 = uD k ∧ (FL k).contains 6 = uM k := by decide +kernel
  obtain ⟨e1, e2, e3, e4, e5, e6⟩ := e q.k.toNat (by omega)
  rw [show ((q.k.toNat : Nat) : Int) = q.k by omega] at e1 e2 e3 e4 e5 e6
  unfold sq sN sM pq pN pM
  rw [e1, e2, e3, e4, e5, e6]
  exact ⟨rfl, rfl, rfl⟩
theorem take_snoc {l : List Nat} {j x : Nat} (h : l[j]? = some x) : l.take (j + 1) = l.take j ++ [x] := by
  rw [List.take_add_one, h]; rfl
set_option maxRecDepth 8000 in
set_option maxHeartbeats 1600000 in
theorem rplain_ok (q : Nu) (d m : Value) (n nm : Nat) (f g : Nat → Int) (w : World) (hq : 0 ≤ q.k ∧ q.k < 256) (h1 : By.RB w d n f) (h2 : By.RB w m nm g) (hn : n ≤ 140737488355328) (hm : nm ≤ 140737488355328) :
    Calls Try.prog 14 #[ov q d m] w fun e w' => ∃ d' m', e = .returned (ov (pq q) d' m') ∧ ToldP w w' q n f nm g d' m' := by
  obtain ⟨a1, c1, rfl⟩ := rb_sl h1
  obtain ⟨a2, c2, rfl⟩ := rb_sl h2
  obtain ⟨W0, hW0⟩ : ∃ W, (w.alloc (.cells #[Value.int IntKind.u8 q.k, Value.int IntKind.i64 q.h, Value.int IntKind.u8 q.a, Value.int IntKind.i64 q.c, Value.int IntKind.i64 q.o, Value.slice a1 n c1, Value.slice a2 nm c2] 26)).alloc (.cells zA 26) = W := ⟨_, rfl⟩
  have KA : Hid (Blk W0 w.heap.size (oL q (Value.slice a1 n c1) (Value.slice a2 nm c2)) 26) := by rw [← hW0]; exact (Blk.newAt w _ _ 26 w.heap.size rfl rfl).alloc _
  have KR : Hid (Blk W0 (w.heap.size + 1) zA.toList 26) := by rw [← hW0]; exact Blk.newAt (w.alloc _) _ _ 26 (w.heap.size + 1) (by simp) rfl
  have BW : Hid (Below w.heap.size w W0) := by rw [← hW0]; exact below_next (below_alloc _ _) (below_alloc _ _)
  have Z0 : Hid (W0.heap.size = w.heap.size + 1 + 1) := by show W0.heap.size = _; rw [← hW0]; simp
  have x0 := KA.out.cell 0 _ rfl
  have H1 := hid h1
  have H2 := hid h2
  clear h1 h2
  obtain ⟨W1, s1, kp, hb, hlt⟩ := var_op W0 ⟨q.k, 0, 0, 0, 0⟩ (d := .slice none 0 0) (m := .slice none 0 0) rfl rfl
  have x1 := (KA.out.below hb).cell 0 _ rfl
  have KP := hid kp
  replace BW := hid (below_next BW.out hb)
  replace KA := hid (KA.out.below hb)
  replace KR := hid (KR.out.below hb)
  have P0 := hid hlt
  clear hb kp hlt
  go_enter Try.func14, Try.ntmps14
  go_wp2_with fail
  clear hW0 s1 x0 x1
  refine (ruses_ok q.k W1).mono ?_
  rintro e W2 ⟨v, rfl, hnb, hb⟩
  have RP0 : RP w W0 q (.slice a1 n c1) (.slice a2 nm c2) n f nm g v (FL q.k) [] (.slice none 0 0) (.slice none 0 0) W2 := by
    refine ⟨KA.out.below hb, KR.out.below hb, KP.out.below hb, own_nil _ _ _ H1.out.1, own_nil _ _ _ H2.out.1, .inl rfl, ?_, below_next BW.out hb, Z0.out⟩
    obtain ⟨a, c, e, hc, hj⟩ := hnb
    exact ⟨a, c, e, hc, fun j x hx => by obtain ⟨b, e1, e2, e3⟩ := hj j x hx; exact ⟨b, e1, by have := P0.out; omega, e3⟩⟩
  have R0 := hid RP0
  obtain ⟨av, cv, rfl⟩ : ∃ a c, v = .slice a (FL q.k).length c := by obtain ⟨a, c, e, _⟩ := hnb; exact ⟨a, c, e⟩
  have FE := hid (FL_end q n nm hq)
  have FLL := FL_len q.k
  have FX : Hid (∀ j x, (FL q.k)[j]? = some x → x = 1 ∨ x = 2 ∨ x = 3 ∨ x = 4 ∨ x = 5 ∨ x = 6) := FL_le q.k
  obtain ⟨l, hl⟩ : ∃ l, FL q.k = l := ⟨_, rfl⟩
  rw [hl] at FE R0 FX FLL ⊢
  clear RP0 hnb hb KA KR KP BW P0 hl
  go_wp2
  go_loopw [5] (fun i wr => ∃ j : Nat, j ≤ l.length ∧ i = .int .i64 j ∧ ∃ d' m', RP w W0 q (.slice a1 n c1) (.slice a2 nm c2) n f nm g (.slice av l.length cv) l (l.take j) d' m' wr) (fun i _ => l.length - (intOf i).toNat)
  case atStart => exact ⟨0, Nat.zero_le _, rfl, _, _, R0.out⟩
  case round =>
    obtain ⟨j, hj, rfl, d', m', hr⟩ := hrel
    have HR := hid hr
    clear hr R0
    by_cases hlt : j < l.length
    · have g1 : (j : Int) < l.length := by omega
      obtain ⟨x, hx⟩ : ∃ x, l[j]? = some x := ⟨l[j], List.getElem?_eq_getElem hlt⟩
      have TS := hid (take_snoc hx)
      obtain ⟨b, hav, cx⟩ : ∃ b, av = some ⟨b, 0, none⟩ ∧ wr.cell? ⟨b, j, none⟩ = some (.string (nmS x)) := by
        obtain ⟨a, c, e, _, hjj⟩ := HR.out.nb
        simp only [Value.slice.injEq] at e
        obtain ⟨b, e1, _, e3⟩ := hjj j x hx
        exact ⟨b, e.1.trans e1, e3⟩
      subst hav
      have HX := FX.out j x hx
      clear hx
      rcases HX with rfl | rfl | rfl | rfl | rfl | rfl
      · have cy : wr.cell? ⟨b, j, none⟩ = some (.string ⟨#[72, 97, 110, 100, 108, 101]⟩) := cx
        clear cx
        have y1 := HR.out.ka.cell 1 _ rfl
        have z1 := HR.out.kp.cell 1 _ rfl
        have f1 := HR.out.kp.frozen 1
        obtain ⟨V, hV⟩ : ∃ V, wr.setCell ⟨W0.heap.size, 1, none⟩ (.int .i64 q.h) = V := ⟨_, rfl⟩
        have HN := hid (HR.out.num (x := 1) (by simp) hV)
        clear HR
        go_wp2
        go_roundw
        case rel => exact ⟨j + 1, by omega, by go_num, _, _, by rw [TS.out]; exact HN.out⟩
        case measure => simp [intOf]; omega
      · have cy : wr.cell? ⟨b, j, none⟩ = some (.string ⟨#[65, 108, 103]⟩) := cx
        clear cx
        have y1 := HR.out.ka.cell 2 _ rfl
        have z1 := HR.out.kp.cell 2 _ rfl
        have f1 := HR.out.kp.frozen 2
        obtain ⟨V, hV⟩ : ∃ V, wr.setCell ⟨W0.heap.size, 2, none⟩ (.int .u8 q.a) = V := ⟨_, rfl⟩
        have HN := hid (HR.out.num (x := 2) (by simp) hV)
        clear HR
        go_wp2
        go_roundw
        case rel => exact ⟨j + 1, by omega, by go_num, _, _, by rw [TS.out]; exact HN.out⟩
        case measure => simp [intOf]; omega
      · have cy : wr.cell? ⟨b, j, none⟩ = some (.string ⟨#[67, 111, 117, 110, 116]⟩) := cx
        clear cx
        have y1 := HR.out.ka.cell 3 _ rfl
        have z1 := HR.out.kp.cell 3 _ rfl
        have f1 := HR.out.kp.frozen 3
        obtain ⟨V, hV⟩ : ∃ V, wr.setCell ⟨W0.heap.size, 3, none⟩ (.int .i64 q.c) = V := ⟨_, rfl⟩
        have HN := hid (HR.out.num (x := 3) (by simp) hV)
        clear HR
        go_wp2
        go_roundw
        case rel => exact ⟨j + 1, by omega, by go_num, _, _, by rw [TS.out]; exact HN.out⟩
        case measure => simp [intOf]; omega
      · have cy : wr.cell? ⟨b, j, none⟩ = some (.string ⟨#[79, 117, 116]⟩) := cx
        clear cx
        have y1 := HR.out.ka.cell 4 _ rfl
        have z1 := HR.out.kp.cell 4 _ rfl
        have f1 := HR.out.kp.frozen 4
        obtain ⟨V, hV⟩ : ∃ V, wr.setCell ⟨W0.heap.size, 4, none⟩ (.int .i64 q.o) = V := ⟨_, rfl⟩
        have HN := hid (HR.out.num (x := 4) (by simp) hV)
        clear HR
        go_wp2
        go_roundw
        case rel => exact ⟨j + 1, by omega, by go_num, _, _, by rw [TS.out]; exact HN.out⟩
        case measure => simp [intOf]; omega
      · have cy : wr.cell? ⟨b, j, none⟩ = some (.string ⟨#[68, 97, 116, 97]⟩) := cx
        clear cx
        have y1 := HR.out.ka.cell 5 _ rfl
        go_wp2_with fail
        clear y1 cy
        refine (rcopied_ok _ n f wr (H1.out.below HR.out.bw) hn).mono ?_
        rintro e V ⟨u, rfl, ho, hb⟩
        obtain ⟨a3, c3, rfl⟩ := own_lit_slice ho
        have z1 := (HR.out.kp.below hb).cell 5 _ rfl
        have f1 := (HR.out.kp.below hb).frozen 5
        obtain ⟨X, hX⟩ : ∃ X, V.setCell ⟨W0.heap.size, 5, none⟩ (.slice a3 n c3) = X := ⟨_, rfl⟩
        have HN := hid (HR.out.data ho hb hX)
        clear HR ho hb
        go_wp2
        go_roundw
        case rel => exact ⟨j + 1, by omega, by go_num, _, _, by rw [TS.out]; exact HN.out⟩
        case measure => simp [intOf]; omega
      · have cy : wr.cell? ⟨b, j, none⟩ = some (.string ⟨#[77, 111, 114, 101]⟩) := cx
        clear cx
        have y1 := HR.out.ka.cell 6 _ rfl
        go_wp2_with fail
        clear y1 cy
        refine (rcopied_ok _ nm g wr (H2.out.below HR.out.bw) hm).mono ?_
        rintro e V ⟨u, rfl, ho, hb⟩
        obtain ⟨a3, c3, rfl⟩ := own_lit_slice ho
        have z1 := (HR.out.kp.below hb).cell 6 _ rfl
        have f1 := (HR.out.kp.below hb).frozen 6
        obtain ⟨X, hX⟩ : ∃ X, V.setCell ⟨W0.heap.size, 6, none⟩ (.slice a3 nm c3) = X := ⟨_, rfl⟩
        have HN := hid (HR.out.more ho hb hX)
        clear HR ho hb
        go_wp2
        go_roundw
        case rel => exact ⟨j + 1, by omega, by go_num, _, _, by rw [TS.out]; exact HN.out⟩
        case measure => simp [intOf]; omega
    · have g1 : ¬ (j : Int) < l.length := by omega
      obtain rfl : j = l.length := by omega
      rw [List.take_length] at HR
      have kp := HR.out.kp
      have o1 := HR.out.o1
      have o2 := HR.out.o2
      rw [FE.out.1] at kp
      rw [FE.out.2.1] at o1
      rw [FE.out.2.2] at o2
      have z := Z0.out
      have r1 := own_row o1
      have r2 := own_row o2
      obtain ⟨l1, W9, s9, l9, t9⟩ := plain_end (W := wr) (V1 := wr) (Q := pq q) rfl HR.out.kr HR.out.bw kp HR.out.bw (n := n) (f := f) (nm := nm) (g := g) (own_base o1 (by omega)) (fun j e => by have := r1 j e; omega) (own_base o2 (by omega)) (fun j e => by have := r2 j e; omega) HR.out.ap HR.out.bw
      have L9 := hid l9
      have T9 := hid t9
      clear l9 t9 kp o1 o2 r1 r2 HR z
      go_wp2
      refine bodyPost_ret (Tb.results_cell1 rfl rfl L9.out) rfl ?_
      exact ⟨_, _, rfl, T9.out⟩
end Go.Proofs.Ytnadpglfliiplaa.Ou
