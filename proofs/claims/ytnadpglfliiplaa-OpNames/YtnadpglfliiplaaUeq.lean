/- Operations held against each other. -/
import Derived.Test.YtnadpglfliiplaaUsm
namespace Go.Proofs.Ytnadpglfliiplaa.Ou
open Go.ChangeShapes Go.WideShapes Go.ChangeAt Go.RowKit
open Go.Proofs.Ytnadpglfliiplaa.By
open Go.Proofs.Ytnadpglfliiplaa.Tb (Blk Blk.newAt)
set_option maxRecDepth 4000 in
set_option maxHeartbeats 400000 in
theorem rsame_ok (d d' : Value) (n n' : Nat) (f g : Nat → Int) (w : World) (h1 : By.RB w d n f) (h2 : By.RB w d' n' g) (hn : n ≤ 140737488355328) (hn' : n' ≤ 140737488355328) :
    Calls Try.prog 42 #[d, d'] w fun e w' => e = .returned (.bool (eqL n n' f g)) ∧ Below w.heap.size w w' := by
  obtain ⟨a, c, rfl⟩ : ∃ a c, d = .slice a n c := by obtain ⟨_, a, c, e, _⟩ := h1; exact ⟨a, c, e⟩
  obtain ⟨a', c', rfl⟩ : ∃ a c, d' = .slice a n' c := by obtain ⟨_, a, c, e, _⟩ := h2; exact ⟨a, c, e⟩
  by_cases e : n = n'
  · subst e
    have H1 := hid h1
    have H2 := hid h2
    clear h1 h2
    go_enter Try.func42, Try.ntmps42
    go_wp2
    go_loopw [5] (fun i wr => ∃ k : Nat, k ≤ n ∧ i = .int .i64 k ∧ (∀ j, j < k → f j = g j) ∧ ∃ d, wr = w.drewN d) (fun i _ => n - (intOf i).toNat)
    case atStart => exact ⟨0, Nat.zero_le _, rfl, fun j hj => absurd hj (by omega), 0, rfl⟩
    case round =>
      obtain ⟨k, hk, rfl, hall, dn, rfl⟩ := hrel
      have HA := hid hall
      clear hall
      by_cases hlt : k < n
      · obtain ⟨b, off, rfl, c1⟩ := rb_at H1.out hlt
        obtain ⟨b', off', rfl, c2⟩ := rb_at H2.out hlt
        by_cases hfg : f k = g k
        · rw [← hfg] at c2
          have HFG := hid hfg
          clear hfg
          go_wp2
          go_quiet (fail)
          go_wp2
          go_roundw
          case rel => exact ⟨k + 1, by omega, by go_num, fun j hj => by
            by_cases e : j = k
            · rw [e]; exact HFG.out
            · exact HA.out j (by omega), _, rfl⟩
          case measure => simp [intOf]; omega
        · have n1 : (f k == g k) = false := by simpa using hfg
          have E : Hid (eqL n n f g = false) := by
            show eqL n n f g = false
            unfold eqL
            rw [eqB_false.2 (fun h => hfg (h k hlt))]
            simp
          clear hfg
          go_wp2
          go_quiet (fail)
          go_wp2
          go_ret
          exact ⟨by rw [E.out]; rfl, below_next (below_drewN w _) (below_drewN _ _)⟩
      · have E : Hid (eqL n n f g = true) := by
          show eqL n n f g = true
          unfold eqL
          rw [eqB_iff.2 (fun j hj => HA.out j (by omega))]
          simp
        go_wp2
        go_ret
        exact ⟨by rw [E.out]; rfl, below_drewN _ _⟩
  · have e1 : ((n : Int) == (n' : Int)) = false := by simp; omega
    have E : Hid (eqL n n' f g = false) := by show eqL n n' f g = false; unfold eqL; rw [decide_eq_false e]; rfl
    clear h1 h2 e
    go_enter Try.func42, Try.ntmps42
    go_wp2
    go_ret
    exact ⟨by rw [E.out]; rfl, Below.refl _ _⟩
/-- The numbers of two operations are the same. -/
def eqN (q r : Nu) : Bool := q.k == r.k && q.h == r.h && q.a == r.a && q.c == r.c && q.o == r.o
/-- Two operations are the same. -/
def eqO (q r : Nu) (n n' : Nat) (f f' : Nat → Int) (m m' : Nat) (g g' : Nat → Int) : Bool := eqN q r && eqL n n' f f' && eqL m m' g g'
theorem eqN_refl (q : Nu) : eqN q q = true := by simp [eqN]
theorem eqN_eq {q r : Nu} (h : eqN q r = true) : q = r := by
  cases q; cases r
  simp [eqN] at h
  obtain ⟨⟨⟨⟨rfl, rfl⟩, rfl⟩, rfl⟩, rfl⟩ := h
  rfl
theorem eqN_comm (q r : Nu) : eqN q r = eqN r q := by
  cases e : eqN q r with
  | true => rw [eqN_eq e, eqN_refl]
  | false =>
    cases e' : eqN r q with
    | false => rfl
    | true => rw [eqN_eq e', eqN_refl] at e; cases e
theorem eqO_comm (q r : Nu) (n n' : Nat) (f f' : Nat → Int) (m m' : Nat) (g g' : Nat → Int) : eqO q r n n' f f' m m' g g' = eqO r q n' n f' f m' m g' g := by unfold eqO; rw [eqN_comm, eqL_comm, eqL_comm m]
theorem eqO_refl (q : Nu) (n : Nat) (f : Nat → Int) (m : Nat) (g : Nat → Int) : eqO q q n n f f m m g g = true := by unfold eqO; rw [eqN_refl, eqL_refl, eqL_refl]; rfl
theorem eqN_cases {q r : Nu} (h : eqN q r = false) : (q.k == r.k) = false ∨ ((q.k == r.k) = true ∧ (q.h == r.h) = false) ∨ ((q.k == r.k) = true ∧ (q.h == r.h) = true ∧ (q.a == r.a) = false) ∨ ((q.k == r.k) = true ∧ (q.h == r.h) = true ∧ (q.a == r.a) = true ∧ (q.c == r.c) = false) ∨ ((q.k == r.k) = true ∧ (q.h == r.h) = true ∧ (q.a == r.a) = true ∧ (q.c == r.c) = true ∧ (q.o == r.o) = false) := by
  unfold eqN at h
  cases h1 : q.k == r.k <;> cases h2 : q.h == r.h <;> cases h3 : q.a == r.a <;> cases h4 : q.c == r.c <;> cases h5 : q.o == r.o <;> simp_all
set_option maxRecDepth 8000 in
set_option maxHeartbeats 1200000 in
theorem same_op (q r : Nu) (d m d' m' : Value) (n n' nm nm' : Nat) (f f' g g' : Nat → Int) (w : World) (h1 : By.RB w d n f) (h2 : By.RB w d' n' f') (h3 : By.RB w m nm g) (h4 : By.RB w m' nm' g') (_b1 : n ≤ 140737488355328) (_b2 : n' ≤ 140737488355328) (_b3 : nm ≤ 140737488355328) (_b4 : nm' ≤ 140737488355328) :
    Calls Try.prog 20 #[ov q d m, ov r d' m'] w fun e w' => e = .returned (.bool (eqO q r n n' f f' nm nm' g g')) ∧ Below w.heap.size w w' := by
  cases en : eqN q r with
  | false =>
    have E : Hid (eqO q r n n' f f' nm nm' g g' = false) := by show eqO q r n n' f f' nm nm' g g' = false; unfold eqO; rw [en]; rfl
    have hc := eqN_cases en
    clear h1 h2 h3 h4 en
    rcases hc with e1 | ⟨e1, e2⟩ | ⟨e1, e2, e3⟩ | ⟨e1, e2, e3, e4⟩ | ⟨e1, e2, e3, e4, e5⟩ <;> (
      go_enter Try.func20, Try.ntmps20
      go_wp2
      go_ret
      exact ⟨by rw [E.out]; rfl, below_next (below_alloc _ _) (below_alloc _ _)⟩)
  | true =>
    obtain rfl := eqN_eq en
    have E : Hid (eqO q q n n' f f' nm nm' g g' = (eqL n n' f f' && eqL nm nm' g g')) := by show eqO q q n n' f f' nm nm' g g' = _; unfold eqO; rw [en, Bool.true_and]
    clear en
    have hb : Below w.heap.size w ((w.alloc (.cells #[Value.int IntKind.u8 q.k, Value.int IntKind.i64 q.h, Value.int IntKind.u8 q.a, Value.int IntKind.i64 q.c, Value.int IntKind.i64 q.o, d, m] 26)).alloc (.cells #[Value.int IntKind.u8 q.k, Value.int IntKind.i64 q.h, Value.int IntKind.u8 q.a, Value.int IntKind.i64 q.c, Value.int IntKind.i64 q.o, d', m'] 26)) := below_next (below_alloc _ _) (below_alloc _ _)
    have H1 := hid h1
    have H2 := hid h2
    have H3 := hid h3
    have H4 := hid h4
    have HB := hid hb
    clear h1 h2 h3 h4 hb
    go_enter Try.func20, Try.ntmps20
    go_wp2_with fail
    obtain ⟨W, hW⟩ : ∃ W, (w.alloc (.cells #[Value.int IntKind.u8 q.k, Value.int IntKind.i64 q.h, Value.int IntKind.u8 q.a, Value.int IntKind.i64 q.c, Value.int IntKind.i64 q.o, d, m] 26)).alloc (.cells #[Value.int IntKind.u8 q.k, Value.int IntKind.i64 q.h, Value.int IntKind.u8 q.a, Value.int IntKind.i64 q.c, Value.int IntKind.i64 q.o, d', m'] 26) = W := ⟨_, rfl⟩
    have c1 : W.cell? ⟨w.heap.size, 6, none⟩ = some m := by
      rw [← hW]
      exact ((Blk.newAt w _ _ 26 w.heap.size rfl rfl).alloc _).cell 6 _ rfl
    have c2 : W.cell? ⟨w.heap.size + 1, 6, none⟩ = some m' := by
      rw [← hW]
      exact (Blk.newAt (w.alloc _) _ _ 26 (w.heap.size + 1) (by simp) rfl).cell 6 _ rfl
    rw [hW] at HB ⊢
    clear hW
    refine (equal_ok d d' n n' f f' W (H1.out.below HB.out) (H2.out.below HB.out)).mono ?_
    rintro e W1 ⟨rfl, hb1⟩
    have B1 : Hid (Below w.heap.size w W1) := by rw [hb1]; exact HB.out
    have R3 := hid (H3.out.below B1.out)
    have R4 := hid (H4.out.below B1.out)
    have k1 : W1.cell? ⟨w.heap.size, 6, none⟩ = some m := by rw [hb1]; exact c1
    have k2 : W1.cell? ⟨w.heap.size + 1, 6, none⟩ = some m' := by rw [hb1]; exact c2
    clear c1 c2 HB H1 H2 H3 H4 hb1
    cases eb : eqL n n' f f' with
    | false =>
      rw [eb] at E
      clear R3 R4 eb
      go_wp2
      go_ret
      exact ⟨by rw [E.out]; rfl, B1.out⟩
    | true =>
      rw [eb] at E
      clear eb
      go_wp2_with fail
      refine (equal_ok m m' nm nm' g g' W1 R3.out R4.out).mono ?_
      rintro e W2 ⟨rfl, hb2⟩
      have B2 : Hid (Below w.heap.size w W2) := by rw [hb2]; exact B1.out
      clear hb2 B1 R3 R4
      go_wp2
      go_ret
      exact ⟨by rw [E.out]; rfl, B2.out⟩
set_option maxRecDepth 8000 in
set_option maxHeartbeats 1200000 in
theorem same_ref (q r : Nu) (d m d' m' : Value) (n n' nm nm' : Nat) (f f' g g' : Nat → Int) (w : World) (h1 : By.RB w d n f) (h2 : By.RB w d' n' f') (h3 : By.RB w m nm g) (h4 : By.RB w m' nm' g') (_b1 : n ≤ 140737488355328) (_b2 : n' ≤ 140737488355328) (_b3 : nm ≤ 140737488355328) (_b4 : nm' ≤ 140737488355328) :
    Calls Try.prog 21 #[ov q d m, ov r d' m'] w fun e w' => e = .returned (.bool (eqO q r n n' f f' nm nm' g g')) ∧ Below w.heap.size w w' := by
  cases en : eqN q r with
  | false =>
    have E : Hid (eqO q r n n' f f' nm nm' g g' = false) := by show eqO q r n n' f f' nm nm' g g' = false; unfold eqO; rw [en]; rfl
    have hc := eqN_cases en
    clear h1 h2 h3 h4 en
    rcases hc with e1 | ⟨e1, e2⟩ | ⟨e1, e2, e3⟩ | ⟨e1, e2, e3, e4⟩ | ⟨e1, e2, e3, e4, e5⟩ <;> (
      go_enter Try.func21, Try.ntmps21
      go_wp2
      go_ret
      exact ⟨by rw [E.out]; rfl, below_next (below_alloc _ _) (below_alloc _ _)⟩)
  | true =>
    obtain rfl := eqN_eq en
    have E : Hid (eqO q q n n' f f' nm nm' g g' = (eqL n n' f f' && eqL nm nm' g g')) := by show eqO q q n n' f f' nm nm' g g' = _; unfold eqO; rw [en, Bool.true_and]
    clear en
    have hb : Below w.heap.size w ((w.alloc (.cells #[Value.int IntKind.u8 q.k, Value.int IntKind.i64 q.h, Value.int IntKind.u8 q.a, Value.int IntKind.i64 q.c, Value.int IntKind.i64 q.o, d, m] 26)).alloc (.cells #[Value.int IntKind.u8 q.k, Value.int IntKind.i64 q.h, Value.int IntKind.u8 q.a, Value.int IntKind.i64 q.c, Value.int IntKind.i64 q.o, d', m'] 26)) := below_next (below_alloc _ _) (below_alloc _ _)
    have H1 := hid h1
    have H2 := hid h2
    have H3 := hid h3
    have H4 := hid h4
    have HB := hid hb
    clear h1 h2 h3 h4 hb
    go_enter Try.func21, Try.ntmps21
    go_wp2_with fail
    obtain ⟨W, hW⟩ : ∃ W, (w.alloc (.cells #[Value.int IntKind.u8 q.k, Value.int IntKind.i64 q.h, Value.int IntKind.u8 q.a, Value.int IntKind.i64 q.c, Value.int IntKind.i64 q.o, d, m] 26)).alloc (.cells #[Value.int IntKind.u8 q.k, Value.int IntKind.i64 q.h, Value.int IntKind.u8 q.a, Value.int IntKind.i64 q.c, Value.int IntKind.i64 q.o, d', m'] 26) = W := ⟨_, rfl⟩
    have c1 : W.cell? ⟨w.heap.size, 6, none⟩ = some m := by
      rw [← hW]
      exact ((Blk.newAt w _ _ 26 w.heap.size rfl rfl).alloc _).cell 6 _ rfl
    have c2 : W.cell? ⟨w.heap.size + 1, 6, none⟩ = some m' := by
      rw [← hW]
      exact (Blk.newAt (w.alloc _) _ _ 26 (w.heap.size + 1) (by simp) rfl).cell 6 _ rfl
    rw [hW] at HB ⊢
    clear hW
    refine (rsame_ok d d' n n' f f' W (H1.out.below HB.out) (H2.out.below HB.out) (by omega) (by omega)).mono ?_
    rintro e W1 ⟨rfl, hb1⟩
    have B1 : Hid (Below w.heap.size w W1) := below_next HB.out hb1
    have R3 := hid (H3.out.below B1.out)
    have R4 := hid (H4.out.below B1.out)
    have k1 : W1.cell? ⟨w.heap.size, 6, none⟩ = some m := by rw [hb1.cell (p := ⟨w.heap.size, 6, none⟩) (block_lt_of_cell c1)]; exact c1
    have k2 : W1.cell? ⟨w.heap.size + 1, 6, none⟩ = some m' := by rw [hb1.cell (p := ⟨w.heap.size + 1, 6, none⟩) (block_lt_of_cell c2)]; exact c2
    clear c1 c2 HB H1 H2 H3 H4 hb1
    cases eb : eqL n n' f f' with
    | false =>
      rw [eb] at E
      clear R3 R4 eb
      go_wp2
      go_ret
      exact ⟨by rw [E.out]; rfl, B1.out⟩
    | true =>
      rw [eb] at E
      clear eb
      go_wp2_with fail
      refine (rsame_ok m m' nm nm' g g' W1 R3.out R4.out (by omega) (by omega)).mono ?_
      rintro e W2 ⟨rfl, hb2⟩
      have B2 : Hid (Below w.heap.size w W2) := below_next B1.out hb2
      clear hb2 B1 R3 R4
      go_wp2
      go_ret
      exact ⟨by rw [E.out]; rfl, B2.out⟩
set_option maxRecDepth 8000 in
set_option maxHeartbeats 1200000 in
/-- SameOp of operations that are the same. -/
theorem sameop_ok (q : Nu) (d m d' m' : Value) (n nm : Nat) (f f' g g' : Nat → Int) (w : World) (h1 : By.RB w d n f) (h2 : By.RB w d' n f') (h3 : By.RB w m nm g) (h4 : By.RB w m' nm g') (b1 : n ≤ 140737488355328) (b3 : nm ≤ 140737488355328) (ef : ∀ i, i < n → f i = f' i) (eg : ∀ i, i < nm → g i = g' i) :
    Calls Try.prog 16 #[ov q d m, ov q d' m'] w fun e w' => e = .returned (.bool true) ∧ Below w.heap.size w w' := by
    have hb : Below w.heap.size w ((w.alloc (.cells #[Value.int IntKind.u8 q.k, Value.int IntKind.i64 q.h, Value.int IntKind.u8 q.a, Value.int IntKind.i64 q.c, Value.int IntKind.i64 q.o, d, m] 26)).alloc (.cells #[Value.int IntKind.u8 q.k, Value.int IntKind.i64 q.h, Value.int IntKind.u8 q.a, Value.int IntKind.i64 q.c, Value.int IntKind.i64 q.o, d', m'] 26)) := below_next (below_alloc _ _) (below_alloc _ _)
    have H1 := hid h1
    have H2 := hid h2
    have H3 := hid h3
    have H4 := hid h4
    have HB := hid hb
    have EF := hid ef
    have EG := hid eg
    clear h1 h2 h3 h4 hb ef eg
    go_enter Try.func16, Try.ntmps16
    go_wp2_with fail
    obtain ⟨W, hW⟩ : ∃ W, (w.alloc (.cells #[Value.int IntKind.u8 q.k, Value.int IntKind.i64 q.h, Value.int IntKind.u8 q.a, Value.int IntKind.i64 q.c, Value.int IntKind.i64 q.o, d, m] 26)).alloc (.cells #[Value.int IntKind.u8 q.k, Value.int IntKind.i64 q.h, Value.int IntKind.u8 q.a, Value.int IntKind.i64 q.c, Value.int IntKind.i64 q.o, d', m'] 26) = W := ⟨_, rfl⟩
    have c1 : W.cell? ⟨w.heap.size, 6, none⟩ = some m := by
      rw [← hW]
      exact ((Blk.newAt w _ _ 26 w.heap.size rfl rfl).alloc _).cell 6 _ rfl
    have c2 : W.cell? ⟨w.heap.size + 1, 6, none⟩ = some m' := by
      rw [← hW]
      exact (Blk.newAt (w.alloc _) _ _ 26 (w.heap.size + 1) (by simp) rfl).cell 6 _ rfl
    rw [hW] at HB ⊢
    clear hW
    refine (same_true d d' n f f' W (H1.out.below HB.out) (H2.out.below HB.out) (by omega) EF.out).mono ?_
    rintro e W1 ⟨rfl, dn, rfl⟩
    have B1 : Hid (Below w.heap.size w (W.drewN dn)) := below_next HB.out (below_drewN _ _)
    have R3 := hid (H3.out.below B1.out)
    have R4 := hid (H4.out.below B1.out)
    have k1 : (W.drewN dn).cell? ⟨w.heap.size, 6, none⟩ = some m := c1
    have k2 : (W.drewN dn).cell? ⟨w.heap.size + 1, 6, none⟩ = some m' := c2
    obtain ⟨W1, hW1⟩ : ∃ x, W.drewN dn = x := ⟨_, rfl⟩
    rw [hW1] at B1 R3 R4 k1 k2 ⊢
    clear c1 c2 HB H1 H2 H3 H4 EF hW1
    go_wp2_with fail
    refine (same_true m m' nm g g' W1 R3.out R4.out (by omega) EG.out).mono ?_
    rintro e W2 ⟨rfl, dm, rfl⟩
    have B2 : Hid (Below w.heap.size w (W1.drewN dm)) := below_next B1.out (below_drewN _ _)
    clear B1 R3 R4
    go_wp2
    go_ret
    exact ⟨rfl, B2.out⟩
end Go.Proofs.Ytnadpglfliiplaa.Ou
