/- Operations held against each other. -/
import Derived.Test.YtdahogdfonhnfaaUsm
namespace Go.Proofs.Ytdahogdfonhnfaa.Ou
open Go.ChangeShapes Go.WideShapes Go.ChangeAt Go.RowKit
open Go.Proofs.Ytdahogdfonhnfaa.By
open Go.Proofs.Ytdahogdfonhnfaa.Tb (Blk Blk.newAt)
/-- The numbers of two operations are the same. -/
def eqN (q r : Nu) : Bool := q.k == r.k && q.h == r.h && q.a == r.a && q.c == r.c && q.o == r.o
/-- Two operations are the same. -/
def eqO (q r : Nu) (n n' : Nat) (f f' : Nat → Int) (m m' : Nat) (g g' : Nat → Int) : Bool := eqN q r && eqL n n' f f' && eqL m m' g g'
theorem eqN_refl (q : Nu) : eqN q q = true := by simp [eqN]
theorem eqN_eq {q r : Nu} (h : eqN q r = true) : q = r := by
  cases q; cases r
  simp [eqN] at h
  obtain ⟨⟨⟨⟨rfl, rfl⟩, rfl⟩, rfl⟩, rfl⟩ := h
  rfl
theorem eqN_comm (q r : Nu) : eqN q r = eqN r q := by
  cases e : eqN q r with
  | true => rw [eqN_eq e, eqN_refl]
  | false =>
    cases e' : eqN r q with
    | false => rfl
    | true => rw [eqN_eq e', eqN_refl] at e; cases e
theorem eqO_comm (q r : Nu) (n n' : Nat) (f f' : Nat → Int) (m m' : Nat) (g g' : Nat → Int) : eqO q r n n' f f' m m' g g' = eqO r q n' n f' f m' m g' g := by unfold eqO; rw [eqN_comm, eqL_comm, eqL_comm m]
theorem eqO_refl (q : Nu) (n : Nat) (f : Nat → Int) (m : Nat) (g : Nat → Int) : eqO q q n n f f m m g g = true := by unfold eqO; rw [eqN_refl, eqL_refl, eqL_refl]; rfl
theorem eqN_cases {q r : Nu} (h : eqN q r = false) : (q.k == r.k) = false ∨ ((q.k == r.k) = true ∧ (q.h == r.h) = false) ∨ ((q.k == r.k) = true ∧ (q.h == r.h) = true ∧ (q.a == r.a) = false) ∨ ((q.k == r.k) = true ∧ (q.h == r.h) = true ∧ (q.a == r.a) = true ∧ (q.c == r.c) = false) ∨ ((q.k == r.k) = true ∧ (q.h == r.h) = true ∧ (q.a == r.a) = true ∧ (q.c == r.c) = true ∧ (q.o == r.o) = false) := by
  unfold eqN at h
  cases h1 : q.k == r.k <;> cases h2 : q.h == r.h <;> cases h3 : q.a == r.a <;> cases h4 : q.c == r.c <;> cases h5 : q.o == r.o <;> simp_all
set_option maxRecDepth 8000 in
set_option maxHeartbeats 1200000 in
/-- SameOp of operations that are the same. -/
theorem sameop_ok (q : Nu) (d m d' m' : Value) (n nm : Nat) (f f' g g' : Nat → Int) (w : World) (h1 : By.RB w d n f) (h2 : By.RB w d' n f') (h3 : By.RB w m nm g) (h4 : By.RB w m' nm g') (b1 : n ≤ 140737488355328) (b3 : nm ≤ 140737488355328) (ef : ∀ i, i < n → f i = f' i) (eg : ∀ i, i < nm → g i = g' i) :
    Calls Try.prog 14 #[ov q d m, ov q d' m'] w fun e w' => e = .returned (.bool true) ∧ Below w.heap.size w w' := by
    have hb : Below w.heap.size w ((w.alloc (.cells #[Value.int IntKind.u8 q.k, Value.int IntKind.i64 q.h, Value.int IntKind.u8 q.a, Value.int IntKind.i64 q.c, Value.int IntKind.i64 q.o, d, m] 28)).alloc (.cells #[Value.int IntKind.u8 q.k, Value.int IntKind.i64 q.h, Value.int IntKind.u8 q.a, Value.int IntKind.i64 q.c, Value.int IntKind.i64 q.o, d', m'] 28)) := below_next (below_alloc _ _) (below_alloc _ _)
    have H1 := hid h1
    have H2 := hid h2
    have H3 := hid h3
    have H4 := hid h4
    have HB := hid hb
    have EF := hid ef
    have EG := hid eg
    clear h1 h2 h3 h4 hb ef eg
    go_enter Try.func14, Try.ntmps14
    go_wp2_with fail
    obtain ⟨W, hW⟩ : ∃ W, (w.alloc (.cells #[Value.int IntKind.u8 q.k, Value.int IntKind.i64 q.h, Value.int IntKind.u8 q.a, Value.int IntKind.i64 q.c, Value.int IntKind.i64 q.o, d, m] 28)).alloc (.cells #[Value.int IntKind.u8 q.k, Value.int IntKind.i64 q.h, Value.int IntKind.u8 q.a, Value.int IntKind.i64 q.c, Value.int IntKind.i64 q.o, d', m'] 28) = W := ⟨_, rfl⟩
    have c1 : W.cell? ⟨w.heap.size, 6, none⟩ = some m := by
      rw [← hW]
      exact ((Blk.newAt w _ _ 28 w.heap.size rfl rfl).alloc _).cell 6 _ rfl
    have c2 : W.cell? ⟨w.heap.size + 1, 6, none⟩ = some m' := by
      rw [← hW]
      exact (Blk.newAt (w.alloc _) _ _ 28 (w.heap.size + 1) (by simp) rfl).cell 6 _ rfl
    rw [hW] at HB ⊢
    clear hW
    refine (same_true d d' n f f' W (H1.out.below HB.out) (H2.out.below HB.out) (by omega) EF.out).mono ?_
    rintro e W1 ⟨rfl, dn, rfl⟩
    have B1 : Hid (Below w.heap.size w (W.drewN dn)) := below_next HB.out (below_drewN _ _)
    have R3 := hid (H3.out.below B1.out)
    have R4 := hid (H4.out.below B1.out)
    have k1 : (W.drewN dn).cell? ⟨w.heap.size, 6, none⟩ = some m := c1
    have k2 : (W.drewN dn).cell? ⟨w.heap.size + 1, 6, none⟩ = some m' := c2
    obtain ⟨W1, hW1⟩ : ∃ x, W.drewN dn = x := ⟨_, rfl⟩
    rw [hW1] at B1 R3 R4 k1 k2 ⊢
    clear c1 c2 HB H1 H2 H3 H4 EF hW1
    go_wp2_with fail
    refine (same_true m m' nm g g' W1 R3.out R4.out (by omega) EG.out).mono ?_
    rintro e W2 ⟨rfl, dm, rfl⟩
    have B2 : Hid (Below w.heap.size w (W1.drewN dm)) := below_next B1.out (below_drewN _ _)
    clear B1 R3 R4
    go_wp2
    go_ret
    exact ⟨rfl, B2.out⟩
end Go.Proofs.Ytdahogdfonhnfaa.Ou
