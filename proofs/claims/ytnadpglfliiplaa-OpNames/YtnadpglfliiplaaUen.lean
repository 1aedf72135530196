/- An operation's bytes: Encode, of the program and of the document. -/
import Derived.Test.YtnadpglfliiplaaUop
namespace Go.Proofs.Ytnadpglfliiplaa.Ou
open Go.ChangeShapes Go.WideShapes Go.ChangeAt Go.RowKit
open Go.Proofs.Ytnadpglfliiplaa.By
open Go.Proofs.Ytnadpglfliiplaa.Tb (Blk Blk.newAt)
/-- The two bytes ahead. -/
def two (q : Nu) (i : Nat) : Int := if i = 0 then q.k else q.a
/-- The 32 bytes ahead of the lists. -/
def hdb (q : Nu) (n m : Nat) : Nat → Int := cat 29 (cat 26 (cat 18 (cat 10 (cat 2 (two q) (be 8 q.h)) (be 8 q.c)) (be 8 q.o)) (be 3 n)) (be 3 m)
/-- An operation's bytes. -/
def en (q : Nu) (n : Nat) (f : Nat → Int) (m : Nat) (g : Nat → Int) : Nat → Int := cat (32 + n) (cat 32 (hdb q n m) f) g
/-- Its numbers fit. -/
structure Nu.Ok (q : Nu) : Prop where
  k0 : 0 ≤ q.k
  k1 : q.k < 256
  a0 : 0 ≤ q.a
  a1 : q.a < 256
  h0 : -9223372036854775808 ≤ q.h
  h1 : q.h < 9223372036854775808
  c0 : -9223372036854775808 ≤ q.c
  c1 : q.c < 9223372036854775808
  o0 : -9223372036854775808 ≤ q.o
  o1 : q.o < 9223372036854775808
theorem two_bound {q : Nu} (hq : q.Ok) (i : Nat) : 0 ≤ two q i ∧ two q i < 256 := by
  unfold two; split
  · exact ⟨hq.k0, hq.k1⟩
  · exact ⟨hq.a0, hq.a1⟩
theorem hdb_bound {q : Nu} (hq : q.Ok) (n m i : Nat) : 0 ≤ hdb q n m i ∧ hdb q n m i < 256 := cat_bound (cat_bound (cat_bound (cat_bound (cat_bound (two_bound hq) (be_bound _ _)) (be_bound _ _)) (be_bound _ _)) (be_bound _ _)) (be_bound _ _) i
theorem en_bound {q : Nu} (hq : q.Ok) {n m : Nat} {f g : Nat → Int} (hf : ∀ i, 0 ≤ f i ∧ f i < 256) (hg : ∀ i, 0 ≤ g i ∧ g i < 256) (i : Nat) : 0 ≤ en q n f m g i ∧ en q n f m g i < 256 := cat_bound (cat_bound (hdb_bound hq n m) hf) hg i
def big (n m : Nat) : Prop := 16777215 < n ∨ 16777215 < m
instance (n m : Nat) : Decidable (big n m) := by unfold big; infer_instance
def el (n m : Nat) : Nat := if big n m then 0 else 32 + n + m
def ec (n m : Nat) : Int := if big n m then 9 else 0
theorem cut8 : (8 : Int) = ((8 : Nat) : Int) := rfl
theorem cut3 : (3 : Int) = ((3 : Nat) : Int) := rfl
set_option maxRecDepth 8000 in
set_option maxHeartbeats 1200000 in
theorem encode_ok (q : Nu) (d m : Value) (n nm : Nat) (f g : Nat → Int) (w : World) (hq : q.Ok) (h1 : By.RB w d n f) (h2 : By.RB w m nm g) :
    Calls Try.prog 11 #[ov q d m] w fun e w' => ∃ v, e = .returned (.tuple #[v, .int .i64 (ec n nm)]) ∧ By.Own w' w.heap.size v (el n nm) (en q n f nm g) ∧ Below w.heap.size w w' := by
  have HQ := hid hq
  have H1 := hid h1
  have H2 := hid h2
  obtain ⟨a, c, rfl⟩ : ∃ a c, d = .slice a n c := by obtain ⟨_, a, c, e, _⟩ := h1; exact ⟨a, c, e⟩
  obtain ⟨a', c', rfl⟩ : ∃ a c, m = .slice a nm c := by obtain ⟨_, a, c, e, _⟩ := h2; exact ⟨a, c, e⟩
  clear h1 h2 hq
  by_cases hb : big n nm
  · have E1 : Hid (el n nm = 0 ∧ ec n nm = 9) := ⟨if_pos hb, if_pos hb⟩
    have fin : ∀ W, Below w.heap.size w W → ∃ v, Ending.returned (.tuple #[.slice none 0 0, .int .i64 9]) = Ending.returned (.tuple #[v, .int .i64 (ec n nm)]) ∧ By.Own W w.heap.size v (el n nm) (en q n f nm g) ∧ Below w.heap.size w W := fun W hW => by
      rw [E1.out.1, E1.out.2]
      exact ⟨_, rfl, own_nil _ _ _ (en_bound HQ.out H1.out.1 H2.out.1), hW⟩
    have FIN := hid fin
    clear fin E1
    by_cases hn : 16777215 < n
    · have g1 : (16777215 : Int) < n := by omega
      clear hb hn H1 H2
      go_enter Try.func11, Try.ntmps11
      go_wp2
      go_ret2
      exact FIN.out _ (below_alloc _ _)
    · have g1 : ¬ (16777215 : Int) < n := by omega
      have g2 : (16777215 : Int) < nm := by rcases hb with h | h <;> omega
      clear hb hn H1 H2
      go_enter Try.func11, Try.ntmps11
      go_wp2
      go_ret2
      exact FIN.out _ (below_alloc _ _)
  · have E1 : Hid (el n nm = 32 + n + nm ∧ ec n nm = 0) := ⟨if_neg hb, if_neg hb⟩
    have l1 : n ≤ 16777215 := by unfold big at hb; omega
    have l2 : nm ≤ 16777215 := by unfold big at hb; omega
    have g1 : ¬ (16777215 : Int) < n := by omega
    have g2 : ¬ (16777215 : Int) < nm := by omega
    clear hb
    have CEL : Hid (∀ W, Below (w.heap.size + 1) (w.alloc (.cells #[Value.int IntKind.u8 q.k, Value.int IntKind.i64 q.h, Value.int IntKind.u8 q.a, Value.int IntKind.i64 q.c, Value.int IntKind.i64 q.o, Value.slice a n c, Value.slice a' nm c'] 26)) W → ∀ i v, #[Value.int IntKind.u8 q.k, Value.int IntKind.i64 q.h, Value.int IntKind.u8 q.a, Value.int IntKind.i64 q.c, Value.int IntKind.i64 q.o, Value.slice a n c, Value.slice a' nm c'].toList[i]? = some v → W.cell? ⟨w.heap.size, i, none⟩ = some v) := fun W hW i v hv => by
      have hB := Blk.newAt w #[Value.int IntKind.u8 q.k, Value.int IntKind.i64 q.h, Value.int IntKind.u8 q.a, Value.int IntKind.i64 q.c, Value.int IntKind.i64 q.o, Value.slice a n c, Value.slice a' nm c'] #[Value.int IntKind.u8 q.k, Value.int IntKind.i64 q.h, Value.int IntKind.u8 q.a, Value.int IntKind.i64 q.c, Value.int IntKind.i64 q.o, Value.slice a n c, Value.slice a' nm c'].toList 26 w.heap.size rfl rfl
      exact (hB.kept (Kp.of_below (fun _ => False) (by simpa using hW)) id).cell i v hv
    obtain ⟨W1, hW1⟩ : ∃ W, w.alloc (.cells #[Value.int IntKind.u8 q.k, Value.int IntKind.i64 q.h, Value.int IntKind.u8 q.a, Value.int IntKind.i64 q.c, Value.int IntKind.i64 q.o, Value.slice a n c, Value.slice a' nm c'] 26) = W := ⟨_, rfl⟩
    have z1 : W1.heap.size = w.heap.size + 1 := by rw [← hW1]; simp
    have BW := hid (show Below w.heap.size w W1 by rw [← hW1]; exact below_alloc _ _)
    have mk : (Instr.makeSlice 24 (.int .i64 0) (.int .i64 (32 + (n : Int) + nm))).run Try.prog W1 = .ok (.slice (some ⟨W1.heap.size, 0, none⟩) 0 (32 + n + nm)) (W1.alloc (.cells (bl (32 + n + nm) (fun _ => 0)).toArray 5)) := by
      rw [show (32 + (n : Int) + nm) = ((32 + n + nm : Nat) : Int) by omega]
      exact make_lc 0 (32 + n + nm) (by omega) (by omega) W1
    have O0 := hid (own_made W1 0 (32 + n + nm) W1.heap.size (fun _ => 0) (fun _ => by decide) (by omega) (by simp [maxLen]; omega) (Nat.le_refl _))
    have B0 := hid (below_alloc W1 (.cells (bl (32 + n + nm) (fun _ => 0)).toArray 5))
    obtain ⟨W2, hW2⟩ : ∃ W, W1.alloc (.cells (bl (32 + n + nm) (fun _ => 0)).toArray 5) = W := ⟨_, rfl⟩
    rw [hW2] at mk O0 B0
    rw [hW1] at CEL
    rw [z1] at mk O0 B0
    have cel5 := CEL.out W1 (Below.refl _ _) 5 _ rfl
    have cel6 := CEL.out W1 (Below.refl _ _) 6 _ rfl
    have d0 := CEL.out W2 B0.out 0 _ rfl
    have d2 := CEL.out W2 B0.out 2 _ rfl
    have R2 : ∀ W, Below (w.heap.size + 1) W1 W → (w.heap.size + 1 ≤ W.heap.size) := fun W h => by have := h.size; omega
    have HZ := hid R2
    clear R2
    have T2 : Hid (By.RB (W2.alloc (.cells #[Value.int .u8 q.k, Value.int .u8 q.a] 5)) (.slice (some ⟨W2.heap.size, 0, none⟩) 2 2) 2 (two q)) := rb_lit W2 _ 2 (two q) (two_bound HQ.out) (by decide) rfl rfl
    go_enter Try.func11, Try.ntmps11
    go_wp2_with (at_builtin; go_must (refine wpList_cat rfl _ _ rfl (w.heap.size + 1) 0 2 _ _ (fun _ => 0) (two q) rfl (own_alloc O0.out _) rfl T2.out (by omega) (by have := HZ.out _ B0.out; simp; omega) ?_))
    intro v3 W3 ho hg
    have O3 : Hid (By.Own W3 (w.heap.size + 1) v3 2 (two q)) := own_congr ho (two_bound HQ.out) (fun i _ => cat_ge (Nat.zero_le _))
    have B3 := hid (below_grow (B0.out.alloc (HZ.out _ B0.out) _) (by have := HZ.out _ B0.out; simp; omega) (own_alloc O0.out _) hg)
    clear ho hg O0 B0 cel5 cel6 d0 d2 mk T2 hW2
    have e3 := CEL.out W3 B3.out 1 _ rfl
    go_wp2_with fail
    refine (lay_ok v3 2 8 (w.heap.size + 1) (two q) q.h W3 O3.out (by omega) (by omega) (HZ.out _ B3.out)).mono ?_
    rintro e W4 ⟨v4, rfl, ho, hb⟩
    have O4 : Hid (By.Own W4 (w.heap.size + 1) v4 10 (cat 2 (two q) (be 8 q.h))) := ho
    have B4 := hid (B3.out.trans hb)
    clear ho hb O3 B3 e3
    have e4 := CEL.out W4 B4.out 3 _ rfl
    go_wp2_with fail
    refine (lay_ok v4 10 8 (w.heap.size + 1) (cat 2 (two q) (be 8 q.h)) q.c W4 O4.out (by omega) (by omega) (HZ.out _ B4.out)).mono ?_
    rintro e W5 ⟨v5, rfl, ho, hb⟩
    have O5 : Hid (By.Own W5 (w.heap.size + 1) v5 18 (cat 10 (cat 2 (two q) (be 8 q.h)) (be 8 q.c))) := ho
    have B5 := hid (B4.out.trans hb)
    clear ho hb O4 B4 e4
    have e5 := CEL.out W5 B5.out 4 _ rfl
    go_wp2_with fail
    refine (lay_ok v5 18 8 (w.heap.size + 1) (cat 10 (cat 2 (two q) (be 8 q.h)) (be 8 q.c)) q.o W5 O5.out (by omega) (by omega) (HZ.out _ B5.out)).mono ?_
    rintro e W6 ⟨v6, rfl, ho, hb⟩
    have O6 : Hid (By.Own W6 (w.heap.size + 1) v6 26 (cat 18 (cat 10 (cat 2 (two q) (be 8 q.h)) (be 8 q.c)) (be 8 q.o))) := ho
    have B6 := hid (B5.out.trans hb)
    clear ho hb O5 B5 e5
    have e6 := CEL.out W6 B6.out 5 _ rfl
    go_wp2_with fail
    refine (lay_ok v6 26 3 (w.heap.size + 1) (cat 18 (cat 10 (cat 2 (two q) (be 8 q.h)) (be 8 q.c)) (be 8 q.o)) n W6 O6.out (by omega) (by omega) (HZ.out _ B6.out)).mono ?_
    rintro e W7 ⟨v7, rfl, ho, hb⟩
    have O7 : Hid (By.Own W7 (w.heap.size + 1) v7 29 (cat 26 (cat 18 (cat 10 (cat 2 (two q) (be 8 q.h)) (be 8 q.c)) (be 8 q.o)) (be 3 n))) := ho
    have B7 := hid (B6.out.trans hb)
    clear ho hb O6 B6 e6
    have e7 := CEL.out W7 B7.out 6 _ rfl
    go_wp2_with fail
    refine (lay_ok v7 29 3 (w.heap.size + 1) (cat 26 (cat 18 (cat 10 (cat 2 (two q) (be 8 q.h)) (be 8 q.c)) (be 8 q.o)) (be 3 n)) nm W7 O7.out (by omega) (by omega) (HZ.out _ B7.out)).mono ?_
    rintro e W8 ⟨v8, rfl, ho, hb⟩
    have O8 : Hid (By.Own W8 (w.heap.size + 1) v8 32 (cat 29 (cat 26 (cat 18 (cat 10 (cat 2 (two q) (be 8 q.h)) (be 8 q.c)) (be 8 q.o)) (be 3 n)) (be 3 nm))) := ho
    have B8 := hid (B7.out.trans hb)
    clear ho hb O7 B7 e7
    have e8 := CEL.out W8 B8.out 5 _ rfl
    have X8 := hid (H1.out.below (below_next BW.out (by rw [z1]; exact B8.out)))
    go_wp2_with (at_builtin; go_must (refine wpList_cat rfl _ _ rfl (w.heap.size + 1) 32 n _ _ (hdb q n nm) f rfl O8.out rfl X8.out (by omega) (HZ.out _ B8.out) ?_))
    intro v9 W9 ho hg
    have O9 : Hid (By.Own W9 (w.heap.size + 1) v9 (32 + n) (cat 32 (hdb q n nm) f)) := ho
    have B9 := hid (below_grow B8.out (HZ.out _ B8.out) O8.out hg)
    clear ho hg O8 B8 e8 X8
    have e9 := CEL.out W9 B9.out 6 _ rfl
    have X9 := hid (H2.out.below (below_next BW.out (by rw [z1]; exact B9.out)))
    go_wp2_with (at_builtin; go_must (refine wpList_cat rfl _ _ rfl (w.heap.size + 1) (32 + n) nm _ _ (cat 32 (hdb q n nm) f) g rfl O9.out rfl X9.out (by omega) (HZ.out _ B9.out) ?_))
    intro v10 W10 ho hg
    have O10 : Hid (By.Own W10 (w.heap.size + 1) v10 (32 + n + nm) (en q n f nm g)) := ho
    have B10 := hid (below_grow B9.out (HZ.out _ B9.out) O9.out hg)
    clear ho hg O9 B9 e9 X9
    go_wp2
    go_ret2
    rw [E1.out.1, E1.out.2]
    exact ⟨_, rfl, own_base O10.out (Nat.le_succ _), below_next BW.out (by rw [z1]; exact B10.out)⟩
end Go.Proofs.Ytnadpglfliiplaa.Ou
