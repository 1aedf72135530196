/- An operation's bytes by the document. -/
import Derived.Test.YtnadpglfliiplaaUen
namespace Go.Proofs.Ytnadpglfliiplaa.Ou
open Go.ChangeShapes Go.WideShapes Go.ChangeAt Go.RowKit
open Go.Proofs.Ytnadpglfliiplaa.By
open Go.Proofs.Ytnadpglfliiplaa.Tb (Blk Blk.newAt)
theorem number_nat (s n : Nat) (w : World) (hs : s ≤ 8) (hn : n ≤ 16777215) :
    Calls Try.prog 36 #[.int .u64 (n : Int), .int .i64 s] w fun e w' => ∃ v', e = .returned v' ∧ By.Own w' w.heap.size v' s (be s n) ∧ Below w.heap.size w w' := by
  have := number_ok s n w hs
  rwa [wrap_u64, show (n : Int) % 18446744073709551616 = n by omega] at this
set_option maxRecDepth 8000 in
set_option maxHeartbeats 1200000 in
theorem rencode_ok (q : Nu) (d m : Value) (n nm : Nat) (f g : Nat → Int) (w : World) (hq : q.Ok) (h1 : By.RB w d n f) (h2 : By.RB w m nm g) :
    Calls Try.prog 12 #[ov q d m] w fun e w' => ∃ v, e = .returned (.tuple #[v, .int .i64 (ec n nm)]) ∧ By.Own w' w.heap.size v (el n nm) (en q n f nm g) ∧ Below w.heap.size w w' := by
  have HQ := hid hq
  have H1 := hid h1
  have H2 := hid h2
  obtain ⟨a, c, rfl⟩ : ∃ a c, d = .slice a n c := by obtain ⟨_, a, c, e, _⟩ := h1; exact ⟨a, c, e⟩
  obtain ⟨a', c', rfl⟩ : ∃ a c, m = .slice a nm c := by obtain ⟨_, a, c, e, _⟩ := h2; exact ⟨a, c, e⟩
  clear h1 h2 hq
  by_cases hb : big n nm
  · have E1 : Hid (el n nm = 0 ∧ ec n nm = 9) := ⟨if_pos hb, if_pos hb⟩
    have fin : ∀ W, Below w.heap.size w W → ∃ v, Ending.returned (.tuple #[.slice none 0 0, .int .i64 9]) = Ending.returned (.tuple #[v, .int .i64 (ec n nm)]) ∧ By.Own W w.heap.size v (el n nm) (en q n f nm g) ∧ Below w.heap.size w W := fun W hW => by
      rw [E1.out.1, E1.out.2]
      exact ⟨_, rfl, own_nil _ _ _ (en_bound HQ.out H1.out.1 H2.out.1), hW⟩
    have FIN := hid fin
    clear fin E1
    by_cases hn : 16777215 < n
    · have g1 : (16777215 : Int) < n := by omega
      clear hb hn H1 H2
      go_enter Try.func12, Try.ntmps12
      go_wp2
      go_ret2
      exact FIN.out _ (below_alloc _ _)
    · have g1 : ¬ (16777215 : Int) < n := by omega
      have g2 : (16777215 : Int) < nm := by rcases hb with h | h <;> omega
      clear hb hn H1 H2
      go_enter Try.func12, Try.ntmps12
      go_wp2
      go_ret2
      exact FIN.out _ (below_alloc _ _)
  · have E1 : Hid (el n nm = 32 + n + nm ∧ ec n nm = 0) := ⟨if_neg hb, if_neg hb⟩
    have l1 : n ≤ 16777215 := by unfold big at hb; omega
    have l2 : nm ≤ 16777215 := by unfold big at hb; omega
    have g1 : ¬ (16777215 : Int) < n := by omega
    have g2 : ¬ (16777215 : Int) < nm := by omega
    clear hb
    have CEL : Hid (∀ W, Below (w.heap.size + 1) (w.alloc (.cells #[Value.int IntKind.u8 q.k, Value.int IntKind.i64 q.h, Value.int IntKind.u8 q.a, Value.int IntKind.i64 q.c, Value.int IntKind.i64 q.o, Value.slice a n c, Value.slice a' nm c'] 26)) W → ∀ i v, #[Value.int IntKind.u8 q.k, Value.int IntKind.i64 q.h, Value.int IntKind.u8 q.a, Value.int IntKind.i64 q.c, Value.int IntKind.i64 q.o, Value.slice a n c, Value.slice a' nm c'].toList[i]? = some v → W.cell? ⟨w.heap.size, i, none⟩ = some v) := fun W hW i v hv => by
      have hB := Blk.newAt w #[Value.int IntKind.u8 q.k, Value.int IntKind.i64 q.h, Value.int IntKind.u8 q.a, Value.int IntKind.i64 q.c, Value.int IntKind.i64 q.o, Value.slice a n c, Value.slice a' nm c'] #[Value.int IntKind.u8 q.k, Value.int IntKind.i64 q.h, Value.int IntKind.u8 q.a, Value.int IntKind.i64 q.c, Value.int IntKind.i64 q.o, Value.slice a n c, Value.slice a' nm c'].toList 26 w.heap.size rfl rfl
      exact (hB.kept (Kp.of_below (fun _ => False) (by simpa using hW)) id).cell i v hv
    obtain ⟨W1, hW1⟩ : ∃ W, w.alloc (.cells #[Value.int IntKind.u8 q.k, Value.int IntKind.i64 q.h, Value.int IntKind.u8 q.a, Value.int IntKind.i64 q.c, Value.int IntKind.i64 q.o, Value.slice a n c, Value.slice a' nm c'] 26) = W := ⟨_, rfl⟩
    have z1 : W1.heap.size = w.heap.size + 1 := by rw [← hW1]; simp
    have BW := hid (show Below w.heap.size w W1 by rw [← hW1]; exact below_alloc _ _)
    rw [hW1] at CEL
    have cel5 := CEL.out W1 (Below.refl _ _) 5 _ rfl
    have cel6 := CEL.out W1 (Below.refl _ _) 6 _ rfl
    have d0 := CEL.out W1 (Below.refl _ _) 0 _ rfl
    have d2 := CEL.out W1 (Below.refl _ _) 2 _ rfl
    have R2 : ∀ W, Below (w.heap.size + 1) W1 W → (w.heap.size + 1 ≤ W.heap.size) := fun W h => by have := h.size; omega
    have HZ := hid R2
    clear R2
    have W3o : By.Own (W1.alloc (.cells #[Value.int .u8 q.k, Value.int .u8 q.a] 5)) W1.heap.size (.slice (some ⟨W1.heap.size, 0, none⟩) 2 2) 2 (two q) := own_lit W1 _ 2 (two q) (two_bound HQ.out) (by decide) rfl rfl
    have W3b := Below.alloc (Below.refl W1.heap.size W1) (Nat.le_refl _) (.cells #[Value.int .u8 q.k, Value.int .u8 q.a] 5)
    obtain ⟨W3, hW3⟩ : ∃ W, W1.alloc (.cells #[Value.int .u8 q.k, Value.int .u8 q.a] 5) = W := ⟨_, rfl⟩
    rw [hW3, z1] at W3o W3b
    have O3 := hid W3o
    have B3 := hid W3b
    clear W3o W3b
    have e3 := CEL.out W3 B3.out 1 _ rfl
    go_enter Try.func12, Try.ntmps12
    go_wp2_with fail
    clear hW3 cel5 cel6 d0 d2
    obtain ⟨v3, hv3⟩ : ∃ v, Value.slice (some ⟨w.heap.size + 1, 0, none⟩) 2 2 = v := ⟨_, rfl⟩
    rw [hv3] at O3 ⊢
    clear hv3
    refine (number_ok 8 q.h W3 (by omega)).mono ?_
    rintro e V3 ⟨u, rfl, hu, hb⟩
    have U := hid hu.reads
    have P := hid (own_below O3.out hb)
    have PB := hid (B3.out.trans (hb.mono (HZ.out _ B3.out)))
    clear hu hb O3 B3 e3
    go_wp2_with (at_builtin; go_must (refine wpList_cat rfl _ _ rfl (w.heap.size + 1) 2 8 _ _ (two q) (be 8 q.h) rfl P.out rfl U.out (by omega) (HZ.out _ PB.out) ?_))
    intro v4 W4 ho hg
    have O4 : Hid (By.Own W4 (w.heap.size + 1) v4 10 (cat 2 (two q) (be 8 q.h))) := ho
    have B4 := hid (below_grow PB.out (HZ.out _ PB.out) P.out hg)
    clear ho hg P PB U
    have e4 := CEL.out W4 B4.out 3 _ rfl
    go_wp2_with fail
    refine (number_ok 8 q.c W4 (by omega)).mono ?_
    rintro e V4 ⟨u, rfl, hu, hb⟩
    have U := hid hu.reads
    have P := hid (own_below O4.out hb)
    have PB := hid (B4.out.trans (hb.mono (HZ.out _ B4.out)))
    clear hu hb O4 B4 e4
    go_wp2_with (at_builtin; go_must (refine wpList_cat rfl _ _ rfl (w.heap.size + 1) 10 8 _ _ (cat 2 (two q) (be 8 q.h)) (be 8 q.c) rfl P.out rfl U.out (by omega) (HZ.out _ PB.out) ?_))
    intro v5 W5 ho hg
    have O5 : Hid (By.Own W5 (w.heap.size + 1) v5 18 (cat 10 (cat 2 (two q) (be 8 q.h)) (be 8 q.c))) := ho
    have B5 := hid (below_grow PB.out (HZ.out _ PB.out) P.out hg)
    clear ho hg P PB U
    have e5 := CEL.out W5 B5.out 4 _ rfl
    go_wp2_with fail
    refine (number_ok 8 q.o W5 (by omega)).mono ?_
    rintro e V5 ⟨u, rfl, hu, hb⟩
    have U := hid hu.reads
    have P := hid (own_below O5.out hb)
    have PB := hid (B5.out.trans (hb.mono (HZ.out _ B5.out)))
    clear hu hb O5 B5 e5
    go_wp2_with (at_builtin; go_must (refine wpList_cat rfl _ _ rfl (w.heap.size + 1) 18 8 _ _ (cat 10 (cat 2 (two q) (be 8 q.h)) (be 8 q.c)) (be 8 q.o) rfl P.out rfl U.out (by omega) (HZ.out _ PB.out) ?_))
    intro v6 W6 ho hg
    have O6 : Hid (By.Own W6 (w.heap.size + 1) v6 26 (cat 18 (cat 10 (cat 2 (two q) (be 8 q.h)) (be 8 q.c)) (be 8 q.o))) := ho
    have B6 := hid (below_grow PB.out (HZ.out _ PB.out) P.out hg)
    clear ho hg P PB U
    have e6 := CEL.out W6 B6.out 5 _ rfl
    go_wp2_with fail
    refine (number_nat 3 n W6 (by omega) (by omega)).mono ?_
    rintro e V6 ⟨u, rfl, hu, hb⟩
    have U := hid hu.reads
    have P := hid (own_below O6.out hb)
    have PB := hid (B6.out.trans (hb.mono (HZ.out _ B6.out)))
    clear hu hb O6 B6 e6
    go_wp2_with (at_builtin; go_must (refine wpList_cat rfl _ _ rfl (w.heap.size + 1) 26 3 _ _ (cat 18 (cat 10 (cat 2 (two q) (be 8 q.h)) (be 8 q.c)) (be 8 q.o)) (be 3 n) rfl P.out rfl U.out (by omega) (HZ.out _ PB.out) ?_))
    intro v7 W7 ho hg
    have O7 : Hid (By.Own W7 (w.heap.size + 1) v7 29 (cat 26 (cat 18 (cat 10 (cat 2 (two q) (be 8 q.h)) (be 8 q.c)) (be 8 q.o)) (be 3 n))) := ho
    have B7 := hid (below_grow PB.out (HZ.out _ PB.out) P.out hg)
    clear ho hg P PB U
    have e7 := CEL.out W7 B7.out 6 _ rfl
    go_wp2_with fail
    refine (number_nat 3 nm W7 (by omega) (by omega)).mono ?_
    rintro e V7 ⟨u, rfl, hu, hb⟩
    have U := hid hu.reads
    have P := hid (own_below O7.out hb)
    have PB := hid (B7.out.trans (hb.mono (HZ.out _ B7.out)))
    clear hu hb O7 B7 e7
    go_wp2_with (at_builtin; go_must (refine wpList_cat rfl _ _ rfl (w.heap.size + 1) 29 3 _ _ (cat 26 (cat 18 (cat 10 (cat 2 (two q) (be 8 q.h)) (be 8 q.c)) (be 8 q.o)) (be 3 n)) (be 3 nm) rfl P.out rfl U.out (by omega) (HZ.out _ PB.out) ?_))
    intro v8 W8 ho hg
    have O8 : Hid (By.Own W8 (w.heap.size + 1) v8 32 (cat 29 (cat 26 (cat 18 (cat 10 (cat 2 (two q) (be 8 q.h)) (be 8 q.c)) (be 8 q.o)) (be 3 n)) (be 3 nm))) := ho
    have B8 := hid (below_grow PB.out (HZ.out _ PB.out) P.out hg)
    clear ho hg P PB U
    have e8 := CEL.out W8 B8.out 5 _ rfl
    have X8 := hid (H1.out.below (below_next BW.out (by rw [z1]; exact B8.out)))
    go_wp2_with (at_builtin; go_must (refine wpList_cat rfl _ _ rfl (w.heap.size + 1) 32 n _ _ (hdb q n nm) f rfl O8.out rfl X8.out (by omega) (HZ.out _ B8.out) ?_))
    intro v9 W9 ho hg
    have O9 : Hid (By.Own W9 (w.heap.size + 1) v9 (32 + n) (cat 32 (hdb q n nm) f)) := ho
    have B9 := hid (below_grow B8.out (HZ.out _ B8.out) O8.out hg)
    clear ho hg O8 B8 e8 X8
    have e9 := CEL.out W9 B9.out 6 _ rfl
    have X9 := hid (H2.out.below (below_next BW.out (by rw [z1]; exact B9.out)))
    go_wp2_with (at_builtin; go_must (refine wpList_cat rfl _ _ rfl (w.heap.size + 1) (32 + n) nm _ _ (cat 32 (hdb q n nm) f) g rfl O9.out rfl X9.out (by omega) (HZ.out _ B9.out) ?_))
    intro v10 W10 ho hg
    have O10 : Hid (By.Own W10 (w.heap.size + 1) v10 (32 + n + nm) (en q n f nm g)) := ho
    have B10 := hid (below_grow B9.out (HZ.out _ B9.out) O9.out hg)
    clear ho hg O9 B9 e9 X9
    go_wp2
    go_ret2
    rw [E1.out.1, E1.out.2]
    exact ⟨_, rfl, own_base O10.out (Nat.le_succ _), below_next BW.out (by rw [z1]; exact B10.out)⟩
end Go.Proofs.Ytnadpglfliiplaa.Ou
