/- The statements' closed trial 'lives' answers true of the program; nothing that was there is turned. -/
import Derived.Test.YtadcindaafjckaaRsince
namespace Go.Proofs.Ytadcindaafjckaa
open Go.ChangeShapes Go.WideShapes Go.ChangeAt Go.RowKit

/-- An event lies in block A. -/
def Box (w : World) (A : Nat) (k s : Int) : Prop := w.heap[A]? = some (.cells #[.int .u8 k, .int .i64 s] 39 (0, 0))
theorem Box.lt {w : World} {A : Nat} {k s : Int} (h : Box w A k s) : A < w.heap.size := (Array.getElem?_eq_some_iff.1 h).1
theorem Box.c0 {w : World} {A : Nat} {k s : Int} (h : Box w A k s) : w.cell? ⟨A, 0, none⟩ = some (.int .u8 k) := by rw [cell_of_row w A 0 _ 39 (0, 0) h]; rfl
theorem Box.c1 {w : World} {A : Nat} {k s : Int} (h : Box w A k s) : w.cell? ⟨A, 1, none⟩ = some (.int .i64 s) := by rw [cell_of_row w A 1 _ 39 (0, 0) h]; rfl
theorem Box.kept {w w' : World} {A : Nat} {k s : Int} {S : Nat → Prop} (h : Box w A k s) (hk : Kp S w w') (hn : ¬ S A) : Box w' A k s := (hk.block A h.lt hn).trans h

/-- Two events in boxes and a ledger behind them. -/
structure St (w W : World) (rv : Value) (L : List Rn) : Prop where
  led : Led W (w.heap.size + 2) rv L
  a : Box W w.heap.size 5 16
  b : Box W (w.heap.size + 1) 8 8
  far : ∀ g, rv.ownBlock = some g → w.heap.size + 2 < g
  bel : Below w.heap.size w W
theorem St.below {w W W' : World} {rv : Value} {L : List Rn} (h : St w W rv L) (hb : Below W.heap.size W W') : St w W' rv L :=
  ⟨h.led.below hb, h.a.kept (Kp.of_below (fun _ => False) hb) id, h.b.kept (Kp.of_below (fun _ => False) hb) id, h.far, h.bel.trans (hb.mono h.bel.size)⟩
theorem St.noted {w W W' : World} {rv rv' : Value} {L L' : List Rn} (h : St w W rv L) (hl : Led W' (w.heap.size + 2) rv' L') (hk : Kp (fun j => j = w.heap.size + 2 ∨ rv.ownBlock = some j) W W') (hs : SameOrNew W rv rv') : St w W' rv' L' := by
  have hlt := h.led.lt
  refine ⟨hl, h.a.kept hk ?_, h.b.kept hk ?_, ?_, h.bel.trans (hk.below h.bel.size ?_)⟩
  · rintro (e | e)
    · omega
    · have := h.far _ e; omega
  · rintro (e | e)
    · omega
    · have := h.far _ e; omega
  · intro g hg
    rcases hs with hs | hs
    · exact h.far g (hs ▸ hg)
    · have := hs g hg; omega
  · rintro k hk' (e | e)
    · omega
    · have := h.far _ e; omega
theorem St.start {w W : World} (hl : Led W (w.heap.size + 2) (.slice none 0 0) []) (hb : Below (w.heap.size + 2) ((w.alloc (.cells #[.int .u8 5, .int .i64 16] 39)).alloc (.cells #[.int .u8 8, .int .i64 8] 39)) W) : St w W (.slice none 0 0) [] := by
  refine ⟨hl, ?_, ?_, fun g hg => by simp [Value.ownBlock] at hg, ?_⟩
  · show W.heap[w.heap.size]? = _
    rw [hb.block w.heap.size (by omega), Below.heap_alloc _ _ _ (by simp), heap_alloc_new]
  · show W.heap[w.heap.size + 1]? = _
    rw [hb.block (w.heap.size + 1) (by omega)]
    have := heap_alloc_new (w.alloc (.cells #[.int .u8 5, .int .i64 16] 39)) (.cells #[.int .u8 8, .int .i64 8] 39)
    simpa using this
  · exact (below_next (below_alloc w _) (below_alloc _ _)).trans (hb.mono (by omega))
theorem St.free {w W : World} {rv : Value} {L : List Rn} (h : St w W rv L) : W.cell? ⟨w.heap.size, 0, none⟩ = some (.int .u8 5) ∧ W.cell? ⟨w.heap.size, 1, none⟩ = some (.int .i64 16) ∧ W.cell? ⟨w.heap.size + 1, 0, none⟩ = some (.int .u8 8) ∧ W.cell? ⟨w.heap.size + 1, 1, none⟩ = some (.int .i64 8) := ⟨h.a.c0, h.a.c1, h.b.c0, h.b.c1⟩
theorem ok_a (c : Int) (h : -9223372036854775808 ≤ c ∧ c ≤ 9223372036854775807) : (⟨5, 16, c⟩ : Rn).Ok := ⟨⟨by simp, by simp⟩, ⟨by simp, by simp⟩, h⟩
theorem ok_b (c : Int) (h : -9223372036854775808 ≤ c ∧ c ≤ 9223372036854775807) : (⟨8, 8, c⟩ : Rn).Ok := ⟨⟨by simp, by simp⟩, ⟨by simp, by simp⟩, h⟩

/-- A literal list of runs. -/
theorem rb_lit (w : World) (g n : Nat) (L : List Rn) (cs : Array Value) (hg : g = w.heap.size) (hn : L.length = n) (hL : ∀ r ∈ L, r.Ok) (hc : cs.toList = rl L) (hm : n ≤ 1000) : RB (w.alloc (.cells cs 51)) (.slice (some ⟨g, 0, none⟩) n n) L := by
  subst hg hn
  exact (own_lit w L cs hL hc (by simp [maxLen]; omega)).reads
theorem runsSt {w W : World} {rv : Value} {L : List Rn} {b : Nat} (h : St w W rv L) (hb : b = w.heap.size + 2) (hn : L.length * 24 ≤ 140737488355328) : Calls Try.prog 15 #[.pointer (some ⟨b, 0, none⟩)] W fun e w' => ∃ v, e = .returned v ∧ St w w' rv L ∧ RB w' v L ∧ ∀ v' L', RB W v' L' → RB w' v' L' := by
  subst hb
  refine (runs22 _ rv _ _ h.led hn).mono ?_
  rintro e w5 ⟨v5, rfl, ho5, hb5⟩
  exact ⟨v5, rfl, h.below hb5, ho5.reads, fun v' L' h' => h'.below hb5⟩
theorem sinceSt {w W : World} {rv : Value} {L M : List Rn} {b : Nat} (m : Int) (n : Nat) (hM : sinceL L m = M) (hnn : M.length = n) (h : St w W rv L) (hb : b = w.heap.size + 2) (hn : L.length * 24 ≤ 140737488355328) (hm : -9223372036854775808 ≤ m ∧ m ≤ 9223372036854775807) : Calls Try.prog 22 #[.pointer (some ⟨b, 0, none⟩), .int .i64 m] W fun e w' => ∃ a cap, e = .returned (.slice a n cap) ∧ St w w' rv L ∧ RB w' (.slice a n cap) M ∧ ∀ v' L', RB W v' L' → RB w' v' L' := by
  subst hb
  refine (since23 _ rv _ m _ h.led hn hm).mono ?_
  rintro e w5 ⟨v5, rfl, ho5, hb5⟩
  rw [hM] at ho5
  obtain ⟨a, cap, e⟩ := ho5.reads.isSlice
  rw [hnn] at e
  subst e
  exact ⟨a, cap, rfl, h.below hb5, ho5.reads, fun v' L' h' => h'.below hb5⟩
theorem St.drew {w W : World} {rv : Value} {L : List Rn} (h : St w W rv L) : St w W.drew rv L := h.below (Below.refl _ _).drew
theorem St.alloc {w W : World} {rv : Value} {L : List Rn} (h : St w W rv L) (o : Obj) : St w (W.alloc o) rv L := h.below (below_alloc _ _)
theorem RB.alloc {w : World} {v : Value} {L : List Rn} (h : RB w v L) (o : Obj) : RB (w.alloc o) v L := h.below (below_alloc _ _)
theorem RB.drew {w : World} {v : Value} {L : List Rn} (h : RB w v L) : RB w.drew v L := h
theorem sameSt {w W : World} {rv : Value} {K : List Rn} (h : St w W rv K) {v v' : Value} {L : List Rn} (hv : RB W v L) (hv' : RB W v' L) (hL : L.length < 1000000000000000000) : Calls Try.prog 10 #[v, v'] W fun e w' => e = .returned (.bool true) ∧ St w w' rv K := by
  refine (same14 _ _ L L _ hv hv' hL hL).mono ?_
  rintro e w5 ⟨rfl, d, rfl⟩
  exact ⟨by simp, h.below (below_drewN _ _)⟩

set_option maxRecDepth 100000 in
set_option maxHeartbeats 1200000 in
theorem lives8 (w : World) : Calls Try.prog 4 #[] w fun e w' => e = .returned (.bool true) ∧ Below w.heap.size w w' := by
  go_enter Try.func4, Try.ntmps4
  go_wp2_with fail
  refine (new9 _).mono ?_
  rintro e w1 ⟨rfl, hl, hb⟩
  have S1 : Hid (St w w1 (.slice none 0 0) []) := St.start (by simpa using hl) (by simpa using hb)
  clear hl hb
  obtain ⟨a0, a1, b0, b1⟩ := S1.out.free
  go_wp2_with fail
  refine (note16 _ _ _ _ _ _ S1.out.led (ok_a 1 (by omega)) (by decide +kernel) (by simp)).mono ?_
  rintro e w2 ⟨rfl, r2, hl, hk, hs⟩
  have S2 : Hid (St w w2 r2 [⟨5, 16, 1⟩]) := S1.out.noted hl hk hs
  clear hl hk hs a0 a1 b0 b1 S1
  obtain ⟨a0, a1, b0, b1⟩ := S2.out.free
  go_wp2_with fail
  refine (noteTimes17 _ _ _ _ _ _ _ S2.out.led (ok_a 2 (by omega)) (by omega) (by decide +kernel) (by simp)).mono ?_
  rintro e w3 ⟨rfl, r3, hl, hk, hs⟩
  have S3 : Hid (St w w3 r3 [⟨5, 16, 3⟩]) := S2.out.noted hl hk hs
  clear hl hk hs a0 a1 b0 b1 S2
  obtain ⟨a0, a1, b0, b1⟩ := S3.out.free
  go_wp2_with fail
  refine (note16 _ _ _ _ _ _ S3.out.led (ok_b 1 (by omega)) (by decide +kernel) (by simp)).mono ?_
  rintro e w4 ⟨rfl, r4, hl, hk, hs⟩
  have S4 : Hid (St w w4 r4 [⟨5, 16, 3⟩, ⟨8, 8, 1⟩]) := S3.out.noted hl hk hs
  clear hl hk hs a0 a1 b0 b1 S3
  obtain ⟨a0, a1, b0, b1⟩ := S4.out.free
  have S4d := hid (S4.out.below (Below.refl _ _).drew)
  have hok : Hid (∀ r ∈ ([⟨5, 16, 3⟩, ⟨8, 8, 1⟩] : List Rn), r.Ok) := S4.out.led.own.1
  have S4a : Hid (St w (w4.alloc (.cells #[.int .u8 5, .int .i64 16, .int .i64 3, .int .u8 8, .int .i64 8, .int .i64 1] 51)).drew r4 [⟨5, 16, 3⟩, ⟨8, 8, 1⟩]) := (S4.out.below (below_alloc _ _)).below (Below.refl _ _).drew
  have RLa : Hid (RB (w4.alloc (.cells #[.int .u8 5, .int .i64 16, .int .i64 3, .int .u8 8, .int .i64 8, .int .i64 1] 51)).drew (.slice (some ⟨w4.heap.size, 0, none⟩) 2 2) [⟨5, 16, 3⟩, ⟨8, 8, 1⟩]) := rb_lit _ _ 2 [⟨5, 16, 3⟩, ⟨8, 8, 1⟩] #[.int .u8 5, .int .i64 16, .int .i64 3, .int .u8 8, .int .i64 8, .int .i64 1] rfl rfl hok.out rfl (by omega)
  go_wp2
  go_region_held3 (fun w' => w'.cell? ⟨w.heap.size, 0, none⟩ = some (.int .u8 5) ∧ w'.cell? ⟨w.heap.size, 1, none⟩ = some (.int .i64 16) ∧ w'.cell? ⟨w.heap.size + 1, 0, none⟩ = some (.int .u8 8) ∧ w'.cell? ⟨w.heap.size + 1, 1, none⟩ = some (.int .i64 8)) (go_keep) (first
    | (go_at_call 14; go_must (refine (len20 _ r4 _ _ S4d.out.led).mono ?_; rintro e w5 ⟨rfl, rfl⟩))
    | (go_at_call 15; go_must ((first
        | (with_reducible refine (runsSt S4d.out rfl (by simp)).mono ?_; rintro e w5 ⟨v5, rfl, S5, O5, K5⟩; obtain ⟨p0, p1, q0, q1⟩ := S5.free; have S5 := hid S5; have O5 := hid O5)
        | (with_reducible refine (runsSt S4a.out rfl (by simp)).mono ?_; rintro e w5 ⟨v5, rfl, S5, O5, K5⟩; obtain ⟨p0, p1, q0, q1⟩ := S5.free; have S5 := hid S5; have O5 := hid O5; have RL := hid (K5 _ _ RLa.out))); clear K5))
    | (go_at_call 10; go_must ((first
        | with_reducible refine (sameSt S5.out O5.out RL.out (by simp)).mono ?_
        | with_reducible refine (sameSt (S5.out.below (below_alloc _ _)) (O5.out.below (below_alloc _ _)) (rb_lit _ _ 2 [⟨5, 16, 3⟩, ⟨8, 8, 1⟩] #[.int .u8 5, .int .i64 16, .int .i64 3, .int .u8 8, .int .i64 8, .int .i64 1] rfl rfl hok.out rfl (by omega)) (by simp)).mono ?_); rintro e w6 ⟨rfl, S6⟩; obtain ⟨p0, p1, q0, q1⟩ := S6.free; have S6 := hid S6))
    | (go_at_call 16; go_must (refine (count24 _ r4 _ _ _ S6.out.led (by simp)).mono ?_; rintro e w7 ⟨rfl, hb7⟩; have S7 := S6.out.below hb7; obtain ⟨p0, p1, q0, q1⟩ := S7.free; have S7 := hid S7; clear hb7)))
  all_goals go_wp2
  all_goals go_ret
  all_goals exact ⟨rfl, S7.out.bel⟩
end Go.Proofs.Ytadcindaafjckaa
