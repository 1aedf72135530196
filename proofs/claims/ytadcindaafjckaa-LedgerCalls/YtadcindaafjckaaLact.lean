/- One call of a pair of ledgers: what the statement's helper act leaves, whatever the call is; the calls that record. -/
import Derived.Test.YtadcindaafjckaaLpair
import Derived.Test.YtadcindaafjckaaLsince
namespace Go.Proofs.Ytadcindaafjckaa
open Go.ChangeShapes Go.WideShapes Go.ChangeAt Go.RowKit
/-- The pair's blocks, all of them. -/
def PS (pb b rb : Nat) (rv rrv tv wv : Value) : Nat → Prop := fun q => DS b rb rv rrv q ∨ TS pb tv wv q
/-- What an act leaves. -/
def ActP (w w' : World) (base pb b rb : Nat) (rv rrv tv wv : Value) (L : List Rn) (n : Nat) (T V : List Value) : Prop :=
  ∃ rv' rrv' tv' wv' L' n' T' V', Duo w' b rb rv' rrv' L' ∧ Tw w' base pb b rb tv' wv' n' n' T' V' ∧ Kp (PS pb b rb rv rrv tv wv) w w' ∧
    (SameOrNew w rv rv' ∧ SameOrNew w rrv rrv' ∧ SameOrNew w tv tv' ∧ SameOrNew w wv wv') ∧ L'.length ≤ L.length + 1 ∧ (tot L' ≤ tot L + 1 ∨ tot L' ≤ 4611686018427387504) ∧
    ((n' = n ∧ T' = T ∧ V' = V) ∨ (n' = n + 1 ∧ rv' = rv ∧ rrv' = rrv ∧ ∃ x y F, T' = T ++ [x] ∧ V' = V ++ [y] ∧ Own w' w.heap.size x F ∧ Own w' w.heap.size y F ∧ F.length ≤ L.length))
theorem ds_ts {W : World} {base pb b rb n m : Nat} {rv rrv tv wv : Value} {L : List Rn} {T V : List Value} (hd : Duo W b rb rv rrv L) (ht : Tw W base pb b rb tv wv n m T V) : ∀ q, TS pb tv wv q → ¬ DS b rb rv rrv q := by
  have key : ∀ q cs t fr, W.heap[q]? = some (.cells cs t fr) → (t = 31 ∨ t = 32) → ¬ DS b rb rv rrv q := by
    intro q cs t fr hq htt
    rintro (rfl | e | rfl | e)
    · rw [hd.led.here] at hq; simp at hq; rcases htt with rfl | rfl <;> simp at hq
    · obtain ⟨cs', fr', k⟩ := own_here hd.led.own e
      rw [hq] at k; simp at k; rcases htt with rfl | rfl <;> simp at k
    · rw [hd.ref.here] at hq; simp at hq; rcases htt with rfl | rfl <;> simp at hq
    · obtain ⟨cs', fr', k⟩ := own_here hd.ref.own e
      rw [hq] at k; simp at k; rcases htt with rfl | rfl <;> simp at k
  rintro q (rfl | e | e)
  · exact key _ _ _ _ ht.pr (.inl rfl)
  · obtain ⟨cs, fr, k⟩ := row_here ht.rt e
    exact key _ _ _ _ k (.inr rfl)
  · obtain ⟨cs, fr, k⟩ := row_here ht.rw_ e
    exact key _ _ _ _ k (.inr rfl)
theorem same_refl (w : World) (v : Value) : SameOrNew w v v := .inl rfl
/-- Behind a call that records in both. -/
theorem actP_noted {w w0 w' : World} {base pb b rb n : Nat} {rv rrv rv' rrv' tv wv : Value} {L L' : List Rn} {T V : List Value} (hw : Below w.heap.size w w0) (hd : Duo w b rb rv rrv L) (ht : Tw w base pb b rb tv wv n n T V)
    (h : Duo w' b rb rv' rrv' L' ∧ Kp (DS b rb rv rrv) w0 w' ∧ SameOrNew w0 rv rv' ∧ SameOrNew w0 rrv rrv') (hl : L'.length ≤ L.length + 1) (hb : tot L' ≤ tot L + 1 ∨ tot L' ≤ 4611686018427387504) : ActP w w' base pb b rb rv rrv tv wv L n T V := by
  obtain ⟨h1, h2, h3, h4⟩ := h
  have hsz := hw.size
  have k : Kp (DS b rb rv rrv) w w' := (Kp.of_below _ hw).trans h2 (fun _ _ e => e)
  exact ⟨rv', rrv', tv, wv, L', n, T, V, h1, ht.kept k (ds_ts hd ht), k.mono (fun _ _ e => .inl e), ⟨same_below h3 hsz, same_below h4 hsz, same_refl _ _, same_refl _ _⟩, hl, hb, .inl ⟨rfl, rfl, rfl⟩⟩
/-- Behind a call that only makes memory. -/
theorem actP_below {w w' : World} {base pb b rb n : Nat} {rv rrv tv wv : Value} {L : List Rn} {T V : List Value} (hw : Below w.heap.size w w') (hd : Duo w b rb rv rrv L) (ht : Tw w base pb b rb tv wv n n T V) : ActP w w' base pb b rb rv rrv tv wv L n T V :=
  ⟨rv, rrv, tv, wv, L, n, T, V, hd.below hw, ht.below hw, Kp.of_below _ hw, ⟨same_refl _ _, same_refl _ _, same_refl _ _, same_refl _ _⟩, Nat.le_succ _, .inl (by omega), .inl ⟨rfl, rfl, rfl⟩⟩
/-- Behind a call that tells runs. -/
theorem actP_told {w w0 w' : World} {base pb b rb n : Nat} {rv rrv tv wv tv' wv' x y : Value} {L F : List Rn} {T V : List Value} (hw : Below w.heap.size w w0) (hd : Duo w b rb rv rrv L) (ht : Tw w base pb b rb tv wv n n T V)
    (hx : Own w0 w.heap.size x F) (hy : Own w0 w.heap.size y F) (hF : F.length ≤ L.length)
    (h : Tw w' base pb b rb tv' wv' (n + 1) (n + 1) (T ++ [x]) (V ++ [y]) ∧ Kp (TS pb tv wv) w0 w' ∧ SameOrNew w0 tv tv' ∧ SameOrNew w0 wv wv') : ActP w w' base pb b rb rv rrv tv wv L n T V := by
  obtain ⟨h1, h2, h3, h4⟩ := h
  have hsz := hw.size
  have ht0 := ht.below hw
  have k : Kp (TS pb tv wv) w w' := (Kp.of_below _ hw).trans h2 (fun _ _ e => e)
  exact ⟨rv, rrv, tv', wv', L, n + 1, T ++ [x], V ++ [y], hd.kept k (fun j hj e => ds_ts hd ht j e hj), h1, k.mono (fun _ _ e => .inr e), ⟨same_refl _ _, same_refl _ _, same_below h3 hsz, same_below h4 hsz⟩, Nat.le_succ _, .inl (by omega),
    .inr ⟨rfl, rfl, rfl, x, y, F, rfl, rfl, hx.kept h2 (ht0.runs hx), hy.kept h2 (ht0.runs hy), hF⟩⟩
/-- The act, in a block of its own. -/
def ABox (W : World) (A : Nat) (on c k s n : Int) : Prop := W.heap[A]? = some (.cells #[.int .i64 on, .int .i64 c, .int .u8 k, .int .i64 s, .int .i64 n] 41 (0, 0))
theorem ABox.lt {W : World} {A : Nat} {on c k s n : Int} (h : ABox W A on c k s n) : A < W.heap.size := (Array.getElem?_eq_some_iff.1 h).1
theorem ABox.cells {W : World} {A : Nat} {on c k s n : Int} (h : ABox W A on c k s n) : W.cell? ⟨A, 1, none⟩ = some (.int .i64 c) ∧ W.cell? ⟨A, 2, none⟩ = some (.int .u8 k) ∧ W.cell? ⟨A, 3, none⟩ = some (.int .i64 s) ∧ W.cell? ⟨A, 4, none⟩ = some (.int .i64 n) := by
  refine ⟨?_, ?_, ?_, ?_⟩
  · rw [cell_of_row W A 1 _ 41 (0, 0) h]; rfl
  · rw [cell_of_row W A 2 _ 41 (0, 0) h]; rfl
  · rw [cell_of_row W A 3 _ 41 (0, 0) h]; rfl
  · rw [cell_of_row W A 4 _ 41 (0, 0) h]; rfl
theorem ABox.kept {W W' : World} {A : Nat} {on c k s n : Int} {S : Nat → Prop} (h : ABox W A on c k s n) (hk : Kp S W W') (hn : ¬ S A) : ABox W' A on c k s n := (hk.block A h.lt hn).trans h
theorem kp_undrew {S : Nat → Prop} {a b : World} (h : Kp S a.drew b) : Kp S a b := ⟨h.os, h.tape, h.output, h.size, h.block⟩
/-- Where the act's box and the pair lie behind a recording. -/
structure AS (w W : World) (pb b rb : Nat) (tv wv : Value) (on c k s n : Int) : Prop where
  box : ABox W w.heap.size on c k s n
  pr : Pr W pb b rb tv wv
theorem AS.start (w : World) {pb b rb : Nat} {tv wv : Value} (on c k s n : Int) (h : Pr w pb b rb tv wv) : AS w (w.alloc (.cells #[.int .i64 on, .int .i64 c, .int .u8 k, .int .i64 s, .int .i64 n] 41)) pb b rb tv wv on c k s n := ⟨heap_alloc_new w _, h.below (below_alloc _ _)⟩
theorem AS.kept {w W W' : World} {pb b rb : Nat} {tv wv : Value} {on c k s n : Int} {S : Nat → Prop} (h : AS w W pb b rb tv wv on c k s n) (hk : Kp S W W') (h1 : ¬ S w.heap.size) (h2 : ¬ S pb) : AS w W' pb b rb tv wv on c k s n := ⟨h.box.kept hk h1, h.pr.kept hk h2⟩
theorem AS.below {w W W' : World} {pb b rb : Nat} {tv wv : Value} {on c k s n : Int} (h : AS w W pb b rb tv wv on c k s n) (hb : Below W.heap.size W W') : AS w W' pb b rb tv wv on c k s n := h.kept (Kp.of_below (fun _ => False) hb) id id

set_option maxRecDepth 100000 in
set_option maxHeartbeats 1200000 in
theorem act0 (base pb b rb n : Nat) (rv rrv tv wv : Value) (L : List Rn) (T V : List Value) (on k s nn : Int) (w : World) (hd : Duo w b rb rv rrv L) (ht : Tw w base pb b rb tv wv n n T V) (hr : (⟨k, s, 1⟩ : Rn).Ok) (hL : L.length ≤ 1000) (htot : tot L ≤ 4611686018427388000) :
    Calls Try.prog 9 #[.pointer (some ⟨pb, 0, none⟩), .agg #[.int .i64 on, .int .i64 0, .int .u8 k, .int .i64 s, .int .i64 nn]] w fun e w' => e = .returned (.bool true) ∧ ActP w w' base pb b rb rv rrv tv wv L n T V := by
  have HD := hid hd
  have HT := hid ht
  have HR := hid hr
  have B0 := hid (below_alloc w (.cells #[.int .i64 on, .int .i64 0, .int .u8 k, .int .i64 s, .int .i64 nn] 41)).drew
  have A0 := hid ((AS.start w on 0 k s nn ht.pr).below (Below.refl _ _).drew)
  have D0 := hid (hd.below B0.out)
  have hlt := hid hd.lt
  have hnt := hid (ds_ts hd ht pb (.inl rfl))
  have hpl := ht.pr.lt
  obtain ⟨c0, c1, c2, c3⟩ := ht.pr.cells
  have h1 : Hid (tot L + 1 ≤ 9223372036854775807) := by show _ ≤ _; omega
  have h2 : Hid ((L.length + 1) * 24 ≤ 140737488355328) := by show _ ≤ _; omega
  have hp0 := hid (tot_put (r := ⟨k, s, 1⟩) hd.led.pos (by show (1 : Int) ≤ 1; omega) h1.out)
  clear hd ht hr
  go_enter Try.func9, Try.ntmps9
  go_wp2
  go_region_held3 (fun w' => w'.cell? ⟨pb, 0, none⟩ = some (.pointer (some ⟨b, 0, none⟩)) ∧ w'.cell? ⟨pb, 1, none⟩ = some (.pointer (some ⟨rb, 0, none⟩)) ∧ w'.cell? ⟨w.heap.size, 2, none⟩ = some (.int .u8 k) ∧ w'.cell? ⟨w.heap.size, 3, none⟩ = some (.int .i64 s) ∧ w'.cell? ⟨w.heap.size, 4, none⟩ = some (.int .i64 nn)) (go_keep) (first | (go_at_call 12; go_must (refine (note16 b rv L k s _ D0.out.led HR.out h1.out h2.out).mono ?_; rintro e w1 ⟨rfl, rv1, hl1, hk1, hs1⟩; have A1 := hid (A0.out.kept hk1 (by rintro (e | e); have := hlt.out _ (.inl e); omega; have := hlt.out _ (.inr (.inl e)); omega) (by rintro (e | e); exact hnt.out (.inl e); exact hnt.out (.inr (.inl e)))); have F1 := hid (D0.out.first hl1 hk1 hs1); have L1 := hid hl1; have K1 := hid hk1; have S1 := hid hs1; obtain ⟨x1, x2, x3, x4⟩ := A1.out.box.cells; obtain ⟨y1, y2, y3, y4⟩ := A1.out.pr.cells; clear hl1 hk1 hs1)))
  all_goals go_wp2
  all_goals go_region_held3 (fun w' => w'.cell? ⟨pb, 0, none⟩ = some (.pointer (some ⟨b, 0, none⟩)) ∧ w'.cell? ⟨pb, 1, none⟩ = some (.pointer (some ⟨rb, 0, none⟩)) ∧ w'.cell? ⟨w.heap.size, 2, none⟩ = some (.int .u8 k) ∧ w'.cell? ⟨w.heap.size, 3, none⟩ = some (.int .i64 s) ∧ w'.cell? ⟨w.heap.size, 4, none⟩ = some (.int .i64 nn)) (go_keep) (first | (go_at_call 18; go_must (refine (refNote42 rb rrv L k s _ (F1.out.1.below (Below.refl _ _).drew) HR.out h1.out h2.out).mono ?_; rintro e w2 ⟨rfl, rv2, hl2, hk2, hs2⟩; have A2 := hid (A1.out.kept (kp_undrew hk2) (by rintro (e | e); have := hlt.out _ (.inr (.inr (.inl e))); omega; have := hlt.out _ (.inr (.inr (.inr e))); omega) (by rintro (e | e); exact hnt.out (.inr (.inr (.inl e))); exact hnt.out (.inr (.inr (.inr e))))); obtain ⟨x1, x2, x3, x4⟩ := A2.out.box.cells; obtain ⟨y1, y2, y3, y4⟩ := A2.out.pr.cells; have R2 := hid (D0.out.both L1.out K1.out S1.out hl2 (kp_undrew hk2) hs2); clear hl2 hk2 hs2)))
  all_goals go_wp2
  all_goals go_ret
  all_goals exact ⟨rfl, actP_noted B0.out HD.out HT.out R2.out putL_len.1 (.inl (by rw [hp0.out]; exact Int.le_refl _))⟩
end Go.Proofs.Ytadcindaafjckaa
