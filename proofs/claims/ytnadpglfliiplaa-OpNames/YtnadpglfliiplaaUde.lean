/- Decode and Next of the program. -/
import Derived.Test.YtnadpglfliiplaaUdc
namespace Go.Proofs.Ytnadpglfliiplaa.Ou
open Go.ChangeShapes Go.WideShapes Go.ChangeAt Go.RowKit
open Go.Proofs.Ytnadpglfliiplaa.By
open Go.Proofs.Ytnadpglfliiplaa.Tb (Blk Blk.newAt)
/-- How many bytes the operation has with which f begins. -/
def zl (f : Nat → Int) : Nat := 32 + dl f + ml f
/-- What is told, by whether there is an operation. -/
def dq (t : Bool) (f : Nat → Int) : Nu := if t then nu f else ⟨0, 0, 0, 0, 0⟩
def dN (t : Bool) (f : Nat → Int) : Nat := if t then dl f else 0
def dM (t : Bool) (f : Nat → Int) : Nat := if t then ml f else 0
def dE (t : Bool) : Int := if t then 0 else 300
def dK (t : Bool) (f : Nat → Int) : Nat := if t then zl f else 0
/-- An operation that is told. -/
def Told (w w' : World) (t : Bool) (f : Nat → Int) (d m : Value) : Prop :=
  By.Own w' w.heap.size d (dN t f) (sh 32 f) ∧ By.Own w' w.heap.size m (dM t f) (sh (32 + dl f) f) ∧ (d.ownBlock = none ∨ d.ownBlock ≠ m.ownBlock) ∧ Below w.heap.size w w'
theorem rb_some {w : World} {v : Value} {n : Nat} {f : Nat → Int} (h : By.RB w v n f) (hn : 0 < n) : ∃ b off cap, v = .slice (some ⟨b, off, none⟩) n cap := by
  obtain ⟨_, a, c, rfl, _, _, hc⟩ := h
  rcases hc with ⟨e, _⟩ | ⟨b, off, rfl, _⟩
  · omega
  · exact ⟨b, off, c, rfl⟩
theorem rb_sl {w : World} {v : Value} {n : Nat} {f : Nat → Int} (h : By.RB w v n f) : ∃ a cap, v = .slice a n cap := by
  obtain ⟨_, a, c, rfl, _⟩ := h; exact ⟨a, c, rfl⟩
set_option maxRecDepth 4000 in
set_option maxHeartbeats 400000 in
theorem size_ok (v : Value) (n : Nat) (f : Nat → Int) (w : World) (hr : By.RB w v n f) (hn : n ≤ 4611686018427387904) :
    Calls Try.prog 43 #[v] w fun e w' => ∃ z : Nat, e = .returned (.tuple #[.int .i64 z, .bool (decide (zl f ≤ n))]) ∧ (zl f ≤ n → z = zl f) ∧ ∃ d, w' = w.drewN d := by
  by_cases h : n < 32
  · have E : Hid (decide (zl f ≤ n) = false ∧ ¬ zl f ≤ n) := ⟨by unfold zl; simp; omega, by unfold zl; omega⟩
    obtain ⟨a, c, rfl⟩ := rb_sl hr
    have g1 : (n : Int) < 32 := by omega
    clear hr h
    go_enter Try.func43, Try.ntmps43
    go_wp2
    go_ret2
    exact ⟨0, by rw [E.out.1]; rfl, fun h => absurd h E.out.2, 0, rfl⟩
  · obtain ⟨b, off, c, rfl⟩ := rb_some hr (by omega)
    have hl := lengths_ok b off n c f w hr (by omega)
    have g1 : ¬ (n : Int) < 32 := by omega
    have x1 := (dl_lt hr.1).1
    have y1 := (ml_lt hr.1).1
    obtain ⟨x, hx⟩ : ∃ x, dl f = x := ⟨_, rfl⟩
    obtain ⟨y, hy⟩ : ∃ y, ml f = y := ⟨_, rfl⟩
    have E : Hid (decide (zl f ≤ n) = decide ((32 : Int) + x + y ≤ n) ∧ zl f = 32 + x + y) := ⟨by unfold zl; rw [hx, hy]; congr 1; apply propext; omega, by unfold zl; rw [hx, hy]⟩
    rw [hx] at x1 hl
    rw [hy] at y1 hl
    have HL := hid hl
    clear hl hr h hx hy
    go_enter Try.func43, Try.ntmps43
    go_wp2_with fail
    refine HL.out.mono ?_
    rintro e W ⟨rfl, rfl⟩
    go_wp2
    go_ret2
    exact ⟨32 + x + y, by rw [E.out.1]; rfl, fun _ => E.out.2.symm, 1, rfl⟩
/-- The zero operation. -/
abbrev zA : Array Value := #[Value.int IntKind.u8 0, Value.int IntKind.i64 0, Value.int IntKind.u8 0, Value.int IntKind.i64 0, Value.int IntKind.i64 0, Value.slice none 0 0, Value.slice none 0 0]
theorem zero_end {w W0 W : World} (f : Nat → Int) (hf : ∀ i, 0 ≤ f i ∧ f i < 256) (hB : Blk W0 w.heap.size zA.toList 26) (hb : Below w.heap.size w W0) (dn : Nat) (hW : W = W0.drewN dn) :
    ∃ W', (SVo ⟨w.heap.size, 0, none⟩ (.agg zA)).run Try.prog W = .ok () W' ∧ (LDo ⟨w.heap.size, 0, none⟩).run Try.prog W' = .ok (.agg zA) W' ∧ Told w W' false f (.slice none 0 0) (.slice none 0 0) := by
  subst hW
  obtain ⟨W', hs, hB', hk⟩ := SVo_run (hB.drewN dn) rfl (q := ⟨0, 0, 0, 0, 0⟩) (d := .slice none 0 0) (m := .slice none 0 0) rfl rfl
  refine ⟨W', hs, LDo_run hB', own_nil _ _ _ (sh_bound hf _), own_nil _ _ _ (sh_bound hf _), .inl rfl, ?_⟩
  exact (Below.drewN' hb dn).trans (hk.below (Below.drewN' hb dn).size (fun j hj => Nat.ne_of_lt hj))
theorem read_end {w W0 W V : World} {f : Nat → Int} {d m : Value} (hB : Blk W0 w.heap.size zA.toList 26) (hb : Below w.heap.size w W0) (dn : Nat) (hW : W = W0.drewN dn) (hz : w.heap.size < W0.heap.size)
    (o1 : By.Own V W.heap.size d (dl f) (sh 32 f)) (o2 : By.Own V W.heap.size m (ml f) (sh (32 + dl f) f)) (h12 : d.ownBlock = none ∨ d.ownBlock ≠ m.ownBlock) (hv : Below W.heap.size W V) (h1 : d.oneCell' = true) (h2 : m.oneCell' = true) :
    ∃ W', (SVo ⟨w.heap.size, 0, none⟩ (ov (nu f) d m)).run Try.prog V = .ok () W' ∧ (LDo ⟨w.heap.size, 0, none⟩).run Try.prog W' = .ok (ov (nu f) d m) W' ∧ Told w W' true f d m := by
  subst hW
  have e : (W0.drewN dn).heap.size = W0.heap.size := rfl
  have hv' : Below w.heap.size w V := below_next (Below.drewN' hb dn) hv
  obtain ⟨W', hs, hB', hk⟩ := SVo_run (((hB.drewN dn)).below hv) rfl (q := nu f) (d := d) (m := m) h1 h2
  refine ⟨W', hs, LDo_run hB', own_base (own_keptB o1 hk (fun j e h => ?_)) (by omega), own_base (own_keptB o2 hk (fun j e h => ?_)) (by omega), h12, ?_⟩
  · have := own_row o1 j e; omega
  · have := own_row o2 j e; omega
  · exact hv'.trans (hk.below hv'.size (fun j hj => Nat.ne_of_lt hj))
theorem own_one {w : World} {base n : Nat} {v : Value} {f : Nat → Int} (h : By.Own w base v n f) : v.oneCell' = true := by
  obtain ⟨a, c, rfl⟩ := own_lit_slice h; rfl
set_option maxRecDepth 4000 in
set_option maxHeartbeats 400000 in
theorem decode_big (v : Value) (n : Nat) (f : Nat → Int) (w : World) (hr : By.RB w v n f) (hn : n ≤ 4611686018427387904) :
    Calls Try.prog 23 #[v] w fun e w' => ∃ d m, e = .returned (.tuple #[ov (dq (decide (n = zl f)) f) d m, .int .i64 (dE (decide (n = zl f)))]) ∧ Told w w' (decide (n = zl f)) f d m := by
  obtain ⟨a, c, rfl⟩ := rb_sl hr
  obtain ⟨W0, hW0⟩ : ∃ W, w.alloc (.cells #[Value.int IntKind.u8 0, Value.int IntKind.i64 0, Value.int IntKind.u8 0, Value.int IntKind.i64 0, Value.int IntKind.i64 0, Value.slice none 0 0, Value.slice none 0 0] 26) = W := ⟨_, rfl⟩
  have kb : Hid (Blk W0 w.heap.size zA.toList 26) := by rw [← hW0]; exact Blk.newAt w _ _ 26 w.heap.size rfl rfl
  have b0 : Hid (Below w.heap.size w W0) := by rw [← hW0]; exact below_alloc w _
  have z0 : Hid (w.heap.size < W0.heap.size) := by show w.heap.size < W0.heap.size; rw [← hW0]; simp
  have HR := hid hr
  clear hr
  have HS := hid (size_ok (.slice a n c) n f W0 (HR.out.below b0.out) hn)
  by_cases h : n = zl f
  · have E : Hid (decide (n = zl f) = true) := by show decide (n = zl f) = true; simpa using h
    have et : decide (zl f ≤ n) = true := by simp; omega
    have et2 : ((zl f : Int) == (n : Int)) = true := by simp; omega
    rw [et] at HS
    have hn0 : 0 < n := by rw [h]; unfold zl; omega
    obtain ⟨b, off, c', e'⟩ := rb_some HR.out hn0
    obtain ⟨rfl, _, rfl⟩ := (by simpa using e' : a = some ⟨b, off, none⟩ ∧ True ∧ c = c')
    have HH := hid h
    clear h e' et
    go_enter Try.func23, Try.ntmps23
    go_wp2_with fail
    refine HS.out.mono ?_
    rintro e W ⟨z, rfl, hz, dn, hW⟩
    obtain rfl := hz (by have := HH.out; omega)
    clear hz
    have X := hid (HR.out.below (b0.out.trans (show Below w.heap.size W0 W by rw [hW]; exact Below.drewN' (Below.refl _ _) dn)))
    have HW := hid hW
    clear hW hW0 HS
    go_wp2_with fail
    refine (read_ok b off (n) c f W X.out (by have := HH.out; rw [this]; rfl)).mono ?_
    rintro e V ⟨d, m, rfl, o1, o2, h12, hv⟩
    obtain ⟨W1, s1, l1, t1⟩ := read_end kb.out b0.out dn HW.out z0.out o1 o2 h12 hv (own_one o1) (own_one o2)
    obtain ⟨a1, k1, rfl⟩ := own_lit_slice o1
    obtain ⟨a2, k2, rfl⟩ := own_lit_slice o2
    have s1' : (SVo ⟨w.heap.size, 0, none⟩ (.agg #[Value.int IntKind.u8 (nu f).k, Value.int IntKind.i64 (nu f).h, Value.int IntKind.u8 (nu f).a, Value.int IntKind.i64 (nu f).c, Value.int IntKind.i64 (nu f).o, .slice a1 (dl f) k1, .slice a2 (ml f) k2])).run Try.prog V = .ok () W1 := s1
    have L1 := hid l1
    have T1 := hid t1
    clear l1 t1 o1 o2 h12 hv X
    go_wp2
    refine bodyPost_ret (Tb.results_cell2 rfl rfl rfl L1.out) rfl ?_
    exact ⟨_, _, by rw [E.out]; rfl, by rw [E.out]; exact T1.out⟩
  · have E : Hid (decide (n = zl f) = false) := by show decide (n = zl f) = false; simpa using h
    by_cases h2 : zl f ≤ n
    · have et : decide (zl f ≤ n) = true := by simpa using h2
      have et2 : ((zl f : Int) == (n : Int)) = false := by simp; omega
      rw [et] at HS
      clear et
      go_enter Try.func23, Try.ntmps23
      go_wp2_with fail
      refine HS.out.mono ?_
      rintro e W ⟨z, rfl, hz, dn, hW⟩
      obtain rfl := hz h2
      clear hz h h2
      obtain ⟨W1, s1, l1, t1⟩ := zero_end f HR.out.1 kb.out b0.out dn hW
      have L1 := hid l1
      have T1 := hid t1
      clear l1 t1 hW hW0
      go_wp2
      refine bodyPost_ret (Tb.results_cell2 rfl rfl rfl L1.out) rfl ?_
      exact ⟨_, _, by rw [E.out]; rfl, by rw [E.out]; exact T1.out⟩
    · have et : decide (zl f ≤ n) = false := by simpa using h2
      rw [et] at HS
      clear et
      go_enter Try.func23, Try.ntmps23
      go_wp2_with fail
      refine HS.out.mono ?_
      rintro e W ⟨z, rfl, hz, dn, hW⟩
      clear hz h h2
      obtain ⟨W1, s1, l1, t1⟩ := zero_end f HR.out.1 kb.out b0.out dn hW
      have L1 := hid l1
      have T1 := hid t1
      clear l1 t1 hW hW0
      go_wp2
      refine bodyPost_ret (Tb.results_cell2 rfl rfl rfl L1.out) rfl ?_
      exact ⟨_, _, by rw [E.out]; rfl, by rw [E.out]; exact T1.out⟩
set_option maxRecDepth 4000 in
set_option maxHeartbeats 400000 in
theorem next_big (v : Value) (n : Nat) (f : Nat → Int) (w : World) (hr : By.RB w v n f) (hn : n ≤ 4611686018427387904) :
    Calls Try.prog 24 #[v] w fun e w' => ∃ d m, e = .returned (.tuple #[ov (dq (decide (zl f ≤ n)) f) d m, .int .i64 (dK (decide (zl f ≤ n)) f), .int .i64 (dE (decide (zl f ≤ n)))]) ∧ Told w w' (decide (zl f ≤ n)) f d m := by
  obtain ⟨a, c, rfl⟩ := rb_sl hr
  obtain ⟨W0, hW0⟩ : ∃ W, w.alloc (.cells #[Value.int IntKind.u8 0, Value.int IntKind.i64 0, Value.int IntKind.u8 0, Value.int IntKind.i64 0, Value.int IntKind.i64 0, Value.slice none 0 0, Value.slice none 0 0] 26) = W := ⟨_, rfl⟩
  have kb : Hid (Blk W0 w.heap.size zA.toList 26) := by rw [← hW0]; exact Blk.newAt w _ _ 26 w.heap.size rfl rfl
  have b0 : Hid (Below w.heap.size w W0) := by rw [← hW0]; exact below_alloc w _
  have z0 : Hid (w.heap.size < W0.heap.size) := by show w.heap.size < W0.heap.size; rw [← hW0]; simp
  have HR := hid hr
  clear hr
  have HS := hid (size_ok (.slice a n c) n f W0 (HR.out.below b0.out) hn)
  by_cases h : zl f ≤ n
  · have E : Hid (decide (zl f ≤ n) = true) := by show decide (zl f ≤ n) = true; simpa using h
    rw [E.out] at HS
    have hn0 : 0 < n := Nat.lt_of_lt_of_le (by unfold zl; omega) h
    obtain ⟨b, off, c', e'⟩ := rb_some HR.out hn0
    obtain ⟨rfl, _, rfl⟩ := (by simpa using e' : a = some ⟨b, off, none⟩ ∧ True ∧ c = c')
    have g1 : (zl f : Int) ≤ (c : Int) := by have := rb_cap HR.out; omega
    have g2 : (0 : Int) ≤ (zl f : Int) := by omega
    have HH := hid h
    clear h e'
    go_enter Try.func24, Try.ntmps24
    go_wp2_with fail
    refine HS.out.mono ?_
    rintro e W ⟨z, rfl, hz, dn, hW⟩
    obtain rfl := hz HH.out
    clear hz
    have X := hid (HR.out.below (b0.out.trans (show Below w.heap.size W0 W by rw [hW]; exact Below.drewN' (Below.refl _ _) dn)))
    have HW := hid hW
    clear hW hW0 HS
    go_wp2_with fail
    refine (read_ok b off (zl f) c f W (X.out.first (zl f) HH.out) rfl).mono ?_
    rintro e V ⟨d, m, rfl, o1, o2, h12, hv⟩
    obtain ⟨W1, s1, l1, t1⟩ := read_end kb.out b0.out dn HW.out z0.out o1 o2 h12 hv (own_one o1) (own_one o2)
    obtain ⟨a1, k1, rfl⟩ := own_lit_slice o1
    obtain ⟨a2, k2, rfl⟩ := own_lit_slice o2
    have s1' : (SVo ⟨w.heap.size, 0, none⟩ (.agg #[Value.int IntKind.u8 (nu f).k, Value.int IntKind.i64 (nu f).h, Value.int IntKind.u8 (nu f).a, Value.int IntKind.i64 (nu f).c, Value.int IntKind.i64 (nu f).o, .slice a1 (dl f) k1, .slice a2 (ml f) k2])).run Try.prog V = .ok () W1 := s1
    have L1 := hid l1
    have T1 := hid t1
    clear l1 t1 o1 o2 h12 hv X
    go_wp2
    refine bodyPost_ret (results_cell3 rfl rfl rfl rfl L1.out) rfl ?_
    exact ⟨_, _, by rw [E.out]; rfl, by rw [E.out]; exact T1.out⟩
  · have E : Hid (decide (zl f ≤ n) = false) := by show decide (zl f ≤ n) = false; simpa using h
    rw [E.out] at HS
    clear h
    go_enter Try.func24, Try.ntmps24
    go_wp2_with fail
    refine HS.out.mono ?_
    rintro e W ⟨z, rfl, hz, dn, hW⟩
    clear hz
    obtain ⟨W1, s1, l1, t1⟩ := zero_end f HR.out.1 kb.out b0.out dn hW
    have L1 := hid l1
    have T1 := hid t1
    clear l1 t1 hW hW0
    go_wp2
    refine bodyPost_ret (results_cell3 rfl rfl rfl rfl L1.out) rfl ?_
    exact ⟨_, _, by rw [E.out]; rfl, by rw [E.out]; exact T1.out⟩
theorem decode_ok (v : Value) (n : Nat) (f : Nat → Int) (w : World) (hr : By.RB w v n f) (hn : n ≤ 140737488355328) :
    Calls Try.prog 23 #[v] w fun e w' => ∃ d m, e = .returned (.tuple #[ov (dq (decide (n = zl f)) f) d m, .int .i64 (dE (decide (n = zl f)))]) ∧ Told w w' (decide (n = zl f)) f d m := decode_big v n f w hr (by omega)
theorem next_ok (v : Value) (n : Nat) (f : Nat → Int) (w : World) (hr : By.RB w v n f) (hn : n ≤ 140737488355328) :
    Calls Try.prog 24 #[v] w fun e w' => ∃ d m, e = .returned (.tuple #[ov (dq (decide (zl f ≤ n)) f) d m, .int .i64 (dK (decide (zl f ≤ n)) f), .int .i64 (dE (decide (zl f ≤ n)))]) ∧ Told w w' (decide (zl f ≤ n)) f d m := next_big v n f w hr (by omega)
end Go.Proofs.Ytnadpglfliiplaa.Ou
