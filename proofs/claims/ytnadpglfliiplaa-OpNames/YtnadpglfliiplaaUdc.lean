/- Bytes as an operation: size, lengths, read, Decode, Next, of the program and of the document. -/
import Derived.Test.YtnadpglfliiplaaUvar
import Derived.Test.YtnadpglfliiplaaUen
import Derived.Deep.RegionHeld3
import Derived.Deep.Quiet
namespace Go.Proofs.Ytnadpglfliiplaa.Ou
open Go.ChangeShapes Go.WideShapes Go.ChangeAt Go.RowKit
open Go.Proofs.Ytnadpglfliiplaa.By
open Go.Proofs.Ytnadpglfliiplaa.Tb (Blk Blk.newAt)
/-- Bytes from o on. -/
def sh (o : Nat) (f : Nat → Int) (i : Nat) : Int := f (o + i)
/-- How many bytes the lists have. -/
def dl (f : Nat → Int) : Nat := (BE (sh 26 f) 3).toNat
def ml (f : Nat → Int) : Nat := (BE (sh 29 f) 3).toNat
/-- The numbers. -/
def nu (f : Nat → Int) : Nu := ⟨f 0, sg (BE (sh 2 f) 8), f 1, sg (BE (sh 10 f) 8), sg (BE (sh 18 f) 8)⟩
theorem sh_sh (o x : Nat) (f : Nat → Int) : sh x (sh o f) = sh (o + x) f := by funext i; simp only [sh, Nat.add_assoc]
theorem sh_bound {f : Nat → Int} (hf : ∀ i, 0 ≤ f i ∧ f i < 256) (o i : Nat) : 0 ≤ sh o f i ∧ sh o f i < 256 := hf _
theorem dl_lt {f : Nat → Int} (hf : ∀ i, 0 ≤ f i ∧ f i < 256) : dl f < 16777216 ∧ BE (sh 26 f) 3 = dl f := by
  have := BE_lt3 (sh 26 f) (sh_bound hf 26); unfold dl; omega
theorem ml_lt {f : Nat → Int} (hf : ∀ i, 0 ≤ f i ∧ f i < 256) : ml f < 16777216 ∧ BE (sh 29 f) 3 = ml f := by
  have := BE_lt3 (sh 29 f) (sh_bound hf 29); unfold ml; omega
theorem sg_small (n : Nat) (h : n < 16777216) : sg n = n := by unfold sg; split <;> omega
theorem nu_ok {f : Nat → Int} (hf : ∀ i, 0 ≤ f i ∧ f i < 256) : (nu f).Ok := by
  have h2 := BE_lt8 (sh 2 f) (sh_bound hf 2) 8 (Nat.le_refl _)
  have h10 := BE_lt8 (sh 10 f) (sh_bound hf 10) 8 (Nat.le_refl _)
  have h18 := BE_lt8 (sh 18 f) (sh_bound hf 18) 8 (Nat.le_refl _)
  have a := sg_bound _ h2.1 h2.2
  have b := sg_bound _ h10.1 h10.2
  have c := sg_bound _ h18.1 h18.2
  exact ⟨(hf 0).1, (hf 0).2, (hf 1).1, (hf 1).2, a.1, a.2, b.1, b.2, c.1, c.2⟩
/-- A part of a list. -/
theorem rb_part {w : World} {b off n cap : Nat} {f : Nat → Int} (h : By.RB w (.slice (some ⟨b, off, none⟩) n cap) n f) (o k c : Nat) (hk : o + k ≤ n) (hc : k ≤ c) (hcm : c ≤ maxLen) : By.RB w (.slice (some ⟨b, off + o, none⟩) k c) k (sh o f) := by
  obtain ⟨hf, a', cap', he, h1, h2, hc'⟩ := h
  simp only [Value.slice.injEq] at he
  obtain ⟨rfl, _, rfl⟩ := he
  refine ⟨sh_bound hf o, _, _, rfl, hc, hcm, ?_⟩
  rcases hc' with ⟨e, _⟩ | ⟨b', off', e, hcell⟩
  · exact .inl ⟨by omega, fun e => by cases e⟩
  · simp only [Option.some.injEq, Addr.mk.injEq] at e
    obtain ⟨rfl, rfl, _⟩ := e
    exact .inr ⟨_, _, rfl, fun i hi => by rw [Nat.add_assoc]; exact hcell (o + i) (by omega)⟩
theorem slice_from {w : World} {b off n cap : Nat} {f : Nat → Int} (h : By.RB w (.slice (some ⟨b, off, none⟩) n cap) n f) (o : Nat) (ho : o ≤ n) (hc : n ≤ cap) (hm : cap ≤ maxLen) :
    ∃ off', (if cap = o then some (⟨b, off, none⟩ : Addr) else some ⟨b, off + o, none⟩) = some ⟨b, off', none⟩ ∧ By.RB w (.slice (some ⟨b, off', none⟩) (n - o) (cap - o)) (n - o) (sh o f) := by
  by_cases e : cap = o
  · rw [if_pos e]
    exact ⟨off, rfl, sh_bound h.1 o, _, _, rfl, by omega, by omega, .inl ⟨by omega, fun e => by cases e⟩⟩
  · rw [if_neg e]
    exact ⟨off + o, rfl, rb_part h o (n - o) (cap - o) (by omega) (by omega) (by omega)⟩
theorem rb_cell {w : World} {b off n cap k : Nat} {f : Nat → Int} (h : By.RB w (.slice (some ⟨b, off, none⟩) n cap) n f) (hk : k < n) : w.cell? ⟨b, off + k, none⟩ = some (.int .u8 (f k)) := by
  obtain ⟨_, a', c', hv, _, h1, hc⟩ := h
  simp only [Value.slice.injEq] at hv
  obtain ⟨rfl, _, rfl⟩ := hv
  rcases hc with ⟨e, _⟩ | ⟨b', off', e, hcell⟩
  · omega
  · simp only [Option.some.injEq, Addr.mk.injEq] at e
    obtain ⟨rfl, rfl, _⟩ := e
    exact hcell k hk
theorem rb_max {w : World} {a : Option Addr} {n cap : Nat} {f : Nat → Int} (h : By.RB w (.slice a n cap) n f) : cap ≤ maxLen := by
  obtain ⟨_, a', c', hv, _, h1, _⟩ := h
  simp at hv
  omega
set_option maxRecDepth 4000 in
set_option maxHeartbeats 400000 in
theorem lengths_ok (b off n cap : Nat) (f : Nat → Int) (w : World) (hr : By.RB w (.slice (some ⟨b, off, none⟩) n cap) n f) (hn : 32 ≤ n) :
    Calls Try.prog 47 #[.slice (some ⟨b, off, none⟩) n cap] w fun e w' => e = .returned (.tuple #[.int .i64 (dl f), .int .i64 (ml f)]) ∧ w' = w.drew := by
  have HR := hid hr
  have c1 := rb_cap hr
  have c2 := rb_max hr
  have P1 : Hid (By.RB w.drew _ 3 _) := rb_part hr 26 3 (cap - 26) (by omega) (by omega) (by omega)
  have P2 : Hid (By.RB w.drew _ 3 _) := rb_part hr 29 3 (cap - 29) (by omega) (by omega) (by omega)
  have u1 : ¬ cap = 26 := by omega
  have u2 : ¬ cap = 29 := by omega
  have E1 : Hid (sg (BE (sh 26 f) 3) = dl f) := by show sg (BE (sh 26 f) 3) = dl f; rw [(dl_lt hr.1).2, sg_small _ (dl_lt hr.1).1]
  have E2 : Hid (sg (BE (sh 29 f) 3) = ml f) := by show sg (BE (sh 29 f) 3) = ml f; rw [(ml_lt hr.1).2, sg_small _ (ml_lt hr.1).1]
  have s1 : 29 ≤ cap := by omega
  have s2 : 32 ≤ cap := by omega
  have s3 : (29 : Int) ≤ cap := by omega
  have s4 : (32 : Int) ≤ cap := by omega
  have w29 : IntKind.i64.wrap 29 = 29 := by decide
  clear hr HR
  go_enter Try.func47, Try.ntmps47
  go_wp2_with fail
  go_region_held3 (fun _ => True) (trivial) (first
    | (go_at_call 48; with_reducible refine (take_ok _ 3 (sh 26 f) _ P1.out (by omega)).mono ?_; rintro e w4 ⟨rfl, rfl⟩)
    | (go_at_call 48; with_reducible refine (take_ok _ 3 (sh 29 f) _ P2.out (by omega)).mono ?_; rintro e w4 ⟨rfl, rfl⟩))
  go_wp2
  go_ret2
  exact ⟨by rw [E1.out, E2.out]; rfl, rfl⟩
set_option maxRecDepth 4000 in
set_option maxHeartbeats 400000 in
theorem read_ok (b off n cap : Nat) (f : Nat → Int) (w : World) (hr : By.RB w (.slice (some ⟨b, off, none⟩) n cap) n f) (hn : n = 32 + dl f + ml f) :
    Calls Try.prog 44 #[.slice (some ⟨b, off, none⟩) n cap] w fun e w' => ∃ d m, e = .returned (ov (nu f) d m) ∧ By.Own w' w.heap.size d (dl f) (sh 32 f) ∧ By.Own w' w.heap.size m (ml f) (sh (32 + dl f) f) ∧ (d.ownBlock = none ∨ d.ownBlock ≠ m.ownBlock) ∧ Below w.heap.size w w' := by
  have c1 := rb_cap hr
  have c2 := rb_max hr
  obtain ⟨x, hx⟩ : ∃ x, dl f = x := ⟨_, rfl⟩
  obtain ⟨y, hy⟩ : ∃ y, ml f = y := ⟨_, rfl⟩
  have hl := lengths_ok b off n cap f
  rw [hx, hy] at hn hl ⊢
  have x1 := (dl_lt hr.1).1
  have y1 := (ml_lt hr.1).1
  rw [hx] at x1
  rw [hy] at y1
  have HN := hid hn
  have g1 : 32 ≤ n := by omega
  have g2 : (32 : Int) ≤ n := by omega
  have g3 : (2 : Int) ≤ n := by omega
  have g4 : (32 : Int) ≤ cap := by omega
  have HL := hid hl
  obtain ⟨o1, q1, L1⟩ := slice_from hr 32 (by omega) c1 c2
  obtain ⟨o2, q2, L2⟩ := slice_from L1 x (by omega) (by omega) (by omega)
  have u2 : ¬ cap = 2 := by omega
  have u10 : ¬ cap - 2 = 8 := by omega
  have u18 : ¬ cap - 2 = 16 := by omega
  have v1 : (8 : Int) ≤ ((cap - 2 : Nat) : Int) := by omega
  have v2 : (16 : Int) ≤ ((cap - 2 : Nat) : Int) := by omega
  have v3 : (24 : Int) ≤ ((cap - 2 : Nat) : Int) := by omega
  have v4 : (x : Int) ≤ ((cap - 32 : Nat) : Int) := by omega
  have v5 : (x : Int) ≤ ((n - 32 : Nat) : Int) := by omega
  have v6 : (0 : Int) ≤ (x : Int) := by omega
  have v7 : (0 : Int) < (n : Int) := by omega
  have v8 : (1 : Int) < (n : Int) := by omega
  have v7' : 0 < n := by omega
  have v9 : Hid (n - 32 - x ≤ 140737488355328) := by show n - 32 - x ≤ _; omega
  obtain ⟨W0, hW0⟩ : ∃ W, w.alloc (.cells #[Value.int IntKind.u8 0, Value.int IntKind.i64 0, Value.int IntKind.u8 0, Value.int IntKind.i64 0, Value.int IntKind.i64 0, Value.slice none 0 0, Value.slice none 0 0] 26) = W := ⟨_, rfl⟩
  have k0 : Hid (Blk W0 w.heap.size #[Value.int IntKind.u8 0, Value.int IntKind.i64 0, Value.int IntKind.u8 0, Value.int IntKind.i64 0, Value.int IntKind.i64 0, Value.slice none 0 0, Value.slice none 0 0].toList 26) := by
    rw [← hW0]; exact Blk.newAt w _ _ 26 w.heap.size rfl rfl
  have bw : Below w.heap.size w W0.drew.drew.drew := by rw [← hW0]; exact (below_alloc w _).drew.drew.drew
  have BW := hid bw
  have BW0 : Hid (Below w.heap.size w W0) := by rw [← hW0]; exact below_alloc w _
  have z0 : Hid (W0.heap.size = w.heap.size + 1) := by show W0.heap.size = _; rw [← hW0]; simp
  have T1 : Hid (By.RB W0.drew.drew.drew (.slice (some ⟨b, off + 2, none⟩) 8 (cap - 2)) 8 (sh 2 f)) := (rb_part hr 2 8 (cap - 2) (by omega) (by omega) (by omega)).below bw
  have T2 : Hid (By.RB W0.drew.drew.drew (.slice (some ⟨b, off + 2 + 8, none⟩) 8 (cap - 2 - 8)) 8 (sh 10 f)) := (rb_part hr 10 8 (cap - 2 - 8) (by omega) (by omega) (by omega)).below bw
  have T3 : Hid (By.RB W0.drew.drew.drew (.slice (some ⟨b, off + 2 + 16, none⟩) 8 (cap - 2 - 16)) 8 (sh 18 f)) := (rb_part hr 18 8 (cap - 2 - 16) (by omega) (by omega) (by omega)).below bw
  have CE : Hid (∀ W, Below w.heap.size w W → W.cell? ⟨b, off, none⟩ = some (.int .u8 (f 0)) ∧ W.cell? ⟨b, off + 1, none⟩ = some (.int .u8 (f 1))) := fun W hW => ⟨by
    have := rb_cell (hr.below hW) (k := 0) (by omega); rwa [Nat.add_zero] at this, rb_cell (hr.below hW) (by omega)⟩
  obtain ⟨c00, c01⟩ := CE.out _ bw
  have D1 := hid (L1.first x (by omega))
  have M1 := hid L2
  have HR := hid hr
  clear hr hn hl hx hy L1 L2 bw
  go_enter Try.func44, Try.ntmps44
  go_wp2_with fail
  refine (HL.out _ (HR.out.below BW0.out) g1).mono ?_
  rintro e W ⟨rfl, rfl⟩
  go_wp2
  go_region_held3 (fun _ => True) (trivial) (fail)
  go_wp2
  go_region_held3 (fun W => W.cell? ⟨b, off, none⟩ = some (.int .u8 (f 0)) ∧ W.cell? ⟨b, off + 1, none⟩ = some (.int .u8 (f 1))) (go_keep) (first
    | (go_at_call 48; with_reducible refine (take_ok _ 8 (sh 2 f) _ T1.out (by omega)).mono ?_; rintro e w4 ⟨rfl, rfl⟩)
    | (go_at_call 48; with_reducible refine (take_ok _ 8 (sh 10 f) _ T2.out (by omega)).mono ?_; rintro e w4 ⟨rfl, rfl⟩)
    | (go_at_call 48; with_reducible refine (take_ok _ 8 (sh 18 f) _ T3.out (by omega)).mono ?_; rintro e w4 ⟨rfl, rfl⟩)
    | (go_at_call 38; with_reducible refine (copied_ok _ x (sh 32 f) W0.drew.drew.drew (D1.out.below BW.out) (by omega)).mono ?_; rintro e V1 ⟨d, rfl, ho, hb⟩; obtain ⟨a1, k1, rfl⟩ := own_lit_slice ho; have O1 := hid ho; have B1 := hid (below_next BW.out hb); have N1 := hid hb; have t := CE.out _ B1.out; have e51 := t.1; have e61 := t.2; clear t ho hb)
    | (go_at_call 38; with_reducible refine (copied_ok _ (n - 32 - x) (sh x (sh 32 f)) V1 (M1.out.below B1.out) v9.out).mono ?_; rintro e V2 ⟨m, rfl, ho, hb⟩; obtain ⟨a2, k2, rfl⟩ := own_lit_slice ho; have O2 := hid ho; have B2 := hid (below_next B1.out hb); have N2 := hid hb; have t := CE.out _ B2.out; have e52 := t.1; have e62 := t.2; clear t; obtain ⟨W3, s3, K3, hk3⟩ := SVo_run ((k0.out.below (w' := V2) (below_next (below_next (show Below W0.heap.size W0 W0.drew.drew.drew from (Below.refl _ _).drew.drew.drew) N1.out) hb))) rfl (q := ⟨f 0, sg (BE (sh 2 f) 8), f 1, sg (BE (sh 10 f) 8), sg (BE (sh 18 f) 8)⟩) (d := .slice a1 x k1) (m := .slice a2 (n - 32 - x) k2) rfl rfl; have s3' : (SVo ⟨w.heap.size, 0, none⟩ (.agg #[Value.int IntKind.u8 (f 0), Value.int IntKind.i64 (sg (BE (sh 2 f) 8)), Value.int IntKind.u8 (f 1), Value.int IntKind.i64 (sg (BE (sh 10 f) 8)), Value.int IntKind.i64 (sg (BE (sh 18 f) 8)), .slice a1 x k1, .slice a2 (n - 32 - x) k2])).run Try.prog V2 = .ok () W3 := s3; have KK := hid K3; have B3 := hid (B2.out.trans (hk3.below (B := w.heap.size) B2.out.size (fun j hj => Nat.ne_of_lt hj))); have HK := hid hk3; have t := CE.out _ B3.out; have e53 := t.1; have e63 := t.2; clear t; clear K3 hk3 s3; clear ho hb))
  have hn := HN.out
  have P2 := hid (show By.Own W3 w.heap.size (.slice a2 (n - 32 - x) k2) (n - 32 - x) (sh x (sh 32 f)) from own_base (own_keptB O2.out HK.out (fun j e h => by have := own_row O2.out j e; have := B1.out.size; have := k0.out.lt; have := N1.out.size; have := z0.out; have h' : W0.drew.drew.drew.heap.size = W0.heap.size := rfl; omega)) (by have := B1.out.size; omega))
  have P1 := hid (show By.Own W3 w.heap.size (.slice a1 x k1) x (sh 32 f) from own_base (own_keptB (own_below O1.out N2.out) HK.out (fun j e h => by have := own_row O1.out j e; have h' : W0.drew.drew.drew.heap.size = W0.heap.size := rfl; have := z0.out; omega)) (by have := BW.out.size; omega))
  have N12 := hid (own_apart O1.out (Nat.le_refl _) O2.out)
  clear O1 O2 hn
  go_wp2_with fail
  refine bodyPost_ret (Tb.results_cell1 rfl rfl (LDo_run KK.out)) rfl ?_
  exact ⟨_, _, rfl, P1.out, by have hn := HN.out; rw [show y = n - 32 - x by omega, ← sh_sh]; exact P2.out, N12.out, B3.out⟩
end Go.Proofs.Ytnadpglfliiplaa.Ou
