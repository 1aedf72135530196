/- A mac and its ledger beside another ledger that rests; the pieces of a message. -/
import Derived.Test.YtnncgniiceglaaaDoorVlw1
import Derived.Test.YtnncgniiceglaaaDoorVcut
namespace Go.Proofs.YtnncgniiceglaaaDoor.Vm
open Go.ChangeShapes Go.WideShapes Go.ChangeAt Go.RowKit
open Go.Proofs.YtnncgniiceglaaaDoor.By Go.Proofs.YtnncgniiceglaaaDoor.Gf Go.Proofs.YtnncgniiceglaaaDoor.Ae
open Go.Proofs.YtnncgniiceglaaaDoor.Kc (own_kept own_mono own8_type cat cat_bound wpList_cat below_grow)
/-- Blocks that are no ledger's and no mac's stay. -/
def Kq (W W' : World) : Prop := W.heap.size ≤ W'.heap.size ∧ ∀ x cs t, t ≠ 77 → t ≠ 94 → t ≠ 51 → Blk W x cs t → Blk W' x cs t
theorem Kq.below {W W' : World} (h : Below W.heap.size W W') : Kq W W' := ⟨h.size, fun _ _ _ _ _ _ hb => hb.below h⟩
theorem Kq.trans {a b c : World} (h : Kq a b) (k : Kq b c) : Kq a c := ⟨Nat.le_trans h.1 k.1, fun x cs t h1 h2 h3 hb => k.2 x cs t h1 h2 h3 (h.2 x cs t h1 h2 h3 hb)⟩
theorem Kq.kt {W W' : World} (h : Kt W W') : Kq W W' := ⟨h.1, fun x cs t h1 h2 _ hb => h.2 x cs t hb h1 h2⟩
theorem Kq.kx {W W' : World} {g : Nat} {cs0 : List Value} (h : Kx g W W') (hg : Blk W g cs0 51) : Kq W W' := ⟨h.1, fun x cs t h1 h2 h3 hb => h.2 x cs t (fun e => by subst e; exact absurd rfl (hb.ne hg h3)) hb h1 h2⟩
theorem Kq.own {W W' : World} (h : Kq W W') {base n : Nat} {v : Value} {f : Nat → Int} (ho : By.Own W base v n f) : By.Own W' base v n f := by
  obtain ⟨hf, hl, h' | ⟨g, cap, cur, rfl, hb, hc, h1, h2, h3, h4⟩⟩ := ho
  · exact ⟨hf, hl, .inl h'⟩
  · refine ⟨hf, hl, .inr ⟨g, cap, cur, rfl, hb, ?_, h1, h2, h3, h4⟩⟩
    exact h.2 g cur.toList 5 (by decide) (by decide) (by decide) (by show W.heap[g]? = _; rw [hc])
theorem Kq.row {W W' : World} (h : Kq W W') {base n : Nat} {v : Value} {xs : List Value} (ho : W.ownsRow base 22 1 v n xs) : W'.ownsRow base 22 1 v n xs := by
  obtain ⟨hl, h' | ⟨g, cap, cur, rfl, hb, hc, h1, h2, h3, h4⟩⟩ := ho
  · exact ⟨hl, .inl h'⟩
  · refine ⟨hl, .inr ⟨g, cap, cur, rfl, hb, ?_, h1, h2, h3, h4⟩⟩
    exact h.2 g cur.toList 22 (by decide) (by decide) (by decide) (by show W.heap[g]? = _; rw [hc])
theorem wait_pos (n : Nat) (h : 0 < n) : ((n : Int) - 1) % 16 + 1 = ((ctn n : Nat) : Int) := by
  unfold ctn nbl; omega
theorem nbl_mono (n m : Nat) : nbl n ≤ nbl (n + m) := by unfold nbl; omega
theorem fmf_lastb (k n : Nat) (ws m : Nat → Nat) : fmf k ws n m (fml k - 1) = ctn n := by
  unfold fmf fml
  rw [if_neg (by omega), if_neg (by omega)]
/-- What New and so many blocks record. -/
def evP (k a : Nat) : List Rn := evb k (putL [] ⟨4, ((4 * k : Nat) : Int), 1⟩) a
theorem evP_next (k a b : Nat) (h : a + b ≤ 1000000) : evb k (evP k a) b = evP k (a + b) := evb_add (putL_pos pos_nil) k a b (by
  have h1 : tot (putL [] ⟨4, ((4 * k : Nat) : Int), 1⟩) = tot [] + 1 := putL_tot pos_nil rfl (by decide)
  rw [h1]; simp [tot]; omega)
theorem evP_low (k a : Nat) (h : a ≤ 1000000) : Pos (evP k a) ∧ tot (evP k a) ≤ 2305843009213693952 ∧ (evP k a).length ≤ 10000000 := Low.mid pos_nil low_nil k a (by omega)
theorem evT_P (k n : Nat) : evT k [] n = evP k (nbl n + 2) := rfl
/-- The blocks that may turn since V. -/
def S2 (V : World) (l : Nat) (x : Nat) : Prop := x = l ∨ V.heap.size ≤ x
structure PZ (V : World) (l g gc k : Nat) (ws : Nat → Nat) (fv pv : Value) (vs : List Value) (np : Nat) (f : Nat → Nat) (L : List Rn) (n : Nat) (W : World) : Prop where
  kp : Kp (S2 V l) V W
  lg : LG (S2 V l) V W (some l) L
  mc : Mc W g gc k ws n f
  fo : By.Own W V.heap.size fv (fml k) (cb (fmf k ws 0 nought))
  row : W.ownsRow V.heap.size 22 1 pv vs.length vs
  cuts : Cuts W V.heap.size (cb f) vs 0 np
section
variable {V W W' : World} {l g gc k : Nat} {ws : Nat → Nat} {fv pv : Value} {vs : List Value} {np : Nat} {f : Nat → Nat} {L : List Rn} {n : Nat}
theorem PZ.below (h : PZ V l g gc k ws fv pv vs np f L n W) (hb : Below W.heap.size W W') : PZ V l g gc k ws fv pv vs np f L n W' :=
  ⟨h.kp.trans (Kp.of_below _ hb) (fun _ _ e => e), h.lg.below hb, h.mc.below hb, own_below h.fo hb, (Kq.below hb).row h.row, h.cuts.below hb⟩
theorem PZ.dr (h : PZ V l g gc k ws fv pv vs np f L n W) (d : Nat) : PZ V l g gc k ws fv pv vs np f L n (W.drewN d) := h.below (below_drewN W d)
/-- Piece i: what it holds. -/
theorem cuts_at {B : Nat} {F : Nat → Int} : ∀ {vs : List Value} {s e : Nat}, Cuts W B F vs s e → ∀ i, i < vs.length → ∃ v m o, vs[i]? = some v ∧ By.Own W B v m (fun j => F (o + j)) ∧ Cuts W B F (vs.take i) s o ∧ Cuts W B F (vs.take (i + 1)) s (o + m) ∧ o + m ≤ e
  | [], _, _, _, i, hi => absurd hi (Nat.not_lt_zero _)
  | u :: vs, s, e, h, i, hi => by
    obtain ⟨m, hu, hr⟩ := h
    cases i with
    | zero => exact ⟨u, m, s, rfl, hu, rfl, ⟨m, hu, rfl⟩, hr.le⟩
    | succ i =>
      obtain ⟨v, m', o, h1, h2, h3, h4, h5⟩ := cuts_at hr i (by simpa using hi)
      exact ⟨v, m', o, by simpa using h1, h2, ⟨m, hu, h3⟩, ⟨m, hu, h4⟩, h5⟩
theorem cuts_fun {B : Nat} {F : Nat → Int} : ∀ {vs : List Value} {s e e' : Nat}, Cuts W B F vs s e → Cuts W B F vs s e' → e = e'
  | [], _, _, _, h, h' => h.symm.trans h'
  | u :: vs, s, e, e', ⟨m, hu, hr⟩, ⟨m', hu', hr'⟩ => by
    obtain ⟨a, c, h1⟩ := own8_slice hu
    obtain ⟨a', c', h2⟩ := own8_slice hu'
    rw [h1] at h2
    simp at h2
    obtain ⟨_, rfl, _⟩ := h2
    exact cuts_fun hr hr'
theorem ct2_self (n : Nat) (f : Nat → Nat) : ct2 n f (fun i => f (n + i)) = f := by
  funext i
  unfold ct2
  split
  · rfl
  · show f (n + (i - n)) = f i
    rw [show n + (i - n) = i from by omega]
theorem PZ.write (h : PZ V l g gc k ws fv pv vs np f L n W) (hg : V.heap.size ≤ g) (hk : KM V) (hl : 0 < l) (hp : Pos L) (hr : tot L ≤ 2305843009213693952 ∧ L.length ≤ 10000000) (v : Value) (m : Nat) (hm : m ≤ 140737488355328) (hv : By.Own W V.heap.size v m (fun j => cb f (n + j))) :
    Calls Tryd.prog 26 #[.pointer (some ⟨g, 0, none⟩), .pointer (some ⟨l, 0, none⟩), v] W fun e w' => e = .returned (.int .i64 0) ∧ PZ V l g gc k ws fv pv vs np f (evb k L (nbl (n + m) - nbl n)) (n + m) w' ∧ Kq W w' := by
  obtain ⟨a, cap, rfl⟩ := own8_slice hv
  refine (write_mc (S2 V l) V W (some l) L g gc k n ws f h.mc h.lg h.kp hp hr hk (fun e => by have := hk.lt; unfold S2 at e; omega) (fun e => by omega) m (fun i => f (n + i)) (fun i => h.mc.lt _) hm a cap (fun V' _ hx => ((Kq.kx hx h.mc.here).own hv).reads)).mono ?_
  rintro e w' ⟨rfl, h1, h2, h3, h4⟩
  rw [ct2_self] at h1
  have hq := Kq.kx h4 h.mc.here
  exact ⟨rfl, ⟨h3, h2, h1, hq.own h.fo, hq.row h.row, h.cuts.imp (fun _ _ _ ho => hq.own ho)⟩, hq⟩
theorem PZ.sum (h : PZ V l g gc k ws fv pv vs np f L n W) (hk : KM V) (hl : 0 < l) (hr : Room L) :
    Calls Tryd.prog 27 #[.pointer (some ⟨g, 0, none⟩), .pointer (some ⟨l, 0, none⟩)] W fun e w' => ∃ q, e = .returned (.tuple #[.slice (some ⟨q, 0, none⟩) 16 16, .int .i64 0]) ∧ Blk w' q (bl 16 (cb (tgn ws (k + 6) f n))) 49 ∧ PZ V l g gc k ws fv pv vs np f (evb k L 1) n w' ∧ Kq W w' := by
  refine (sum_mc (S2 V l) V W (some l) L g gc k n ws f h.mc h.lg h.kp hr hk (fun e => by have := hk.lt; unfold S2 at e; omega)).mono ?_
  rintro e w' ⟨q, rfl, h1, -, h2, h3, h4⟩
  have hq := Kq.kt h4
  exact ⟨q, rfl, h1, ⟨h3, h2, h.mc.kt h4, hq.own h.fo, hq.row h.row, h.cuts.imp (fun _ _ _ ho => hq.own ho)⟩, hq⟩
theorem PZ.km (h : PZ V l g gc k ws fv pv vs np f L n W) (hk : KM V) (hl : 0 < l) : KM W := hk.kept h.kp (fun e => by have := hk.lt; unfold S2 at e; omega)
/-- The other ledger rests. -/
theorem PZ.led (h : PZ V l g gc k ws fv pv vs np f L n W) {l1 : Nat} {rv : Value} {L1 : List Rn} (hl : Led V l1 rv L1) (hne : l1 ≠ l) (ho : rv.ownBlock ≠ some l) : Led W l1 rv L1 := by
  refine hl.kept h.kp (fun e => ?_) (fun q hq e => ?_)
  · rcases e with e | e
    · exact hne e
    · have := hl.lt; omega
  · rcases e with e | e
    · subst e; exact ho hq
    · have := (hl.own.lt q hq).2; omega
theorem PZ.bel (h : PZ V l g gc k ws fv pv vs np f L n W) {w : World} (hb : Below w.heap.size w V) (hl : w.heap.size ≤ l) : Below w.heap.size w W :=
  hb.trans (h.kp.below hb.size (fun j hj e => by rcases e with e | e; omega; have := hb.size; omega))
end
end Go.Proofs.YtnncgniiceglaaaDoor.Vm
