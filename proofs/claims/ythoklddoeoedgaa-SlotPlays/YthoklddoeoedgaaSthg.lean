/- Things in memory, each by its own blocks: what one call leaves of the others; ledgers, lists of bytes and memories as things. -/
import Derived.Test.YthoklddoeoedgaaSops
import Derived.Test.YthoklddoeoedgaaCst
namespace Go.Proofs.Ythoklddoeoedgaa.Sl
open Go.ChangeShapes Go.WideShapes Go.ChangeAt Go.RowKit
open Go.Proofs.Ythoklddoeoedgaa.By
/-- A thing: its blocks, and what holds of it. -/
structure Th where
  F : Nat → Prop
  P : World → Prop
  keep : ∀ {S W W'}, P W → Kp S W W' → (∀ j, F j → ¬ S j) → P W'
  lt : ∀ {W}, P W → ∀ j, F j → j < W.heap.size
def Th.no : Th := ⟨fun _ => False, fun _ => True, fun _ _ _ => trivial, fun _ _ e => e.elim⟩
def up (t : Nat → Th) (i : Nat) (x : Th) : Nat → Th := fun k => if k = i then x else t k
theorem up_at (t : Nat → Th) (i : Nat) (x : Th) : up t i x i = x := if_pos rfl
theorem up_ne (t : Nat → Th) {i k : Nat} (x : Th) (h : k ≠ i) : up t i x k = t k := if_neg h
/-- Things that lie apart, in blocks from B on. -/
structure GX (w0 : World) (B : Nat) (t : Nat → Th) (W : World) : Prop where
  all : ∀ i, (t i).P W
  lo : ∀ i j, (t i).F j → B ≤ j
  ap : ∀ i k, i ≠ k → ∀ j, (t i).F j → ¬ (t k).F j
  bel : Below B w0 W
  hB : B ≤ W.heap.size
section
variable {w0 W W' : World} {B : Nat} {t : Nat → Th} {S : Nat → Prop}
theorem GX.start (w : World) : GX w w.heap.size (fun _ => Th.no) w := ⟨fun _ => trivial, fun _ _ e => e.elim, fun _ _ _ _ e => e.elim, Below.refl _ _, Nat.le_refl _⟩
/-- Some things are turned into others, new ones among them. -/
theorem GX.turn (h : GX w0 B t W) (t' : Nat → Th) (I : Nat → Prop) (hk : Kp S W W') (hS : ∀ j, S j → j < W.heap.size → ∃ i, I i ∧ (t i).F j)
    (he : ∀ i, ¬ I i → t' i = t i) (hp : ∀ i, I i → (t' i).P W') (hf : ∀ i, I i → ∀ j, (t' i).F j → (∃ k, I k ∧ (t k).F j) ∨ W.heap.size ≤ j) (hd : ∀ i k, I i → I k → i ≠ k → ∀ j, (t' i).F j → ¬ (t' k).F j) : GX w0 B t' W' := by
  have hSB : ∀ j, j < W.heap.size → S j → B ≤ j := fun j hj hs => by
    obtain ⟨i, _, hi⟩ := hS j hs hj
    exact h.lo i j hi
  have old : ∀ i, ¬ I i → ∀ j, (t i).F j → ¬ S j := fun i hi j hj hs => by
    obtain ⟨k, hk, hkj⟩ := hS j hs ((t i).lt (h.all i) j hj)
    exact h.ap i k (fun e => hi (e ▸ hk)) j hj hkj
  have mix : ∀ i k, ¬ I i → I k → ∀ j, (t i).F j → ¬ (t' k).F j := fun i k hi hk j hj hkj => by
    rcases hf k hk j hkj with ⟨m, hm, hmj⟩ | hz
    · exact h.ap i m (fun e => hi (e ▸ hm)) j hj hmj
    · have := (t i).lt (h.all i) j hj; omega
  have hB := h.hB
  refine ⟨fun i => ?_, fun i j hj => ?_, fun i k hik j hi hj => ?_, h.bel.trans (hk.below hB (fun j hj hs => by have := hSB j (by omega) hs; omega)), Nat.le_trans hB hk.size⟩
  · by_cases hi : I i
    · exact hp i hi
    · rw [he i hi]; exact (t i).keep (h.all i) hk (old i hi)
  · by_cases hi : I i
    · rcases hf i hi j hj with ⟨m, _, hmj⟩ | hz
      · exact h.lo m j hmj
      · omega
    · rw [he i hi] at hj; exact h.lo i j hj
  · by_cases hI : I i
    · by_cases hK : I k
      · exact hd i k hI hK hik j hi hj
      · rw [he k hK] at hj; exact mix k i hK hI j hj hi
    · rw [he i hI] at hi
      by_cases hK : I k
      · exact mix i k hI hK j hi hj
      · rw [he k hK] at hj; exact h.ap i k hik j hi hj
/-- Nothing that was is turned. -/
theorem GX.below (h : GX w0 B t W) (hb : Below W.heap.size W W') : GX w0 B t W' :=
  h.turn t (fun _ => False) (Kp.of_below (fun _ => False) hb) (fun _ e => e.elim) (fun _ _ => rfl) (fun _ e => e.elim) (fun _ e => e.elim) (fun _ _ e => e.elim)
/-- One thing is turned, or is new. -/
theorem GX.one (h : GX w0 B t W) (i : Nat) (x : Th) (hk : Kp S W W') (hS : ∀ j, S j → j < W.heap.size → (t i).F j) (hp : x.P W') (hf : ∀ j, x.F j → (t i).F j ∨ W.heap.size ≤ j) : GX w0 B (up t i x) W' :=
  h.turn _ (fun k => k = i) hk (fun j hs hj => ⟨i, rfl, hS j hs hj⟩) (fun k hk => up_ne t x hk) (fun k hk => by rw [show k = i from hk, up_at]; exact hp)
    (fun k hk j hj => by rw [show k = i from hk, up_at] at hj; exact (hf j hj).imp (fun e => ⟨i, rfl, e⟩) id) (fun a b ha hb hab => absurd (ha.trans hb.symm) hab)
/-- Two things are turned, or are new. -/
theorem GX.two (h : GX w0 B t W) (i k : Nat) (x y : Th) (hik : i ≠ k) (hk : Kp S W W') (hS : ∀ j, S j → j < W.heap.size → (t i).F j ∨ (t k).F j) (hp : x.P W') (hq : y.P W') (hf : ∀ j, x.F j → (t i).F j ∨ (t k).F j ∨ W.heap.size ≤ j) (hg : ∀ j, y.F j → (t i).F j ∨ (t k).F j ∨ W.heap.size ≤ j) (hd : ∀ j, x.F j → ¬ y.F j) : GX w0 B (up (up t i x) k y) W' := by
  have ei : up (up t i x) k y i = x := by rw [up_ne _ _ hik, up_at]
  have ek : up (up t i x) k y k = y := up_at _ _ _
  refine h.turn _ (fun m => m = i ∨ m = k) hk (fun j hs hj => (hS j hs hj).elim (fun e => ⟨i, .inl rfl, e⟩) (fun e => ⟨k, .inr rfl, e⟩)) (fun m hm => ?_) (fun m hm => ?_) (fun m hm j hj => ?_) (fun a b ha hb hab j hj hj' => ?_)
  · rw [up_ne _ _ (fun e => hm (.inr e)), up_ne _ _ (fun e => hm (.inl e))]
  · rcases hm with rfl | rfl
    · rw [ei]; exact hp
    · rw [ek]; exact hq
  · have : (t i).F j ∨ (t k).F j ∨ W.heap.size ≤ j := by
      rcases hm with rfl | rfl
      · rw [ei] at hj; exact hf j hj
      · rw [ek] at hj; exact hg j hj
    rcases this with e | e | e
    · exact .inl ⟨i, .inl rfl, e⟩
    · exact .inl ⟨k, .inr rfl, e⟩
    · exact .inr e
  · rcases ha with rfl | rfl <;> rcases hb with rfl | rfl
    · exact hab rfl
    · rw [ei] at hj; rw [ek] at hj'; exact hd j hj hj'
    · rw [ek] at hj; rw [ei] at hj'; exact hd j hj' hj
    · exact hab rfl
theorem GX.drop (h : GX w0 B t W) (i : Nat) : GX w0 B (up t i Th.no) W :=
  h.one i Th.no (Kp.refl (fun _ => False) W) (fun _ e => e.elim) trivial (fun _ e => e.elim)
end
/-- Nothing, drawn only. -/
theorem GX.drewN {w0 W : World} {B : Nat} {t : Nat → Th} (h : GX w0 B t W) (d : Nat) : GX w0 B t (W.drewN d) := h.below (below_drewN W d)
/-- The program's ledger as a thing. -/
def tL (lb : Nat) (rv : Value) (L : List Rn) : Th where
  F j := j = lb ∨ rv.ownBlock = some j
  P W := Led W lb rv L
  keep h hk hn := h.kept hk (hn _ (.inl rfl)) (fun g hg => hn g (.inr hg))
  lt h j hj := hj.elim (fun e => by rw [e]; exact h.lt) (fun e => (h.own.lt j e).2)
/-- The document's ledger as a thing. -/
def tR (lb : Nat) (rv : Value) (L : List Rn) : Th where
  F j := j = lb ∨ rv.ownBlock = some j
  P W := RLed W lb rv L
  keep h hk hn := h.kept hk (hn _ (.inl rfl)) (fun g hg => hn g (.inr hg))
  lt h j hj := hj.elim (fun e => by rw [e]; exact h.lt) (fun e => (h.own.lt j e).2)
theorem own_keptB {S : Nat → Prop} {w w' : World} {base : Nat} {v : Value} {n : Nat} {f : Nat → Int} (h : By.Own w base v n f) (hk : Kp S w w') (hne : ∀ g, v.ownBlock = some g → ¬ S g) : By.Own w' base v n f := by
  refine ⟨h.1, h.2.1, ?_⟩
  rcases h.2.2 with hn | ⟨g, cap, cur, rfl, hb, hg, hr⟩
  · exact .inl hn
  · exact .inr ⟨g, cap, cur, rfl, hb, (hk.block g (Array.getElem?_eq_some_iff.1 hg).1 (hne g rfl)).trans hg, hr⟩
theorem own_mono {w : World} {base base' : Nat} {v : Value} {n : Nat} {f : Nat → Int} (h : By.Own w base v n f) (hb : base' ≤ base) : By.Own w base' v n f := by
  refine ⟨h.1, h.2.1, ?_⟩
  rcases h.2.2 with hn | ⟨g, cap, cur, rfl, hbg, hr⟩
  · exact .inl hn
  · exact .inr ⟨g, cap, cur, rfl, Nat.le_trans hb hbg, hr⟩
/-- A list of bytes as a thing. -/
def tB (v : Value) (n : Nat) (f : Nat → Int) : Th where
  F j := v.ownBlock = some j
  P W := By.Own W 0 v n f
  keep h hk hn := own_keptB h hk (fun g hg => hn g hg)
  lt h j hj := (h.2.lt j hj).2
/-- A memory of the program as a thing. -/
def tM (p : Value) (k : Kd) : Th where
  F := pb p
  P W := IsM W p k
  keep h hk hn := h.kept hk hn
  lt {W} h j hj := by
    cases k with
    | none =>
      rcases h with e | ⟨b, e, h⟩
      · rw [show p = _ from hj] at e; cases e
      · rw [show p = _ from hj] at e; cases e; exact Blk.lt h
    | some q =>
      obtain ⟨n, f⟩ := q
      obtain ⟨b, e, h⟩ := h
      rw [show p = _ from hj] at e; cases e; exact h.here.lt
end Go.Proofs.Ythoklddoeoedgaa.Sl
