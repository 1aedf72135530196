/- Uses of the document: the names of the fields that a kind uses. -/
import Derived.Test.YtnadpglfliiplaaUpl
namespace Go.Proofs.Ytnadpglfliiplaa.Ou
open Go.ChangeShapes Go.WideShapes Go.ChangeAt Go.RowKit
open Go.Proofs.Ytnadpglfliiplaa.By
open Go.Proofs.Ytnadpglfliiplaa.Tb (Blk Blk.newAt)
/-- A field's name. -/
def nmS (x : Nat) : ByteArray := if x = 1 then ⟨#[72, 97, 110, 100, 108, 101]⟩ else if x = 2 then ⟨#[65, 108, 103]⟩ else if x = 3 then ⟨#[67, 111, 117, 110, 116]⟩ else if x = 4 then ⟨#[79, 117, 116]⟩ else if x = 5 then ⟨#[68, 97, 116, 97]⟩ else ⟨#[77, 111, 114, 101]⟩
/-- The fields that a kind uses, by number. -/
def FL (k : Int) : List Nat := if k = 1 then [5] else if k = 2 then [1, 2, 4, 5] else if k = 3 ∨ k = 5 then [1, 5] else if k = 4 ∨ k = 6 ∨ k = 9 ∨ k = 10 then [1] else if k = 7 then [1, 2, 4, 5, 6] else if k = 8 then [1, 2, 3, 4, 5] else []
/-- A list of names, in blocks from B on. -/
def NB (W : World) (B : Nat) (v : Value) (l : List Nat) : Prop := ∃ a c, v = .slice a l.length c ∧ l.length ≤ c ∧ ∀ j x, l[j]? = some x → ∃ b, a = some ⟨b, 0, none⟩ ∧ B ≤ b ∧ W.cell? ⟨b, j, none⟩ = some (.string (nmS x))
theorem NB.below {W V : World} {B : Nat} {v : Value} {l : List Nat} (h : NB W B v l) (hb : Below W.heap.size W V) : NB V B v l := by
  obtain ⟨a, c, e, hc, hj⟩ := h
  refine ⟨a, c, e, hc, fun j x hx => ?_⟩
  obtain ⟨b, e1, e2, e3⟩ := hj j x hx
  exact ⟨b, e1, e2, by rw [hb.cell (p := ⟨b, j, none⟩) (block_lt_of_cell e3)]; exact e3⟩
theorem NB.kept {W V : World} {B : Nat} {v : Value} {l : List Nat} {S : Nat → Prop} (h : NB W B v l) (hk : Kp S W V) (hS : ∀ j, S j → j < B) : NB V B v l := by
  obtain ⟨a, c, e, hc, hj⟩ := h
  refine ⟨a, c, e, hc, fun j x hx => ?_⟩
  obtain ⟨b, e1, e2, e3⟩ := hj j x hx
  refine ⟨b, e1, e2, ?_⟩
  have hb := hk.block b (block_lt_of_cell e3) (fun h => by have := hS b h; omega)
  simpa [World.cell?, hb] using e3
theorem nb_lit (W : World) (cs : Array Value) (l : List Nat) (h : cs.toList = l.map (fun x => Value.string (nmS x))) : NB (W.alloc (.cells cs 9)) W.heap.size (.slice (some ⟨W.heap.size, 0, none⟩) l.length l.length) l := by
  refine ⟨_, _, rfl, Nat.le_refl _, fun j x hx => ⟨_, rfl, Nat.le_refl _, ?_⟩⟩
  rw [World.cell?_alloc_at _ _ _ _ rfl]
  have := congrArg (fun l => l[j]?) h
  simpa [hx] using this
set_option maxRecDepth 8000 in
set_option maxHeartbeats 1200000 in
theorem ruses_ok (k : Int) (w : World) : Calls Try.prog 33 #[.int .u8 k] w fun e w' => ∃ v, e = .returned v ∧ NB w' w.heap.size v (FL k) ∧ Below w.heap.size w w' := by
  by_cases h : k = 1 ∨ k = 2 ∨ k = 3 ∨ k = 4 ∨ k = 5 ∨ k = 6 ∨ k = 7 ∨ k = 8 ∨ k = 9 ∨ k = 10
  · rcases h with rfl | rfl | rfl | rfl | rfl | rfl | rfl | rfl | rfl | rfl
    · have E := hid (show FL 1 = [5] by decide)
      go_enter Try.func33, Try.ntmps33
      go_wp2
      go_ret
      exact ⟨_, rfl, by rw [E.out]; exact nb_lit _ _ [5] rfl, below_alloc _ _⟩
    · have E := hid (show FL 2 = [1, 2, 4, 5] by decide)
      go_enter Try.func33, Try.ntmps33
      go_wp2
      go_ret
      exact ⟨_, rfl, by rw [E.out]; exact nb_lit _ _ [1, 2, 4, 5] rfl, below_alloc _ _⟩
    · have E := hid (show FL 3 = [1, 5] by decide)
      go_enter Try.func33, Try.ntmps33
      go_wp2
      go_ret
      exact ⟨_, rfl, by rw [E.out]; exact nb_lit _ _ [1, 5] rfl, below_alloc _ _⟩
    · have E := hid (show FL 4 = [1] by decide)
      go_enter Try.func33, Try.ntmps33
      go_wp2
      go_ret
      exact ⟨_, rfl, by rw [E.out]; exact nb_lit _ _ [1] rfl, below_alloc _ _⟩
    · have E := hid (show FL 5 = [1, 5] by decide)
      go_enter Try.func33, Try.ntmps33
      go_wp2
      go_ret
      exact ⟨_, rfl, by rw [E.out]; exact nb_lit _ _ [1, 5] rfl, below_alloc _ _⟩
    · have E := hid (show FL 6 = [1] by decide)
      go_enter Try.func33, Try.ntmps33
      go_wp2
      go_ret
      exact ⟨_, rfl, by rw [E.out]; exact nb_lit _ _ [1] rfl, below_alloc _ _⟩
    · have E := hid (show FL 7 = [1, 2, 4, 5, 6] by decide)
      go_enter Try.func33, Try.ntmps33
      go_wp2
      go_ret
      exact ⟨_, rfl, by rw [E.out]; exact nb_lit _ _ [1, 2, 4, 5, 6] rfl, below_alloc _ _⟩
    · have E := hid (show FL 8 = [1, 2, 3, 4, 5] by decide)
      go_enter Try.func33, Try.ntmps33
      go_wp2
      go_ret
      exact ⟨_, rfl, by rw [E.out]; exact nb_lit _ _ [1, 2, 3, 4, 5] rfl, below_alloc _ _⟩
    · have E := hid (show FL 9 = [1] by decide)
      go_enter Try.func33, Try.ntmps33
      go_wp2
      go_ret
      exact ⟨_, rfl, by rw [E.out]; exact nb_lit _ _ [1] rfl, below_alloc _ _⟩
    · have E := hid (show FL 10 = [1] by decide)
      go_enter Try.func33, Try.ntmps33
      go_wp2
      go_ret
      exact ⟨_, rfl, by rw [E.out]; exact nb_lit _ _ [1] rfl, below_alloc _ _⟩
  · have n1 : (k == 1) = false := by simp; omega
    have n2 : (k == 2) = false := by simp; omega
    have n3 : (k == 3) = false := by simp; omega
    have n4 : (k == 4) = false := by simp; omega
    have n5 : (k == 5) = false := by simp; omega
    have n6 : (k == 6) = false := by simp; omega
    have n7 : (k == 7) = false := by simp; omega
    have n8 : (k == 8) = false := by simp; omega
    have n9 : (k == 9) = false := by simp; omega
    have n10 : (k == 10) = false := by simp; omega
    have e : Hid (FL k = []) := by
      show FL k = []
      unfold FL
      rw [if_neg (by omega), if_neg (by omega), if_neg (by omega), if_neg (by omega), if_neg (by omega), if_neg (by omega)]
    clear h
    go_enter Try.func33, Try.ntmps33
    go_wp2
    go_ret
    exact ⟨_, rfl, by rw [e.out]; exact ⟨none, 0, rfl, Nat.le_refl _, fun j x hx => by simp at hx⟩, Below.refl _ _⟩
end Go.Proofs.Ytnadpglfliiplaa.Ou
