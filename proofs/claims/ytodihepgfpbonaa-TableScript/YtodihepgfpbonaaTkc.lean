/- What stays where no block of a set is written; variables of one cell; a loop over a function. No function of the program in it. -/
import Derived.Test.YtodihepgfpbonaaTtb
import Derived.RangeFuncNested
import Derived.RangeFuncBound
import Derived.RangeFuncCalls
import Derived.RangeFuncLeaves
import Derived.Shelf.Abstract
import Derived.Shelf.RegionOpen
import Derived.OwnWalkIn
import Derived.TacticsInMore
import Derived.LoopNIn
import Derived.LoopIn
import Derived.OpenShut
import Derived.ChangeOld
import Derived.Carry
namespace Go.Proofs.Ytodihepgfpbonaa.Tb
open Go.ChangeShapes Go.WideShapes Go.ChangeAt Go.RowKit Go.Shelf
/-- Blocks of cells that are not in S are as they were. -/
structure KC (S : Nat → Prop) (A B : World) : Prop where
  size : A.heap.size ≤ B.heap.size
  same : ∀ (b : Nat) (cs : Array Value) (t : TypeId) (fr : Nat × Nat), A.heap[b]? = some (.cells cs t fr) → ¬ S b → B.heap[b]? = some (.cells cs t fr)
theorem KC.refl (S : Nat → Prop) (A : World) : KC S A A := ⟨Nat.le_refl _, fun _ _ _ _ h _ => h⟩
theorem KC.trans {S : Nat → Prop} {A B C : World} (h : KC S A B) (k : KC S B C) : KC S A C := ⟨Nat.le_trans h.size k.size, fun b cs t fr hb hs => k.same b cs t fr (h.same b cs t fr hb hs) hs⟩
theorem KC.of_kp {S T : Nat → Prop} {A B : World} (h : Kp T A B) (ht : ∀ b, b < A.heap.size → T b → S b) : KC S A B := ⟨h.size, fun b _ _ _ hb hs => (h.block b (Array.getElem?_eq_some_iff.1 hb).1 (fun e => hs (ht b (Array.getElem?_eq_some_iff.1 hb).1 e))).trans hb⟩
theorem KC.alloc (S : Nat → Prop) (A : World) (o : Obj) : KC S A (A.alloc o) := KC.of_kp (Kp.of_below (fun _ => False) (below_alloc A o)) (fun _ _ e => e.elim)
theorem KC.putObj {S : Nat → Prop} {A : World} {l : Nat} {o o' : Obj} (hl : A.heap[l]? = some o) (ho : o.isCells = false) : KC S A (A.putObj l o') :=
  ⟨by simp, fun b cs t fr hb _ => by
    by_cases e : b = l
    · subst e; rw [hb] at hl; cases hl; simp [Obj.isCells] at ho
    · rw [World.putObj_heap_other e]; exact hb⟩
theorem cell_row {W : World} {b off : Nat} {v : Value} (h : W.cell? ⟨b, off, none⟩ = some v) : ∃ cs t fr, W.heap[b]? = some (.cells cs t fr) := by
  obtain ⟨o, ho, hc⟩ := cells_of_cell h
  cases o <;> simp [Obj.isCells] at hc
  exact ⟨_, _, _, ho⟩
theorem KC.cell {S : Nat → Prop} {A B : World} (h : KC S A B) {b off : Nat} {v : Value} (hc : A.cell? ⟨b, off, none⟩ = some v) (hs : ¬ S b) : B.cell? ⟨b, off, none⟩ = some v := by
  obtain ⟨cs, t, fr, hb⟩ := cell_row hc
  rw [World.cell?_of_block (w := A) (a := ⟨b, off, none⟩) ((h.same b cs t fr hb hs).trans hb.symm)]
  exact hc
/-- A variable of one cell. -/
def Cel (W : World) (b : Nat) (v : Value) (t : TypeId) : Prop := W.heap[b]? = some (.cells #[v] t (0, 0))
theorem Cel.lt {W : World} {b : Nat} {v : Value} {t : TypeId} (h : Cel W b v t) : b < W.heap.size := (Array.getElem?_eq_some_iff.1 h).1
theorem Cel.cell {W : World} {b : Nat} {v : Value} {t : TypeId} (h : Cel W b v t) : W.cell? ⟨b, 0, none⟩ = some v := by rw [cell_of_row W b 0 _ t (0, 0) h]; rfl
theorem Cel.frozen {W : World} {b : Nat} {v : Value} {t : TypeId} (h : Cel W b v t) : W.frozen? ⟨b, 0, none⟩ = false := frozen_of_row W b 0 _ t h
theorem Cel.kept {W W' : World} {b : Nat} {v : Value} {t : TypeId} {S : Nat → Prop} (h : Cel W b v t) (hk : Kp S W W') (hn : ¬ S b) : Cel W' b v t := (hk.block b h.lt hn).trans h
theorem Cel.alloc {W : World} {b : Nat} {v : Value} {t : TypeId} (h : Cel W b v t) (o : Obj) : Cel (W.alloc o) b v t := h.kept (Kp.of_below (fun _ => False) (below_alloc W o)) id
theorem Cel.below {W W' : World} {b : Nat} {v : Value} {t : TypeId} (h : Cel W b v t) (hb : Below W.heap.size W W') : Cel W' b v t := h.kept (Kp.of_below (fun _ => False) hb) id
theorem Cel.set {W : World} {b : Nat} {v : Value} {t : TypeId} (h : Cel W b v t) (u : Value) : Cel (W.setCell ⟨b, 0, none⟩ u) b u t := by
  show (W.setCell ⟨b, 0, none⟩ u).heap[b]? = _
  rw [heap_setCell_same W b 0 _ t u h]; rfl
theorem Cel.other {W : World} {b b' : Nat} {v : Value} {t : TypeId} (h : Cel W b v t) (hn : b ≠ b') (u : Value) : Cel (W.setCell ⟨b', 0, none⟩ u) b v t := h.kept (Kp.setCell b' 0 u) hn
theorem Cel.kc {S : Nat → Prop} {W W' : World} {b : Nat} {v : Value} {t : TypeId} (h : Cel W b v t) (hk : KC S W W') (hn : ¬ S b) : Cel W' b v t := hk.same b _ _ _ h hn
theorem Cel.new (W : World) (v : Value) (t : TypeId) : Cel (W.alloc (.cells #[v] t)) W.heap.size v t := heap_alloc_new W _
theorem kc_below {W W' : World} (h : Below W.heap.size W W') : KC (fun _ => False) W W' := KC.of_kp (Kp.of_below (fun _ => False) h) (fun _ _ e => e)
theorem KC.mono {S T : Nat → Prop} {A B : World} (h : KC S A B) (hs : ∀ b, S b → T b) : KC T A B := ⟨h.size, fun b cs t fr hb hn => h.same b cs t fr hb (fun e => hn (hs b e))⟩
theorem kc_own {A B : World} {row : Option Nat} (hg : A.grownBy B row) (hr : ∀ r, row = some r → ∃ o : Obj, A.heap[r]? = some o ∧ o.isCells = false) : KC (fun _ => False) A B := by
  refine ⟨hg.size, fun b cs t fr hb _ => (hg.block b (Array.getElem?_eq_some_iff.1 hb).1 ?_).trans hb⟩
  intro e
  obtain ⟨o, ho, hc⟩ := hr _ e.symm
  rw [hb] at ho
  cases ho
  simp [Obj.isCells] at hc
theorem kf_below (n : Nat) {W W' : World} (h : Below W.heap.size W W') : KeepsFrom n W W' := ⟨h.size, fun k _ _ hk _ => (h.block k (Array.getElem?_eq_some_iff.1 hk).1).trans hk⟩
/-- A loop over a function within a block: what comes behind it is walked once. -/
theorem range_cut {F : Fence} {n : Nat} {P : Program} {c : Code} {K : Act → World → Prop} {Q : Exit → Act → World → Prop} {a : Act} {w : World} (id : Nat) (J : Nat → World → Prop)
    (h2 : c.wpIn F n P (fun e a' W => (e = .normal ∨ e = .exit id) ∧ ∃ D, J D W ∧ a' = { a with defers := { target := .collected D, args := #[] } :: a.defers }) a w)
    (h1 : ∀ D W, J D W → K { a with defers := { target := .collected D, args := #[] } :: a.defers } W) :
    c.wpIn F n P (Exit.inBlock id (Exit.then K Q)) a w := by
  refine Code.wpIn_mono ?_ h2
  rintro e a' W ⟨rfl | rfl, D, hJ, rfl⟩
  · exact h1 D W hJ
  · simp only [Exit.inBlock, if_true]
    exact h1 D W hJ
theorem Blk.kc {S : Nat → Prop} {A B : World} {g : Nat} {cs : List Value} {t : TypeId} (h : Blk A g cs t) (hk : KC S A B) (hn : ¬ S g) : Blk B g cs t := hk.same g _ _ _ h hn
/-- What an iterator goes over: the first n numbers that stand for something, rising. -/
def prs {V : Type} (hd : Nat → Option V) : Nat → List (Nat × V)
  | 0 => []
  | n + 1 => prs hd n ++ (match hd n with | none => [] | some v => [(n, v)])
theorem prs_none {V : Type} {hd : Nat → Option V} {n : Nat} (h : hd n = none) : prs hd (n + 1) = prs hd n := by rw [prs, h]; simp
theorem prs_some {V : Type} {hd : Nat → Option V} {n : Nat} {v : V} (h : hd n = some v) : prs hd (n + 1) = prs hd n ++ [(n, v)] := by rw [prs, h]
theorem prs_pre {V : Type} (hd : Nat → Option V) {n m : Nat} (h : n ≤ m) : prs hd n <+: prs hd m := by
  induction m with
  | zero => obtain rfl : n = 0 := by omega
            exact List.prefix_rfl
  | succ m ih =>
    by_cases e : n = m + 1
    · subst e; exact List.prefix_rfl
    · exact (ih (by omega)).trans ⟨_, rfl⟩
theorem prs_len {V : Type} (hd : Nat → Option V) (n : Nat) : (prs hd n).length ≤ n := by
  induction n with
  | zero => exact Nat.le_refl _
  | succ n ih =>
    rw [prs, List.length_append]
    have : (match hd n with | none => [] | some v => [(n, v)]).length ≤ 1 := by cases hd n <;> simp
    omega
theorem pre_next {V : Type} {L pre : List V} {x y : V} (hp : pre <+: L) (hy : L[pre.length]? = some y) : (pre ++ [x] <+: L) ↔ x = y := by
  obtain ⟨t, rfl⟩ := hp
  rw [List.getElem?_append_right (Nat.le_refl _), Nat.sub_self] at hy
  constructor
  · rintro ⟨s, hs⟩
    rw [List.append_assoc] at hs
    have := List.append_cancel_left hs
    subst this
    simpa using hy
  · rintro rfl
    cases t with
    | nil => simp at hy
    | cons z t => simp at hy; subst hy; exact ⟨t, by simp⟩
end Go.Proofs.Ytodihepgfpbonaa.Tb
