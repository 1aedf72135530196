/- Blocks that stay as they are, as a thing; the least free number; how many are held. No function of the program in it. -/
import Derived.Test.YtodihepgfpbonaaTtb
namespace Go.Proofs.Ytodihepgfpbonaa.Tb
open Go.ChangeShapes Go.WideShapes Go.ChangeAt Go.RowKit
/-- Blocks that stay as they are. -/
abbrev Cn := Nat → Option Obj
def tK (C : Cn) : Th where
  F j := ∃ o, C j = some o
  P W := ∀ j o, C j = some o → W.heap[j]? = some o
  keep h hk hn := fun j o e => (hk.block j (Array.getElem?_eq_some_iff.1 (h j o e)).1 (hn j ⟨o, e⟩)).trans (h j o e)
  lt h j hj := by obtain ⟨o, e⟩ := hj; exact (Array.getElem?_eq_some_iff.1 (h j o e)).1
/-- All that stays goes on to stay. -/
def Cle (C C' : Cn) : Prop := ∀ j o, C j = some o → C' j = some o
theorem Cle.refl (C : Cn) : Cle C C := fun _ _ h => h
theorem Cle.trans {A B C : Cn} (h : Cle A B) (k : Cle B C) : Cle A C := fun j o e => k j o (h j o e)
def upc (C : Cn) (g : Nat) (o : Obj) : Cn := fun j => if j = g then some o else C j
theorem upc_at (C : Cn) (g : Nat) (o : Obj) : upc C g o g = some o := if_pos rfl
theorem upc_le {C : Cn} {g : Nat} (o : Obj) (h : C g = none) : Cle C (upc C g o) := fun j p e => by
  unfold upc
  by_cases hj : j = g
  · subst hj; rw [h] at e; cases e
  · rw [if_neg hj]; exact e
/-- A block of cells as an object. -/
abbrev ob (cs : List Value) (t : TypeId) : Obj := .cells cs.toArray t (0, 0)
theorem GX.con {w0 W : World} {B : Nat} {t : Nat → Th} {C : Cn} (hG : GX w0 B t W) {i : Nat} (h : t i = tK C) {g : Nat} {cs : List Value} {ty : TypeId} (hc : C g = some (ob cs ty)) : Blk W g cs ty := by
  have := hG.all i; rw [h] at this; exact this g _ hc
theorem GX.fresh {w0 W : World} {B : Nat} {t : Nat → Th} {C : Cn} (hG : GX w0 B t W) {i : Nat} (h : t i = tK C) {g : Nat} (hg : W.heap.size ≤ g) : C g = none := by
  cases e : C g with
  | none => rfl
  | some o =>
    have := hG.all i; rw [h] at this
    have := (Array.getElem?_eq_some_iff.1 (this g o e)).1
    omega
theorem tK0 : (tK (fun _ => none)).P = fun _ => True := by
  funext W; simp only [tK]; simp
/-- No blocks that stay yet. -/
theorem gx_zero (w : World) : ∃ t', GX w w.heap.size t' w ∧ t' 0 = tK (fun _ => none) :=
  ⟨_, (GX.start w).one 0 (tK (fun _ => none)) (Kp.refl (fun _ => False) _) (fun _ e => e.elim) (by rw [tK0]; trivial) (fun j hj => by obtain ⟨o, e⟩ := hj; cases e), up_at _ _ _⟩
section
variable {V : Type}
/-- What a number of any size stands for. -/
def hdI (hd : Nat → Option V) (h : Int) : Option V := if 0 ≤ h then hd h.toNat else none
theorem hdI_nat (hd : Nat → Option V) (k : Nat) : hdI hd k = hd k := by simp [hdI]
/-- The least number below m that stands for nothing. -/
def least (hd : Nat → Option V) (m : Nat) : Option Nat := (List.range m).find? fun j => (hd j).isNone
theorem least_some {hd : Nat → Option V} {m k : Nat} (h : least hd m = some k) : k < m ∧ hd k = none ∧ ∀ j, j < k → hd j ≠ none := by
  unfold least at h
  rw [List.find?_range_eq_some] at h
  obtain ⟨h1, h2, h3⟩ := h
  refine ⟨by simpa using h2, by simpa using h1, fun j hj e => ?_⟩
  have := h3 j hj
  rw [e] at this; simp at this
theorem least_none {hd : Nat → Option V} {m : Nat} (h : least hd m = none) : ∀ j, j < m → hd j ≠ none := by
  unfold least at h
  rw [List.find?_range_eq_none] at h
  intro j hj e
  have := h j hj
  rw [e] at this; simp at this
theorem least_eq {hd : Nat → Option V} {m k : Nat} (h1 : k < m) (h2 : hd k = none) (h3 : ∀ j, j < k → hd j ≠ none) : least hd m = some k := by
  unfold least
  rw [List.find?_range_eq_some]
  refine ⟨by simp [h2], by simpa using h1, fun j hj => ?_⟩
  have := h3 j hj
  cases e : hd j with
  | none => exact absurd e this
  | some v => rfl
theorem least_all {hd : Nat → Option V} {m : Nat} (h : ∀ j, j < m → hd j ≠ none) : least hd m = none := by
  unfold least
  rw [List.find?_range_eq_none]
  intro j hj
  have := h j hj
  cases e : hd j with
  | none => exact absurd e this
  | some v => rfl
def uph (hd : Nat → Option V) (k : Nat) (x : Option V) : Nat → Option V := fun j => if j = k then x else hd j
theorem uph_at (hd : Nat → Option V) (k : Nat) (x : Option V) : uph hd k x k = x := if_pos rfl
theorem uph_ne (hd : Nat → Option V) {k j : Nat} (x : Option V) (h : j ≠ k) : uph hd k x j = hd j := if_neg h
/-- What Add, Set and Drop make of a table. -/
def addH (hd : Nat → Option V) (m : Nat) (x : V) : Nat → Option V := match least hd m with | none => hd | some k => uph hd k (some x)
def addN (hd : Nat → Option V) (m : Nat) : Int := match least hd m with | none => 0 | some k => k
def addE (hd : Nat → Option V) (m : Nat) : Int := match least hd m with | none => 8 | some _ => 0
def setH (hd : Nat → Option V) (h : Int) (x : V) : Nat → Option V := if (hdI hd h).isSome then uph hd h.toNat (some x) else hd
def dropH (hd : Nat → Option V) (h : Int) : Nat → Option V := if (hdI hd h).isSome then uph hd h.toNat none else hd
/-- How many of the first n stand for something. -/
def cntH (hd : Nat → Option V) : Nat → Nat
  | 0 => 0
  | n + 1 => cntH hd n + (if (hd n).isSome then 1 else 0)
theorem cntH_le (hd : Nat → Option V) (n : Nat) : cntH hd n ≤ n := by
  induction n with
  | zero => exact Nat.le_refl _
  | succ n ih => rw [cntH]; split <;> omega
theorem cntH_none (n : Nat) : cntH (fun _ => (none : Option V)) n = 0 := by
  induction n with
  | zero => rfl
  | succ n ih => rw [cntH, ih]; rfl
theorem cntH_up {hd : Nat → Option V} {k : Nat} (x : V) (h : hd k = none) (n : Nat) : cntH (uph hd k (some x)) n = cntH hd n + (if k < n then 1 else 0) := by
  induction n with
  | zero => rfl
  | succ n ih =>
    rw [cntH, cntH, ih]
    by_cases e : n = k
    · subst e; rw [uph_at, h]; simp
    · rw [uph_ne _ _ e]
      have : (k < n + 1) ↔ (k < n) := by omega
      simp only [this]
      omega
theorem cntH_set {hd : Nat → Option V} {k : Nat} (x : V) (h : (hd k).isSome = true) (n : Nat) : cntH (uph hd k (some x)) n = cntH hd n := by
  induction n with
  | zero => rfl
  | succ n ih =>
    rw [cntH, cntH, ih]
    by_cases e : n = k
    · subst e; rw [uph_at, h]; rfl
    · rw [uph_ne _ _ e]
theorem cntH_off {hd : Nat → Option V} {k : Nat} (h : (hd k).isSome = true) (n : Nat) : cntH (uph hd k none) n + (if k < n then 1 else 0) = cntH hd n := by
  induction n with
  | zero => rfl
  | succ n ih =>
    rw [cntH, cntH, ← ih]
    by_cases e : n = k
    · subst e; rw [uph_at, h]; simp
    · rw [uph_ne _ _ e]
      have : (k < n + 1) ↔ (k < n) := by omega
      simp only [this]
      omega
theorem cnt_eq {ps : Ps} {hd : Nat → Option V} (h : ∀ j, (ps j).isSome = (hd j).isSome) (n : Nat) : cnt ps n = cntH hd n := by
  induction n with
  | zero => rfl
  | succ n ih => rw [cnt, cntH, ih, h n]
theorem cntH_more {hd : Nat → Option V} {m : Nat} (h : ∀ j, m ≤ j → hd j = none) (n : Nat) (hn : m ≤ n) : cntH hd n = cntH hd m := by
  induction n with
  | zero => obtain rfl : m = 0 := by omega
            rfl
  | succ n ih =>
    by_cases e : m = n + 1
    · rw [e]
    · rw [cntH, h n (by omega), ih (by omega)]; rfl
end
end Go.Proofs.Ytodihepgfpbonaa.Tb
