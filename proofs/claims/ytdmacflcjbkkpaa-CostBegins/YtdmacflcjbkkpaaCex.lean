/- The document's examples, a full vault, the bytes about a rate (pure). -/
import Derived.Test.YtdmacflcjbkkpaaCnb
namespace Go.Proofs.Ytdmacflcjbkkpaa.Co
open Go.Proofs.Ytdmacflcjbkkpaa.Ou (Sk)
def P0 : St := fun _ => none
/-- The skeletons of the examples. -/
def exl : List Sk := [⟨1, 0, 0, 0, 0, 16, 0⟩, ⟨2, 0, 3, 0, 16, 0, 0⟩, ⟨3, 1, 0, 0, 0, 33, 0⟩, ⟨4, 1, 0, 0, 0, 0, 0⟩, ⟨2, 0, 1, 0, 20, 0, 0⟩, ⟨5, 1, 0, 0, 0, 20, 0⟩, ⟨8, 0, 2, 3, 65, 4, 0⟩, ⟨4, 0, 0, 0, 0, 0, 0⟩, ⟨10, 5, 0, 0, 0, 0, 0⟩, ⟨99, 0, 0, 0, 0, 0, 0⟩]
/-- What each records. -/
def exr : List (List Ru) := [[⟨11, 1, 1⟩, ⟨12, 0, 1⟩], [⟨11, 2, 1⟩, ⟨4, 16, 1⟩, ⟨5, 16, 1⟩, ⟨12, 0, 1⟩], [⟨11, 3, 1⟩, ⟨5, 16, 2⟩, ⟨12, 0, 1⟩], [⟨11, 4, 1⟩, ⟨5, 16, 1⟩, ⟨8, 1024, 1⟩, ⟨12, 0, 1⟩], [⟨11, 2, 1⟩, ⟨1, 64, 2⟩, ⟨12, 0, 1⟩], [⟨11, 5, 1⟩, ⟨1, 64, 2⟩, ⟨6, 20, 1⟩, ⟨8, 1024, 1⟩, ⟨12, 0, 1⟩], [⟨11, 8, 1⟩, ⟨2, 128, 14⟩, ⟨12, 0, 1⟩], [⟨11, 4, 1⟩, ⟨12, 6, 1⟩], [⟨11, 10, 1⟩, ⟨12, 5, 1⟩], [⟨11, 99, 1⟩, ⟨12, 3, 1⟩]]
theorem ex_rows : rws P0 exl = exr := by rfl
/-- How many KMAC blocks three operations record. -/
def kb (l : List Ru) : Int := match l with
  | [] => 0
  | r :: l => (if r.k = 3 ∧ r.s = 200 then r.c else 0) + kb l
/-- What the examples about a rate ask: a key, a message, a tag of so many bytes. -/
def spo (key msg out : Int) : List Int := (rws P0 [⟨1, 0, 0, 0, 0, key, 0⟩, ⟨2, 0, 4, 0, out, 0, 0⟩, ⟨3, 1, 0, 0, 0, msg, 0⟩, ⟨4, 1, 0, 0, 0, 0, 0⟩]).map kb
theorem spo1 : spo 163 165 32 = [0, 2, 0, 2] := by rfl
theorem spo2 : spo 164 165 31 = [0, 3, 0, 1] := by rfl
theorem spo3 : spo 31 166 31 = [0, 2, 0, 2] := by rfl
theorem spo4 : spo 0 164 32 = [0, 2, 0, 1] := by rfl
theorem spo5 : spo 331 168 64 = [0, 3, 1, 1] := by rfl
theorem spo6 : spo 332 333 64 = [0, 4, 1, 2] := by rfl
/-- The least that is free, found. -/
theorem fre_some {P : St} {n : Nat} (hn : n < 64) (h : P n = none) (b : ∀ i, i < n → P i ≠ none) : fre P = some n := by
  unfold fre
  rw [List.find?_eq_some_iff_getElem]
  refine ⟨by rw [h]; rfl, n, by simpa using hn, by simp, fun j hj => ?_⟩
  have := b j hj
  simp only [List.getElem_range]
  cases e : P j with
  | none => exact absurd e this
  | some x => simp
theorem fre_none {P : St} (b : ∀ i, i < 64 → P i ≠ none) : fre P = none := by
  unfold fre
  rw [List.find?_eq_none]
  intro i hi
  have := b i (List.mem_range.1 hi)
  cases e : P i with
  | none => exact absurd e this
  | some x => simp
theorem fre_inv {P : St} {n : Nat} (h : fre P = some n) : n < 64 ∧ P n = none ∧ ∀ i, i < n → P i ≠ none := by
  unfold fre at h
  rw [List.find?_eq_some_iff_getElem] at h
  obtain ⟨h1, i, hi, e, b⟩ := h
  simp only [List.getElem_range] at e
  subst e
  refine ⟨by simpa using hi, by simpa using h1, fun j hj => ?_⟩
  have := b j hj
  simp only [List.getElem_range] at this
  intro e
  rw [e] at this
  simp at this
theorem fre_all {P : St} (h : fre P = none) : ∀ i, i < 64 → P i ≠ none := by
  intro i hi e
  unfold fre at h
  rw [List.find?_eq_none] at h
  have := h i (List.mem_range.2 hi)
  rw [e] at this
  exact this rfl
/-- Keys of 0 to n - 1 bytes. -/
def pn (n : Nat) : St := fun i => if i < n then some ⟨(i : Int), 0, 0, 0, 0⟩ else none
theorem pn_free {n : Nat} (hn : n < 64) : fre (pn n) = some n := by
  refine fre_some hn ?_ (fun i hi => ?_)
  · unfold pn; rw [if_neg (by omega)]
  · unfold pn; rw [if_pos hi]; simp
theorem pn_full : fre (pn 64) = none := fre_none (fun i hi => by unfold pn; rw [if_pos hi]; simp)
/-- One key more. -/
theorem pn_put {n : Nat} (hn : n < 64) : cod (pn n) (clp ⟨1, 0, 0, 0, 0, (n : Int), 0⟩) = 0 ∧ stp (pn n) ⟨1, 0, 0, 0, 0, (n : Int), 0⟩ = pn (n + 1) := by
  have f := pn_free hn
  have m : max (n : Int) 0 = n := by omega
  have c : cod (pn n) (clp ⟨1, 0, 0, 0, 0, (n : Int), 0⟩) = 0 := by
    unfold cod clp
    simp only
    rw [m, if_neg (by decide), if_pos trivial, if_neg (by omega), f]
    rfl
  refine ⟨c, ?_⟩
  unfold stp
  rw [if_pos c]
  unfold nxt clp hel
  simp only
  rw [if_neg (by decide), if_neg (by decide), if_pos (show tks 1 = true from rfl), if_pos trivial, f, m]
  funext j
  unfold upS pn
  simp only [Option.getD_some]
  by_cases h : j = n
  · subst h; rw [if_pos rfl, if_pos (by omega)]
  · rw [if_neg h]
    by_cases h2 : j < n
    · rw [if_pos h2, if_pos (by omega)]
    · rw [if_neg h2, if_neg (by omega)]
/-- What a full vault refuses, and why; one let go makes room for one. -/
def ful8 : List Sk := [⟨1, 0, 0, 0, 0, 513, 0⟩, ⟨1, 0, 0, 0, 0, 512, 0⟩, ⟨6, 64, 0, 0, 0, 0, 0⟩, ⟨6, 63, 0, 0, 0, 0, 0⟩, ⟨2, 17, 3, 0, 16, 0, 0⟩, ⟨2, 16, 3, 0, 16, 0, 0⟩, ⟨10, 9, 0, 0, 0, 0, 0⟩, ⟨2, 16, 5, 0, 64, 64, 0⟩]
theorem ful8_codes : cds (pn 64) ful8 = [7, 8, 5, 8, 7, 8, 0, 0] := by rfl
theorem ful8_row : (rws (pn 64) ful8).getLast? = some [⟨11, 2, 1⟩, ⟨3, 200, 2⟩, ⟨12, 0, 1⟩] := by rfl
theorem ful8_held : (List.range 64).all (fun i => (aft (pn 64) ful8 i).isSome) = true := by rfl
end Go.Proofs.Ytdmacflcjbkkpaa.Co
