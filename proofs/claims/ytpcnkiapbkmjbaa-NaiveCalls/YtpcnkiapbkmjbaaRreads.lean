/- What the program's functions on lists of runs answer: Count, for every list; nothing that was there is turned. -/
import Derived.Test.YtpcnkiapbkmjbaaRled
namespace Go.Proofs.Ytpcnkiapbkmjbaa
open Go.ChangeShapes Go.WideShapes Go.ChangeAt Go.RowKit

/-- Run k of a slice that reads as L. -/
theorem RB.at {w : World} {a : Option Addr} {n cap k : Nat} {L : List Rn} {r : Rn} (h : RB w (.slice a n cap) L) (hk : L[k]? = some r) :
    ∃ b off, a = some ⟨b, off, none⟩ ∧ w.cell? ⟨b, off + k * 3, none⟩ = some (.int .u8 r.k) ∧ w.cell? ⟨b, off + k * 3 + 1, none⟩ = some (.int .i64 r.s) ∧ w.cell? ⟨b, off + k * 3 + 2, none⟩ = some (.int .i64 r.c) := by
  obtain ⟨_, a', cap', he, _, _, ⟨h0, _⟩ | ⟨b, off, rfl, hc⟩⟩ := h
  · subst h0; simp at hk
  · simp only [Value.slice.injEq] at he
    obtain ⟨rfl, _, _⟩ := he
    exact ⟨b, off, rfl, hc k r hk⟩
theorem RB.len {w : World} {a : Option Addr} {n cap : Nat} {L : List Rn} (h : RB w (.slice a n cap) L) : L.length = n := by
  obtain ⟨_, a', cap', he, _⟩ := h
  simp only [Value.slice.injEq] at he
  exact he.2.1.symm
theorem RB.isSlice {w : World} {v : Value} {L : List Rn} (h : RB w v L) : ∃ a cap, v = .slice a L.length cap := by
  obtain ⟨_, a, cap, e, _⟩ := h
  exact ⟨a, cap, e⟩
theorem RB.ok {w : World} {v : Value} {L : List Rn} {r : Rn} {k : Nat} (h : RB w v L) (hk : L[k]? = some r) : r.Ok := h.1 r (List.mem_of_getElem? hk)

/-- How many of the events have a kind. -/
def cnt (k : Int) : List Rn → Int
  | [] => 0
  | r :: L => (if r.k = k then r.c else 0) + cnt k L
theorem cnt_append (k : Int) (L M : List Rn) : cnt k (L ++ M) = cnt k L + cnt k M := by
  induction L with
  | nil => simp [cnt]
  | cons r L ih => simp [cnt, ih]; omega
theorem cnt_bound (k : Int) {L : List Rn} (h : Pos L) : 0 ≤ cnt k L ∧ cnt k L ≤ tot L := by
  induction L with
  | nil => simp [cnt, tot]
  | cons r L ih =>
    have h1 := h r (by simp)
    have h2 := ih (fun q hq => h q (by simp [hq]))
    simp only [cnt, tot]; split <;> omega
theorem take_snoc {L : List Rn} {k : Nat} {r : Rn} (h : L[k]? = some r) : L.take (k + 1) = L.take k ++ [r] := by
  rw [List.take_add_one, h]; rfl
theorem tot_take {L : List Rn} (h : Pos L) (k : Nat) : tot (L.take k) ≤ tot L := by
  have h1 : tot L = tot (L.take k) + tot (L.drop k) := by rw [← tot_append, List.take_append_drop]
  have h2 : 0 ≤ tot (L.drop k) := by
    have := tot_pos (L := L.drop k) (fun q hq => h q (List.mem_of_mem_drop hq)); omega
  omega
theorem pos_take {L : List Rn} (h : Pos L) (k : Nat) : Pos (L.take k) := fun q hq => h q (List.mem_of_mem_take hq)

end Go.Proofs.Ytpcnkiapbkmjbaa
