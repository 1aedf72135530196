/- Operations held against each other, by the program, by the document, by the statement. -/
import Derived.Test.YtdahogdfonhnfaaUop
import Derived.Test.YtdahogdfonhnfaaCmath
import Derived.Laws.BytesArg
namespace Go.Proofs.Ytdahogdfonhnfaa.Ou
open Go.ChangeShapes Go.WideShapes Go.ChangeAt Go.RowKit
open Go.Proofs.Ytdahogdfonhnfaa.By
def sof (n : Nat) (f : Nat → Int) : ByteArray := strOfNums ((List.range n).map f)
theorem cvs {w : World} {a : Option Addr} {n cap : Nat} {f : Nat → Int} (hr : By.RB w (.slice a n cap) n f) : (convert 26 9 (.slice a n cap)).run Try.prog w = .ok (.string (sof n f)) w := by
  obtain ⟨hf, a', cap', he, h1, h2, hc⟩ := hr
  simp only [Value.slice.injEq] at he
  obtain ⟨rfl, _, rfl⟩ := he
  cases a with
  | none =>
    have hn0 : n = 0 := by
      rcases hc with ⟨h, _⟩ | ⟨_, _, h, _⟩
      · exact h
      · cases h
    subst hn0
    exact run_convert_bytes_nil w 26 5 Try.underlying26 Try.underlying5 0 cap 9 Try.underlying9
  | some ad =>
    rcases hc with ⟨e, _⟩ | ⟨b, off, he, hcell⟩
    · subst e
      rw [run_convert_bytes_string w 26 9 5 _ 0 cap Try.underlying26 Try.underlying5 Try.underlying9, run_bytesToString w _ 0 cap [] (by simpa using run_loadCells_list (P := Try.prog) w ad [] (fun j v hj => by simp at hj))]
      rfl
    · cases he
      exact run_convert_bytes_arg w 26 5 Try.underlying26 Try.underlying5 b off n cap ((List.range n).map f) (by simp) (fun i hi => by rw [hcell i hi]; simp [hi]) 9 Try.underlying9
/-- Two lists are the same. -/
def eqL (n n' : Nat) (f g : Nat → Int) : Bool := decide (n = n') && eqB f g n
theorem eqL_refl (n : Nat) (f : Nat → Int) : eqL n n f f = true := by unfold eqL; rw [eqB_refl]; simp
theorem eqL_comm (n n' : Nat) (f g : Nat → Int) : eqL n n' f g = eqL n' n g f := by
  unfold eqL
  by_cases h : n = n'
  · subst h; rw [eqB_comm]
  · rw [decide_eq_false h, decide_eq_false (fun e => h e.symm)]; rfl
theorem sof_eq (n n' : Nat) (f g : Nat → Int) (hf : ∀ i, 0 ≤ f i ∧ f i < 256) (hg : ∀ i, 0 ≤ g i ∧ g i < 256) : ((sof n f).toList == (sof n' g).toList) = eqL n n' f g := by
  rw [ByteArray.toList_eq, ByteArray.toList_eq]
  have key : sof n f = sof n' g ↔ eqL n n' f g = true := by
    constructor
    · intro h
      have h1 := congrArg (fun s => s.data.toList) h
      simp only [sof, strOfNums_data, List.map_map] at h1
      have hl := congrArg List.length h1
      simp at hl
      subst hl
      unfold eqL
      simp only [decide_true, Bool.true_and]
      refine eqB_iff.2 (fun i hi => ?_)
      have h2 := congrArg (fun l => l[i]?) h1
      simp [hi] at h2
      have a := hf i
      have b := hg i
      have h3 := congrArg UInt8.toNat h2
      simp at h3
      omega
    · intro h
      unfold eqL at h
      simp only [Bool.and_eq_true, decide_eq_true_eq] at h
      obtain ⟨rfl, h⟩ := h
      unfold sof
      congr 1
      exact List.map_congr_left (fun i hi => eqB_iff.1 h i (List.mem_range.1 hi))
  cases e : eqL n n' f g with
  | true => rw [key.2 e]; simp
  | false =>
    have : ¬ sof n f = sof n' g := fun h => by rw [key.1 h] at e; cases e
    have h2 : ¬ (sof n f).data.toList = (sof n' g).data.toList := fun h => this (bytes_inj h)
    simpa using h2
theorem rb_at {w : World} {a : Option Addr} {n cap k : Nat} {f : Nat → Int} (h : By.RB w (.slice a n cap) n f) (hk : k < n) : ∃ b off, a = some ⟨b, off, none⟩ ∧ w.cell? ⟨b, off + k, none⟩ = some (.int .u8 (f k)) := by
  obtain ⟨hf, a', cap', he, h1, h2, hc⟩ := h
  simp only [Value.slice.injEq] at he
  obtain ⟨rfl, _, rfl⟩ := he
  rcases hc with ⟨e, _⟩ | ⟨b, off, rfl, hcell⟩
  · omega
  · exact ⟨b, off, rfl, hcell k hk⟩
end Go.Proofs.Ytdahogdfonhnfaa.Ou
