/- So many events of a block at once; no function of the program in it. -/
import Derived.Test.YtnncgniiceglaabDoorVnum
import Derived.Test.YtnncgniiceglaabDoorYj
namespace Go.Proofs.YtnncgniiceglaabDoor.Vm
open Go.ChangeShapes Go.WideShapes Go.ChangeAt Go.RowKit
open Go.Proofs.YtnncgniiceglaabDoor.By Go.Proofs.YtnncgniiceglaabDoor.Gf Go.Proofs.YtnncgniiceglaabDoor.Ae
theorem putL_none (L : List Rn) (k s : Int) : putL L ⟨k, s, 0⟩ = L := if_pos (show (0 : Int) < 1 from by decide)
theorem put_nil (r : Rn) (h : 1 ≤ r.c) : putL [] r = [r] := by simp [putL]; omega
theorem putL_last (M : List Rn) (q r : Rn) (hr : 1 ≤ r.c) (hk : q.k = r.k ∧ q.s = r.s) : putL (M ++ [q]) r = M ++ [⟨q.k, q.s, sm q.c r.c⟩] := by
  unfold putL
  rw [if_neg (by omega), List.getLast?_append, List.getLast?_singleton]
  simp [hk]
theorem putL_other (M : List Rn) (q r : Rn) (hr : 1 ≤ r.c) (hk : ¬ (q.k = r.k ∧ q.s = r.s)) : putL (M ++ [q]) r = M ++ [q] ++ [r] := by
  unfold putL
  rw [if_neg (by omega), List.getLast?_append, List.getLast?_singleton]
  simp only [Option.some_or]
  rw [if_neg hk]
theorem tot_snoc (M : List Rn) (q : Rn) : tot (M ++ [q]) = tot M + q.c := by
  induction M with
  | nil => simp [tot]
  | cons x M ih => simp only [List.cons_append, tot]; rw [ih]; omega
theorem tot_nonneg {L : List Rn} (h : Pos L) : 0 ≤ tot L := by
  induction L with
  | nil => simp [tot]
  | cons x L ih =>
    have h1 := h x (by simp)
    have h2 := ih (fun q hq => h q (by simp [hq]))
    simp only [tot]; omega
theorem putL_two (L : List Rn) (hp : Pos L) (k s a b : Int) (ha : 0 ≤ a) (hb : 1 ≤ b) (ht : tot L + a + b ≤ 9000000000000000000) : putL (putL L ⟨k, s, a⟩) ⟨k, s, b⟩ = putL L ⟨k, s, a + b⟩ := by
  by_cases h0 : a = 0
  · subst h0; rw [putL_none, Int.zero_add]
  have ha : 1 ≤ a := by omega
  rcases List.eq_nil_or_concat L with rfl | ⟨M, q, hL⟩
  · rw [put_nil ⟨k, s, a⟩ ha, put_nil ⟨k, s, a + b⟩ (by show 1 ≤ a + b; omega)]
    have := putL_last [] ⟨k, s, a⟩ ⟨k, s, b⟩ hb ⟨rfl, rfl⟩
    rw [List.nil_append] at this
    rw [this]
    have e : sm a b = a + b := by unfold sm; rw [if_pos (by simp [tot] at ht; omega)]
    simp [e]
  · rw [List.concat_eq_append] at hL
    subst hL
    rw [tot_snoc] at ht
    have h0 := tot_nonneg (L := M) (fun x hx => hp x (by simp [hx]))
    have hq := hp q (by simp)
    by_cases hk : q.k = k ∧ q.s = s
    · rw [putL_last M q ⟨k, s, a⟩ ha hk, putL_last M ⟨q.k, q.s, sm q.c a⟩ ⟨k, s, b⟩ hb hk, putL_last M q ⟨k, s, a + b⟩ (by show 1 ≤ a + b; omega) hk]
      have e : sm (sm q.c a) b = sm q.c (a + b) := by unfold sm; rw [if_pos (by omega), if_pos (by omega), if_pos (by omega)]; omega
      simp only [e]
    · rw [putL_other M q ⟨k, s, a⟩ ha hk, putL_last (M ++ [q]) ⟨k, s, a⟩ ⟨k, s, b⟩ hb ⟨rfl, rfl⟩, putL_other M q ⟨k, s, a + b⟩ (by show 1 ≤ a + b; omega) hk]
      have e : sm a b = a + b := by unfold sm; rw [if_pos (by omega)]
      simp only [e]
/-- n events of a block more, under a key of k words. -/
def evb (k : Nat) (L : List Rn) (n : Nat) : List Rn := putL L ⟨5, ((4 * k : Nat) : Int), (n : Int)⟩
theorem evb_zero (k : Nat) (L : List Rn) : evb k L 0 = L := putL_none _ _ _
theorem evb_one (k : Nat) (L : List Rn) : evb k L 1 = putL L ⟨5, ((4 * k : Nat) : Int), 1⟩ := rfl
theorem evb_add {L : List Rn} (hp : Pos L) (k a b : Nat) (ht : tot L + a + b ≤ 9000000000000000000) : evb k (evb k L a) b = evb k L (a + b) := by
  by_cases h : b = 0
  · subst h; rw [evb_zero, Nat.add_zero]
  · unfold evb
    rw [putL_two L hp _ _ _ _ (by omega) (by omega) ht]
    congr 2
theorem evb_pos {L : List Rn} (hp : Pos L) (k n : Nat) : Pos (evb k L n) := putL_pos hp
theorem evb_tot {L : List Rn} (hp : Pos L) (k n : Nat) (ht : tot L + n ≤ 9000000000000000000) : tot (evb k L n) = tot L + n := by
  by_cases h : n = 0
  · subst h; rw [evb_zero]; omega
  · exact tot_put (r := ⟨5, ((4 * k : Nat) : Int), (n : Int)⟩) hp (by show (1 : Int) ≤ (n : Int); omega) (by show tot L + (n : Int) ≤ _; omega)
theorem evb_len (k : Nat) (L : List Rn) (n : Nat) : (evb k L n).length ≤ L.length + 1 := putL_len.1
end Go.Proofs.YtnncgniiceglaabDoor.Vm
