/- Left, Right, Pad at any number: what they answer, refused or not, as one. -/
import Derived.Test.YtnhhkoekghjogaaGreatDoorKb
namespace Go.Proofs.YtnhhkoekghjogaaGreatDoor.Kc
open Go.ChangeShapes Go.WideShapes Go.ChangeAt Go.RowKit
open Go.Proofs.YtnhhkoekghjogaaGreatDoor.By
/-- What Left and Right answer: the code, how many bytes, which. -/
def lc (n : Int) : Int := if n < 0 then 2 else 0
def lk (n : Int) : Nat := if n < 0 then 0 else nb n.toNat + 1
def lF (n : Int) : Nat → Int := fun i => if n < 0 then 0 else lf n.toNat i
def rF (n : Int) : Nat → Int := fun i => if n < 0 then 0 else rt n.toNat i
def pc (W : Int) : Int := if W < 1 ∨ 256 < W then 2 else 0
def pk (m : Nat) (W : Int) : Nat := if W < 1 ∨ 256 < W then 0 else pN m W.toNat
def pF (m : Nat) (f : Nat → Int) (W : Int) : Nat → Int := fun i => if W < 1 ∨ 256 < W then 0 else pg m f W.toNat i
theorem lF_b (n : Int) (i : Nat) : 0 ≤ lF n i ∧ lF n i < 256 := by
  unfold lF; split
  · decide
  · exact lf_b _ _
theorem rF_b (n : Int) (i : Nat) : 0 ≤ rF n i ∧ rF n i < 256 := by
  unfold rF; split
  · decide
  · exact rt_b _ _
theorem pF_b {m : Nat} {f : Nat → Int} {W : Int} (hf : ∀ i, 0 ≤ f i ∧ f i < 256) (i : Nat) : 0 ≤ pF m f W i ∧ pF m f W i < 256 := by
  unfold pF; split
  · decide
  · exact pg_b hf _
theorem lk_le (n : Int) : lk n ≤ 10 := by
  unfold lk; split
  · omega
  · have := (nb_pos n.toNat).2; omega
theorem pk_le (m : Nat) (W : Int) : pk m W ≤ m + 300 := by
  unfold pk; split
  · omega
  · have := (nb_pos W.toNat).2
    have h := pz_lt m W.toNat (by omega)
    unfold pN pn
    omega
section
variable (n : Int) (w : World) (h0 : -9223372036854775808 ≤ n) (h1 : n ≤ 9223372036854775807)
theorem lc_b : 0 ≤ lc n ∧ lc n ≤ 2 := by unfold lc; split <;> decide
include h1
theorem rightAny : Calls Tryz.prog 78 #[.int .i64 n] w fun e w' => ∃ v, e = .returned (.tuple #[v, .int .i64 (lc n)]) ∧ By.Own w' w.heap.size v (lk n) (rF n) ∧ Below w.heap.size w w' := by
  by_cases h : n < 0
  · refine (rightBad n w h).mono ?_
    rintro e w' ⟨rfl, rfl⟩
    unfold lc lk
    rw [if_pos h, if_pos h]
    exact ⟨_, rfl, own_nil _ _ _ (rF_b n), Below.refl _ _⟩
  · obtain ⟨k, rfl⟩ : ∃ k : Nat, n = k := ⟨n.toNat, by omega⟩
    refine (rightOk k w (by omega)).mono ?_
    rintro e w' ⟨v, rfl, ho, hb⟩
    unfold lc lk
    rw [if_neg h, if_neg h]
    exact ⟨_, rfl, own_congr ho (rF_b _) (fun i _ => by unfold rF; rw [if_neg h]; rfl), hb⟩
theorem rleftAny : Calls Tryz.prog 75 #[.int .i64 n] w fun e w' => ∃ v, e = .returned (.tuple #[v, .int .i64 (lc n)]) ∧ By.Own w' w.heap.size v (lk n) (lF n) ∧ Below w.heap.size w w' := by
  by_cases h : n < 0
  · refine (rleftBad n w h).mono ?_
    rintro e w' ⟨rfl, rfl⟩
    unfold lc lk
    rw [if_pos h, if_pos h]
    exact ⟨_, rfl, own_nil _ _ _ (lF_b n), Below.refl _ _⟩
  · obtain ⟨k, rfl⟩ : ∃ k : Nat, n = k := ⟨n.toNat, by omega⟩
    refine (rleftOk k w (by omega)).mono ?_
    rintro e w' ⟨v, rfl, ho, hb⟩
    unfold lc lk
    rw [if_neg h, if_neg h]
    exact ⟨_, rfl, own_congr ho (lF_b _) (fun i _ => by unfold lF; rw [if_neg h]; rfl), hb⟩
end
section
variable (W : Int) (m : Nat) (f : Nat → Int) (p : Value) (w : World) (hr : By.RB w p m f) (hm : m ≤ 140737488355000)
include hr hm
theorem padAny : Calls Tryz.prog 45 #[p, .int .i64 W] w fun e w' => ∃ v, e = .returned (.tuple #[v, .int .i64 (pc W)]) ∧ By.Own w' w.heap.size v (pk m W) (pF m f W) ∧ Below w.heap.size w w' := by
  by_cases h : W < 1 ∨ 256 < W
  · refine (padBad W p w h).mono ?_
    rintro e w' ⟨rfl, rfl⟩
    unfold pc pk
    rw [if_pos h, if_pos h]
    exact ⟨_, rfl, own_nil _ _ _ (pF_b hr.1), Below.refl _ _⟩
  · obtain ⟨k, rfl⟩ : ∃ k : Nat, W = k := ⟨W.toNat, by omega⟩
    refine (padOk m k f p w hr hm (by omega) (by omega)).mono ?_
    rintro e w' ⟨v, rfl, ho, hb⟩
    unfold pc pk
    rw [if_neg h, if_neg h]
    exact ⟨_, rfl, own_congr ho (pF_b hr.1) (fun i _ => by unfold pF; rw [if_neg h]; rfl), hb⟩
theorem rpadAny : Calls Tryz.prog 50 #[p, .int .i64 W] w fun e w' => ∃ v, e = .returned (.tuple #[v, .int .i64 (pc W)]) ∧ By.Own w' w.heap.size v (pk m W) (pF m f W) ∧ Below w.heap.size w w' := by
  by_cases h : W < 1 ∨ 256 < W
  · refine (rpadBad W p w h).mono ?_
    rintro e w' ⟨rfl, rfl⟩
    unfold pc pk
    rw [if_pos h, if_pos h]
    exact ⟨_, rfl, own_nil _ _ _ (pF_b hr.1), Below.refl _ _⟩
  · obtain ⟨k, rfl⟩ : ∃ k : Nat, W = k := ⟨W.toNat, by omega⟩
    refine (rpadOk m k f p w hr hm (by omega) (by omega)).mono ?_
    rintro e w' ⟨v, rfl, ho, hb⟩
    unfold pc pk
    rw [if_neg h, if_neg h]
    exact ⟨_, rfl, own_congr ho (pF_b hr.1) (fun i _ => by unfold pF; rw [if_neg h]; rfl), hb⟩
end
end Go.Proofs.YtnhhkoekghjogaaGreatDoor.Kc
