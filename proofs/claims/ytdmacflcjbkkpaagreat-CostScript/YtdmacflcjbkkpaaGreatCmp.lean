/- What is held, as a map in memory: found, put, struck out, counted. -/
import Derived.Test.YtdmacflcjbkkpaaGreatJp
import Derived.Test.YtdmacflcjbkkpaaGreatTbk
import Derived.Maps.OwnSet
import Derived.Lib.SlKeysI
namespace Go.Proofs.YtdmacflcjbkkpaaGreat.Co
open Go.ChangeShapes Go.WideShapes Go.ChangeAt Go.RowKit Go.Maps
/-- A holding as a value. -/
abbrev hv (h : He) : Value := .agg #[.int .u8 h.alg, .int .i64 h.out, .int .i64 h.key, .int .i64 h.cus, .int .i64 h.msg]
abbrev hL (h : He) : List Value := [.int .u8 h.alg, .int .i64 h.out, .int .i64 h.key, .int .i64 h.cus, .int .i64 h.msg]
/-- .. as a datum. -/
def hD (h : He) : DataW Unit := .agg [.lit (.int .u8 h.alg), .lit (.int .i64 h.out), .lit (.int .i64 h.key), .lit (.int .i64 h.cus), .lit (.int .i64 h.msg)]
def rdH (v : Value) : Option (DataW Unit × List MemPlace) :=
  match v with
  | .agg cs => match cs.toList with
    | [.int .u8 a, .int .i64 b, .int .i64 c, .int .i64 d, .int .i64 e] => some (hD ⟨c, a, b, d, e⟩, [])
    | _ => none
  | _ => none
theorem rdH_mk (h : He) : rdH (hv h) = some (hD h, []) := rfl
theorem rdH_inv {v : Value} {z : DataW Unit × List MemPlace} (e : rdH v = some z) : ∃ h, v = hv h ∧ z = (hD h, []) := by
  unfold rdH at e
  split at e
  · rename_i cs
    split at e
    · rename_i a b c d g hcs
      simp only [Option.some.injEq] at e
      refine ⟨⟨c, a, b, d, g⟩, ?_, e.symm⟩
      have : cs = #[.int .u8 a, .int .i64 b, .int .i64 c, .int .i64 d, .int .i64 g] := Array.toList_inj.1 hcs
      rw [this]
    · cases e
  · cases e
theorem hD_inj {h g : He} (e : hD h = hD g) : h = g := by
  cases h; cases g
  simp only [hD, DataW.agg.injEq, List.cons.injEq, DataW.lit.injEq, Lit.int.injEq, true_and, and_true] at e
  obtain ⟨e1, e2, e3, e4, e5⟩ := e
  subst e1 e2 e3 e4 e5
  rfl
/-- The key as it is read. -/
abbrev kl (x : Int) : Lit := .int .i64 x
/-- A map's datum says what is held. -/
structure Says (D : DataW Unit) (P : St) : Prop where
  tidy : Tidy D
  has : ∀ x : Int, Maps.has D (kl x) = (hat P x).isSome
  at_ : ∀ x h z, hat P x = some h → D.atKey (kl x) z = hD h
/-- How many are held. -/
def cnt (P : St) : Nat := ((List.range 64).filter (fun i => (P i).isSome)).length
theorem hat_nat (P : St) {i : Nat} (hi : i < 64) : hat P i = P i := by unfold hat; rw [if_pos (by omega)]; simp
theorem hat_out (P : St) {x : Int} (h : ¬ (0 ≤ x ∧ x < 64)) : hat P x = none := by unfold hat; rw [if_neg h]
theorem hat_of {P : St} {x : Int} {h : He} (e : hat P x = some h) : 0 ≤ x ∧ x < 64 ∧ P x.toNat = some h := by
  unfold hat at e
  split at e
  · rename_i b; exact ⟨b.1, b.2, e⟩
  · cases e
theorem hat_up (P : St) {i : Nat} (hi : i < 64) (x : Option He) (y : Int) : hat (upS P i x) y = if y = i then x else hat P y := by
  unfold hat upS
  by_cases h : 0 ≤ y ∧ y < 64
  · rw [if_pos h, if_pos h]
    by_cases hy : y = i
    · rw [if_pos hy, if_pos (by omega)]
    · rw [if_neg hy, if_neg (by omega)]
  · rw [if_neg h, if_neg h, if_neg (by omega)]
theorem ne_kl {x y : Int} (h : x ≠ y) : kl x ≠ kl y := fun e => by cases e; exact h rfl
theorem isKey (x : Int) : WideAt.IsKeyLit (kl x) := by first | trivial | exact ⟨_, _, rfl⟩ | simp [WideAt.IsKeyLit]
theorem Says.empty : Says (.map []) (fun _ => none) := ⟨tidy_empty, fun x => by unfold hat; simp [Maps.has], fun x h z e => by unfold hat at e; split at e <;> cases e⟩
theorem Says.put {D : DataW Unit} {P : St} (S : Says D P) {i : Nat} (hi : i < 64) (h : He) : Says (D.put (kl i) (hD h)) (upS P i (some h)) := by
  refine ⟨S.tidy.put (isKey _) _, fun x => ?_, fun x g z e => ?_⟩
  · rw [hat_up P hi]
    by_cases hx : x = i
    · rw [if_pos hx, hx, has_put_same S.tidy.isMap (isKey _)]; rfl
    · rw [if_neg hx, has_put_other (ne_kl hx), S.has]
  · rw [hat_up P hi] at e
    by_cases hx : x = i
    · rw [if_pos hx] at e
      cases e
      rw [hx]
      exact atKey_put_same S.tidy.isMap (isKey _) _ _
    · rw [if_neg hx] at e
      rw [atKey_put_other (ne_kl hx)]
      exact S.at_ x g z e
theorem Says.del {D : DataW Unit} {P : St} (S : Says D P) {i : Nat} (hi : i < 64) : Says (D.del (kl i)) (upS P i none) := by
  refine ⟨S.tidy.del _, fun x => ?_, fun x g z e => ?_⟩
  · rw [hat_up P hi]
    by_cases hx : x = i
    · rw [if_pos hx, hx, has_del_same]; rfl
    · rw [if_neg hx, has_del_other (ne_kl hx), S.has]
  · rw [hat_up P hi] at e
    by_cases hx : x = i
    · rw [if_pos hx] at e; cases e
    · rw [if_neg hx] at e
      rw [atKey_del_other (ne_kl hx)]
      exact S.at_ x g z e
/-- The numbers that are held, rising. -/
def hN (P : St) : List Nat := (List.range 64).filter (fun i => (P i).isSome)
theorem hN_mem (P : St) (i : Nat) : i ∈ hN P ↔ i < 64 ∧ (P i).isSome = true := by simp [hN]
theorem hN_nodup (P : St) : (hN P).Nodup := List.nodup_range.filter _
theorem cnt_le (P : St) : cnt P ≤ 64 := by
  have := List.length_filter_le (fun i => (P i).isSome) (List.range 64)
  rw [List.length_range] at this
  exact this
theorem cnt_full (P : St) : 64 ≤ cnt P ↔ fre P = none := by
  constructor
  · intro h
    have e : (hN P).length = (List.range 64).length := by rw [List.length_range]; have := cnt_le P; unfold cnt at h this; exact Nat.le_antisymm this h
    have e2 : hN P = List.range 64 := List.Sublist.eq_of_length List.filter_sublist e
    refine fre_none (fun i hi => ?_)
    have : i ∈ hN P := by rw [e2]; simpa using hi
    have := ((hN_mem P i).1 this).2
    intro e; rw [e] at this; cases this
  · intro h
    have a := fre_all h
    have e2 : hN P = List.range 64 := List.filter_eq_self.2 (fun i hi => by
      have := a i (by simpa using hi)
      cases e : P i with
      | none => exact absurd e this
      | some x => rfl)
    show 64 ≤ (hN P).length
    rw [e2]; simp
end Go.Proofs.YtdmacflcjbkkpaaGreat.Co
