/- The document's examples, as the statements' helper 'awake' asks them: it answers true, for every world; and small facts on lists that were just built. -/
import Derived.Test.YtfieheldneddeaaKit
import Derived.WalkSpells
import Derived.Deep.DeepMust
import Derived.Laws.AppendOwnNone
namespace Go.Proofs.Ytfieheldneddeaa
open Go.ChangeShapes Go.WideShapes Go.ChangeAt Go.RowKit
/-- The five bytes of the document's examples. -/
def five (i : Nat) : Int := if i < 5 then (i : Int) + 1 else 0
theorem five_bound (i : Nat) : 0 ≤ five i ∧ five i < 256 := by unfold five; split <;> omega
theorem rb_lit (w : World) (cs : Array Value) (n : Nat) (f : Nat → Int) (hf : ∀ i, 0 ≤ f i ∧ f i < 256) (hn : n ≤ maxLen) (hs : cs.size = n) (hc : cs.toList = bl n f) :
    RB (w.alloc (.cells cs 5)) (.slice (some ⟨w.heap.size, 0, none⟩) n n) n f := (own_lit w cs n f hf hn hs hc).reads
theorem rb_lit' (w : World) (cs : Array Value) (g n : Nat) (f : Nat → Int) (hg : g = w.heap.size) (hf : ∀ i, 0 ≤ f i ∧ f i < 256) (hn : n ≤ maxLen) (hs : cs.size = n) (hc : cs.toList = bl n f) :
    RB (w.alloc (.cells cs 5)) (.slice (some ⟨g, 0, none⟩) n n) n f := by
  subst hg; exact rb_lit w cs n f hf hn hs hc
theorem RB.alloc {w : World} {v : Value} {n : Nat} {f : Nat → Int} (h : RB w v n f) (o : Obj) : RB (w.alloc o) v n f := h.below ((Below.refl _ _).alloc (Nat.le_refl _) o)
theorem below_alloc {B : Nat} {a w : World} (h : Below B a w) (hB : B = a.heap.size) (o : Obj) : Below B a (w.alloc o) := h.alloc (by subst hB; exact h.size) o
theorem rot_e1 : Rot 32 2147483649 1 = 3 := by decide +kernel
theorem rot_e2 : Rot 64 1 (-1) = 9223372036854775808 := by decide +kernel
theorem tk_e1 : BE (fun i => Byt five 5 (1 + i)) 4 = 33752069 := by decide +kernel
theorem tk_e2 : BE (fun i => Byt five 5 (-2 + i)) 4 = 258 := by decide +kernel
theorem tk_e3 : LE (fun i => Byt five 5 (1 + i)) 4 = 84148994 := by decide +kernel
theorem five_cells : (#[.int .u8 1, .int .u8 2, .int .u8 3, .int .u8 4, .int .u8 5] : Array Value).toList = bl 5 five := by kernel_rfl
/-- A list out of numbers. -/
def lst (l : List Int) (i : Nat) : Int := l.getD i 0
theorem lst_bound (l : List Int) (h : l.all (fun z => decide (0 ≤ z ∧ z < 256)) = true) (i : Nat) : 0 ≤ lst l i ∧ lst l i < 256 := by
  unfold lst
  by_cases hi : i < l.length
  · have := List.all_eq_true.1 h l[i] (List.getElem_mem hi)
    simp [hi] at this ⊢
    omega
  · simp [List.getElem?_eq_none (Nat.le_of_not_lt hi)]
set_option maxHeartbeats 1000000 in
theorem awake33 (w : World) : Calls Try.prog 33 #[] w fun e w' => e = .returned (.bool true) ∧ Below w.heap.size w w' := by
  have S0 : Hid (RB (w.alloc (.cells #[.int .u8 1, .int .u8 2, .int .u8 3, .int .u8 4, .int .u8 5] 5)) (.slice (some ⟨w.heap.size, 0, none⟩) 5 5) 5 five) := rb_lit w _ 5 five five_bound (by simp [maxLen]) rfl five_cells
  go_enter Try.func33, Try.ntmps33
  go_wp2_with fail
  refine (turn9 _ _ _ (by omega) (by omega)).mono ?_
  rw [rot_e1]
  rintro e w' ⟨rfl, k1, rfl⟩
  go_wp2_with fail
  refine (turn12 _ _ _ (by omega) (by omega)).mono ?_
  rw [rot_e2]
  rintro e w' ⟨rfl, k2, rfl⟩
  go_wp2_with fail
  refine (take36 _ 5 five _ _ (RB.drewN S0.out _) (by omega) (by omega) (by omega)).mono ?_
  rw [tk_e1]
  rintro e w' ⟨rfl, rfl⟩
  go_wp2_with fail
  refine (take36 _ 5 five _ _ (RB.drewN S0.out _) (by omega) (by omega) (by omega)).mono ?_
  rw [tk_e2]
  rintro e w' ⟨rfl, rfl⟩
  go_wp2_with fail
  refine (take37 _ 5 five _ _ (RB.drewN S0.out _) (by omega) (by omega) (by omega)).mono ?_
  rw [tk_e3]
  rintro e w' ⟨rfl, rfl⟩
  go_wp2_with fail
  refine (lay19 _ _ (by omega) (by omega)).mono ?_
  rintro e w1 ⟨v1, rfl, ho1, hb1⟩
  have B0 : Hid (Below w.heap.size w w1) := (Below.drewN' ((Below.refl w.heap.size w).alloc (Nat.le_refl _) _) _).trans (hb1.mono (by simp))
  have O1 : Hid (RB w1 v1 4 (beByte 4 16909060)) := ho1.reads
  clear ho1 hb1 S0
  go_wp2_with fail
  refine (same_true _ _ 4 _ (beByte 4 16909060) _ (RB.alloc O1.out _) (rb_lit w1 _ 4 (beByte 4 16909060) (beByte_bound 4 _) (by simp [maxLen]) rfl (by kernel_rfl)) (by omega) (fun _ _ => rfl)).mono ?_
  rintro e w' ⟨rfl, k3, rfl⟩
  clear O1
  go_wp2_with fail
  refine (xor32 _ _ 3 2 (lst [1, 2, 3]) (lst [255, 1]) _ ?xa ?xb (by omega) (by omega)).mono ?_
  case xa =>
    refine RB.alloc (rb_lit' _ _ _ 3 (lst [1, 2, 3]) ?_ (lst_bound _ rfl) (by simp [maxLen]) rfl (by kernel_rfl)) _
    simp
  case xb =>
    refine rb_lit' _ _ _ 2 (lst [255, 1]) ?_ (lst_bound _ rfl) (by simp [maxLen]) rfl (by kernel_rfl)
    simp
  rintro e w2 ⟨v2, rfl, ho2, hb2⟩
  have B1 : Hid (Below w.heap.size w w2) := (below_alloc (below_alloc (Below.drewN' (below_alloc B0.out rfl _) _) rfl _) rfl _).trans (hb2.mono (by have := B0.out.size; simp; omega))
  have O2 : Hid (RB w2 v2 2 (fun i => xb (lst [1, 2, 3] i) (lst [255, 1] i))) := ho2.reads
  clear ho2 hb2 B0
  go_wp2_with fail
  refine (same_true _ _ 2 _ (lst [254, 3]) _ (RB.alloc O2.out _) (rb_lit w2 _ 2 (lst [254, 3]) (lst_bound _ rfl) (by simp [maxLen]) rfl (by kernel_rfl)) (by omega) (by decide +kernel)).mono ?_
  rintro e w' ⟨rfl, k4, rfl⟩
  go_wp2
  go_ret
  exact ⟨rfl, Below.drewN' (below_alloc B1.out rfl _) _⟩
end Go.Proofs.Ytfieheldneddeaa
