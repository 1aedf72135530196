/- The statements' helpers of layer 16 beside the document's answer: heavy, lent. -/
import Derived.Test.YtjhhnajgfngbhaaGreatDoorZne
import Derived.Test.YtjhhnajgfngbhaaGreatDoorZnd
import Derived.Test.YtjhhnajgfngbhaaGreatDoorIpl
namespace Go.Proofs.YtjhhnajgfngbhaaGreatDoor.Dg
open Go.ChangeShapes Go.WideShapes Go.ChangeAt Go.RowKit
open Go.Proofs.YtjhhnajgfngbhaaGreatDoor.By
open Go.Proofs.YtjhhnajgfngbhaaGreatDoor.Sh (Blk size_alloc)
theorem heavyN (al : Int) (h1 : ¬ al = 1) (h2 : ¬ al = 2) (v v2 : Value) (c b : Int) (w : World) : Calls Tryz.prog 5 #[.int .u8 al, v, v2, .int .i64 c, .int .i64 b] w fun e w' => e = .returned (.bool false) ∧ w' = w := by
  go_enter Tryz.func5, Tryz.ntmps5
  go_wp2_with fail
  refine (sizeN al h1 h2 _).mono ?_
  rintro e w1 ⟨rfl, hw⟩
  subst w1
  go_wp2
  go_ret
  exact ⟨rfl, rfl⟩
/-- What heavy tells. -/
def HV (np ns : Nat) (c b : Int) (h : Bool) : Prop := h = false → cok c → 0 ≤ b → np ≤ 20000 ∧ ns ≤ 20000
theorem work1 (ns : Nat) (c b : Int) (w : World) (hn : ns ≤ 140737488355328) (hc1 : 1 ≤ c) (hc2 : c ≤ 1048576) (hb1 : 0 ≤ b) (hb2 : b ≤ 40) : Calls Tryz.prog 21 #[.int .i64 ns, .int .i64 c, .int .i64 b] w fun e w' => (∃ k, e = .returned (.int .i64 k)) ∧ w' = w := by
  have h1 : ¬ c < 0 := by omega
  have h2 : ¬ 1048576 < c := by omega
  have h3 : ¬ 1000 < b := by omega
  go_enter Tryz.func21, Tryz.ntmps21
  go_wp2
  go_ret
  exact ⟨⟨_, rfl⟩, rfl⟩
theorem heavyA (a : Bool) (np pc ns sc : Nat) (pa sa : Option Addr) (c b : Int) (w : World) (hn : np ≤ 140737488355328) (hns : ns ≤ 140737488355328) : Calls Tryz.prog 5 #[.int .u8 (an a), .slice pa np pc, .slice sa ns sc, .int .i64 c, .int .i64 b] w fun e w' => (∃ h, e = .returned (.bool h) ∧ HV np ns c b h) ∧ w' = w := by
  obtain ⟨s, hs⟩ : ∃ s, sz a = s := ⟨_, rfl⟩
  have hs1 : ((s : Int) == 0) = false := beq_eq_false_iff_ne.2 (by have := sz_pos a; omega)
  have SA := hid (fun w => sizeA a w)
  rw [hs] at SA
  clear hs
  by_cases hc : cok c
  · have hc1 : ¬ c < 1 := by have := hc.1; omega
    have hc2 : ¬ 1048576 < c := by have := hc.2; omega
    have d1 : 1 ≤ c := hc.1
    have d2 : c ≤ 1048576 := hc.2
    by_cases hb : b < 0
    · have HH := hid (show HV np ns c b false from fun _ _ h => by omega)
      clear hc
      go_enter Tryz.func5, Tryz.ntmps5
      go_wp2_with fail
      refine (SA.out _).mono ?_
      rintro e w1 ⟨rfl, hw⟩
      subst w1
      go_wp2
      go_ret
      exact ⟨⟨false, rfl, HH.out⟩, rfl⟩
    · by_cases hb2 : 40 < b
      · have HH := hid (show HV np ns c b true from fun h => by cases h)
        clear hc
        go_enter Tryz.func5, Tryz.ntmps5
        go_wp2_with fail
        refine (SA.out _).mono ?_
        rintro e w1 ⟨rfl, hw⟩
        subst w1
        go_wp2
        go_ret
        exact ⟨⟨true, rfl, HH.out⟩, rfl⟩
      · have WK := hid (fun w => work1 ns c b w hns d1 d2 (by omega) (by omega))
        have HT := hid (show HV np ns c b true from fun h => by cases h)
        clear hc
        go_enter Tryz.func5, Tryz.ntmps5
        go_wp2_with fail
        refine (SA.out _).mono ?_
        rintro e w1 ⟨rfl, hw⟩
        subst w1
        go_wp2_with fail
        refine (WK.out _).mono ?_
        rintro e w1 ⟨⟨k, rfl⟩, hw⟩
        subst w1
        by_cases hk : 1500 < k
        · go_wp2
          go_ret
          exact ⟨⟨true, rfl, HT.out⟩, rfl⟩
        · by_cases h1 : (20000 : Int) < (np : Int)
          · go_wp2
            go_ret
            exact ⟨⟨true, rfl, HT.out⟩, rfl⟩
          · by_cases h2 : (20000 : Int) < (ns : Int)
            · go_wp2
              go_ret
              exact ⟨⟨true, rfl, HT.out⟩, rfl⟩
            · have H1 := hid (show np ≤ 20000 ∧ ns ≤ 20000 by omega)
              go_wp2
              go_ret
              exact ⟨⟨_, rfl, fun _ _ _ => H1.out⟩, rfl⟩
  · have HH := hid (show HV np ns c b false from fun _ h => absurd h hc)
    by_cases h1 : c < 1
    · clear hc
      go_enter Tryz.func5, Tryz.ntmps5
      go_wp2_with fail
      refine (SA.out _).mono ?_
      rintro e w1 ⟨rfl, hw⟩
      subst w1
      go_wp2
      go_ret
      exact ⟨⟨false, rfl, HH.out⟩, rfl⟩
    · have h2 : 1048576 < c := by unfold cok at hc; omega
      clear hc
      go_enter Tryz.func5, Tryz.ntmps5
      go_wp2_with fail
      refine (SA.out _).mono ?_
      rintro e w1 ⟨rfl, hw⟩
      subst w1
      go_wp2
      go_ret
      exact ⟨⟨false, rfl, HH.out⟩, rfl⟩
theorem lentP (np pc : Nat) (pa : Option Addr) (g : Nat → Int) (w : World) (hr : By.RB w (.slice pa np pc) np g) (hn : np ≤ 140737488355000) : Calls Tryz.prog 6 #[.slice pa np pc] w fun e w' => ∃ gx cx, e = .returned (.tuple #[.slice (some ⟨gx, 0, none⟩) (np + 6) cx, .slice (some ⟨gx, 0, none⟩) np cx]) ∧ By.Own w' w.heap.size (.slice (some ⟨gx, 0, none⟩) (np + 6) cx) (np + 6) (lent np g) ∧ Below w.heap.size w w' := by
  have HR := hid hr
  clear hr
  go_enter Tryz.func6, Tryz.ntmps6
  go_wp2_with fail
  refine (lent14 _ np g _ HR.out (by omega)).mono ?_
  rintro e w1 ⟨xv, rfl, ho, hb⟩
  obtain ⟨gx, cx, rfl, -⟩ := own_cells ho (by omega)
  have O := hid ho
  have B := hid hb
  have ccx := rb_cap ho.reads
  have sx := fun W => psub_h (some ⟨gx, 0, none⟩) (np + 6) cx np W (by omega) ccx
  clear ho hb
  go_wp2_with fail
  go_region_held3 (fun _ => True) (trivial) (fail)
  go_wp2
  go_ret2
  exact ⟨gx, cx, rfl, own_below O.out (below_drewN w1 1), below_next B.out (below_drewN w1 1)⟩
end Go.Proofs.YtjhhnajgfngbhaaGreatDoor.Dg
