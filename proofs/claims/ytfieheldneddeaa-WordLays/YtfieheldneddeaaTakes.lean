/- The helper 'takes' of a statement answers true where both lists read alike: for every list, place and world. -/
import Derived.Test.YtfieheldneddeaaArgs
import Derived.WalkSpells
import Derived.Deep.DeepMust
import Derived.Laws.AppendOwnNone
namespace Go.Proofs.Ytfieheldneddeaa
open Go.ChangeShapes Go.WideShapes Go.ChangeAt Go.RowKit
theorem hid {p : Prop} (h : p) : Hid p := h
set_option maxHeartbeats 2000000 in
theorem takes15 (l b : Value) (n : Nat) (f : Nat → Int) (at' : Int) (w : World) (hl : RB w l n f) (hb : RB w b n f) (hn : n ≤ 140737488355328) (a0 : -9223372036854775808 ≤ at') (a1 : at' < 9223372036854775808) :
    Calls Try.prog 15 #[l, b, .int .i64 at'] w fun e w' => e = .returned (.bool true) ∧ w' = w := by
  have r4 := ref43_4 b n f at' w hb hn a0
  have r8 := ref43_8 b n f at' w hb hn a0
  have s4 := ref44_4 b n f at' w hb hn a0
  have s8 := ref44_8 b n f at' w hb hn a0
  have t36 := take36 l n f at' w hl hn a0 a1
  have t45 := take45 l n f at' w hl hn a0 a1
  have t34 := take34 l n f at' w hl hn a0 a1
  have t46 := take46 l n f at' w hl hn a0 a1
  have t37 := take37 l n f at' w hl hn a0 a1
  have t47 := take47 l n f at' w hl hn a0 a1
  have t35 := take35 l n f at' w hl hn a0 a1
  have t48 := take48 l n f at' w hl hn a0 a1
  have hB := fun i : Nat => Byt_bound f n (at' + i) hl.1
  have g1 := BE_bound (fun i => Byt f n (at' + i)) hB 4
  have g2 := BE_bound (fun i => Byt f n (at' + i)) hB 8
  have g3 := LE_bound (fun i => Byt f n (at' + i)) hB 4
  have g4 := LE_bound (fun i => Byt f n (at' + i)) hB 8
  clear hB hl hb
  generalize BE (fun i => Byt f n (at' + i)) 4 = A4 at *
  generalize BE (fun i => Byt f n (at' + i)) 8 = A8 at *
  generalize LE (fun i => Byt f n (at' + i)) 4 = L4 at *
  generalize LE (fun i => Byt f n (at' + i)) 8 = L8 at *
  obtain ⟨g10, g11⟩ := g1
  obtain ⟨g20, g21⟩ := g2
  obtain ⟨g30, g31⟩ := g3
  obtain ⟨g40, g41⟩ := g4
  have G11 : A4 < 4294967296 := g11
  have G31 : L4 < 4294967296 := g31
  clear g11 g31 g21 g41
  replace r4 := hid r4
  replace r8 := hid r8
  replace s4 := hid s4
  replace s8 := hid s8
  replace t36 := hid t36
  replace t45 := hid t45
  replace t34 := hid t34
  replace t46 := hid t46
  replace t37 := hid t37
  replace t47 := hid t47
  replace t35 := hid t35
  replace t48 := hid t48
  go_enter Try.func15, Try.ntmps15
  go_wp2_with fail
  refine r4.out.mono ?_
  rintro e w1 ⟨rfl, h⟩; subst h
  go_wp2_with fail
  refine r8.out.mono ?_
  rintro e w1 ⟨rfl, h⟩; subst h
  go_wp2_with fail
  refine s4.out.mono ?_
  rintro e w1 ⟨rfl, h⟩; subst h
  go_wp2_with fail
  refine s8.out.mono ?_
  rintro e w1 ⟨rfl, h⟩; subst h
  go_wp2_with fail
  refine t36.out.mono ?_
  rintro e w1 ⟨rfl, h⟩; subst h
  go_wp2_with fail
  refine t45.out.mono ?_
  rintro e w1 ⟨rfl, h⟩; subst h
  go_wp2_with fail
  refine t34.out.mono ?_
  rintro e w1 ⟨rfl, h⟩; subst h
  go_wp2_with fail
  refine t46.out.mono ?_
  rintro e w1 ⟨rfl, h⟩; subst h
  go_wp2_with fail
  refine t37.out.mono ?_
  rintro e w1 ⟨rfl, h⟩; subst h
  go_wp2_with fail
  refine t47.out.mono ?_
  rintro e w1 ⟨rfl, h⟩; subst h
  go_wp2_with fail
  refine t35.out.mono ?_
  rintro e w1 ⟨rfl, h⟩; subst h
  go_wp2_with fail
  refine t48.out.mono ?_
  rintro e w1 ⟨rfl, h⟩; subst h
  go_wp2
  go_ret
  exact ⟨rfl, rfl⟩
end Go.Proofs.Ytfieheldneddeaa
