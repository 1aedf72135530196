/- What a sponge of the document answers: Read refused, Form. -/
import Derived.Test.YtnhhkoekghjogaaDoorSrf4
import Derived.Test.YtnhhkoekghjogaaDoorScut
namespace Go.Proofs.YtnhhkoekghjogaaDoor.Kc
open Go.ChangeShapes Go.WideShapes Go.ChangeAt Go.RowKit
open Go.Proofs.YtnhhkoekghjogaaDoor.By Go.Proofs.YtnhhkoekghjogaaDoor.Wd
theorem rread_arg (b r : Nat) (sf : Int) (z : Z) (sh : Bool) (n : Int) (lp : Value) (w : World) (h : RSp w b r sf z sh) (hn : n < 0 ∨ 65536 < n) : Calls Tryd.prog 60 #[.pointer (some ⟨b, 0, none⟩), lp, .int .i64 n] w fun e w' => e = .returned (.tuple #[.slice none 0 0, .int .i64 2]) ∧ w' = w := by
  have h0 := h.cg
  clear h
  by_cases h1 : n < 0
  · go_enter Tryd.func60, Tryd.ntmps60
    go_wp2_with (go_at_call 75; refine (none_is _ _ _ h0).mono ?_; rintro e w ⟨rfl, rfl⟩)
    go_ret2
    exact ⟨rfl, rfl⟩
  · have h2 : 65536 < n := by omega
    go_enter Tryd.func60, Tryd.ntmps60
    go_wp2_with (go_at_call 75; refine (none_is _ _ _ h0).mono ?_; rintro e w ⟨rfl, rfl⟩)
    go_ret2
    exact ⟨rfl, rfl⟩
set_option maxRecDepth 4000 in
theorem sliceAll0 (W : World) (b : Nat) : (Instr.sliceAt 104 (.pointer (some ⟨b, 0, none⟩)) none none none).run Tryd.prog W = .ok (.slice (some ⟨b, 0, none⟩) 200 200) W := by
  have hl : Tryd.prog.arrayLen 104 = 200 := by kernel_rfl
  have hs : (sizeOf (Tryd.prog.elem 104)).run Tryd.prog W = .ok 1 W := by kernel_rfl
  have h := run_sliceAt_array_all (P := Tryd.prog) W 104 ⟨b, 0, none⟩ Tryd.underlying104
  rw [h, hs, hl, Result.andThen_ok, slicedAt]
  rfl
theorem two_new (w : World) (x y : Value) (t : TypeId) : ∀ j u, [x, y][j]? = some u → (w.alloc (.cells #[x, y] t)).cell? ((⟨w.heap.size, 0, none⟩ : Addr).add j) = some u := fun j u hj => by
  rw [By.add_plain, Nat.zero_add]
  exact (Blk.new w [x, y] t).cell j u hj
theorem rkept_own {W W2 : World} {b base n : Nat} {cs : List Value} {v : Value} {f : Nat → Int} (h : Blk W b cs 113) (ho : By.Own W base v n f) (hg : W.grownBy W2 v.ownBlock) : Blk W2 b cs 113 := rkept_grow h ho hg (fun _ _ => rfl)
end Go.Proofs.YtnhhkoekghjogaaDoor.Kc
