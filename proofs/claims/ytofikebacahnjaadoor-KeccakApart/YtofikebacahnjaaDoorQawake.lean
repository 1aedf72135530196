/- What the statements' helper awake answers: the document's examples. -/
import Derived.Test.YtofikebacahnjaaDoorQlperm
import Derived.Test.YtofikebacahnjaaDoorQraw
import Derived.Test.YtofikebacahnjaaDoorQeval
namespace Go.Proofs.YtofikebacahnjaaDoor.Kc
open Go.ChangeShapes Go.WideShapes Go.ChangeAt Go.RowKit
open Go.Proofs.YtofikebacahnjaaDoor.By Go.Proofs.YtofikebacahnjaaDoor.Wd
theorem z25z : #[Value.int .u64 0, .int .u64 0, .int .u64 0, .int .u64 0, .int .u64 0, .int .u64 0, .int .u64 0, .int .u64 0, .int .u64 0, .int .u64 0, .int .u64 0, .int .u64 0, .int .u64 0, .int .u64 0, .int .u64 0, .int .u64 0, .int .u64 0, .int .u64 0, .int .u64 0, .int .u64 0, .int .u64 0, .int .u64 0, .int .u64 0, .int .u64 0, .int .u64 0] = (wl 25 z0).toArray := by kernel_rfl
/-- Noughts, but lane 1. -/
def q0 (i : Nat) : Int := if i = 1 then 258 else 0
theorem q0_w : AW q0 := fun i => by
  unfold q0 W64; split <;> omega
theorem z25q : #[Value.int .u64 0, .int .u64 258, .int .u64 0, .int .u64 0, .int .u64 0, .int .u64 0, .int .u64 0, .int .u64 0, .int .u64 0, .int .u64 0, .int .u64 0, .int .u64 0, .int .u64 0, .int .u64 0, .int .u64 0, .int .u64 0, .int .u64 0, .int .u64 0, .int .u64 0, .int .u64 0, .int .u64 0, .int .u64 0, .int .u64 0, .int .u64 0, .int .u64 0] = (wl 25 q0).toArray := by kernel_rfl
theorem ld200 {w : World} {g : Nat} {f : Nat → Int} {t : TypeId} (h : Blk w g (bl 200 f) t) : (LDb ⟨g, 0, none⟩).run Tryd.prog w = .ok (.agg (bl 200 f).toArray) w := LDb_run (h.range 0 _ (fun j v h => by rw [Nat.zero_add]; exact h)) (bl_length _ _)
theorem sv200 {w : World} {g : Nat} {f : Nat → Int} {t : TypeId} (h : Blk w g (bl 200 f) t) (x : Nat → Int) : (SVb ⟨g, 0, none⟩ (.agg (bl 200 x).toArray)).run Tryd.prog w = .ok () (w.setCells g 0 (bl 200 x)) := SVb_run (h.there 0 200 (by rw [bl_length]; omega)) (bl_length _ _) (bl_one _ _)
theorem Blk.over200 {w : World} {g : Nat} {f : Nat → Int} {t : TypeId} (h : Blk w g (bl 200 f) t) (x : Nat → Int) : Blk (w.setCells g 0 (bl 200 x)) g (bl 200 x) t := by
  have b := h.put 0 (bl 200 x)
  rwa [put_all _ _ (by rw [bl_length, bl_length])] at b
theorem new200 (w : World) : Blk (w.alloc (.cells zc200 39)) w.heap.size (bl 200 (fun _ => 0)) 39 := Blk.newAt _ _ _ _ _ rfl rfl
/-- New memory, and what is stored in it. -/
theorem below_new {B : Nat} {w W : World} (h : Below B w W) (hB : B = w.heap.size) (o : Obj) (vs : List Value) : Below B w ((W.alloc o).setCells W.heap.size 0 vs) := by
  subst hB
  exact below_cells (below_next h (below_alloc W o)) _ _ _ h.size (by rw [size_alloc]; have := h.size; omega)
theorem Blk.past {W : World} {g : Nat} {cs : List Value} {t : TypeId} (h : Blk W g cs t) (o : Obj) (vs : List Value) : Blk ((W.alloc o).setCells W.heap.size 0 vs) g cs t :=
  (h.alloc o).kept (Kp.setCells _ 0 _) (by have := h.lt; omega)
set_option maxRecDepth 4000 in
set_option maxHeartbeats 4000000 in
theorem awake1 (w : World) (hk : KT w) :
    Calls Tryd.prog 14 #[] w fun e w' => e = .returned (.bool true) ∧ Below w.heap.size w w' := by
  have HK := hid hk
  clear hk
  go_enter Tryd.func14, Tryd.ntmps14
  go_wp2_with fail
  rw [z25z]
  refine (permuteN z0 z0_w w HK.out).mono ?_
  rintro e w1 ⟨rfl, hb1⟩
  have s1 := sv25k (new25k w1) (perm z0)
  have B1 := hid ((new25k w1).over (perm z0))
  have l1 := ld25k B1.out
  have BE1 := hid (below_new hb1 rfl (.cells #[Value.int .u64 0, .int .u64 0, .int .u64 0, .int .u64 0, .int .u64 0, .int .u64 0, .int .u64 0, .int .u64 0, .int .u64 0, .int .u64 0, .int .u64 0, .int .u64 0, .int .u64 0, .int .u64 0, .int .u64 0, .int .u64 0, .int .u64 0, .int .u64 0, .int .u64 0, .int .u64 0, .int .u64 0, .int .u64 0, .int .u64 0, .int .u64 0, .int .u64 0] 29) (wl 25 (perm z0)))
  clear hb1
  go_wp2_with fail
  obtain ⟨W1, hW1⟩ : ∃ z, World.setCells (w1.alloc (.cells #[Value.int .u64 0, .int .u64 0, .int .u64 0, .int .u64 0, .int .u64 0, .int .u64 0, .int .u64 0, .int .u64 0, .int .u64 0, .int .u64 0, .int .u64 0, .int .u64 0, .int .u64 0, .int .u64 0, .int .u64 0, .int .u64 0, .int .u64 0, .int .u64 0, .int .u64 0, .int .u64 0, .int .u64 0, .int .u64 0, .int .u64 0, .int .u64 0, .int .u64 0] 29)) w1.heap.size 0 (wl 25 (perm z0)) = z := ⟨_, rfl⟩
  rw [hW1] at B1 BE1
  rw [hW1]
  clear hW1 s1 l1
  obtain ⟨g1, hg1⟩ : ∃ z, w1.heap.size = z := ⟨_, rfl⟩
  rw [hg1] at B1
  rw [hg1]
  clear hg1
  refine (permuteN (perm z0) (perm_w z0_w) W1 (HK.out.below BE1.out)).mono ?_
  rintro e w2 ⟨rfl, hb2⟩
  have s2 := sv25k (new25k w2) (perm (perm z0))
  have B2 := hid ((new25k w2).over (perm (perm z0)))
  have C1 := hid ((B1.out.below hb2).past (.cells #[Value.int .u64 0, .int .u64 0, .int .u64 0, .int .u64 0, .int .u64 0, .int .u64 0, .int .u64 0, .int .u64 0, .int .u64 0, .int .u64 0, .int .u64 0, .int .u64 0, .int .u64 0, .int .u64 0, .int .u64 0, .int .u64 0, .int .u64 0, .int .u64 0, .int .u64 0, .int .u64 0, .int .u64 0, .int .u64 0, .int .u64 0, .int .u64 0, .int .u64 0] 29) (wl 25 (perm (perm z0))))
  have BE2 := hid (below_new (below_next BE1.out hb2) rfl (.cells #[Value.int .u64 0, .int .u64 0, .int .u64 0, .int .u64 0, .int .u64 0, .int .u64 0, .int .u64 0, .int .u64 0, .int .u64 0, .int .u64 0, .int .u64 0, .int .u64 0, .int .u64 0, .int .u64 0, .int .u64 0, .int .u64 0, .int .u64 0, .int .u64 0, .int .u64 0, .int .u64 0, .int .u64 0, .int .u64 0, .int .u64 0, .int .u64 0, .int .u64 0] 29) (wl 25 (perm (perm z0))))
  clear hb2 B1 BE1
  go_wp2_with fail
  obtain ⟨W2, hW2⟩ : ∃ z, World.setCells (w2.alloc (.cells #[Value.int .u64 0, .int .u64 0, .int .u64 0, .int .u64 0, .int .u64 0, .int .u64 0, .int .u64 0, .int .u64 0, .int .u64 0, .int .u64 0, .int .u64 0, .int .u64 0, .int .u64 0, .int .u64 0, .int .u64 0, .int .u64 0, .int .u64 0, .int .u64 0, .int .u64 0, .int .u64 0, .int .u64 0, .int .u64 0, .int .u64 0, .int .u64 0, .int .u64 0] 29)) w2.heap.size 0 (wl 25 (perm (perm z0))) = z := ⟨_, rfl⟩
  rw [hW2] at B2 C1 BE2
  rw [hW2]
  clear hW2 s2
  obtain ⟨g2, hg2⟩ : ∃ z, w2.heap.size = z := ⟨_, rfl⟩
  rw [hg2] at B2
  rw [hg2]
  clear hg2
  rw [z25q]
  refine (bytes1 q0 q0_w W2).mono ?_
  rintro e w3 ⟨rfl, hb3⟩
  have s3 := sv200 (new200 w3) (bf q0)
  have B3 := hid ((new200 w3).over200 (bf q0))
  have D1 := hid ((C1.out.below hb3).past (.cells zc200 39) (bl 200 (bf q0)))
  have D2 := hid ((B2.out.below hb3).past (.cells zc200 39) (bl 200 (bf q0)))
  have BE3 := hid (below_new (below_next BE2.out hb3) rfl (.cells zc200 39) (bl 200 (bf q0)))
  clear hb3 B2 C1 BE2
  have c0 := D1.out.cell 0 (.int .u64 17376452488221285863) (by rw [wl_get 25 _ 0 (by omega), one_at 0 (by omega)]; rfl)
  have c1 := D1.out.cell 1 (.int .u64 9571781953733019530) (by rw [wl_get 25 _ 1 (by omega), one_at 1 (by omega)]; rfl)
  have c24 := D1.out.cell 24 (.int .u64 16929593379567477321) (by rw [wl_get 25 _ 24 (by omega), one_at 24 (by omega)]; rfl)
  have d0 := D2.out.cell 0 (.int .u64 3268651591693945660) (by rw [wl_get 25 _ 0 (by omega), two_at 0 (by omega)]; rfl)
  have b8 := B3.out.cell 8 (.int .u8 2) (by rw [bl_get 200 _ 8 (by omega)]; rfl)
  have b9 := B3.out.cell 9 (.int .u8 1) (by rw [bl_get 200 _ 9 (by omega)]; rfl)
  have b10 := B3.out.cell 10 (.int .u8 0) (by rw [bl_get 200 _ 10 (by omega)]; rfl)
  go_wp2
  go_ret
  exact ⟨rfl, BE3.out⟩
end Go.Proofs.YtofikebacahnjaaDoor.Kc
