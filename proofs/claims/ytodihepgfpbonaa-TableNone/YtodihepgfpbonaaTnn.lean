/- The statement's walk: tables that are none. -/
import Derived.Test.YtodihepgfpbonaaTawk
import Derived.Test.YtodihepgfpbonaaTwI
import Derived.Test.YtodihepgfpbonaaTgI
namespace Go.Proofs.Ytodihepgfpbonaa.Tb
open Go.ChangeShapes Go.WideShapes Go.ChangeAt Go.RowKit
theorem prs_nil (V : Type) (n : Nat) : prs (fun _ => (none : Option V)) n = [] := by
  induction n with
  | zero => rfl
  | succ n ih => rw [prs_none rfl, ih]
theorem lv_nil (w : World) : I.LV w none none 0 0 (prs (fun _ => none) 64) := by
  rw [prs_nil]
  exact ⟨rfl, rfl, fun _ _ i x h => by simp at h, fun _ _ i x h => by simp at h⟩
set_option maxRecDepth 20000 in
set_option maxHeartbeats 1200000 in
theorem none_w (p : Value) (h v : Int) (w : World) (hp : I.NoT w p) : Calls Try.prog 15 #[p, .int .i64 h, .int .i64 v] w fun e w' => e = .returned (.bool true) ∧ Below w.heap.size w w' := by
  have HP := hid hp
  have HB := hid (Below.refl w.heap.size w)
  clear hp
  go_enter Try.func15, Try.ntmps15
  go_wp2_with fail
  refine (I.add_no p v w HP.out).mono ?_
  rintro e W1 ⟨rfl, hb⟩
  replace HB := hid (below_next HB.out hb)
  replace HP := hid (HP.out.below hb)
  clear hb
  go_wp2_with fail
  refine (I.get_no p h W1 HP.out).mono ?_
  rintro e W2 ⟨rfl, hb⟩
  replace HB := hid (below_next HB.out hb)
  replace HP := hid (HP.out.below hb)
  clear hb
  go_wp2_with fail
  refine (I.drop_no p h W2 HP.out).mono ?_
  rintro e W3 ⟨rfl, hb⟩
  replace HB := hid (below_next HB.out hb)
  replace HP := hid (HP.out.below hb)
  clear hb
  go_wp2_with fail
  refine (I.set_no p h v W3 HP.out).mono ?_
  rintro e W4 ⟨rfl, hb⟩
  replace HB := hid (below_next HB.out hb)
  replace HP := hid (HP.out.below hb)
  clear hb
  go_wp2_with fail
  refine (I.len_no p W4 HP.out).mono ?_
  rintro e W4 ⟨rfl, rfl⟩
  go_wp2_with fail
  refine (I.full_no p W4 HP.out).mono ?_
  rintro e W5 ⟨rfl, d, rfl⟩
  replace HB := hid (below_next HB.out (below_drewN W4 d))
  replace HP := hid (HP.out.below (below_drewN W4 d))
  go_wp2_with fail
  refine (I.all_no p _ HP.out).mono ?_
  rintro e W6 ⟨rfl, hbl, hb⟩
  replace HB := hid (below_next HB.out hb)
  have HL := hid hbl
  clear hb hbl
  obtain ⟨b6, e6⟩ : ∃ b, (W4.drewN d).heap.size = b := ⟨_, rfl⟩
  rw [e6] at HL ⊢
  clear e6
  go_wp2_with fail
  refine (I.walk_w b6 (fun _ => none) (fun _ => none) none none 0 0 0 0 0 W6 HL.out (fun j => ⟨fun v e => (by cases e), fun _ => rfl⟩) (lv_nil W6)).mono ?_
  rintro e W7 ⟨rfl, hb⟩
  replace HB := hid (below_next HB.out hb)
  clear hb
  go_wp2
  go_ret
  exact ⟨rfl, HB.out⟩
set_option maxRecDepth 20000 in
set_option maxHeartbeats 1200000 in
theorem tnone (h v : Int) (w : World) : Calls Try.prog 4 #[.int .i64 h, .int .i64 v] w fun e w' => e = .returned (.bool true) ∧ Below w.heap.size w w' := by
  go_enter Try.func4, Try.ntmps4
  go_wp2_with fail
  refine (S.awake w).mono ?_
  rintro e W1 ⟨rfl, hb⟩
  have HB := hid hb
  clear hb
  go_wp2_with fail
  have HN : Hid (I.NoT (W1.alloc (.cells Try.zeroCells52 52)) (.pointer (some ⟨W1.heap.size, 0, none⟩))) := by
    rw [I.zc]
    exact .inr ⟨_, rfl, Blk.new _ _ _⟩
  have HB2 := hid (below_next HB.out (below_alloc W1 (.cells Try.zeroCells52 52)))
  generalize W1.alloc (.cells Try.zeroCells52 52) = W2 at HN HB2 ⊢
  refine (none_w _ h v W2 (.inl rfl)).mono ?_
  rintro e W3 ⟨rfl, hb⟩
  replace HB2 := hid (below_next HB2.out hb)
  replace HN := hid (HN.out.below hb)
  clear hb
  go_wp2_with fail
  refine (none_w _ h v W3 HN.out).mono ?_
  rintro e W4 ⟨rfl, hb⟩
  replace HB2 := hid (below_next HB2.out hb)
  replace HN := hid (HN.out.below hb)
  clear hb
  go_wp2_with fail
  refine (none_w _ 0 v W4 HN.out).mono ?_
  rintro e W5 ⟨rfl, hb⟩
  replace HB2 := hid (below_next HB2.out hb)
  clear hb
  go_wp2
  go_ret
  exact ⟨rfl, HB2.out⟩
end Go.Proofs.Ytodihepgfpbonaa.Tb
