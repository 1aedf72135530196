/- The statement CmacNone, walked. -/
import Derived.Test.YtnncgniiceglaaaDoorVlw0
import Derived.Test.YtnncgniiceglaaaDoorYr
import Derived.Lib.SlBytesConst
namespace Go.Proofs.YtnncgniiceglaaaDoor.Vm
open Go.ChangeShapes Go.WideShapes Go.ChangeAt Go.RowKit
open Go.Proofs.YtnncgniiceglaaaDoor.By Go.Proofs.YtnncgniiceglaaaDoor.Gf Go.Proofs.YtnncgniiceglaaaDoor.Ae
theorem zK : ((((((((((((((((z16.set 0 (Value.int IntKind.u8 48)).set 1 (Value.int IntKind.u8 49)).set 2 (Value.int IntKind.u8 50)).set 3 (Value.int IntKind.u8 51)).set 4 (Value.int IntKind.u8 52)).set 5 (Value.int IntKind.u8 53)).set 6 (Value.int IntKind.u8 54)).set 7 (Value.int IntKind.u8 55)).set 8 (Value.int IntKind.u8 56)).set 9 (Value.int IntKind.u8 57)).set 10 (Value.int IntKind.u8 97)).set 11 (Value.int IntKind.u8 98)).set 12 (Value.int IntKind.u8 99)).set 13 (Value.int IntKind.u8 100)).set 14 (Value.int IntKind.u8 101)).set 15 (Value.int IntKind.u8 102)) = bl 16 (cb k16f) := by kernel_rfl
set_option maxRecDepth 4000 in
set_option maxHeartbeats 4000000 in
theorem none1 (v pv : Value) (w : World) (h : Nm w v) : Calls Tryd.prog 21 #[v, pv] w fun e w' => e = .returned (.bool true) ∧ Below w.heap.size w w' := by
  have H := hid h
  clear h
  go_enter Tryd.func21, Tryd.ntmps21
  go_wp2_with fail
  refine (newL w w (Below.refl _ _)).mono ?_
  rintro e w2 ⟨rfl, g2, b2⟩
  have G2 := hid g2
  have H2 := hid (H.out.below b2)
  have B2 := hid b2
  clear g2 b2
  go_wp2_with (first
    | (go_at_call 27; refine (sum_nm v _ _ H2.out).mono ?_; rintro e w' ⟨rfl, hw'⟩; subst w')
    | (go_at_call 30; refine (clone_nm v _ H2.out).mono ?_; rintro e w' ⟨rfl, hw'⟩; subst w')
    | (go_at_call 26; refine (write_nm v _ _ _ H2.out).mono ?_; rintro e w' ⟨rfl, hw'⟩; subst w')
    | (go_at_call 29; refine (reset_nm v _ H2.out).mono ?_; rintro e w' ⟨rfl, hw'⟩; subst w')
    | (go_at_call 24; refine (form_nm v _ H2.out).mono ?_; rintro e w' ⟨rfl, hw'⟩; subst w')
    | (go_at_call 20; refine (wipe_nm v _ _ H2.out).mono ?_; rintro e w' ⟨rfl, hw'⟩; subst w')
    | (go_at_call 23; refine G2.out.len.mono ?_; rintro e w' ⟨rfl, hw'⟩; subst w'))
  go_ret
  exact ⟨rfl, B2.out⟩
set_option maxRecDepth 4000 in
set_option maxHeartbeats 4000000 in
theorem none_walk (pv : Value) (w : World) (hk : KM w) : Calls Tryd.prog 4 #[pv] w fun e w' => e = .returned (.bool true) ∧ Below w.heap.size w w' := by
  have HK := hid hk
  clear hk
  go_enter Tryd.func4, Tryd.ntmps4
  go_wp2_with fail
  refine (awake1 w HK.out).mono ?_
  rintro e w2 ⟨rfl, hb2⟩
  have B2 := hid hb2
  clear hb2
  have N2 := hid (show NoMc (w2.alloc (.cells Tryd.zeroCells51 51)) w2.heap.size from ⟨_, Blk.newAt w2 _ _ 51 _ rfl zero_mc⟩)
  have K2 := hid (below_next B2.out (below_alloc w2 (.cells Tryd.zeroCells51 51)))
  obtain ⟨W3, hW3⟩ : ∃ x, w2.alloc (.cells Tryd.zeroCells51 51) = x := ⟨_, rfl⟩
  rw [hW3] at N2 K2
  obtain ⟨gz, egz⟩ : ∃ g, w2.heap.size = g := ⟨_, rfl⟩
  rw [egz] at N2
  have hzk := zK
  have hcv := Lib.run_convert_bytes_const (P := Tryd.prog) W3 22 5 (bl 16 (cb k16f)).toArray 16 16 Tryd.underlying22 Tryd.underlying5
  go_wp2_with fail
  have kb := below_alloc W3 (.cells (bl 16 (cb k16f)).toArray 5 ((bl 16 (cb k16f)).length, (bl 16 (cb k16f)).length + 1))
  have K4 := hid (below_next K2.out kb)
  have N4 := hid (show Nm _ (.pointer (some ⟨gz, 0, none⟩)) from .inr ⟨gz, rfl, N2.out.kt (Kt.of_below kb)⟩)
  have C4 : Hid (∀ i, i < 4 * 4 → (W3.alloc (.cells (bl 16 (cb k16f)).toArray 5 ((bl 16 (cb k16f)).length, (bl 16 (cb k16f)).length + 1))).cell? ⟨W3.heap.size, 0 + i, none⟩ = some (.int .u8 (k16f i : Nat))) := fun i hi => by
    rw [Nat.zero_add, cell_of_row _ W3.heap.size i (bl 16 (cb k16f)).toArray 5 ((bl 16 (cb k16f)).length, (bl 16 (cb k16f)).length + 1) (heap_alloc_last _ _), List.getElem?_toArray]
    exact bl_get 16 _ i (by omega)
  clear kb hcv hzk N2
  obtain ⟨W4, hW4⟩ : ∃ x, W3.alloc (.cells (bl 16 (cb k16f)).toArray 5 ((bl 16 (cb k16f)).length, (bl 16 (cb k16f)).length + 1)) = x := ⟨_, rfl⟩
  rw [hW4] at K4 N4 C4 ⊢
  refine (cnewN 4 (.inl rfl) k16f k16_lt W3.heap.size 0 16 (by omega) W4 (km_below HK.out K4.out) C4.out).mono ?_
  rintro e w5 ⟨g, gc, rfl, hm5, hg5, hgc5, hb5⟩
  have K5 := hid (below_next K4.out hb5)
  have N5 := hid (N4.out.below hb5)
  have M5 := hid hm5
  have s4 := K4.out.size
  have HG := hid (show w.heap.size ≤ g from Nat.le_trans s4 hg5)
  have HGC := hid (show w.heap.size ≤ gc from Nat.le_trans s4 hgc5)
  have NZ := hid (show gz < W4.heap.size from by rcases N4.out with h | ⟨g', e, cs, hb⟩; simp at h; simp at e; subst e; exact hb.lt)
  have NE := hid (show gz ≠ g ∧ gz ≠ gc from ⟨by have := NZ.out; omega, by have := NZ.out; omega⟩)
  clear hm5 hg5 hgc5 hb5 s4 N4 C4 hW4 hW3
  go_wp2_with fail
  refine (wipeM w w5 K5.out g gc 4 0 _ _ M5.out HG.out HGC.out).mono ?_
  rintro e w6 ⟨rfl, hn6, hb6, hx6⟩
  have K6 := hid hb6
  have O6 := hid (show Nm w6 (.pointer (some ⟨g, 0, none⟩)) from .inr ⟨g, rfl, hn6⟩)
  have N6 := hid (show Nm w6 (.pointer (some ⟨gz, 0, none⟩)) from by
    rcases N5.out with h | ⟨g', e, cs, hb⟩
    · simp at h
    · simp at e; subst e
      exact .inr ⟨gz, rfl, cs, hx6 _ _ _ NE.out.1 NE.out.2 hb (by decide) (by decide)⟩)
  clear hn6 hb6 hx6 M5 K5 N5
  go_wp2_with fail
  refine (none1 _ pv w6 (.inl rfl)).mono ?_
  rintro e w7 ⟨rfl, hb7⟩
  have K7 := hid (below_next K6.out hb7)
  have N7 := hid (N6.out.below hb7)
  have O7 := hid (O6.out.below hb7)
  clear hb7 K6 N6 O6
  go_wp2_with fail
  refine (none1 _ pv w7 N7.out).mono ?_
  rintro e w8 ⟨rfl, hb8⟩
  have K8 := hid (below_next K7.out hb8)
  have O8 := hid (O7.out.below hb8)
  clear hb8 K7 N7 O7
  go_wp2_with fail
  refine (none1 _ pv w8 O8.out).mono ?_
  rintro e w9 ⟨rfl, hb9⟩
  have K9 := hid (below_next K8.out hb9)
  clear hb9 K8
  go_wp2_with fail
  go_ret
  exact ⟨rfl, K9.out⟩
end Go.Proofs.YtnncgniiceglaaaDoor.Vm
