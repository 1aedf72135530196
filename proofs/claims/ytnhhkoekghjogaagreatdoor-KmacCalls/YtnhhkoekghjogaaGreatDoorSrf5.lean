/- What a sponge of the document answers: Read refused, Form. -/
import Derived.Test.YtnhhkoekghjogaaGreatDoorSrf4
import Derived.Test.YtnhhkoekghjogaaGreatDoorScut
namespace Go.Proofs.YtnhhkoekghjogaaGreatDoor.Kc
open Go.ChangeShapes Go.WideShapes Go.ChangeAt Go.RowKit
open Go.Proofs.YtnhhkoekghjogaaGreatDoor.By Go.Proofs.YtnhhkoekghjogaaGreatDoor.Wd
theorem rread_arg (b r : Nat) (sf : Int) (z : Z) (sh : Bool) (n : Int) (lp : Value) (w : World) (h : RSp w b r sf z sh) (hn : n < 0 ∨ 65536 < n) : Calls Tryz.prog 61 #[.pointer (some ⟨b, 0, none⟩), lp, .int .i64 n] w fun e w' => e = .returned (.tuple #[.slice none 0 0, .int .i64 2]) ∧ w' = w := by
  have h0 := h.cg
  clear h
  by_cases h1 : n < 0
  · go_enter Tryz.func61, Tryz.ntmps61
    go_wp2_with (go_at_call 76; refine (none_is _ _ _ h0).mono ?_; rintro e w ⟨rfl, rfl⟩)
    go_ret2
    exact ⟨rfl, rfl⟩
  · have h2 : 65536 < n := by omega
    go_enter Tryz.func61, Tryz.ntmps61
    go_wp2_with (go_at_call 76; refine (none_is _ _ _ h0).mono ?_; rintro e w ⟨rfl, rfl⟩)
    go_ret2
    exact ⟨rfl, rfl⟩
set_option maxRecDepth 4000 in
theorem sliceAll0 (W : World) (b : Nat) : (Instr.sliceAt 107 (.pointer (some ⟨b, 0, none⟩)) none none none).run Tryz.prog W = .ok (.slice (some ⟨b, 0, none⟩) 200 200) W := by
  have hl : Tryz.prog.arrayLen 107 = 200 := by kernel_rfl
  have hs : (sizeOf (Tryz.prog.elem 107)).run Tryz.prog W = .ok 1 W := by kernel_rfl
  have h := run_sliceAt_array_all (P := Tryz.prog) W 107 ⟨b, 0, none⟩ Tryz.underlying107
  rw [h, hs, hl, Result.andThen_ok, slicedAt]
  rfl
theorem two_new (w : World) (x y : Value) (t : TypeId) : ∀ j u, [x, y][j]? = some u → (w.alloc (.cells #[x, y] t)).cell? ((⟨w.heap.size, 0, none⟩ : Addr).add j) = some u := fun j u hj => by
  rw [By.add_plain, Nat.zero_add]
  exact (Blk.new w [x, y] t).cell j u hj
theorem rkept_own {W W2 : World} {b base n : Nat} {cs : List Value} {v : Value} {f : Nat → Int} (h : Blk W b cs 114) (ho : By.Own W base v n f) (hg : W.grownBy W2 v.ownBlock) : Blk W2 b cs 114 := rkept_grow h ho hg (fun _ _ => rfl)
set_option maxRecDepth 4000 in
set_option maxHeartbeats 4000000 in
theorem rform_sp (b r : Nat) (sf : Int) (z : Z) (sh : Bool) (w : World) (h : RSp w b r sf z sh) :
    Calls Tryz.prog 65 #[.pointer (some ⟨b, 0, none⟩)] w fun e w' => ∃ v, e = .returned v ∧ By.Own w' w.heap.size v 203 (fmf z sh) ∧ Below w.heap.size w w' := by
  obtain ⟨i0, hi, hz0, hz1, hz2⟩ := info_parts info5
  have H := hid h
  have h0 := h.cg
  have hsl := fun W => sliceAll0 W b
  have R0 : Hid (By.RB w (.slice (some ⟨b, 0, none⟩) 200 200) 200 z.f) := ⟨h.ok.b, _, _, rfl, Nat.le_refl _, by decide, .inr ⟨b, 0, rfl, fun i hi => by rw [Nat.zero_add]; exact h.here.cell i _ (rsc_at _ _ _ _ _ i hi)⟩⟩
  have hp : (z.p : Int) ≤ 192 := by have := h.ok.p; have := h.hi; omega
  have O0 := hid (own_nil w w.heap.size (fun _ => 0) (fun _ => by decide))
  clear h
  go_enter Tryz.func65, Tryz.ntmps65
  go_wp2_with (first | (go_at_call 76; refine (none_is _ _ _ h0).mono ?_; rintro e w ⟨rfl, rfl⟩) | (at_builtin; go_must (refine wpList_cat rfl _ _ rfl w.heap.size 0 200 _ _ (fun _ => 0) z.f rfl O0.out rfl R0.out (by decide) (Nat.le_refl _) ?_)))
  intro v1 w1 hv1 hg1
  have O1 := hid (own_congr hv1 H.out.ok.b (fun i _ => by unfold cat; rw [if_neg (by omega), Nat.sub_zero]))
  have B1 := hid (rkept_own H.out.here O0.out hg1)
  have E1 := hid (below_grow (Below.refl _ w) (Nat.le_refl _) O0.out hg1)
  clear hv1 hg1 O0 R0 h0
  have c2 := B1.out.cell 202 _ (rsc_p _ _ _ _ _)
  have q1 : (z.p : Int).tdiv 256 = (z.p : Int) / 256 := Int.tdiv_eq_ediv_of_nonneg (by omega)
  have q2 : (z.p : Int).tmod 256 = (z.p : Int) % 256 := Int.tmod_eq_emod_of_nonneg (by omega)
  go_wp2_with fail
  have q3 : Hid (∀ u ∈ [Value.int .u8 (IntKind.u8.wrap (IntKind.i64.wrap ((z.p : Int) / 256))), .int .u8 (IntKind.u8.wrap ((z.p : Int) % 256))], u.oneCell' = true) := fun u hu => by simp at hu; rcases hu with rfl | rfl <;> rfl
  have q7 : Hid (w.heap.size ≤ (w1.alloc (.cells #[Value.int .u8 (IntKind.u8.wrap (IntKind.i64.wrap ((z.p : Int) / 256))), .int .u8 (IntKind.u8.wrap ((z.p : Int) % 256))] 5)).heap.size) := by show w.heap.size ≤ (w1.alloc (.cells #[Value.int .u8 (IntKind.u8.wrap (IntKind.i64.wrap ((z.p : Int) / 256))), .int .u8 (IntKind.u8.wrap ((z.p : Int) % 256))] 5)).heap.size; rw [size_alloc]; have := E1.out.size; omega
  have GW := hid (below_drew' (below_alloc w1 (.cells #[Value.int .u8 (IntKind.u8.wrap (IntKind.i64.wrap ((z.p : Int) / 256))), .int .u8 (IntKind.u8.wrap ((z.p : Int) % 256))] 5)) 1)
  have BA := hid (B1.out.below GW.out)
  go_region_held3 (fun W => W.cell? ⟨b, 202, none⟩ = some (.int .i64 (z.p : Int))) (go_keep) (first | (refine step_append_lies _ rfl (.tmp 12) (.tmp 25) 22 rfl w.heap.size 5 i0 (.int .u8 0) 1 1 Tryz.underlying22 hi hz0 hz1 hz2 rfl (by decide) v1 (0 + 200) (bl (0 + 200) z.f) rfl (World.ownsRow.alloc O1.out.2 (.cells #[.int .u8 (IntKind.u8.wrap (IntKind.i64.wrap ((z.p : Int) / 256))), .int .u8 (IntKind.u8.wrap ((z.p : Int) % 256))] 5)) ⟨w1.heap.size, 0, none⟩ 2 2 [.int .u8 (IntKind.u8.wrap (IntKind.i64.wrap ((z.p : Int) / 256))), .int .u8 (IntKind.u8.wrap ((z.p : Int) % 256))] rfl rfl (two_new _ _ _ _) q3.out (by decide) (by decide) (by decide) q7.out _ rfl ?_; intro gq cq w2 hown hgrow hat hltq; have KB := hid (rkept_grow BA.out O1.out hgrow GW.out.block); have kc1 := KB.out.cell 202 _ (rsc_p _ _ _ _ _); have HW := hid hown; have HGr := hid hgrow; clear hown hgrow hat hltq))
  have hA : IntKind.u8.wrap (IntKind.i64.wrap ((z.p : Int) / 256)) = (z.p : Int) / 256 % 256 := by rw [IntKind.wrap_i64, IntKind.wrap_u8]; omega
  have hC : IntKind.u8.wrap ((z.p : Int) % 256) = (z.p : Int) % 256 := by rw [IntKind.wrap_u8]; omega
  have R1 : Hid (By.Own w2 w.heap.size (.slice (some ⟨gq, 0, none⟩) (0 + 200 + 2) cq) (0 + 200 + 2) (fmf z sh)) := by
    refine ⟨fmf_b H.out.ok.b sh, ?_⟩
    have hw := HW.out
    rw [hA, hC] at hw
    have e : bl (0 + 200 + 2) (fmf z sh) = bl (0 + 200) z.f ++ [.int .u8 ((z.p : Int) / 256 % 256), .int .u8 ((z.p : Int) % 256)] := by
      apply List.ext_getElem?
      intro i
      by_cases h1 : i < 200
      · rw [List.getElem?_append_left (by rw [bl_length]; omega), bl_get _ _ _ (by omega), bl_get _ _ _ (by omega)]
        unfold fmf; rw [if_pos h1]
      · rw [List.getElem?_append_right (by rw [bl_length]; omega), bl_length]
        by_cases h2 : i = 200
        · subst h2; rw [bl_get _ _ _ (by omega)]; rfl
        · by_cases h3 : i = 201
          · subst h3; rw [bl_get _ _ _ (by omega)]; rfl
          · rw [List.getElem?_eq_none (by rw [bl_length]; omega), List.getElem?_eq_none (by show 2 ≤ i - (0 + 200); omega)]
    rw [e]
    exact hw
  have E2 : Hid (Below w.heap.size w w2) := below_grow (below_next E1.out GW.out) q7.out (own_below O1.out GW.out) HGr.out
  have B2 := hid KB.out
  clear HW HGr KB q7 GW BA O1 E1 B1 c2 q1 q2 hA hC
  have cs := B2.out.cell 203 _ (rsc_s _ _ _ _ _)
  cases sh with
  | true =>
    have U1 := hid (rb_lit w2 #[.int .u8 1] 1 (fun _ => 1) (fun _ => by decide) (by decide) rfl rfl)
    have O2 := hid (own_below R1.out (below_alloc w2 (.cells #[.int .u8 1] 5)))
    have E3 := hid (below_next E2.out (below_alloc w2 (.cells #[.int .u8 1] 5)))
    go_wp2_with (at_builtin; go_must (refine wpList_cat rfl _ _ rfl w.heap.size (0 + 200 + 2) 1 _ _ (fmf z true) (fun _ => 1) rfl O2.out rfl U1.out (by decide) E3.out.size ?_))
    intro v3 w3 hv3 hg3
    have O3 := hid (own_congr hv3 (fmf_b H.out.ok.b true) (fun i hi => by
      unfold cat
      by_cases h1 : i < 0 + 200 + 2
      · rw [if_pos h1]
      · rw [if_neg h1]; obtain rfl : i = 202 := by omega
        rfl))
    have E4 := hid (below_grow E3.out E3.out.size O2.out hg3)
    clear hv3 hg3
    go_wp2
    go_ret
    exact ⟨_, rfl, O3.out, E4.out⟩
  | false =>
    have U1 := hid (rb_lit w2 #[.int .u8 0] 1 (fun _ => 0) (fun _ => by decide) (by decide) rfl rfl)
    have O2 := hid (own_below R1.out (below_alloc w2 (.cells #[.int .u8 0] 5)))
    have E3 := hid (below_next E2.out (below_alloc w2 (.cells #[.int .u8 0] 5)))
    go_wp2_with (at_builtin; go_must (refine wpList_cat rfl _ _ rfl w.heap.size (0 + 200 + 2) 1 _ _ (fmf z false) (fun _ => 0) rfl O2.out rfl U1.out (by decide) E3.out.size ?_))
    intro v3 w3 hv3 hg3
    have O3 := hid (own_congr hv3 (fmf_b H.out.ok.b false) (fun i hi => by
      unfold cat
      by_cases h1 : i < 0 + 200 + 2
      · rw [if_pos h1]
      · rw [if_neg h1]; obtain rfl : i = 202 := by omega
        rfl))
    have E4 := hid (below_grow E3.out E3.out.size O2.out hg3)
    clear hv3 hg3
    go_wp2
    go_ret
    exact ⟨_, rfl, O3.out, E4.out⟩
end Go.Proofs.YtnhhkoekghjogaaGreatDoor.Kc
