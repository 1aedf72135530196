/- What the program's takeIn and tell answer. -/
import Derived.Test.YtnhhkoekghjogaaGreatDoorKe
import Derived.Test.YtnhhkoekghjogaaGreatDoorKf
namespace Go.Proofs.YtnhhkoekghjogaaGreatDoor.Kc
open Go.ChangeShapes Go.WideShapes Go.ChangeAt Go.RowKit
open Go.Proofs.YtnhhkoekghjogaaGreatDoor.By Go.Proofs.YtnhhkoekghjogaaGreatDoor.Wd
set_option maxRecDepth 4000 in
theorem slicePR (W : World) (b p r : Nat) (h : p ≤ r) (hr : r ≤ 192) : (Instr.sliceAt 107 (.pointer (some ⟨b, 2, none⟩)) (some (.int .i64 (p : Int))) (some (.int .i64 (r : Int))) none).run Tryz.prog W = .ok (.slice (some ⟨b, 2 + p, none⟩) (r - p) (200 - p)) W := by
  have hl : Tryz.prog.arrayLen 107 = 200 := by kernel_rfl
  have hs : (sizeOf (Tryz.prog.elem 107)).run Tryz.prog W = .ok 1 W := by kernel_rfl
  have h := run_sliceAt_array_lh (P := Tryz.prog) W 107 ⟨b, 2, none⟩ Tryz.underlying107 .i64 .i64 (p : Int) (r : Int) (by omega) (by omega) (by rw [hl]; omega)
  rw [h, hs, hl, Result.andThen_ok, slicedAt, if_neg (by omega), By.add_plain]
  simp only [Result.ok.injEq, Value.slice.injEq, Option.some.injEq, Addr.mk.injEq, and_true, true_and]
  omega
theorem mxs_at (f : Nat → Int) (p : Nat) (g : Nat → Int) (k : Nat) : mxs f p g k (p + k) = f (p + k) := by
  unfold mxs; rw [if_neg (by omega)]
set_option maxRecDepth 4000 in
set_option maxHeartbeats 4000000 in
theorem takeIn1 (b r n pb po cap : Nat) (sf : Int) (f : Nat → Int) (p : Nat) (sh : Bool) (g : Nat → Int) (w : World) (h : Blk w b (spc r sf f p sh) 109) (hp : p < r) (h192 : r ≤ 192) (hr : ∀ w', Kp (fun k => k = b) w w' → ∀ i, i < n → w'.cell? ⟨pb, po + i, none⟩ = some (.int .u8 (g i))) (hcap : n ≤ cap) (hcm : cap ≤ maxLen) :
    Calls Tryz.prog 72 #[.pointer (some ⟨b, 0, none⟩), .slice (some ⟨pb, po, none⟩) n cap] w fun e w' => e = .returned (.int .i64 (Nat.min n (r - p) : Nat)) ∧ Blk w' b (spc r sf (mxs f p g (Nat.min n (r - p))) ((p + Nat.min n (r - p) : Nat) : Int) sh) 109 ∧ Kp (fun k => k = b) w w' := by
  have c0 := h.cell 0 _ rfl
  have cp := h.cell 202 _ (spc_p _ _ _ _ _)
  have hs := fun W => slicePR W b p r (by omega) h192
  have H := hid h
  have HR := hid hr
  have hcm2 : n ≤ maxLen := Nat.le_trans hcap hcm
  clear h hr hcm
  obtain ⟨K, hK⟩ : ∃ K, Nat.min n (r - p) = K := ⟨_, rfl⟩
  have hK1 : K ≤ n := by rw [← hK]; exact Nat.min_le_left _ _
  have hK2 : K ≤ r - p := by rw [← hK]; exact Nat.min_le_right _ _
  have hmn : ∀ (ts : Array TypeId) (t : TypeId) (W : World), (Builtin.min_ ts t #[.int .i64 (n : Int), .int .i64 ((r - p : Nat) : Int)]).run Tryz.prog W = .ok (.int .i64 (K : Int)) W := fun ts t W => by
    rw [run_min_int2]
    congr 2
    rw [← hK]
    show _ = ((min n (r - p) : Nat) : Int)
    split <;> omega
  rw [hK]
  clear hK
  go_enter Tryz.func72, Tryz.ntmps72
  go_wp2_with fail
  go_region
  go_wp2_with fail
  go_loopw [26] (fun i wr => ∃ k : Nat, k ≤ K ∧ i = .int .i64 k ∧ Blk wr b (spc r sf (mxs f p g k) p sh) 109 ∧ Kp (fun k => k = b) w wr) (fun i _ => K - (intOf i).toNat)
  case atStart => exact ⟨0, Nat.zero_le _, rfl, by rw [mxs_zero]; exact H.out.drewN 1, Kp.of_below _ (below_drewN w 1)⟩
  case round =>
    obtain ⟨k, hk, rfl, hb, hkp⟩ := hrel
    clear c0 cp hs hmn
    have B := hid hb
    have HK := hid hkp
    clear hb hkp
    by_cases hlt : k < K
    · have x1 := B.out.cell (2 + (p + k)) _ (spc_at _ _ _ _ _ (p + k) (by omega))
      rw [mxs_at, ← Nat.add_assoc] at x1
      have x2 := HR.out wr HK.out k (by omega)
      have x3 := B.out.frozen (2 + p + k)
      have i1 : k < r - p := by omega
      have i2 : k < n := by omega
      go_wp2_with fail
      go_region
      go_wp2_with fail
      refine ⟨⟨k + 1, by omega, by go_num, ?_, (HK.out.trans (Kp.setCell b _ _) (fun i _ e => e)).trans (Kp.of_below _ (below_drewN _ 1)) (fun _ _ e => e)⟩, by simp [intOf]; omega⟩
      have y := B.out.set (2 + p + k) (.int .u8 (bits BinOp.xor IntKind.u8 (f (p + k)) (g k)))
      rw [Nat.add_assoc, spc_setb _ _ _ _ _ _ _ (by omega)] at y
      rw [mxs_next]
      have e : mx (mxs f p g k) (p + k) (g k) = fun j => if j = p + k then bits BinOp.xor IntKind.u8 (f (p + k)) (g k) else mxs f p g k j := by
        funext j; unfold mx; rw [mxs_at]; rfl
      rw [e, Nat.add_assoc]
      exact y.drewN 1
    · have ek : k = K := by omega
      subst ek
      have x1 := B.out.cell 202 _ (spc_p _ _ _ _ _)
      have x3 := B.out.frozen 202
      have hw : IntKind.i64.wrap ((p : Int) + k) = (p : Int) + k := by rw [IntKind.wrap_i64]; omega
      go_wp2
      go_ret
      refine ⟨rfl, ?_, HK.out.trans (Kp.setCell b 202 _) (fun i _ e => e)⟩
      have := B.out.set 202 (.int .i64 ((p : Int) + k))
      rw [spc_setp] at this
      exact this
theorem copyPR (W : World) (b ob oo n cap p r : Nat) (ty : TypeId) (oc : List Value) (f : Nat → Int) (hob : Blk W ob oc 5) (hol : oo + n ≤ oc.length) (hp : p ≤ r) (h192 : r ≤ 192) (hs : ∀ i, i < 200 → W.cell? ⟨b, 2 + i, none⟩ = some (.int .u8 (f i))) :
    (Builtin.copy_ #[22, 22] ty #[.slice (some ⟨ob, oo, none⟩) n cap, .slice (some ⟨b, 2 + p, none⟩) (r - p) (200 - p)]).run Tryz.prog W = .ok (.int .i64 (Nat.min n (r - p) : Nat)) (W.setCells ob oo (bl (Nat.min n (r - p)) (fun i => f (p + i)))) := by
  have hm1 : Nat.min n (r - p) ≤ n := Nat.min_le_left _ _
  have hm2 : Nat.min n (r - p) ≤ r - p := Nat.min_le_right _ _
  have h := run_copy_cells (P := Tryz.prog) W 22 22 ty 5 ob oo n cap ⟨b, 2 + p, none⟩ (r - p) (200 - p) (bl (Nat.min n (r - p)) (fun i => f (p + i))) Tryz.underlying22 (by kernel_rfl) (by rw [bl_length]; exact Nat.min_comm _ _)
    (fun j v hj => by obtain ⟨hj1, rfl⟩ := bl_get_inv _ _ _ _ hj; rw [By.add_plain, Nat.add_assoc]; exact hs (p + j) (by omega))
    (fun j hj => (hob.there oo n hol j (by rw [bl_length] at hj; omega)).1) (fun j hj => hob.frozen _) (bl_one _ _)
  rw [bl_length] at h
  exact h
set_option maxRecDepth 4000 in
set_option maxHeartbeats 4000000 in
theorem tell1 (b r n ob oo cap : Nat) (sf : Int) (f : Nat → Int) (p : Nat) (sh : Bool) (oc : List Value) (w : World) (h : Blk w b (spc r sf f p sh) 109) (hp : p ≤ r) (h192 : r ≤ 192) (hob : Blk w ob oc 5) (hol : oo + n ≤ oc.length) :
    Calls Tryz.prog 80 #[.pointer (some ⟨b, 0, none⟩), .slice (some ⟨ob, oo, none⟩) n cap] w fun e w' => e = .returned (.int .i64 (Nat.min n (r - p) : Nat)) ∧ Blk w' b (spc r sf f ((p + Nat.min n (r - p) : Nat) : Int) sh) 109 ∧ Blk w' ob (put oc oo (bl (Nat.min n (r - p)) (fun i => f (p + i)))) 5 ∧ Kp (fun k => k = b ∨ k = ob) w w' := by
  have c0 := h.cell 0 _ rfl
  have cp := h.cell 202 _ (spc_p _ _ _ _ _)
  have hs := fun W => slicePR W b p r hp h192
  have hne : b ≠ ob := Blk.ne h hob (by decide)
  have hcp1 := fun ty => copyPR w.drew b ob oo n cap p r ty oc f (hob.drewN 1) hol hp h192 (fun i hi => (h.drewN 1).cell _ _ (spc_at _ _ _ _ _ i hi))
  have H := hid h
  have HO := hid hob
  clear h hob
  obtain ⟨K, hK⟩ : ∃ K, Nat.min n (r - p) = K := ⟨_, rfl⟩
  have hK2 : K ≤ r - p := by rw [← hK]; exact Nat.min_le_right _ _
  rw [hK] at hcp1
  rw [hK]
  clear hK
  go_enter Tryz.func80, Tryz.ntmps80
  go_wp2_with fail
  go_region
  have b1 := hid ((H.out.drewN 1).kept (Kp.setCells ob oo (bl K fun i => f (p + i))) (fun e => hne e))
  have o1 := hid ((HO.out.drewN 1).put oo (bl K fun i => f (p + i)))
  have k1 := hid ((Kp.of_below (fun k => k = b ∨ k = ob) (below_drewN w 1)).trans (Kp.setCells (w := w.drewN 1) ob oo (bl K fun i => f (p + i))) (fun i _ e => .inr e))
  change Hid (Blk (w.drew.setCells ob oo (bl K fun i => f (p + i))) b _ _) at b1
  change Hid (Blk (w.drew.setCells ob oo (bl K fun i => f (p + i))) ob _ _) at o1
  change Hid (Kp _ w (w.drew.setCells ob oo (bl K fun i => f (p + i)))) at k1
  obtain ⟨W1, hW1⟩ : ∃ x, w.drew.setCells ob oo (bl K fun i => f (p + i)) = x := ⟨_, rfl⟩
  rw [hW1] at b1 o1 k1
  rw [hW1]
  clear hW1 hcp1 c0 cp
  have x1 := b1.out.cell 202 _ (spc_p _ _ _ _ _)
  have x3 := b1.out.frozen 202
  have hw : IntKind.i64.wrap ((p : Int) + K) = (p : Int) + K := by rw [IntKind.wrap_i64]; omega
  go_wp2
  go_ret
  refine ⟨rfl, ?_, o1.out.other (fun e => hne e.symm) _ _, k1.out.trans (Kp.setCell b 202 _) (fun i _ e => .inl e)⟩
  have := b1.out.set 202 (.int .i64 ((p : Int) + K))
  rw [spc_setp] at this
  exact this
end Go.Proofs.YtnhhkoekghjogaaGreatDoor.Kc
