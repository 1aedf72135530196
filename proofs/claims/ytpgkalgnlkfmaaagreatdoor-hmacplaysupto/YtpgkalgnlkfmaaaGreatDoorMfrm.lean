/- The program's macs: Form. -/
import Derived.Test.YtpgkalgnlkfmaaaGreatDoorZmd
import Derived.Test.YtpgkalgnlkfmaaaGreatDoorZmt
namespace Go.Proofs.YtpgkalgnlkfmaaaGreatDoor.Dg
open Go.ChangeShapes Go.WideShapes Go.ChangeAt Go.RowKit
open Go.Proofs.YtpgkalgnlkfmaaaGreatDoor.By
open Go.Proofs.YtpgkalgnlkfmaaaGreatDoor.Sh (Blk size_alloc)
def fm3 (a : Bool) (K f : Nat → Int) (m : Nat) : Nat → Nat → Int
  | 0 => nof
  | 1 => formf a (bk a + m) (inr a K f)
  | 2 => cat (fmn a) (formf a (bk a + m) (inr a K f)) (formf a (bk a) (msk 92 K))
  | _ => mfm a K m f
theorem fmf_b (a : Bool) (m : Nat) (f : Nat → Int) (hf : BB f) : BB (formf a m f) := by
  cases a
  · exact Sg.cat_bound (Sg.cat_bound (Sh.lf_bound _) (fun _ => Wd.beByte_bound _ _ _)) (fun i => Sh.wt_bound m f hf i)
  · exact Sg.cat_bound (Sg.cat_bound (Sg.lf_bound _) (fun _ => Wd.beByte_bound _ _ _)) (fun i => Sg.wt_bound m f hf i)
theorem fm3_b (a : Bool) (K f : Nat → Int) (m k : Nat) (hf : BB f) : BB (fm3 a K f m k) := by
  match k with
  | 0 => exact nof_b
  | 1 => exact fmf_b a _ _ (inr_b hf)
  | 2 => exact Sg.cat_bound (fmf_b a _ _ (inr_b hf)) (fmf_b a _ _ (msk_b _ _))
  | k + 3 => exact Sg.cat_bound (Sg.cat_bound (fmf_b a _ _ (inr_b hf)) (fmf_b a _ _ (msk_b _ _))) (fmf_b a _ _ (msk_b _ _))
theorem fm3_next0 (a : Bool) (K f : Nat → Int) (m : Nat) (i : Nat) (_ : i < 0 * fmn a + fmn a) : cat (0 * fmn a) (fm3 a K f m 0) (formf a (bk a + m) (inr a K f)) i = fm3 a K f m 1 i := by
  show (if i < 0 * fmn a then _ else formf a (bk a + m) (inr a K f) (i - 0 * fmn a)) = _
  rw [Nat.zero_mul, if_neg (by omega), Nat.sub_zero]; rfl
theorem fm3_next1 (a : Bool) (K f : Nat → Int) (m : Nat) (i : Nat) (_ : i < 1 * fmn a + fmn a) : cat (1 * fmn a) (fm3 a K f m 1) (formf a (bk a) (msk 92 K)) i = fm3 a K f m 2 i := by rw [Nat.one_mul]; rfl
theorem fm3_next2 (a : Bool) (K f : Nat → Int) (m : Nat) (i : Nat) (_ : i < 2 * fmn a + fmn a) : cat (2 * fmn a) (fm3 a K f m 2) (formf a (bk a) (msk 54 K)) i = fm3 a K f m 3 i := by rw [Nat.two_mul]; rfl
set_option maxRecDepth 8000 in
set_option maxHeartbeats 4000000 in
theorem form256 (b : Nat) (K f : Nat → Int) (m b0 b1 b2 : Nat) (w : World) (h : IsMk w b ⟨false, K, m, f, b0, b1, b2⟩) :
    Calls Tryz.prog 12 #[.pointer (some ⟨b, 0, none⟩)] w fun e w' => ∃ v, e = .returned v ∧ By.Own w' w.heap.size v 312 (mfm false K m f) ∧ Below w.heap.size w w' := by
  have BS := hid h
  have hlt := h.here.lt
  have x1 : w.cell? ⟨b, 1, none⟩ = some (.iface 110 (.agg #[.pointer (some ⟨b0, 0, none⟩)])) := h.here.cell 1 _ rfl
  have x2 : w.cell? ⟨b, 2, none⟩ = some (.iface 110 (.agg #[.pointer (some ⟨b1, 0, none⟩)])) := h.here.cell 2 _ rfl
  have x3 : w.cell? ⟨b, 3, none⟩ = some (.iface 110 (.agg #[.pointer (some ⟨b2, 0, none⟩)])) := h.here.cell 3 _ rfl
  clear h
  go_enter Tryz.func12, Tryz.ntmps12
  go_wp2_with fail
  refine (isNone256 b K f m b0 b1 b2 _ BS.out).mono ?_
  rintro e w1 ⟨rfl, hw1⟩
  subst w1
  go_wp2_with fail
  go_loopw [3, 12] (fun v i wr => ∃ k : Nat, k ≤ 3 ∧ i = .int .i64 k ∧ By.Own wr w.heap.size v (k * 104) (fm3 false K f m k) ∧ Below w.heap.size w wr) (fun _ i _ => 3 - (intOf i).toNat)
  case atStart => exact ⟨0, by omega, rfl, own_nil _ _ _ nof_b, Below.refl _ _⟩
  case round =>
    clear x1 x2 x3
    obtain ⟨k, hk, rfl, ho, hb⟩ := hrel
    match k, hk with
    | 0, hk3 =>
      have O := hid ho
      have B := hid hb
      clear ho hb
      have hix := fun (w : World) => show (Instr.index 36 (.agg #[.iface 110 (.agg #[.pointer (some ⟨b0, 0, none⟩)]), .iface 110 (.agg #[.pointer (some ⟨b1, 0, none⟩)]), .iface 110 (.agg #[.pointer (some ⟨b2, 0, none⟩)])]) (.int .i64 0)).run Tryz.prog w = .ok (.iface 110 (.agg #[.pointer (some ⟨b0, 0, none⟩)])) w from by kernel_rfl
      go_wp2_with fail
      refine (dform false b0 (64 + m) (inr false K f) _ (BS.out.s0.below B.out)).mono ?_
      rintro e w2 ⟨u2, rfl, hu, hb2⟩
      have U := hid hu.reads
      have O2 := hid (own_below O.out hb2)
      have B2 := hid (below_next B.out hb2)
      clear hu hb2 O B hix
      go_wp2_with (at_builtin; go_must (refine Sg.wpList_cat rfl _ _ rfl w.heap.size (0 * 104) 104 _ _ (fm3 false K f m 0) (formf false (64 + m) (inr false K f)) rfl O2.out rfl U.out (by omega) B2.out.size ?_))
      intro u3 w3 h3 hg3
      have O3 := hid (own_congr h3 (fm3_b false K f m 1 BS.out.fb) (fm3_next0 false K f m))
      have B3 := hid (Sh.below_grow B2.out B2.out.size O2.out hg3)
      clear h3 hg3 O2 B2 U
      go_wp2
      exact ⟨⟨1, by omega, rfl, O3.out, B3.out⟩, by simp [intOf]⟩
    | 1, hk3 =>
      have O := hid ho
      have B := hid hb
      clear ho hb
      have hix := fun (w : World) => show (Instr.index 36 (.agg #[.iface 110 (.agg #[.pointer (some ⟨b0, 0, none⟩)]), .iface 110 (.agg #[.pointer (some ⟨b1, 0, none⟩)]), .iface 110 (.agg #[.pointer (some ⟨b2, 0, none⟩)])]) (.int .i64 1)).run Tryz.prog w = .ok (.iface 110 (.agg #[.pointer (some ⟨b1, 0, none⟩)])) w from by kernel_rfl
      go_wp2_with fail
      refine (dform false b1 64 (msk 92 K) _ (BS.out.s1.below B.out)).mono ?_
      rintro e w2 ⟨u2, rfl, hu, hb2⟩
      have U := hid hu.reads
      have O2 := hid (own_below O.out hb2)
      have B2 := hid (below_next B.out hb2)
      clear hu hb2 O B hix
      go_wp2_with (at_builtin; go_must (refine Sg.wpList_cat rfl _ _ rfl w.heap.size (1 * 104) 104 _ _ (fm3 false K f m 1) (formf false 64 (msk 92 K)) rfl O2.out rfl U.out (by omega) B2.out.size ?_))
      intro u3 w3 h3 hg3
      have O3 := hid (own_congr h3 (fm3_b false K f m 2 BS.out.fb) (fm3_next1 false K f m))
      have B3 := hid (Sh.below_grow B2.out B2.out.size O2.out hg3)
      clear h3 hg3 O2 B2 U
      go_wp2
      exact ⟨⟨2, by omega, rfl, O3.out, B3.out⟩, by simp [intOf]⟩
    | 2, hk3 =>
      have O := hid ho
      have B := hid hb
      clear ho hb
      have hix := fun (w : World) => show (Instr.index 36 (.agg #[.iface 110 (.agg #[.pointer (some ⟨b0, 0, none⟩)]), .iface 110 (.agg #[.pointer (some ⟨b1, 0, none⟩)]), .iface 110 (.agg #[.pointer (some ⟨b2, 0, none⟩)])]) (.int .i64 2)).run Tryz.prog w = .ok (.iface 110 (.agg #[.pointer (some ⟨b2, 0, none⟩)])) w from by kernel_rfl
      go_wp2_with fail
      refine (dform false b2 64 (msk 54 K) _ (BS.out.s2.below B.out)).mono ?_
      rintro e w2 ⟨u2, rfl, hu, hb2⟩
      have U := hid hu.reads
      have O2 := hid (own_below O.out hb2)
      have B2 := hid (below_next B.out hb2)
      clear hu hb2 O B hix
      go_wp2_with (at_builtin; go_must (refine Sg.wpList_cat rfl _ _ rfl w.heap.size (2 * 104) 104 _ _ (fm3 false K f m 2) (formf false 64 (msk 54 K)) rfl O2.out rfl U.out (by omega) B2.out.size ?_))
      intro u3 w3 h3 hg3
      have O3 := hid (own_congr h3 (fm3_b false K f m 3 BS.out.fb) (fm3_next2 false K f m))
      have B3 := hid (Sh.below_grow B2.out B2.out.size O2.out hg3)
      clear h3 hg3 O2 B2 U
      go_wp2
      exact ⟨⟨3, by omega, rfl, O3.out, B3.out⟩, by simp [intOf]⟩
    | 3, hk3 =>
      have O := hid ho
      have B := hid hb
      clear ho hb
      go_wp2
      go_ret
      exact ⟨_, rfl, O.out, B.out⟩
set_option maxRecDepth 8000 in
set_option maxHeartbeats 4000000 in
theorem form512 (b : Nat) (K f : Nat → Int) (m b0 b1 b2 : Nat) (w : World) (h : IsMk w b ⟨true, K, m, f, b0, b1, b2⟩) :
    Calls Tryz.prog 12 #[.pointer (some ⟨b, 0, none⟩)] w fun e w' => ∃ v, e = .returned v ∧ By.Own w' w.heap.size v 600 (mfm true K m f) ∧ Below w.heap.size w w' := by
  have BS := hid h
  have hlt := h.here.lt
  have x1 : w.cell? ⟨b, 1, none⟩ = some (.iface 115 (.agg #[.pointer (some ⟨b0, 0, none⟩)])) := h.here.cell 1 _ rfl
  have x2 : w.cell? ⟨b, 2, none⟩ = some (.iface 115 (.agg #[.pointer (some ⟨b1, 0, none⟩)])) := h.here.cell 2 _ rfl
  have x3 : w.cell? ⟨b, 3, none⟩ = some (.iface 115 (.agg #[.pointer (some ⟨b2, 0, none⟩)])) := h.here.cell 3 _ rfl
  clear h
  go_enter Tryz.func12, Tryz.ntmps12
  go_wp2_with fail
  refine (isNone512 b K f m b0 b1 b2 _ BS.out).mono ?_
  rintro e w1 ⟨rfl, hw1⟩
  subst w1
  go_wp2_with fail
  go_loopw [3, 12] (fun v i wr => ∃ k : Nat, k ≤ 3 ∧ i = .int .i64 k ∧ By.Own wr w.heap.size v (k * 200) (fm3 true K f m k) ∧ Below w.heap.size w wr) (fun _ i _ => 3 - (intOf i).toNat)
  case atStart => exact ⟨0, by omega, rfl, own_nil _ _ _ nof_b, Below.refl _ _⟩
  case round =>
    clear x1 x2 x3
    obtain ⟨k, hk, rfl, ho, hb⟩ := hrel
    match k, hk with
    | 0, hk3 =>
      have O := hid ho
      have B := hid hb
      clear ho hb
      have hix := fun (w : World) => show (Instr.index 36 (.agg #[.iface 115 (.agg #[.pointer (some ⟨b0, 0, none⟩)]), .iface 115 (.agg #[.pointer (some ⟨b1, 0, none⟩)]), .iface 115 (.agg #[.pointer (some ⟨b2, 0, none⟩)])]) (.int .i64 0)).run Tryz.prog w = .ok (.iface 115 (.agg #[.pointer (some ⟨b0, 0, none⟩)])) w from by kernel_rfl
      go_wp2_with fail
      refine (dform true b0 (128 + m) (inr true K f) _ (BS.out.s0.below B.out)).mono ?_
      rintro e w2 ⟨u2, rfl, hu, hb2⟩
      have U := hid hu.reads
      have O2 := hid (own_below O.out hb2)
      have B2 := hid (below_next B.out hb2)
      clear hu hb2 O B hix
      go_wp2_with (at_builtin; go_must (refine Sg.wpList_cat rfl _ _ rfl w.heap.size (0 * 200) 200 _ _ (fm3 true K f m 0) (formf true (128 + m) (inr true K f)) rfl O2.out rfl U.out (by omega) B2.out.size ?_))
      intro u3 w3 h3 hg3
      have O3 := hid (own_congr h3 (fm3_b true K f m 1 BS.out.fb) (fm3_next0 true K f m))
      have B3 := hid (Sh.below_grow B2.out B2.out.size O2.out hg3)
      clear h3 hg3 O2 B2 U
      go_wp2
      exact ⟨⟨1, by omega, rfl, O3.out, B3.out⟩, by simp [intOf]⟩
    | 1, hk3 =>
      have O := hid ho
      have B := hid hb
      clear ho hb
      have hix := fun (w : World) => show (Instr.index 36 (.agg #[.iface 115 (.agg #[.pointer (some ⟨b0, 0, none⟩)]), .iface 115 (.agg #[.pointer (some ⟨b1, 0, none⟩)]), .iface 115 (.agg #[.pointer (some ⟨b2, 0, none⟩)])]) (.int .i64 1)).run Tryz.prog w = .ok (.iface 115 (.agg #[.pointer (some ⟨b1, 0, none⟩)])) w from by kernel_rfl
      go_wp2_with fail
      refine (dform true b1 128 (msk 92 K) _ (BS.out.s1.below B.out)).mono ?_
      rintro e w2 ⟨u2, rfl, hu, hb2⟩
      have U := hid hu.reads
      have O2 := hid (own_below O.out hb2)
      have B2 := hid (below_next B.out hb2)
      clear hu hb2 O B hix
      go_wp2_with (at_builtin; go_must (refine Sg.wpList_cat rfl _ _ rfl w.heap.size (1 * 200) 200 _ _ (fm3 true K f m 1) (formf true 128 (msk 92 K)) rfl O2.out rfl U.out (by omega) B2.out.size ?_))
      intro u3 w3 h3 hg3
      have O3 := hid (own_congr h3 (fm3_b true K f m 2 BS.out.fb) (fm3_next1 true K f m))
      have B3 := hid (Sh.below_grow B2.out B2.out.size O2.out hg3)
      clear h3 hg3 O2 B2 U
      go_wp2
      exact ⟨⟨2, by omega, rfl, O3.out, B3.out⟩, by simp [intOf]⟩
    | 2, hk3 =>
      have O := hid ho
      have B := hid hb
      clear ho hb
      have hix := fun (w : World) => show (Instr.index 36 (.agg #[.iface 115 (.agg #[.pointer (some ⟨b0, 0, none⟩)]), .iface 115 (.agg #[.pointer (some ⟨b1, 0, none⟩)]), .iface 115 (.agg #[.pointer (some ⟨b2, 0, none⟩)])]) (.int .i64 2)).run Tryz.prog w = .ok (.iface 115 (.agg #[.pointer (some ⟨b2, 0, none⟩)])) w from by kernel_rfl
      go_wp2_with fail
      refine (dform true b2 128 (msk 54 K) _ (BS.out.s2.below B.out)).mono ?_
      rintro e w2 ⟨u2, rfl, hu, hb2⟩
      have U := hid hu.reads
      have O2 := hid (own_below O.out hb2)
      have B2 := hid (below_next B.out hb2)
      clear hu hb2 O B hix
      go_wp2_with (at_builtin; go_must (refine Sg.wpList_cat rfl _ _ rfl w.heap.size (2 * 200) 200 _ _ (fm3 true K f m 2) (formf true 128 (msk 54 K)) rfl O2.out rfl U.out (by omega) B2.out.size ?_))
      intro u3 w3 h3 hg3
      have O3 := hid (own_congr h3 (fm3_b true K f m 3 BS.out.fb) (fm3_next2 true K f m))
      have B3 := hid (Sh.below_grow B2.out B2.out.size O2.out hg3)
      clear h3 hg3 O2 B2 U
      go_wp2
      exact ⟨⟨3, by omega, rfl, O3.out, B3.out⟩, by simp [intOf]⟩
    | 3, hk3 =>
      have O := hid ho
      have B := hid hb
      clear ho hb
      go_wp2
      go_ret
      exact ⟨_, rfl, O.out, B.out⟩
end Go.Proofs.YtpgkalgnlkfmaaaGreatDoor.Dg
