/- The program's mac: Form. -/
import Derived.Test.YtbgdjjfonmoemaaDoorVfrm0
import Derived.Test.YtbgdjjfonmoemaaDoorWb
import Derived.Test.YtbgdjjfonmoemaaDoorYr
namespace Go.Proofs.YtbgdjjfonmoemaaDoor.Vm
open Go.ChangeShapes Go.WideShapes Go.ChangeAt Go.RowKit
open Go.Proofs.YtbgdjjfonmoemaaDoor.By Go.Proofs.YtbgdjjfonmoemaaDoor.Gf Go.Proofs.YtbgdjjfonmoemaaDoor.Ae
open Go.Proofs.YtbgdjjfonmoemaaDoor.Kc (own_kept own_mono own8_type cat cat_bound wpList_cat below_grow)
set_option maxRecDepth 8000 in
set_option maxHeartbeats 4000000 in
theorem form_mc (g gc k n : Nat) (ws m : Nat → Nat) (w : World) (h : Mc w g gc k ws n m) : Calls Tryd.prog 31 #[.pointer (some ⟨g, 0, none⟩)] w fun e w' => ∃ v, e = .returned v ∧ By.Own w' w.heap.size v (fml k) (cb (fmf k ws n m)) ∧ Below w.heap.size w w' := by
  have H := hid h
  have c0 := h.c0
  clear h
  go_enter Tryd.func31, Tryd.ntmps31
  go_wp2_with (first | (go_at_call 44; refine (isNone_mc g gc _ c0).mono ?_; rintro e w' ⟨rfl, hw'⟩; subst w') | (go_at_call 53; refine (form_ci gc k ws _ H.out.ci).mono ?_; rintro e w2 ⟨v2, rfl, ho2, hb2⟩; have H2 := hid (H.out.below hb2); have O2 := hid ho2; have B2 := hid hb2; clear ho2 hb2))
  have la := LDb_run (mcl_a (H2.out.here.drewN 1)) (bl_length _ _)
  have lb := LDb_run (mcl_b (H2.out.here.drewN 1)) (bl_length _ _)
  have lc := LDb_run (mcl_c (H2.out.here.drewN 1)) (bl_length _ _)
  have ld := LDb_run (mcl_d (H2.out.here.drewN 1)) (bl_length _ _)
  rw [show w2.drewN 1 = w2.drew from rfl] at la lb lc ld
  have h1 := bl_length 16 (cb (sk1 ws (k + 6)))
  have h2 := bl_length 16 (cb (sk2 ws (k + 6)))
  have h3 := bl_length 16 (cb (chn ws (k + 6) m (nbl n)))
  have h4 := bl_length 16 (cb (wtn m n))
  have g0 := fold0 (sk1 ws (k + 6))
  have g1 := fold1 (sk1 ws (k + 6)) (sk2 ws (k + 6))
  have g2 := fold2 (sk1 ws (k + 6)) (sk2 ws (k + 6)) (chn ws (k + 6) m (nbl n))
  have g3 := fold3 (sk1 ws (k + 6)) (sk2 ws (k + 6)) (chn ws (k + 6) m (nbl n)) (wtn m n)
  have g4 := bl_length 64 (cb (four (sk1 ws (k + 6)) nought nought nought))
  have g5 := bl_length 64 (cb (four (sk1 ws (k + 6)) (sk2 ws (k + 6)) nought nought))
  have g6 := bl_length 64 (cb (four (sk1 ws (k + 6)) (sk2 ws (k + 6)) (chn ws (k + 6) m (nbl n)) nought))
  have g7 : z64.length = 64 := bl_length _ _
  apply once
  · intro key
    go_region_law (fail)
    all_goals
      exact key
  · go_simp
    go_wp2_with fail
    have FB := hid (fmf_b (k := k) (n := n) H.out.ci.lt H.out.lt)
    have HFF0 := fmf_mid k n ws m
    have HF40 := four_lt (k := k) (n := n) H.out.ci.lt H.out.lt
    generalize four (sk1 ws (k + 6)) (sk2 ws (k + 6)) (chn ws (k + 6) m (nbl n)) (wtn m n) = F at HFF0 HF40 ⊢
    have HFF := hid HFF0
    have HF4 := hid HF40
    clear la lb lc ld h1 h2 h3 h4 g0 g1 g2 g3 g4 g5 g6 g7 HFF0 HF40
    have hk8 := kk_le H.out.ci.kk
    go_loopw [3, 30] (fun v i wr => ∃ j : Nat, j ≤ 4 ∧ i = .int .i64 j ∧ By.Own wr w.heap.size v (16 * (k + 7) + 16 * j) (cb (fmf k ws n m)) ∧ Below w.heap.size w wr) (fun _ i _ => 4 - (intOf i).toNat)
    case atStart =>
      exact ⟨0, Nat.zero_le _, rfl, own_congr (own_below O2.out (below_drewN w2 1)) FB.out (fmf_low k n ws m), below_dr B2.out⟩
    case round =>
      clear O2 B2 H2
      obtain ⟨j, hj, rfl, o1, hbel⟩ := hrel
      have O1 := hid o1
      have HB := hid hbel
      clear o1 hbel
      by_cases hlt : j < 4
      · have hix := index64 F j hlt wr
        obtain ⟨W1, s1, b1, k1⟩ := z_var wr (fun i => F (16 * j + i))
        have OA := hid (own_below O1.out k1)
        have RA := hid (rb_blk b1 (fun i => ⟨Int.natCast_nonneg _, Int.ofNat_lt.2 (HF4.out _)⟩) (by simp [maxLen]))
        have HB2 := hid (below_next HB.out k1)
        have hsl := sliceB
        have RM := hid (fmf_room k j hk8 hj)
        have FC := hid (fmf_cat k n ws m F HFF.out j hlt)
        have JM := hid (j_more j hlt)
        have JL := hid hlt
        clear b1 k1
        go_wp2_with (at_builtin; go_must (refine wpList_cat rfl _ _ rfl w.heap.size (16 * (k + 7) + 16 * j) 16 _ _ (cb (fmf k ws n m)) (cb fun i => F (16 * j + i)) rfl OA.out rfl RA.out RM.out HB2.out.size ?_))
        intro v' w' hown hgrow
        have O3 := hid (own_congr hown (g := cb (fmf k ws n m)) FB.out FC.out)
        have B3 := hid (below_grow HB2.out HB2.out.size OA.out hgrow)
        clear hown hgrow
        go_wp2_with fail
        exact ⟨⟨j + 1, JL.out, by go_num, by rw [four_more]; exact O3.out, B3.out⟩, JM.out⟩
      · have ej : j = 4 := Nat.le_antisymm hj (Nat.le_of_not_lt hlt)
        subst ej
        have cn := (H.out.below HB.out).cn
        have hcb := ctn_mod n
        have OA := hid (own_below O1.out (below_alloc wr (.cells #[.int .u8 ((ctn n : Nat) : Int)] 5)))
        have RA := hid (rb_one wr ((ctn n : Nat) : Int) (ctn_byte n))
        have HB2 := hid (below_next HB.out (below_alloc wr (.cells #[.int .u8 ((ctn n : Nat) : Int)] 5)))
        have RM := hid (show 16 * (k + 7) + 16 * 4 + 1 ≤ 140737488355328 from Nat.le_trans (Nat.add_le_add_left (by decide) _) (fmf_room k 4 hk8 (Nat.le_refl _)))
        go_wp2_with (at_builtin; go_must (refine wpList_cat rfl _ _ rfl w.heap.size (16 * (k + 7) + 16 * 4) 1 _ _ (cb (fmf k ws n m)) (fun _ => ((ctn n : Nat) : Int)) rfl OA.out rfl RA.out RM.out HB2.out.size ?_))
        intro v' w' hown hgrow
        have O3 := hid (own_congr hown (g := cb (fmf k ws n m)) FB.out (fmf_end k n ws m))
        have B3 := hid (below_grow HB2.out HB2.out.size OA.out hgrow)
        clear hown hgrow
        go_wp2_with fail
        go_ret
        exact ⟨_, rfl, O3.out, B3.out⟩
end Go.Proofs.YtbgdjjfonmoemaaDoor.Vm
