/- The walk of SkelHolds. -/
import Derived.Test.YtdahogdfonhnfaaVlc
namespace Go.Proofs.Ytdahogdfonhnfaa.Sx
open Go.ChangeShapes Go.WideShapes Go.ChangeAt Go.RowKit
open Go.Proofs.Ytdahogdfonhnfaa.By (hid grown_none grown_of_alloc grown_step grown_cell apart_symm lv)
open Go.Proofs.Ytdahogdfonhnfaa.Ou (Sk sL sv LDk SVk sL_one infok zS SVk_run LDk_run two_vars)
open Go.Proofs.Ytdahogdfonhnfaa.Tb (put put_get put_length Blk)
theorem own_some {w : World} {base : Nat} {v : Value} {n : Nat} {f : Nat → Sk} (h : Own w base v n f) (hn : 0 < n) : ∃ g c, v = .slice (some ⟨g, 0, none⟩) n c ∧ n ≤ c := by
  rcases h.shape with ⟨_, h0⟩ | ⟨g, cap, rfl, _, _, hc, _⟩
  · omega
  · exact ⟨g, cap, rfl, hc⟩
theorem rb_lent {w : World} {base g n c : Nat} {f : Nat → Sk} (h : Own w base (.slice (some ⟨g, 0, none⟩) (n + 6) c) (n + 6) (lent n f)) : RB w (.slice (some ⟨g, 0, none⟩) n c) n f :=
  (h.reads.first n (by omega)).congr (fun i hi => by unfold lent; rw [if_pos hi])
set_option maxRecDepth 8000 in
set_option maxHeartbeats 1200000 in
theorem holds_w (a b : Value) (n m : Nat) (f g : Nat → Sk) (w : World) (h1 : RB w a n f) (h2 : RB w b m g) (hn : (n + 6) * 56 ≤ 140737488355328) (hm : (m + 6) * 56 ≤ 140737488355328) :
    Calls Try.prog 5 #[a, b] w fun e w' => e = .returned (.bool true) ∧ Below w.heap.size w w' := by
  obtain ⟨a1, c1, rfl⟩ := h1.isSl
  obtain ⟨a2, c2, rfl⟩ := h2.isSl
  have H1 := hid h1
  have H2 := hid h2
  have N1 := hid hn
  have N2 := hid hm
  have n1 : n ≤ 140737488355328 := by omega
  have n2 : m ≤ 140737488355328 := by omega
  have EC := hid (eqM_comm m n g f)
  have ER := hid (eqM_refl n f)
  clear h1 h2 hn hm
  go_enter Try.func5, Try.ntmps5
  go_wp2_with fail
  refine (lent_ok _ n f w H1.out N1.out).mono ?_
  rintro e W1 ⟨v1, rfl, o1, b1⟩
  obtain ⟨g1, k1, rfl, l1⟩ := own_some o1 (by omega)
  have O1 := hid o1
  have B1 := hid b1
  replace H2 := hid (H2.out.below b1)
  replace H1 := hid (H1.out.below b1)
  clear o1 b1
  go_wp2_with fail
  refine (lent_ok _ m g W1 H2.out N2.out).mono ?_
  rintro e W2 ⟨v2, rfl, o2, b2⟩
  obtain ⟨g2, k2, rfl, l2⟩ := own_some o2 (by omega)
  have O2 := hid o2
  replace O1 := hid (own_below O1.out b2)
  replace H2 := hid (H2.out.below b2)
  replace H1 := hid (H1.out.below b2)
  replace B1 := hid (below_next B1.out b2)
  have P := hid (rb_lent O1.out)
  have Q := hid (rb_lent O2.out)
  clear o2 b2
  have l1' : n ≤ k1 := by omega
  have l2' : m ≤ k2 := by omega
  clear l1 l2
  go_wp2_with fail
  go_region_held3 (fun _ => True) (trivial) (fail)
  replace B1 := hid (B1.out.drew)
  replace P := hid (P.out.below (below_drewN W2 1))
  replace Q := hid (Q.out.below (below_drewN W2 1))
  replace O1 := hid (own_below O1.out (below_drewN W2 1))
  replace O2 := hid (own_below O2.out (below_drewN W2 1))
  replace H1 := hid (H1.out.below (below_drewN W2 1))
  replace H2 := hid (H2.out.below (below_drewN W2 1))
  obtain ⟨W3, hW3⟩ : ∃ W, W2.drew = W := ⟨_, rfl⟩
  have e3 : W2.drewN 1 = W3 := hW3
  rw [e3] at P Q O1 O2 H1 H2
  rw [hW3] at B1 ⊢
  clear e3 hW3
  go_wp2_with fail
  have SM := hid (same_ok _ _ n m f g W3 H1.out H2.out n1 n2)
  obtain ⟨z, hz⟩ : ∃ z, eqM n m f g = z := ⟨_, rfl⟩
  have HZ := hid hz
  have HZ2 := hid (EC.out.trans hz)
  clear hz EC
  refine SM.out.mono ?_
  rintro e W4 ⟨rfl, d4, hd⟩
  have hb : Below W3.heap.size W3 W4 := by rw [hd]; exact below_drewN _ _
  rw [HZ.out]
  replace P := hid (P.out.below hb)
  replace Q := hid (Q.out.below hb)
  replace O1 := hid (own_below O1.out hb)
  replace O2 := hid (own_below O2.out hb)
  replace H1 := hid (H1.out.below hb)
  replace H2 := hid (H2.out.below hb)
  replace B1 := hid (below_next B1.out hb)
  clear hb hd SM
  go_wp2_with fail
  refine (psame_ok _ _ n m f g W4 P.out Q.out n1 n2).mono ?_
  rintro e W5 ⟨rfl, hb⟩
  rw [HZ.out]
  replace P := hid (P.out.below hb)
  replace Q := hid (Q.out.below hb)
  replace O1 := hid (own_below O1.out hb)
  replace O2 := hid (own_below O2.out hb)
  replace H1 := hid (H1.out.below hb)
  replace H2 := hid (H2.out.below hb)
  replace B1 := hid (below_next B1.out hb)
  clear hb
  have zz := (show (z == z) = true from by cases z <;> rfl)
  go_wp2_with fail
  refine (psame_ok _ _ m n g f W5 Q.out P.out n2 n1).mono ?_
  rintro e W6 ⟨rfl, hb⟩
  rw [HZ2.out]
  replace P := hid (P.out.below hb)
  replace Q := hid (Q.out.below hb)
  replace O1 := hid (own_below O1.out hb)
  replace O2 := hid (own_below O2.out hb)
  replace H1 := hid (H1.out.below hb)
  replace H2 := hid (H2.out.below hb)
  replace B1 := hid (below_next B1.out hb)
  clear hb
  go_wp2_with fail
  refine (psame_ok _ _ n n f f W6 P.out P.out n1 n1).mono ?_
  rintro e W7 ⟨rfl, hb⟩
  rw [ER.out]
  replace P := hid (P.out.below hb)
  replace Q := hid (Q.out.below hb)
  replace O1 := hid (own_below O1.out hb)
  replace O2 := hid (own_below O2.out hb)
  replace H1 := hid (H1.out.below hb)
  replace H2 := hid (H2.out.below hb)
  replace B1 := hid (below_next B1.out hb)
  clear hb
  go_wp2_with fail
  refine (copy_ok _ n f W7 H1.out (by have := N1.out; omega)).mono ?_
  rintro e W8 ⟨v8, rfl, o8, hb⟩
  obtain ⟨a8, c8, rfl⟩ := o8.reads.isSl
  have R8 := hid o8.reads
  replace P := hid (P.out.below hb)
  replace Q := hid (Q.out.below hb)
  replace O1 := hid (own_below O1.out hb)
  replace O2 := hid (own_below O2.out hb)
  replace H1 := hid (H1.out.below hb)
  replace H2 := hid (H2.out.below hb)
  replace B1 := hid (below_next B1.out hb)
  clear hb o8
  go_wp2_with fail
  refine (psame_ok _ _ n n f f W8 P.out R8.out n1 n1).mono ?_
  rintro e W9 ⟨rfl, hb⟩
  rw [ER.out]
  replace P := hid (P.out.below hb)
  replace Q := hid (Q.out.below hb)
  replace O1 := hid (own_below O1.out hb)
  replace O2 := hid (own_below O2.out hb)
  replace H1 := hid (H1.out.below hb)
  replace H2 := hid (H2.out.below hb)
  replace B1 := hid (below_next B1.out hb)
  clear hb R8
  go_wp2_with fail
  refine (kept_ok _ _ n f W9 O1.out.reads H1.out N1.out).mono ?_
  rintro e W10 ⟨rfl, hb⟩
  replace P := hid (P.out.below hb)
  replace Q := hid (Q.out.below hb)
  replace O1 := hid (own_below O1.out hb)
  replace O2 := hid (own_below O2.out hb)
  replace H1 := hid (H1.out.below hb)
  replace H2 := hid (H2.out.below hb)
  replace B1 := hid (below_next B1.out hb)
  clear hb
  go_wp2_with fail
  refine (kept_ok _ _ m g W10 O2.out.reads H2.out N2.out).mono ?_
  rintro e W11 ⟨rfl, hb⟩
  replace P := hid (P.out.below hb)
  replace Q := hid (Q.out.below hb)
  replace O1 := hid (own_below O1.out hb)
  replace O2 := hid (own_below O2.out hb)
  replace H1 := hid (H1.out.below hb)
  replace H2 := hid (H2.out.below hb)
  replace B1 := hid (below_next B1.out hb)
  clear hb P Q O1 O2 H1 H2
  go_wp2
  go_ret
  exact ⟨rfl, B1.out⟩
end Go.Proofs.Ytdahogdfonhnfaa.Sx
