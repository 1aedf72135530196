/- What awake says: that Each answers, of the document's examples, what it says of them. -/
import Derived.Test.YtdmacflcjbkkpabGreatJx
import Derived.Test.YtdmacflcjbkkpabGreatJp
namespace Go.Proofs.YtdmacflcjbkkpabGreat.Co
open Go.ChangeShapes Go.WideShapes Go.ChangeAt Go.RowKit
open Go.Proofs.YtdmacflcjbkkpabGreat (RB Own same14)
open Go.Proofs.YtdmacflcjbkkpabGreat.Tb (Blk)
open Go.Proofs.YtdmacflcjbkkpabGreat.Ou (Sk sv sL zS)
theorem exr_rr : ∀ i, i < 10 → exr[i]? = some (rr exf i) := by
  have h : rws P00 (lf exf 10) = exr := by rw [exf_lf]; exact ex_rows
  rw [rws_rr] at h
  intro i hi
  rw [← h, List.getElem?_map, List.getElem?_range hi]
  rfl
theorem exr_ok : ∀ L ∈ exr, (∀ r ∈ L, r.Ok) ∧ L.length ≤ 1000 := by
  simp [exr, Rn.Ok]
theorem exl_in : ∀ s ∈ exl, SkIn s := by
  intro s hs
  simp only [exl, List.mem_cons, List.not_mem_nil, or_false] at hs
  rcases hs with rfl | rfl | rfl | rfl | rfl | rfl | rfl | rfl | rfl | rfl <;> constructor <;> decide
theorem exf_in (i : Nat) (hi : i < 10) : SkIn (exf i) := by
  apply exl_in
  unfold exf
  rw [List.getD_eq_getElem?_getD, List.getElem?_eq_getElem (show i < exl.length from hi)]
  exact List.getElem_mem _
theorem sx_blk {w : World} {g n : Nat} {f : Nat → Sk} (h : Blk w g (Sx.sl n f) 31) (hn : n ≤ 1000) : Sx.RB w (.slice (some ⟨g, 0, none⟩) n n) n f :=
  ⟨_, _, rfl, Nat.le_refl _, by unfold maxLen; omega, .inr ⟨g, 0, rfl, fun p u hp => by rw [Nat.zero_add]; exact h.cell p u hp⟩⟩
set_option maxRecDepth 100000 in
set_option maxHeartbeats 4000000 in
theorem awake_ok (w : World) : Calls Tryz.prog 7 #[] w fun e w' => e = .returned (.bool true) ∧ Below w.heap.size w w' := by
  go_enter Tryz.func7, Tryz.ntmps7
  go_wp2_with fail
  refine (example_ok _).mono ?_
  rintro e W1 ⟨v2, g, rfl, kl, rw_, b1⟩
  obtain ⟨gr, us, rfl, kr, lr, hr⟩ := rw_
  have le : exr.length = 10 := rfl
  rw [le] at lr
  have KR := hid kr
  have B1 := hid b1
  have HRW := hid hr
  have EC := each_ok _ 10 exf W1 (sx_blk kl (by omega)) exf_in (by omega)
  clear kl kr b1 le
  go_wp2_with fail
  refine EC.mono ?_
  rintro e W2 ⟨ge, u, rfl, ke, ho, hge, b2⟩
  have KE := hid ke
  have KR2 := hid (KR.out.below b2)
  have HO := hid ho
  have HW2 : Hid (∀ j L, exr[j]? = some L → ∃ u, us[j]? = some u ∧ RowAt u W2 L) := hid fun j L hj => by obtain ⟨u, h1, h2⟩ := HRW.out j L hj; exact ⟨u, h1, h2.below b2⟩
  have B2 := hid (below_next B1.out b2)
  clear EC ke ho b2 HRW KR B1 hge hr
  go_wp2
  go_loopw [4] (fun x wr => ∃ k : Nat, k ≤ 10 ∧ x = .int .i64 k ∧ Below W2.heap.size W2 wr) (fun x _ => 10 - (RowKit.intOf x).toNat)
  case atStart => exact ⟨0, Nat.zero_le _, rfl, Below.refl _ _⟩
  case round =>
    obtain ⟨k, hk, rfl, hbel⟩ := hrel
    have HB := hid hbel
    clear hbel
    by_cases hlt : k < 10
    · have hr := exr_rr k hlt
      obtain ⟨L, hL⟩ : ∃ L, rr exf k = L := ⟨_, rfl⟩
      rw [hL] at hr
      obtain ⟨ou, hou, ra⟩ := HW2.out k L hr
      have oe := HO.out k hlt
      rw [hL] at oe
      obtain ⟨okL, lL⟩ := exr_ok L (List.mem_of_getElem? hr)
      have r1 := ((ra.own okL lL).below HB.out).reads
      have r2 := (oe.below HB.out).reads
      have x1 := (KR2.out.below HB.out).cell k ou hou
      have x2 := (KE.out.below HB.out).cell k (u k) (by rw [List.getElem?_map, List.getElem?_range hlt]; rfl)
      obtain ⟨v1, hv1⟩ : ∃ v, ou = v := ⟨_, rfl⟩
      obtain ⟨v0, hv0⟩ : ∃ v, u k = v := ⟨_, rfl⟩
      rw [hv0] at x2 r2
      rw [hv1] at x1 r1
      obtain ⟨a1, c1, rfl, _, _, _, _⟩ := r1.shape
      obtain ⟨a0, c0, rfl, _, _, _, _⟩ := r2.shape
      have R1 := hid r1
      have R2 := hid r2
      have LL : Hid (L.length < 1000000000000000000) := by show _ < _; omega
      have kn : (k : Int) < 10 := by omega
      have kz : (0 : Int) ≤ (k : Int) := by omega
      have kc : (k : Int).toNat = k := Int.toNat_natCast k
      clear r1 r2 ra oe hr hL hou hv1 hv0
      go_wp2_with fail
      go_quiet ((go_at_call 9; refine (same14 _ _ L L _ (R2.out.below (below_drewN _ _)) (R1.out.below (below_drewN _ _)) LL.out LL.out).mono ?_; rw [decide_eq_true rfl]; rintro e w4 ⟨rfl, d, rfl⟩; exact ⟨rfl, _, drewN_two _ _ _⟩))
      go_wp2
      go_roundw
      case rel => exact ⟨k + 1, by omega, by go_num, HB.out.trans ((below_drewN _ _).mono HB.out.size)⟩
      case measure => simp [RowKit.intOf]; omega
    · have e : k = 10 := by omega
      subst e
      go_wp2
      go_ret
      exact ⟨rfl, below_next B2.out HB.out⟩
end Go.Proofs.YtdmacflcjbkkpabGreat.Co
