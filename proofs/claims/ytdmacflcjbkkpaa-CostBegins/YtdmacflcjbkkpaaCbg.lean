/- The walk of CostBegins: what comes behind says nothing of what was ahead. -/
import Derived.Test.YtdmacflcjbkkpaaCpk
import Derived.Test.YtdmacflcjbkkpaaCcd
import Derived.Test.YtdmacflcjbkkpaaCeh
import Derived.Test.YtdmacflcjbkkpaaCck
namespace Go.Proofs.Ytdmacflcjbkkpaa.Co
open Go.ChangeShapes Go.WideShapes Go.ChangeAt Go.RowKit
open Go.Proofs.Ytdmacflcjbkkpaa (RB Own same14 rl)
open Go.Proofs.Ytdmacflcjbkkpaa.Ou (Sk sv sL zS)
open Go.Proofs.Ytdmacflcjbkkpaa.Tb (Blk)
set_option maxRecDepth 100000 in
set_option maxHeartbeats 8000000 in
theorem begins_w (v : Value) (n : Nat) (f : Nat → Sk) (i : Int) (w : World) (h : Sx.RB w v n f) (hs : ∀ i, i < n → SkIn (f i)) (hn : (n + 6) * 56 ≤ 140737488355328) :
    Calls Try.prog 5 #[v, .int .i64 i] w fun e w' => e = .returned (.bool true) ∧ Below w.heap.size w w' := by
  obtain ⟨a, c, e0, hnc, hcm, hz⟩ := id h
  subst e0
  have H := hid h
  have HS := hid hs
  have n1 : n ≤ 100000000000000 := by omega
  have c1 : c ≤ 9223372036854775807 := by unfold maxLen at hcm; omega
  clear h hs hn hcm hz
  go_enter Try.func5, Try.ntmps5
  go_wp2_with fail
  refine (awake_ok _).mono ?_
  rintro e W1 ⟨rfl, hb1⟩
  have B1 := hid hb1
  clear hb1
  by_cases hlt : 300 < n
  · have h3 : 300 < (n : Int) := by omega
    go_wp2
    go_ret
    exact ⟨rfl, B1.out⟩
  · have h3 : ¬ 300 < (n : Int) := by omega
    have hn3 : n ≤ 300 := by omega
    have PK : Hid (Calls Try.prog 19 #[.int .i64 i, .int .i64 ((n : Int) + 1)] W1 fun e w' => (∃ r : Nat, e = .returned (.int .i64 (r : Int)) ∧ r < n + 1) ∧ w' = W1) := pick_n i (n + 1) (by omega) (by omega) W1
    have hw : IntKind.i64.wrap ((n : Int) + 1) = (n : Int) + 1 := by rw [IntKind.wrap_i64]; omega
    go_wp2_with fail
    refine PK.out.mono ?_
    rintro e W1' ⟨⟨m, rfl, hm⟩, rfl⟩
    clear PK
    have hmn : m ≤ n := by omega
    have EC := each_ok _ n f W1' (H.out.below B1.out) HS.out (by omega)
    go_wp2_with fail
    refine EC.mono ?_
    rintro e W2 ⟨ge, u, rfl, ke, ho, hge, b2⟩
    have KE := hid ke
    have HO := hid ho
    have B2 := hid (below_next B1.out b2)
    clear EC ke ho hge b2 B1
    have hm0 : (m : Int) ≤ n := by omega
    have hmc : (m : Int) ≤ c := by omega
    have hmz : (0 : Int) ≤ m := by omega
    have EC := each_ok _ m f W2 ((H.out.below B2.out).first m hmn) (fun i hi => HS.out i (by omega)) (by omega)
    go_wp2_with fail
    refine EC.mono ?_
    rintro e W3 ⟨gf, u2, rfl, kf, ho2, hgf, b3⟩
    have KF := hid kf
    have HO2 := hid ho2
    have KE3 := hid (KE.out.below b3)
    have HO3 : Hid (∀ i, i < n → Own W3 0 (u i) (rr f i)) := hid fun i hi => (HO.out i hi).below b3
    have B3 := hid (below_next B2.out b3)
    clear EC kf ho2 hgf b3 B2 KE HO
    have CC := codes_ok _ n f W3 (H.out.below B3.out) HS.out (by omega)
    go_wp2_with fail
    refine CC.mono ?_
    rintro e W4 ⟨gc, rfl, kc, hgc, b4⟩
    have KC := hid kc
    have KE4 := hid (KE3.out.below b4)
    have KF4 := hid (KF.out.below b4)
    have HO4 : Hid (∀ i, i < n → Own W4 0 (u i) (rr f i)) := hid fun i hi => (HO3.out i hi).below b4
    have HP4 : Hid (∀ i, i < m → Own W4 0 (u2 i) (rr f i)) := hid fun i hi => (HO2.out i hi).below b4
    have B4 := hid (below_next B3.out b4)
    clear CC kc hgc b4 B3 KE3 KF HO3 HO2
    have CC := codes_ok _ m f W4 ((H.out.below B4.out).first m hmn) (fun i hi => HS.out i (by omega)) (by omega)
    go_wp2_with fail
    refine CC.mono ?_
    rintro e W5 ⟨gd, rfl, kd, hgd, b5⟩
    have KE5 := hid (KE4.out.below b5)
    have KF5 := hid (KF4.out.below b5)
    have HO5 : Hid (∀ i, i < n → Own W5 0 (u i) (rr f i)) := hid fun i hi => (HO4.out i hi).below b5
    have HP5 : Hid (∀ i, i < m → Own W5 0 (u2 i) (rr f i)) := hid fun i hi => (HP4.out i hi).below b5
    have B5 := hid (below_next B4.out b5)
    have SC : Hid (Calls Try.prog 20 #[.slice (some ⟨gd, 0, none⟩) m m, .slice (some ⟨gc, 0, none⟩) m n] W5 fun e w' => e = .returned (.bool true) ∧ Below W5.heap.size W5 w') :=
      samec_ok gd gc m m n (cc f) W5 (fun V hV i hi => (kd.below hV).cell i _ (by rw [List.getElem?_map, List.getElem?_range hi]; rfl)) (fun V hV i hi => ((KC.out.below b5).below hV).cell i _ (by rw [List.getElem?_map, List.getElem?_range (show i < n by omega)]; rfl)) (by omega)
    clear CC kd hgd b5 B4 KE4 KF4 HO4 HP4 KC
    go_wp2_with fail
    refine SC.out.mono ?_
    rintro e W6 ⟨rfl, b6⟩
    have KE6 := hid (KE5.out.below b6)
    have KF6 := hid (KF5.out.below b6)
    have HO6 : Hid (∀ i, i < n → Own W6 0 (u i) (rr f i)) := hid fun i hi => (HO5.out i hi).below b6
    have HP6 : Hid (∀ i, i < m → Own W6 0 (u2 i) (rr f i)) := hid fun i hi => (HP5.out i hi).below b6
    have B6 := hid (below_next B5.out b6)
    clear SC b6 B5 KE5 KF5 HO5 HP5
    go_wp2
    go_loopw [10] (fun x wr => ∃ k : Nat, k ≤ m ∧ x = .int .i64 k ∧ Below W6.heap.size W6 wr) (fun x _ => m - (RowKit.intOf x).toNat)
    case atStart => exact ⟨0, Nat.zero_le _, rfl, Below.refl _ _⟩
    case round =>
      obtain ⟨k, hk, rfl, hbel⟩ := hrel
      have HB := hid hbel
      clear hbel
      by_cases hlt : k < m
      · have oe := HO6.out k (by omega)
        have oq := HP6.out k hlt
        have x1 := (KE6.out.below HB.out).cell k (u k) (by rw [List.getElem?_map, List.getElem?_range (show k < n by omega)]; rfl)
        have x2 := (KF6.out.below HB.out).cell k (u2 k) (by rw [List.getElem?_map, List.getElem?_range hlt]; rfl)
        have ln := rr_len f k
        obtain ⟨L, hL⟩ : ∃ L, rr f k = L := ⟨_, rfl⟩
        rw [hL] at oe oq ln
        have r1 := (oe.below HB.out).reads
        have r2 := (oq.below HB.out).reads
        obtain ⟨v1, hv1⟩ : ∃ v, u k = v := ⟨_, rfl⟩
        obtain ⟨v2, hv2⟩ : ∃ v, u2 k = v := ⟨_, rfl⟩
        rw [hv1] at x1 r1
        rw [hv2] at x2 r2
        obtain ⟨a1, c1, rfl, _, _, _, _⟩ := r1.shape
        obtain ⟨a2, c2, rfl, _, _, _, _⟩ := r2.shape
        have R1 := hid r1
        have R2 := hid r2
        have LL : Hid (L.length < 1000000000000000000) := by show _ < _; omega
        have km : (k : Int) < m := by omega
        have kn : (k : Int) < n := by omega
        have kz : (0 : Int) ≤ (k : Int) := by omega
        clear r1 r2 oe oq hL hv1 hv2 ln
        go_wp2_with fail
        go_quiet ((go_at_call 17; refine (same14 _ _ L L _ (R1.out.below (below_drewN _ _)) (R2.out.below (below_drewN _ _)) LL.out LL.out).mono ?_; rw [decide_eq_true rfl]; rintro e w4 ⟨rfl, d, rfl⟩; exact ⟨rfl, _, drewN_two _ _ _⟩))
        go_wp2
        go_roundw
        case rel => exact ⟨k + 1, by omega, by go_num, HB.out.trans ((below_drewN _ _).mono HB.out.size)⟩
        case measure => simp [RowKit.intOf]; omega
      · have e : k = m := by omega
        subst e
        go_wp2
        go_ret
        exact ⟨rfl, below_next B6.out HB.out⟩
end Go.Proofs.Ytdmacflcjbkkpaa.Co
