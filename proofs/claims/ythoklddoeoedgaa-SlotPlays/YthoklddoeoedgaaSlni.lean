/- The statement's walk: memories that are none. -/
import Derived.Test.YthoklddoeoedgaaSlit
import Derived.Test.YthoklddoeoedgaaRlen
import Derived.Deep.RegionHeld3
namespace Go.Proofs.Ythoklddoeoedgaa.Sl
open Go.ChangeShapes Go.WideShapes Go.ChangeAt Go.RowKit
open Go.Proofs.Ythoklddoeoedgaa.By
/-- A block of cells as a thing. -/
def tC (b : Nat) (cs : List Value) (ty : TypeId) : Th where
  F j := j = b
  P W := Blk W b cs ty
  keep h hk hn := h.kept hk (hn _ rfl)
  lt h j hj := by rw [show j = b from hj]; exact h.lt
theorem GX.blk {w0 W : World} {B : Nat} {t : Nat → Th} (hG : GX w0 B t W) {m b : Nat} {cs : List Value} {ty : TypeId} (hm : t m = tC b cs ty) : Blk W b cs ty := by
  have := hG.all m; rw [hm] at this; exact this
theorem gx_alloc {w0 W : World} {B : Nat} {t : Nat → Th} (hG : GX w0 B t W) (m : Nat) (cs : List Value) (ty : TypeId) : ∃ t', GX w0 B t' (W.alloc (.cells cs.toArray ty)) ∧ t' m = tC W.heap.size cs ty ∧ But t t' m m :=
  ⟨_, hG.one m (tC W.heap.size cs ty) (Kp.of_below (fun _ => False) (below_alloc _ _)) (fun _ e => e.elim) (Blk.new _ _ _) (fun j hj => .inr (by rw [show j = _ from hj]; exact Nat.le_refl _)), up_at _ _ _, fun m h1 _ => up_ne _ _ h1⟩
theorem gx_nobody {w0 W : World} {B : Nat} {t : Nat → Th} (hG : GX w0 B t W) (m : Nat) : ∃ t', GX w0 B t' (W.alloc (.cells (mc false (fun _ => 0) 0).toArray 32)) ∧ t' m = tM (.pointer (some ⟨W.heap.size, 0, none⟩)) none ∧ But t t' m m :=
  ⟨_, hG.one m (tM (.pointer (some ⟨W.heap.size, 0, none⟩)) none) (Kp.of_below (fun _ => False) (below_alloc _ _)) (fun _ e => e.elim) (.inr ⟨_, rfl, Blk.new _ _ _⟩) (fun j hj => .inr (by rw [pb_one hj]; exact Nat.le_refl _)), up_at _ _ _, fun m h1 _ => up_ne _ _ h1⟩
theorem gx_nil {w0 W : World} {B : Nat} {t : Nat → Th} (hG : GX w0 B t W) (m : Nat) : ∃ t', GX w0 B t' W ∧ t' m = tM (.pointer none) none ∧ But t t' m m :=
  ⟨_, hG.one m (tM (.pointer none) none) (Kp.refl (fun _ => False) _) (fun _ e => e.elim) (.inl rfl) (fun j hj => by cases hj), up_at _ _ _, fun m h1 _ => up_ne _ _ h1⟩
theorem gx_llen {w0 W : World} {B : Nat} {t : Nat → Th} {k m : Nat} {L : List Rn} (hG : GX w0 B t W) (hk : Lg t k (some m) L) : Calls Try.prog 32 #[lpv (some m)] W fun e W' => e = .returned (.int .i64 (tot L)) ∧ W' = W := by
  obtain ⟨rv, e⟩ := hk
  have hp := hG.all k
  rw [e] at hp
  exact len20 m rv L W hp
theorem put_no (p v : Value) (w : World) (h : IsM w p none) : Calls Try.prog 12 #[p, v] w fun e w' => e = .returned (.int .i64 1) ∧ w' = w := by
  have H := hid h
  clear h
  go_enter Try.func12, Try.ntmps12
  go_wp2_with (go_at_call 35; refine (isNone_no _ _ H.out).mono ?_; rintro e w ⟨rfl, rfl⟩)
  go_ret
  exact ⟨rfl, rfl⟩
theorem bytes_no (p : Value) (w : World) (h : IsM w p none) : Calls Try.prog 16 #[p] w fun e w' => e = .returned (.slice none 0 0) ∧ w' = w := by
  have H := hid h
  clear h
  go_enter Try.func16, Try.ntmps16
  go_wp2_with (go_at_call 35; refine (isNone_no _ _ H.out).mono ?_; rintro e w ⟨rfl, rfl⟩)
  go_ret
  exact ⟨rfl, rfl⟩
theorem GX.mem {w0 W : World} {B : Nat} {t : Nat → Th} (hG : GX w0 B t W) {m : Nat} {p : Value} {k : Kd} (hm : t m = tM p k) : IsM W p k := by
  have := hG.all m; rw [hm] at this; exact this
/-- Two memories that are none. -/
def two (b k : Nat) : Value := if k = 0 then .pointer none else .pointer (some ⟨b, 0, none⟩)
set_option maxRecDepth 20000 in
set_option maxHeartbeats 1200000 in
theorem nil_w (v : Value) (n : Nat) (f : Nat → Int) (w : World) (hr : ∀ w', Below w.heap.size w w' → By.RB w' v n f) : Calls Try.prog 5 #[v] w fun e w' => e = .returned (.bool true) ∧ Below w.heap.size w w' := by
  have HR := hid hr
  clear hr
  have G0 := hid (GX.start w)
  obtain ⟨F0, e0, b0⟩ := bld0
  have E2 : eqS (kf (none)) F0 = true := eqS_true (fun i _ => by rw [e0 i]; rfl)
  clear e0
  go_enter Try.func5, Try.ntmps5
  go_wp2_with fail
  refine (gx_led G0.out 1).mono ?_
  rintro e W1 ⟨rfl, t1, hg, h1, hB⟩
  have G1 := hid hg
  have H1 := hid h1
  clear hg h1 hB G0
  go_wp2_with fail
  refine (gx_new G1.out 0).mono ?_
  rintro e W2 ⟨rfl, t2, hg, h0, hB⟩
  replace G1 := hid hg
  have H0 := hid h0
  replace H1 := hid (H1.out.keep (hB 1 (by decide) (by decide)))
  clear hg h0 hB
  go_wp2_with fail
  obtain ⟨b2, hb2⟩ : ∃ b, W2.heap.size = b := ⟨_, rfl⟩
  obtain ⟨t3, hg3, h2, hB3⟩ := gx_nobody G1.out 3
  obtain ⟨t4, hg4, h4, hB4⟩ := gx_alloc hg3 4 [.pointer none, .pointer (some ⟨W2.heap.size, 0, none⟩)] 27
  obtain ⟨t5, hg5, h5, hB5⟩ := gx_nil hg4 2
  have INV : Hid (GX w w.heap.size t5 ((W2.alloc (.cells (mc false (fun _ => 0) 0).toArray 32)).alloc (.cells #[.pointer none, .pointer (some ⟨W2.heap.size, 0, none⟩)] 27)) ∧ t5 0 = tM (.pointer (some ⟨W1.heap.size, 0, none⟩)) (some (0, fun _ => 0)) ∧ Lg t5 1 (some w.heap.size) [] ∧ (∀ k, k < 2 → t5 (2 + k) = tM (two b2 k) none) ∧ t5 4 = tC (b2 + 1) [.pointer none, .pointer (some ⟨b2, 0, none⟩)] 27) := by
    have e0 := (hB5 0 (by decide) (by decide)).trans ((hB4 0 (by decide) (by decide)).trans ((hB3 0 (by decide) (by decide)).trans H0.out))
    have e1 := ((H1.out.keep (hB3 1 (by decide) (by decide))).keep (hB4 1 (by decide) (by decide))).keep (hB5 1 (by decide) (by decide))
    refine ⟨hg5, e0, e1, fun k hk => ?_, (hB5 4 (by decide) (by decide)).trans ?_⟩
    · match k, hk with
      | 0, _ => exact h5
      | 1, _ => rw [← hb2]; exact (hB5 3 (by decide) (by decide)).trans ((hB4 3 (by decide) (by decide)).trans h2)
    · rw [h4, size_alloc, hb2]
  clear h2 hB3 h4 hB4 h5 hB5 hg3 hg4 hg5 H0 H1 G1
  rw [hb2] at INV ⊢
  go_loopw [6] (fun i wr => ∃ k : Nat, k ≤ 2 ∧ i = .int .i64 k ∧ ∃ t, GX w w.heap.size t wr ∧ t 0 = tM (.pointer (some ⟨W1.heap.size, 0, none⟩)) (some (0, fun _ => 0)) ∧ Lg t 1 (some w.heap.size) [] ∧ (∀ k, k < 2 → t (2 + k) = tM (two b2 k) none) ∧ t 4 = tC (b2 + 1) [.pointer none, .pointer (some ⟨b2, 0, none⟩)] 27) (fun i _ => 2 - (intOf i).toNat)
  case atStart => exact ⟨0, by omega, rfl, t5, INV.out⟩
  case round =>
    clear INV
    obtain ⟨k, hk, rfl, t, hg, h0, h1, h2, h4⟩ := hrel
    by_cases hlt : k < 2
    · have cc : wr.cell? ⟨b2 + 1, k, none⟩ = some (two b2 k) := by
        match k, hlt with
        | 0, _ => exact (hg.blk h4).cell 0 _ rfl
        | 1, _ => exact (hg.blk h4).cell 1 _ rfl
      have hp := hid (h2 k hlt)
      have G := hid hg
      have H0 := hid h0
      have H1 := hid h1
      have H2 := hid h2
      have H4 := hid h4
      clear hg h0 h1 h2 h4
      obtain ⟨p, ep⟩ : ∃ p, two b2 k = p := ⟨_, rfl⟩
      rw [ep] at cc hp
      have l0 : (0 : Int) ≤ k := by omega
      have l2 : (k : Int) < 2 := by omega
      have HK := hid hlt
      have HP : Hid (IsM wr p none) := G.out.mem hp.out
      go_wp2_with fail
      refine (put_no p v wr HP.out).mono ?_
      rintro e wr ⟨rfl, rfl⟩
      go_wp2_with fail
      refine (wipe_no p _ wr HP.out).mono ?_
      rintro e wr ⟨rfl, rfl⟩
      go_wp2_with fail
      refine (gx_look G.out hp.out).mono ?_
      rintro e W5 ⟨rfl, hg, hb⟩
      replace G := hid hg
      replace HP := hid (HP.out.below hb)
      clear hg hb cc
      go_wp2_with fail
      refine (bytes_no p W5 HP.out).mono ?_
      rintro e W5 ⟨rfl, rfl⟩
      go_wp2_with fail
      refine (len_m p none W5 HP.out).mono ?_
      rintro e W5 ⟨rfl, rfl⟩
      rw [show kn none = 0 from rfl]
      go_wp2_with fail
      refine (same_no1 _ p _ W5 HP.out).mono ?_
      rintro e W5 ⟨rfl, rfl⟩
      obtain ⟨bm, ebm, hmm⟩ := G.out.mem H0.out
      cases ebm
      have HM := hid hmm
      clear hmm
      go_wp2_with fail
      refine (same_no2 _ p _ _ _ W5 HM.out HP.out).mono ?_
      rintro e W5 ⟨rfl, rfl⟩
      go_wp2_with fail
      refine (same_no1 _ p _ W5 HP.out).mono ?_
      rintro e W5 ⟨rfl, rfl⟩
      go_wp2
      go_roundw
      case rel => exact ⟨k + 1, by have := HK.out; omega, by go_num, t, G.out, H0.out, H1.out, H2.out, H4.out⟩
      case measure => have := HK.out; simp [intOf]; omega
    · obtain rfl : k = 2 := by omega
      have G := hid hg
      have H1 := hid h1
      clear hg h0 h1 h2 h4
      go_wp2_with fail
      refine (gx_llen G.out H1.out).mono ?_
      rintro e W5 ⟨rfl, rfl⟩
      rw [show tot [] = 0 from rfl]
      go_wp2_with fail
      refine (awake W5).mono ?_
      rintro e W6 ⟨rfl, hb⟩
      have GE := hid (G.out.below hb)
      clear hb
      go_wp2
      go_ret
      exact ⟨rfl, GE.out.bel⟩
end Go.Proofs.Ythoklddoeoedgaa.Sl
