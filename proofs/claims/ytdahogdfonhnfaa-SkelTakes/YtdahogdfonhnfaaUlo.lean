/- An operation that is lent: LentOp, KeptOp, OverOp. -/
import Derived.Test.YtdahogdfonhnfaaUvar
import Derived.Deep.DeepCutAuto
import Derived.Deep.RegionHeld3
import Derived.Deep.RegionLaw
namespace Go.Proofs.Ytdahogdfonhnfaa.Ou
open Go.ChangeShapes Go.WideShapes Go.ChangeAt Go.RowKit
open Go.Proofs.Ytdahogdfonhnfaa.By
open Go.Proofs.Ytdahogdfonhnfaa.Tb (Blk Blk.newAt)
/-- The lent lists in a world. -/
def Lent (w : World) (B b : Nat) (g1 g2 c1 c2 : Nat) (n nm : Nat) (f g : Nat → Int) (W : World) : Prop :=
  Blk W b [.slice (some ⟨g1, 0, none⟩) (n + 6) c1, .slice (some ⟨g2, 0, none⟩) (nm + 6) c2] 29 ∧ By.Own W B (.slice (some ⟨g1, 0, none⟩) (n + 6) c1) (n + 6) (lent n f) ∧ By.Own W B (.slice (some ⟨g2, 0, none⟩) (nm + 6) c2) (nm + 6) (lent nm g) ∧ g1 ≠ g2 ∧ b ≠ g1 ∧ b ≠ g2 ∧ B ≤ b ∧ Below B w W
theorem Lent.bel {w W : World} {B b g1 g2 c1 c2 n nm : Nat} {f g : Nat → Int} (h : Lent w B b g1 g2 c1 c2 n nm f g W) : Below B w W := h.2.2.2.2.2.2.2
theorem lentb (l : Value) (n : Nat) (f : Nat → Int) (w : World) (hr : By.RB w l n f) (hn : n ≤ 140737488355000) :
    Calls Try.prog 29 #[l] w fun e w' => ∃ g c, e = .returned (.slice (some ⟨g, 0, none⟩) (n + 6) c) ∧ By.Own w' w.heap.size (.slice (some ⟨g, 0, none⟩) (n + 6) c) (n + 6) (lent n f) ∧ Below w.heap.size w w' := by
  refine (lent14 l n f w hr hn).mono ?_
  rintro e w' ⟨v, rfl, ho, hb⟩
  obtain ⟨g, c, rfl, _⟩ := own_cells ho (by omega)
  exact ⟨g, c, rfl, ho, hb⟩
abbrev X2 : Obj := .cells #[Value.slice none 0 0, Value.slice none 0 0] 29
theorem lent_end {W0 Z : World} {b g1 g2 c1 c2 n nm : Nat} {f g : Nat → Int} (hb : Below W0.heap.size W0 Z) (hB : Blk Z b [.slice none 0 0, .slice none 0 0] 29) (hb0 : W0.heap.size ≤ b) (o1 : By.Own Z W0.heap.size (.slice (some ⟨g1, 0, none⟩) (n + 6) c1) (n + 6) (lent n f)) (o2 : By.Own Z W0.heap.size (.slice (some ⟨g2, 0, none⟩) (nm + 6) c2) (nm + 6) (lent nm g)) (h12 : g1 ≠ g2) (h1 : b ≠ g1) (h2 : b ≠ g2) :
    ∃ W, (SVa ⟨b, 0, none⟩ (.agg #[.slice (some ⟨g1, 0, none⟩) (n + 6) c1, .slice (some ⟨g2, 0, none⟩) (nm + 6) c2])).run Try.prog Z = .ok () W ∧ Lent W0 W0.heap.size b g1 g2 c1 c2 n nm f g W := by
  obtain ⟨W, hs, hB', hk⟩ := SVa_run hB rfl (d := .slice (some ⟨g1, 0, none⟩) (n + 6) c1) (m := .slice (some ⟨g2, 0, none⟩) (nm + 6) c2) rfl rfl
  exact ⟨W, hs, hB', own_keptB o1 hk (fun j e h => h1 (by cases e; exact h.symm)), own_keptB o2 hk (fun j e h => h2 (by cases e; exact h.symm)), h12, h1, h2, hb0, hb.trans (hk.below hb.size (fun j _ e => by omega))⟩
theorem lent_C {W0 V1 V2 : World} {s1 g1 g2 c1 c2 n nm : Nat} {f g : Nat → Int} (B1 : Below W0.heap.size W0 V1) (hs : W0.heap.size ≤ s1) (o1 : By.Own V1 s1 (.slice (some ⟨g1, 0, none⟩) (n + 6) c1) (n + 6) (lent n f)) (B2 : Below V1.heap.size V1 V2) (o2 : By.Own V2 V1.heap.size (.slice (some ⟨g2, 0, none⟩) (nm + 6) c2) (nm + 6) (lent nm g)) :
    ∃ W, (SVa ⟨V2.heap.size, 0, none⟩ (.agg #[.slice (some ⟨g1, 0, none⟩) (n + 6) c1, .slice (some ⟨g2, 0, none⟩) (nm + 6) c2])).run Try.prog (V2.alloc X2) = .ok () W ∧ Lent W0 W0.heap.size V2.heap.size g1 g2 c1 c2 n nm f g W := by
  have e1 := own_lt o1 g1 rfl
  have e2 := own_row o2 g2 rfl
  have e3 := own_lt o2 g2 rfl
  have e4 := B2.size
  have e5 := B1.size
  exact lent_end (below_next (below_next B1 B2) (below_alloc _ _)) (Blk.newAt V2 _ _ _ _ rfl rfl) (by omega) (own_base (own_alloc (own_below o1 B2) _) hs) (own_base (own_alloc o2 _) (by omega)) (by omega) (by omega) (by omega)
theorem lent_A {W0 V1 V2 : World} {s1 g1 g2 c1 c2 n nm : Nat} {f g : Nat → Int} (B1 : Below W0.heap.size W0 V1) (hB : Blk V1 W0.heap.size [.slice none 0 0, .slice none 0 0] 29) (hs : W0.heap.size < s1) (o1 : By.Own V1 s1 (.slice (some ⟨g1, 0, none⟩) (n + 6) c1) (n + 6) (lent n f)) (B2 : Below V1.heap.size V1 V2) (o2 : By.Own V2 V1.heap.size (.slice (some ⟨g2, 0, none⟩) (nm + 6) c2) (nm + 6) (lent nm g)) :
    ∃ W, (SVa ⟨W0.heap.size, 0, none⟩ (.agg #[.slice (some ⟨g1, 0, none⟩) (n + 6) c1, .slice (some ⟨g2, 0, none⟩) (nm + 6) c2])).run Try.prog V2 = .ok () W ∧ Lent W0 W0.heap.size W0.heap.size g1 g2 c1 c2 n nm f g W := by
  have e1 := own_lt o1 g1 rfl
  have e0 := own_row o1 g1 rfl
  have e2 := own_row o2 g2 rfl
  have e4 := B2.size
  have e5 := B1.size
  exact lent_end (below_next B1 B2) (hB.below B2) (by omega) (own_base (own_below o1 B2) (by omega)) (own_base o2 (by omega)) (by omega) (by omega) (by omega)
theorem lent_B {W0 V1 V2 : World} {s1 g1 g2 c1 c2 n nm : Nat} {f g : Nat → Int} (B1 : Below W0.heap.size W0 V1) (hs : W0.heap.size ≤ s1) (o1 : By.Own V1 s1 (.slice (some ⟨g1, 0, none⟩) (n + 6) c1) (n + 6) (lent n f)) (B2 : Below (V1.alloc X2).heap.size (V1.alloc X2) V2) (o2 : By.Own V2 (V1.alloc X2).heap.size (.slice (some ⟨g2, 0, none⟩) (nm + 6) c2) (nm + 6) (lent nm g)) :
    ∃ W, (SVa ⟨V1.heap.size, 0, none⟩ (.agg #[.slice (some ⟨g1, 0, none⟩) (n + 6) c1, .slice (some ⟨g2, 0, none⟩) (nm + 6) c2])).run Try.prog V2 = .ok () W ∧ Lent W0 W0.heap.size V1.heap.size g1 g2 c1 c2 n nm f g W := by
  have e1 := own_lt o1 g1 rfl
  have e2 := own_row o2 g2 rfl
  have e5 := B1.size
  have e6 : (V1.alloc X2).heap.size = V1.heap.size + 1 := by simp
  exact lent_end (below_next (below_next B1 (below_alloc _ _)) B2) ((Blk.newAt V1 _ _ _ _ rfl rfl).below B2) (by omega) (own_base (own_below (own_alloc o1 _) B2) hs) (own_base o2 (by omega)) (by omega) (by omega) (by omega)
set_option maxRecDepth 8000 in
set_option maxHeartbeats 1200000 in
theorem lentop_ok (q : Nu) (d m : Value) (n nm : Nat) (f g : Nat → Int) (w : World) (h1 : By.RB w d n f) (h2 : By.RB w m nm g) (hn : n ≤ 140737488355000) (hnm : nm ≤ 140737488355000) :
    Calls Try.prog 8 #[ov q d m] w fun e w' => ∃ g1 g2 c1 c2, e = .returned (.tuple #[ov q (.slice (some ⟨g1, 0, none⟩) n c1) (.slice (some ⟨g2, 0, none⟩) nm c2), .agg #[.slice (some ⟨g1, 0, none⟩) (n + 6) c1, .slice (some ⟨g2, 0, none⟩) (nm + 6) c2]]) ∧ By.Own w' w.heap.size (.slice (some ⟨g1, 0, none⟩) (n + 6) c1) (n + 6) (lent n f) ∧ By.Own w' w.heap.size (.slice (some ⟨g2, 0, none⟩) (nm + 6) c2) (nm + 6) (lent nm g) ∧ g1 ≠ g2 ∧ Below w.heap.size w w' := by
  have H1 := hid h1
  have H2 := hid h2
  obtain ⟨a, c, rfl⟩ : ∃ a c, d = .slice a n c := by obtain ⟨_, a, c, e, _⟩ := h1; exact ⟨a, c, e⟩
  obtain ⟨a', c', rfl⟩ : ∃ a c, m = .slice a nm c := by obtain ⟨_, a, c, e, _⟩ := h2; exact ⟨a, c, e⟩
  clear h1 h2
  go_enter Try.func8, Try.ntmps8
  go_upto_region 1 with fail
  obtain ⟨W0, hW0⟩ : ∃ W, ((w.alloc (.cells #[Value.int IntKind.u8 q.k, Value.int IntKind.i64 q.h, Value.int IntKind.u8 q.a, Value.int IntKind.i64 q.c, Value.int IntKind.i64 q.o, Value.slice a n c, Value.slice a' nm c'] 28)).alloc (.cells #[Value.int IntKind.u8 0, Value.int IntKind.i64 0, Value.int IntKind.u8 0, Value.int IntKind.i64 0, Value.int IntKind.i64 0, Value.slice none 0 0, Value.slice none 0 0] 28)).alloc (.cells #[Value.slice none 0 0, Value.slice none 0 0] 29) = W := ⟨_, rfl⟩
  have b0 : Hid (Blk W0 w.heap.size #[Value.int IntKind.u8 q.k, Value.int IntKind.i64 q.h, Value.int IntKind.u8 q.a, Value.int IntKind.i64 q.c, Value.int IntKind.i64 q.o, Value.slice a n c, Value.slice a' nm c'].toList 28) := by
    rw [← hW0]; exact ((Blk.newAt w _ _ 28 w.heap.size rfl rfl).alloc _).alloc _
  have b1 : Hid (Blk W0 (w.heap.size + 1) #[Value.int IntKind.u8 0, Value.int IntKind.i64 0, Value.int IntKind.u8 0, Value.int IntKind.i64 0, Value.int IntKind.i64 0, Value.slice none 0 0, Value.slice none 0 0].toList 28) := by
    rw [← hW0]; exact (Blk.newAt (w.alloc _) _ _ 28 (w.heap.size + 1) (by simp) rfl).alloc _
  have b2 : Hid (Blk W0 (w.heap.size + 1 + 1) [.slice none 0 0, .slice none 0 0] 29) := by
    rw [← hW0]; exact Blk.newAt ((w.alloc _).alloc _) _ _ 29 (w.heap.size + 1 + 1) (by simp) rfl
  have z0 : Hid (W0.heap.size = w.heap.size + 1 + 1 + 1) := by show W0.heap.size = _; rw [← hW0]; simp
  have BW : Hid (Below w.heap.size w W0) := by rw [← hW0]; exact below_next (below_next (below_alloc _ _) (below_alloc _ _)) (below_alloc _ _)
  rw [hW0]
  clear hW0
  go_cut [4, 5, 6, 7, 8, 9, 10, 11] (fun x4 x5 x6 x7 x8 x9 x10 x11 W => ∃ b g1 g2 c1 c2, x4 = .pointer (some ⟨b, 0, none⟩) ∧ Lent W0 W0.heap.size b g1 g2 c1 c2 n nm f g W)
  case first =>
    have RA : Hid (∀ W, Below W0.heap.size W0 W → By.RB W (.slice a n c) n f) := fun W h => H1.out.below (below_next BW.out h)
    have RC : Hid (∀ W, Below W0.heap.size W0 W → By.RB W (.slice a' nm c') nm g) := fun W h => H2.out.below (below_next BW.out h)
    have CE : Hid (∀ W, Below W0.heap.size W0 W → W.cell? ⟨w.heap.size, 5, none⟩ = some (.slice a n c) ∧ W.cell? ⟨w.heap.size, 6, none⟩ = some (.slice a' nm c')) := fun W h => ⟨(b0.out.below h).cell 5 _ rfl, (b0.out.below h).cell 6 _ rfl⟩
    have q0 : Below W0.heap.size W0 W0.drew := below_drewN W0 1
    obtain ⟨c5, c6⟩ := CE.out W0 (Below.refl _ _)
    have q1 : Below W0.heap.size W0 (W0.alloc X2).drew := (Below.alloc (Below.refl _ _) (Nat.le_refl _) X2).drew
    obtain ⟨c50, c60⟩ := CE.out _ q0
    obtain ⟨c51, c61⟩ := CE.out _ q1
    have SX0 : Hid (W0.heap.size < (W0.alloc X2).drew.heap.size) := by show W0.heap.size < (W0.alloc X2).heap.size; rw [Tb.size_alloc]; exact Nat.lt_succ_self _
    have BX0 : Hid (Blk (W0.alloc X2).drew W0.heap.size [.slice none 0 0, .slice none 0 0] 29) := (show Blk (W0.alloc X2) W0.heap.size [.slice none 0 0, .slice none 0 0] 29 from Blk.newAt W0 _ _ _ _ rfl rfl)
    have Q0 := hid q0
    have Q1 := hid q1
    clear q0 q1 b0 b1 b2
    go_region_held3 (fun W => W.cell? ⟨w.heap.size, 5, none⟩ = some (.slice a n c) ∧ W.cell? ⟨w.heap.size, 6, none⟩ = some (.slice a' nm c')) (go_keep) (first
      | (go_at_call 29; first
        | (with_reducible refine (lentb (.slice a' nm c') nm g V1 (RC.out _ B1.out) hnm).mono ?_; rintro e V2 ⟨g2, c2, rfl, ho, hb⟩; have t := CE.out _ (below_next B1.out hb); have e53 := t.1; have e63 := t.2; clear t; have t := CE.out _ (below_next (below_next B1.out hb) (below_alloc _ X2)); have e54 := t.1; have e64 := t.2; clear t; (first | obtain ⟨W3, s3, fin⟩ := lent_A B1.out BX.out SX.out O1.out hb ho | obtain ⟨W3, s3, fin⟩ := lent_C B1.out SX.out O1.out hb ho); have t := CE.out _ fin.bel; have e55 := t.1; have e65 := t.2; clear t; have FIN := hid fin; clear fin ho hb)
        | (with_reducible refine (lentb (.slice a' nm c') nm g (V1.alloc X2) (RC.out _ (below_next B1.out (below_alloc _ X2))) hnm).mono ?_; rintro e V2 ⟨g2, c2, rfl, ho, hb⟩; have t := CE.out _ (below_next (below_next B1.out (below_alloc _ X2)) hb); have e53 := t.1; have e63 := t.2; clear t; obtain ⟨W3, s3, fin⟩ := lent_B B1.out SX.out O1.out hb ho; have t := CE.out _ fin.bel; have e55 := t.1; have e65 := t.2; clear t; have FIN := hid fin; clear fin ho hb)
        | (with_reducible refine (lentb (.slice a n c) n f W0.drew (RA.out _ Q0.out) hn).mono ?_; rintro e V1 ⟨g1, c1, rfl, ho, hb⟩; have O1 := hid ho; have SX : Hid (W0.heap.size ≤ W0.drew.heap.size) := Nat.le_refl _; have B1 := hid (below_next Q0.out hb); have t := CE.out _ B1.out; have e51 := t.1; have e61 := t.2; clear t; have t := CE.out _ (below_next B1.out (below_alloc _ X2)); have e52 := t.1; have e62 := t.2; clear t; clear ho hb)
        | (with_reducible refine (lentb (.slice a n c) n f (W0.alloc X2).drew (RA.out _ Q1.out) hn).mono ?_; rintro e V1 ⟨g1, c1, rfl, ho, hb⟩; have O1 := hid ho; have B1 := hid (below_next Q1.out hb); have SX := SX0; have BX : Hid (Blk V1 W0.heap.size [.slice none 0 0, .slice none 0 0] 29) := hid (BX0.out.below hb); have t := CE.out _ B1.out; have e51 := t.1; have e61 := t.2; clear t; clear ho hb)))
    all_goals (go_wp2_with fail; go_meet; case rel => exact ⟨_, _, _, _, _, rfl, FIN.out⟩)
  case rest =>
    obtain ⟨b, g1, g2, c1, c2, rfl, hL⟩ := hcut
    have hle := hL.bel
    have k0 := b0.out.below hle
    have k1 := b1.out.below hle
    have k2 := b2.out.below hle
    obtain ⟨hb, o1, o2, n12, nb1, nb2, hb0, -⟩ := hL
    have x0 := hb.cell 0 _ rfl
    have x1 := hb.cell 1 _ rfl
    have p5 := k0.cell 5 _ rfl
    have p6 := k0.cell 6 _ rfl
    have f5 := k0.frozen 5
    have f6 := k0.frozen 6
    obtain ⟨W5, hW5⟩ : ∃ W, (wc.setCell ⟨w.heap.size, 5, none⟩ (.slice (some ⟨g1, 0, none⟩) n c1)).setCell ⟨w.heap.size, 6, none⟩ (.slice (some ⟨g2, 0, none⟩) nm c2) = W := ⟨_, rfl⟩
    have hz := z0.out
    have r1 : n ≤ c1 := by have := rb_cap o1.reads; omega
    have r2 : nm ≤ c2 := by have := rb_cap o2.reads; omega
    have hk : Kp (fun j => j = w.heap.size) wc W5 := by rw [← hW5]; exact (Kp.setCell _ 5 _).trans (Kp.setCell _ 6 _) (fun _ _ e => e)
    have K0 : Blk W5 w.heap.size (oL q (.slice (some ⟨g1, 0, none⟩) n c1) (.slice (some ⟨g2, 0, none⟩) nm c2)) 28 := by rw [← hW5]; exact (k0.set 5 _).set 6 _
    have K1 := k1.kept hk (by omega)
    have K2 := k2.kept hk (by omega)
    have KB := hb.kept hk (by omega)
    have e1 := own_row o1 g1 rfl
    have e2 := own_row o2 g2 rfl
    have O1 := own_keptB o1 hk (fun j e h => by cases e; exact absurd (show g1 = w.heap.size from h) (by omega))
    have O2 := own_keptB o2 hk (fun j e h => by cases e; exact absurd (show g2 = w.heap.size from h) (by omega))
    have BL : Below W0.heap.size W0 wc := hle
    have l0 : (LDo ⟨w.heap.size, 0, none⟩).run Try.prog W5.drew = .ok (ov q (.slice (some ⟨g1, 0, none⟩) n c1) (.slice (some ⟨g2, 0, none⟩) nm c2)) W5.drew := LDo_run (K0.drewN 1)
    have l1 : (LDa ⟨b, 0, none⟩).run Try.prog W5.drew = .ok (.agg #[.slice (some ⟨g1, 0, none⟩) (n + 6) c1, .slice (some ⟨g2, 0, none⟩) (nm + 6) c2]) W5.drew := LDa_run (KB.drewN 1)
    obtain ⟨W6, s6, K16, hk6⟩ := SVo_run (K1.drewN 1) rfl (q := q) (d := .slice (some ⟨g1, 0, none⟩) n c1) (m := .slice (some ⟨g2, 0, none⟩) nm c2) rfl rfl
    have l2 : (LDa ⟨b, 0, none⟩).run Try.prog W6 = .ok (.agg #[.slice (some ⟨g1, 0, none⟩) (n + 6) c1, .slice (some ⟨g2, 0, none⟩) (nm + 6) c2]) W6 := LDa_run ((KB.drewN 1).kept hk6 (by omega))
    obtain ⟨W7, s7, K27, hk7⟩ := SVa_run ((K2.drewN 1).kept hk6 (by omega)) rfl (d := .slice (some ⟨g1, 0, none⟩) (n + 6) c1) (m := .slice (some ⟨g2, 0, none⟩) (nm + 6) c2) rfl rfl
    have s6' : (SVo ⟨w.heap.size + 1, 0, none⟩ (ov q (.slice (some ⟨g1, 0, none⟩) n c1) (.slice (some ⟨g2, 0, none⟩) nm c2))).run Try.prog W5.drew = .ok () W6 := s6
    have hkA : Kp (fun j => j = w.heap.size ∨ j = w.heap.size + 1 ∨ j = w.heap.size + 1 + 1) wc W7 := ((hk.mono (fun _ _ e => .inl e)).trans ((Kp.of_below (fun j => j = w.heap.size + 1) (below_drewN W5 1)).trans hk6 (fun _ _ e => e)) (fun _ _ e => .inr (.inl e))).trans hk7 (fun _ _ e => .inr (.inr e))
    have BF : Hid (Below w.heap.size w W7) := BW.out.trans ((BL.mono (by omega)).trans (hkA.below (by have := BL.size; omega) (fun j _ e => by omega)))
    have OF1 : Hid (By.Own W7 w.heap.size (.slice (some ⟨g1, 0, none⟩) (n + 6) c1) (n + 6) (lent n f)) := own_base (own_keptB o1 hkA (fun j e h => by cases e; exact absurd (show g1 = w.heap.size ∨ g1 = w.heap.size + 1 ∨ g1 = w.heap.size + 1 + 1 from h) (by omega))) (by omega)
    have OF2 : Hid (By.Own W7 w.heap.size (.slice (some ⟨g2, 0, none⟩) (nm + 6) c2) (nm + 6) (lent nm g)) := own_base (own_keptB o2 hkA (fun j e h => by cases e; exact absurd (show g2 = w.heap.size ∨ g2 = w.heap.size + 1 ∨ g2 = w.heap.size + 1 + 1 from h) (by omega))) (by omega)
    have L1 := hid (LDo_run (K16.kept hk7 (by omega)))
    have L2 := hid (LDa_run K27)
    have N12 := hid n12
    clear b0 b1 b2 hk K0 K1 K2 KB O1 O2 BL hle hk6 hk7 hkA K16 K27 k0 k1 k2 s6 n12 nb1 nb2 e1 e2 o1 o2 hb hz
    go_wp2_with fail
    clear x0 x1 p5 p6 f5 f6 r1 r2 hW5
    go_region_law (fail)
    all_goals (
      go_wp2_with fail
      refine bodyPost_ret (results_cells2 rfl rfl rfl L1.out L2.out) rfl ?_
      exact ⟨_, _, _, _, rfl, OF1.out, OF2.out, N12.out, BF.out⟩)
end Go.Proofs.Ytdahogdfonhnfaa.Ou
