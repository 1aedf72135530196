/- The program's mac: Wipe. -/
import Derived.Test.YtbgdjjfonmoemaaDoorVfrm
namespace Go.Proofs.YtbgdjjfonmoemaaDoor.Vm
open Go.ChangeShapes Go.WideShapes Go.ChangeAt Go.RowKit
open Go.Proofs.YtbgdjjfonmoemaaDoor.By Go.Proofs.YtbgdjjfonmoemaaDoor.Gf Go.Proofs.YtbgdjjfonmoemaaDoor.Ae
theorem room_nil : Room [] := ⟨by simp [tot], by simp⟩
theorem own8_slice {w : World} {B n : Nat} {v : Value} {f : Nat → Int} (h : By.Own w B v n f) : ∃ a cap, v = .slice a n cap := by
  obtain ⟨_, a, cap, e, _⟩ := h.reads
  exact ⟨a, cap, e⟩
set_option maxRecDepth 8000 in
set_option maxHeartbeats 4000000 in
theorem wipe_mc (S : Nat → Prop) (w0 w : World) (lo : Option Nat) (L : List Rn) (g gc k n : Nat) (ws m : Nat → Nat) (hm : Mc w g gc k ws n m) (h : LG S w0 w lo L) (h0 : Kp S w0 w) (hr : Room L) (hS : g < w0.heap.size → S g) (hSc : gc < w0.heap.size → S gc) :
    Calls Tryd.prog 29 #[.pointer (some ⟨g, 0, none⟩), lpv lo] w fun e w' => e = .returned (.int .i64 0) ∧ NoMc w' g ∧ LG S w0 w' lo (putL L ⟨8, ((fml k : Nat) : Int), 1⟩) ∧ Kp S w0 w' ∧ w.heap.size ≤ w'.heap.size ∧ ∀ x cs t, x ≠ g → x ≠ gc → Blk w x cs t → t ≠ 48 → t ≠ 77 → Blk w' x cs t := by
  have H := hid hm
  have HL := hid h
  have HK := hid h0
  have HR := hid hr
  have HS := hid hS
  have HSc := hid hSc
  have c0 := hm.c0
  clear hm h h0 hr hS hSc
  go_enter Tryd.func29, Tryd.ntmps29
  go_wp2_with (go_at_call 44; refine (isNone_mc g gc _ c0).mono ?_; rintro e w' ⟨rfl, hw'⟩; subst w')
  refine (form_mc g gc k n ws m w H.out).mono ?_
  rintro e w2 ⟨v2, rfl, ho2, hb2⟩
  obtain ⟨a2, cp2, rfl⟩ := own8_slice ho2
  have H2 := hid (H.out.below hb2)
  have L2 := hid (HL.out.below hb2)
  have K2 := hid (HK.out.trans (Kp.of_below S hb2) (fun _ _ e => e))
  have B2 := hid hb2
  have c2 := H2.out.c0
  clear ho2 hb2
  go_wp2_with fail
  refine (wipe_ci (fun j => j = gc) w2 w2 none [] gc k ws H2.out.ci trivial (Kp.refl _ _) room_nil (fun _ => rfl)).mono ?_
  rintro e w3 ⟨rfl, -, -, hk3, -⟩
  have hne := H2.out.ne
  have b3 := H2.out.here.kept hk3 (fun e => hne e.symm)
  have L3 := hid (L2.out.kept hk3 (fun x e => by have e' : x = gc := e; subst e'; exact ⟨_, _, H2.out.ci.here, by decide, by decide⟩))
  have K3 := hid (K2.out.trans hk3 (fun i hi e => by have e' : i = gc := e; subst e'; exact HSc.out hi))
  have s4 := SVm_run (cs := mcl (.pointer none) nought nought nought nought 0) (b3.there 0 66 (by rw [mcl_len]; omega)) (mcl_len _ _ _ _ _ _) (mcl_one _ _ _ _ _ _ rfl)
  rw [← zero_mc] at s4
  have b4 := b3.put 0 (mcl (.pointer none) nought nought nought nought 0)
  rw [put_all _ _ (by rw [mcl_len, mcl_len])] at b4
  have k4 : Kp (fun j => j = g) w3 (w3.setCells g 0 (mcl (.pointer none) nought nought nought nought 0)) := Kp.setCells g 0 _
  obtain ⟨W4, hW4⟩ : ∃ x, w3.setCells g 0 (mcl (.pointer none) nought nought nought nought 0) = x := ⟨_, rfl⟩
  rw [hW4] at s4 b4 k4
  have L4 := hid (L3.out.kept k4 (fun x e => by have e' : x = g := e; subst e'; exact ⟨_, _, b3, by decide, by decide⟩))
  have K4 := hid (K3.out.trans k4 (fun i hi e => by have e' : i = g := e; subst e'; exact HS.out hi))
  have B4 := hid b4
  have X4 := hid (show w.heap.size ≤ W4.heap.size ∧ ∀ x cs t, x ≠ g → x ≠ gc → Blk w x cs t → Blk W4 x cs t from ⟨Nat.le_trans B2.out.size (Nat.le_trans hk3.size k4.size), fun x cs t h1 h2 hb => ((hb.below B2.out).kept hk3 h2).kept k4 h1⟩)
  clear b3 b4 k4 hk3 hne
  have hfk : fml k ≤ 1000 := by have := H2.out.ci.kk; unfold fml; omega
  go_wp2_with fail
  refine (note_lg S w0 W4 lo L 8 ((fml k : Nat) : Int) (by omega) (by omega) L4.out K4.out HR.out).mono ?_
  rintro e w5 ⟨rfl, l5, k5, t5⟩
  have R := hid (show NoMc w5 g ∧ LG S w0 w5 lo (putL L ⟨8, ((fml k : Nat) : Int), 1⟩) ∧ Kp S w0 w5 ∧ w.heap.size ≤ w5.heap.size ∧ ∀ x cs t, x ≠ g → x ≠ gc → Blk w x cs t → t ≠ 48 → t ≠ 77 → Blk w5 x cs t from
    ⟨⟨_, t5.2 _ _ _ B4.out (by decide) (by decide)⟩, l5, k5, Nat.le_trans X4.out.1 t5.1, fun x cs t h1 h2 hb t1 t2 => t5.2 _ _ _ (X4.out.2 x cs t h1 h2 hb) t1 t2⟩)
  clear l5 k5 t5
  go_wp2_with fail
  go_ret
  exact ⟨rfl, R.out⟩
end Go.Proofs.YtbgdjjfonmoemaaDoor.Vm
