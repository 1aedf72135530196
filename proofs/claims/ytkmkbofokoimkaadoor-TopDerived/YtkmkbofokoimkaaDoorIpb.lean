/- One part of HKDF: what the program's partBehind answers, records and turns. -/
import Derived.Test.YtkmkbofokoimkaaDoorIpb0
import Derived.Deep.RegionHeld3
namespace Go.Proofs.YtkmkbofokoimkaaDoor.Dg
open Go.ChangeShapes Go.WideShapes Go.ChangeAt Go.RowKit
open Go.Proofs.YtkmkbofokoimkaaDoor.By
open Go.Proofs.YtkmkbofokoimkaaDoor.Sh (Blk size_alloc)
theorem part_ev (a : Bool) (p ni : Nat) : ((0 + p) / bk a - 0 / bk a) + ((0 + p + ni) / bk a - (0 + p) / bk a) + ((0 + p + ni + 1) / bk a - (0 + p + ni) / bk a) = (p + ni + 1) / bk a := by
  have h : ∀ m n : Nat, m ≤ n → m / bk a ≤ n / bk a := fun m n h => Nat.div_le_div_right h
  have h1 := h 0 (0 + p) (by omega)
  have h2 := h (0 + p) (0 + p + ni) (by omega)
  have h3 := h (0 + p + ni) (0 + p + ni + 1) (by omega)
  have e : 0 + p + ni + 1 = p + ni + 1 := by omega
  have e0 : 0 / bk a = 0 := Nat.zero_div _
  rw [e] at h3 ⊢
  rw [e0] at h1 ⊢
  generalize (p + ni + 1) / bk a = A at *
  generalize (0 + p + ni) / bk a = B at *
  generalize (0 + p) / bk a = C at *
  omega
set_option maxHeartbeats 2000000 in
theorem part_on (b : Nat) (x : MB) (p ni : Nat) (lv v2 : Value) (lf inf : Nat → Int) (i : Int) (hi : 0 ≤ i ∧ i < 256) (lo : Option Nat) (L : List Rn) (T : Nat → Prop) (w : World) (h : IsMk w b x) (hl : LG T w w lo L) (hk : KT w) (t0 : ¬ T 0) (t1 : ¬ T 1) (hb : 1 < b) (hp : Pos L)
    (hr : ∀ w', Kp (fun j => T j ∨ j = b) w w' → By.RB w' lv p lf) (hr2 : ∀ w', Kp (fun j => T j ∨ j = b) w w' → By.RB w' v2 ni inf) (hp64 : p ≤ 64) (hni : ni ≤ 140737488352000) (hroom : tq L ≤ 2100000000) :
    Calls Tryd.prog 34 #[lpv lo, .pointer (some ⟨b, 0, none⟩), lv, v2, .int .u8 i] w fun e w' => ∃ u c f, e = .returned u ∧ By.Own w' w.heap.size u (sz x.a) (hm x.a x.K (p + ni + 1) (cat (p + ni) (cat p lf inf) (fun _ => i))) ∧ IsMk w' b ⟨x.a, x.K, p + ni + 1, f, c, x.b1, x.b2⟩ ∧ LG T w w' lo (evs x.a L ((p + ni + 1) / bk x.a + (last x.a (p + ni + 1) + 1))) ∧ Kp (fun j => T j ∨ j = b) w w' := by
  obtain ⟨a, K, m0, f0, b00, b1, b2⟩ := x
  have HR := hid hr
  have HR2 := hid hr2
  have HI := hid hi
  have HP := hid hp
  have HC := hid (pb_reset h hl hk t0 t1 hb hp)
  have HE := hid (part_ev a p ni)
  obtain ⟨d1, hd1⟩ : ∃ d, (0 + p) / bk a - 0 / bk a = d := ⟨_, rfl⟩
  obtain ⟨d2, hd2⟩ : ∃ d, (0 + p + ni) / bk a - (0 + p) / bk a = d := ⟨_, rfl⟩
  obtain ⟨d3, hd3⟩ : ∃ d, (0 + p + ni + 1) / bk a - (0 + p + ni) / bk a = d := ⟨_, rfl⟩
  rw [hd1, hd2, hd3] at HE
  have b1' : d1 ≤ 3 := by rw [← hd1]; have := sub_le64 a (0 + p) 0; exact Nat.le_trans this (by omega)
  have b2' : d2 ≤ 2199023255600 := by rw [← hd2]; have := sub_le64 a (0 + p + ni) (0 + p); exact Nat.le_trans this (by omega)
  have b3' : d3 ≤ 2199023255600 := by rw [← hd3]; have := sub_le64 a (0 + p + ni + 1) (0 + p + ni); exact Nat.le_trans this (by omega)
  have D1 := hid hd1
  have D2 := hid hd2
  have D3 := hid hd3
  have E1 := evs_fine a hp d1 (by omega) (by omega)
  have E2 := evs_fine a (evsP a hp d1) d2 (by omega) (by omega)
  have E3 := evs_fine a (evsP a (evsP a hp d1) d2) d3 (by omega) (by omega)
  have R2 := hid (show tq (evs a L d1) + (ni / 64 : Nat) ≤ 5000000000000 by omega)
  have R3 := hid (show tq (evs a (evs a L d1) d2) + (1 / 64 : Nat) ≤ 5000000000000 by omega)
  have R4 := hid (show tq (evs a (evs a (evs a L d1) d2) d3) ≤ 4399500000000 by omega)
  have R1 := hid (show tq L + (p / 64 : Nat) ≤ 5000000000000 by omega)
  obtain ⟨-, va, vc, rfl, -⟩ := hr w (Kp.refl _ _)
  obtain ⟨-, xa, xc, rfl, -⟩ := hr2 w (Kp.refl _ _)
  clear h hl hk t0 t1 hr hr2 hi hd1 hd2 hd3 E1 E2 E3 hp hroom
  go_enter Tryd.func34, Tryd.ntmps34
  go_wp2_with fail
  refine HC.out.mono ?_
  rintro e w1 ⟨rfl, c, h1⟩
  have P1 := hid h1
  clear h1 HC
  go_wp2_with fail
  refine (P1.out.write p d1 D1.out (.slice va p vc) lf HR.out (by show 0 + p ≤ _; omega) R1.out).mono ?_
  rintro e w2 ⟨rfl, h2⟩
  have P2 := hid h2
  clear h2 P1
  go_wp2_with fail
  refine (P2.out.write ni d2 D2.out (.slice xa ni xc) inf HR2.out (by show 0 + p + ni ≤ _; omega) R2.out).mono ?_
  rintro e w3 ⟨rfl, h3⟩
  have P3 := hid (h3.below (below_alloc w3 (.cells #[.int .u8 i] 5)))
  have U3 := hid (own_byte w3 i HI.out)
  have Z3 := hid h3.kp.size
  clear h3 P2
  go_wp2_with fail
  obtain ⟨W3, hW3⟩ : ∃ x, w3.alloc (.cells #[.int .u8 i] 5) = x := ⟨_, rfl⟩
  rw [hW3] at P3 U3 ⊢
  clear hW3
  refine (P3.out.writeO 1 d3 _ D3.out (.slice (some ⟨w3.heap.size, 0, none⟩) 1 1) (fun _ => i) U3.out (by show 0 + p + ni + 1 ≤ _; omega) R3.out).mono ?_
  rintro e w4 ⟨rfl, h4⟩
  have P4 := hid h4
  clear h4 P3 U3
  go_wp2_with fail
  refine (P4.out.sum (by show 0 + p + ni + 1 ≤ _; omega) R4.out).mono ?_
  rintro e w5 ⟨u, rfl, hu, h5⟩
  have P5 := hid h5
  have U5 := hid hu
  clear h5 hu P4
  go_wp2
  go_ret
  have ez : 0 + p + ni + 1 = p + ni + 1 := by omega
  have er : sev a (evs a (evs a (evs a L d1) d2) d3) (0 + p + ni + 1) = evs a L ((p + ni + 1) / bk a + (last a (p + ni + 1) + 1)) := by
    unfold sev
    rw [evs_add, evs_add, evs_add, ez, ← HE.out]
    congr 1
    omega
  have g1 := P5.out.lg
  have g2 := P5.out.mc
  have g3 := U5.out
  rw [er] at g1
  rw [ez] at g2 g3
  rw [show cat 0 nof lf = lf from Sg.cat0 _ _, show 0 + p = p from by omega] at g3
  exact ⟨u, c, _, rfl, g3, g2, g1, P5.out.kp⟩
end Go.Proofs.YtkmkbofokoimkaaDoor.Dg
