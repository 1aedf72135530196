/- One part of HKDF: what the program's partBehind answers, records and turns. -/
import Derived.Test.YtmbcccmidfpgeaaGreatDoorImac
import Derived.Test.YtmbcccmidfpgeaaGreatDoorInum
import Derived.Deep.RegionHeld3
namespace Go.Proofs.YtmbcccmidfpgeaaGreatDoor.Dg
open Go.ChangeShapes Go.WideShapes Go.ChangeAt Go.RowKit
open Go.Proofs.YtmbcccmidfpgeaaGreatDoor.By
open Go.Proofs.YtmbcccmidfpgeaaGreatDoor.Sh (Blk size_alloc)
theorem own_byte (w : World) (x : Int) (hx : 0 ≤ x ∧ x < 256) : By.Own (w.alloc (.cells #[.int .u8 x] 5)) w.heap.size (.slice (some ⟨w.heap.size, 0, none⟩) 1 1) 1 (fun _ => x) := By.own_lit w _ 1 _ (fun _ => hx) (by decide) rfl (bl_singleton x)
theorem lg_back {S S' : Nat → Prop} {w w1 w' : World} {lo : Option Nat} {L L0 : List Rn} (h : LG S' w1 w' lo L) (h0 : LG S w w1 lo L0) (hz : w.heap.size ≤ w1.heap.size) (hs : ∀ i, i < w.heap.size → S' i → S i) : LG S w w' lo L := by
  cases lo with
  | none => exact trivial
  | some lb =>
    obtain ⟨_, rv, hl, ho⟩ := h
    exact ⟨h0.1, rv, hl, fun g hg hlt => hs g hlt (ho g hg (by omega))⟩
/-- The mac in block b within one part: behind Reset, and behind each call. -/
structure PB (w : World) (T : Nat → Prop) (b : Nat) (lo : Option Nat) (L : List Rn) (x : MB) (W : World) : Prop where
  mc : IsMk W b x
  nc : w.heap.size ≤ x.b0
  lg : LG T w W lo L
  kp : Kp (fun j => T j ∨ j = b) w W
  kt : KT w
  t0 : ¬ T 0
  t1 : ¬ T 1
  hb : 1 < b
  hw : b < w.heap.size
  ps : Pos L
section
variable {w W W' : World} {T : Nat → Prop} {b : Nat} {lo : Option Nat} {L : List Rn} {x : MB}
theorem PB.ktW (h : PB w T b lo L x W) : KT W := h.kt.kept h.kp (fun e => e.elim h.t0 (fun e => by have := h.hb; omega)) (fun e => e.elim h.t1 (fun e => by have := h.hb; omega))
theorem PB.below (h : PB w T b lo L x W) (hb : Below W.heap.size W W') : PB w T b lo L x W' :=
  ⟨h.mc.below hb, h.nc, h.lg.below hb, h.kp.trans (Kp.of_below _ hb) (fun _ _ e => e), h.kt, h.t0, h.t1, h.hb, h.hw, h.ps⟩
theorem PB.set (h : PB w T b lo L x W) : ∃ T1, LG T1 W W lo L ∧ Tl W T1 ∧ (∀ j, j < w.heap.size → T1 j → T j) ∧ ¬ T1 0 ∧ ¬ T1 1 ∧ ¬ T1 b ∧ ¬ T1 x.b0 ∧ ¬ T1 x.b1 ∧ ¬ T1 x.b2 := by
  obtain ⟨T1, l1, hT, hTS⟩ := LG.own h.lg
  have hlt := h.kt.lt
  obtain ⟨c0, h0⟩ := h.mc.s0.blk
  obtain ⟨c1, h1⟩ := h.mc.s1.blk
  obtain ⟨c2, h2⟩ := h.mc.s2.blk
  exact ⟨T1, l1, hT, hTS, fun e => h.t0 (hTS 0 (by omega) e), fun e => h.t1 (hTS 1 (by omega) e), hT.no h.mc.here (by decide), hT.no h0 (tyS_l _), hT.no h1 (tyS_l _), hT.no h2 (tyS_l _)⟩
theorem PB.writeC (h : PB w T b lo L x W) (n d : Nat) (hd : (x.m + n) / bk x.a - x.m / bk x.a = d) (v : Value) (g : Nat → Int) (hr : ∀ T1, Tl W T1 → (∀ j, j < w.heap.size → T1 j → T j) → ∀ w', Kp (fun j => T1 j ∨ j = x.b0) W w' → By.RB w' v n g) (hmn : x.m + n ≤ 140737488353828) (hroom : tq L + (n / 64 : Nat) ≤ 5000000000000) :
    Calls Tryz.prog 34 #[.pointer (some ⟨b, 0, none⟩), lpv lo, v] W fun e w' => e = .returned (.int .i64 0) ∧ PB w T b lo (evs x.a L d) ⟨x.a, x.K, x.m + n, cat x.m x.f g, x.b0, x.b1, x.b2⟩ w' := by
  obtain ⟨T1, l1, hT, hTS, n0, n1, nb, nb0, nb1, nb2⟩ := h.set
  have hz := h.kp.size
  have ne := h.mc.ne
  have hnc := h.nc
  have hlt := h.kt.lt
  refine (writeM b x n v g lo L (fun j => T1 j ∨ j = x.b0) W h.mc h.ktW (fun e => e.elim n0 (fun e => by omega)) (fun e => e.elim n1 (fun e => by omega)) (.inr rfl) (fun e => e.elim nb ne.1) (fun e => e.elim nb1 (fun e => h.mc.n01 e.symm)) (fun e => e.elim nb2 (fun e => h.mc.n02 e.symm)) (Sg.LG.start l1 (Below.refl _ _) (fun i _ e => .inl e)) h.ps (hr T1 hT hTS) hmn hroom).mono ?_
  rintro e w' ⟨rfl, g1, g2, g3⟩
  rw [hd] at g2
  exact ⟨rfl, g1, hnc, lg_back g2 h.lg hz (fun i hi e => e.elim (hTS i hi) (fun e => by omega)), h.kp.trans g3 (fun i hi e => e.elim (fun e => .inl (hTS i hi e)) (fun e => by omega)), h.kt, h.t0, h.t1, h.hb, h.hw, evsP _ h.ps _⟩
theorem PB.write (h : PB w T b lo L x W) (n d : Nat) (hd : (x.m + n) / bk x.a - x.m / bk x.a = d) (v : Value) (g : Nat → Int) (hr : ∀ w', Kp (fun j => T j ∨ j = b) w w' → By.RB w' v n g) (hmn : x.m + n ≤ 140737488353828) (hroom : tq L + (n / 64 : Nat) ≤ 5000000000000) :
    Calls Tryz.prog 34 #[.pointer (some ⟨b, 0, none⟩), lpv lo, v] W fun e w' => e = .returned (.int .i64 0) ∧ PB w T b lo (evs x.a L d) ⟨x.a, x.K, x.m + n, cat x.m x.f g, x.b0, x.b1, x.b2⟩ w' :=
  h.writeC n d hd v g (fun T1 _ hTS w' hk => hr w' (h.kp.trans hk (fun i hi e => e.elim (fun e => .inl (hTS i hi e)) (fun e => by have := h.nc; omega)))) hmn hroom
theorem PB.writeO (h : PB w T b lo L x W) (n d base : Nat) (hd : (x.m + n) / bk x.a - x.m / bk x.a = d) (v : Value) (g : Nat → Int) (ho : By.Own W base v n g) (hmn : x.m + n ≤ 140737488353828) (hroom : tq L + (n / 64 : Nat) ≤ 5000000000000) :
    Calls Tryz.prog 34 #[.pointer (some ⟨b, 0, none⟩), lpv lo, v] W fun e w' => e = .returned (.int .i64 0) ∧ PB w T b lo (evs x.a L d) ⟨x.a, x.K, x.m + n, cat x.m x.f g, x.b0, x.b1, x.b2⟩ w' :=
  h.writeC n d hd v g (fun T1 hT _ w' hk => (Sg.own_kept ho hk (fun q hq e => by
    obtain ⟨c, hc⟩ := Sg.own8_type ho hq
    have hb : Blk W q c.toList 5 := by show W.heap[q]? = _; rw [hc]
    obtain ⟨c0, h0⟩ := h.mc.s0.blk
    exact e.elim (hT.no hb (by decide)) (fun e => Blk.ne hb h0 (by cases x.a <;> decide) e))).reads) hmn hroom
theorem PB.sum (h : PB w T b lo L x W) (hmm : x.m ≤ 140737488352328) (hroom : tq L ≤ 4399500000000) :
    Calls Tryz.prog 35 #[.pointer (some ⟨b, 0, none⟩), lpv lo] W fun e w' => ∃ v, e = .returned (.tuple #[v, .int .i64 0]) ∧ By.Own w' w.heap.size v (sz x.a) (hm x.a x.K x.m x.f) ∧ PB w T b lo (sev x.a L x.m) x w' := by
  obtain ⟨T1, l1, hT, hTS, n0, n1, nb, nb0, nb1, nb2⟩ := h.set
  have hz := h.kp.size
  refine (sumM b x lo L T1 W h.mc h.ktW n0 n1 l1 h.ps hmm hroom).mono ?_
  rintro e w' ⟨v, rfl, g1, g2, g3, g4⟩
  exact ⟨v, rfl, Sg.own_mono g1 hz, g4.mk h.mc, h.nc, lg_back g2 h.lg hz hTS, h.kp.trans g3 (fun i hi e => .inl (hTS i hi e)), h.kt, h.t0, h.t1, h.hb, h.hw, evsP _ h.ps _⟩
theorem pb_reset (h : IsMk w b x) (hl : LG T w w lo L) (hk : KT w) (t0 : ¬ T 0) (t1 : ¬ T 1) (hb : 1 < b) (hp : Pos L) :
    Calls Tryz.prog 53 #[.pointer (some ⟨b, 0, none⟩)] w fun e w' => e = .returned (.int .i64 0) ∧ ∃ c, PB w T b lo L ⟨x.a, x.K, 0, nof, c, x.b1, x.b2⟩ w' := by
  refine (resetM b x w h).mono ?_
  rintro e w' ⟨rfl, ⟨c, hc, g1⟩, g2⟩
  exact ⟨rfl, c, g1, hc, Sg.LG.kept hl g2 (fun j e => ⟨mc4 x, 84, (by rw [show j = b from e]; exact h.here), by decide, by decide⟩), g2.mono (fun _ _ e => .inr e), hk, t0, t1, hb, h.here.lt, hp⟩
end
theorem sub_le64 (a : Bool) (m n : Nat) : m / bk a - n / bk a ≤ m / 64 := Nat.le_trans (Nat.sub_le _ _) (bk_div a m)
theorem part_ev (a : Bool) (p ni : Nat) : ((0 + p) / bk a - 0 / bk a) + ((0 + p + ni) / bk a - (0 + p) / bk a) + ((0 + p + ni + 1) / bk a - (0 + p + ni) / bk a) = (p + ni + 1) / bk a := by
  have h : ∀ m n : Nat, m ≤ n → m / bk a ≤ n / bk a := fun m n h => Nat.div_le_div_right h
  have h1 := h 0 (0 + p) (by omega)
  have h2 := h (0 + p) (0 + p + ni) (by omega)
  have h3 := h (0 + p + ni) (0 + p + ni + 1) (by omega)
  have e : 0 + p + ni + 1 = p + ni + 1 := by omega
  have e0 : 0 / bk a = 0 := Nat.zero_div _
  rw [e] at h3 ⊢
  rw [e0] at h1 ⊢
  generalize (p + ni + 1) / bk a = A at *
  generalize (0 + p + ni) / bk a = B at *
  generalize (0 + p) / bk a = C at *
  omega
set_option maxHeartbeats 2000000 in
theorem part_on (b : Nat) (x : MB) (p ni : Nat) (lv v2 : Value) (lf inf : Nat → Int) (i : Int) (hi : 0 ≤ i ∧ i < 256) (lo : Option Nat) (L : List Rn) (T : Nat → Prop) (w : World) (h : IsMk w b x) (hl : LG T w w lo L) (hk : KT w) (t0 : ¬ T 0) (t1 : ¬ T 1) (hb : 1 < b) (hp : Pos L)
    (hr : ∀ w', Kp (fun j => T j ∨ j = b) w w' → By.RB w' lv p lf) (hr2 : ∀ w', Kp (fun j => T j ∨ j = b) w w' → By.RB w' v2 ni inf) (hp64 : p ≤ 64) (hni : ni ≤ 140737488352000) (hroom : tq L ≤ 2100000000) :
    Calls Tryz.prog 41 #[lpv lo, .pointer (some ⟨b, 0, none⟩), lv, v2, .int .u8 i] w fun e w' => ∃ u c f, e = .returned u ∧ By.Own w' w.heap.size u (sz x.a) (hm x.a x.K (p + ni + 1) (cat (p + ni) (cat p lf inf) (fun _ => i))) ∧ IsMk w' b ⟨x.a, x.K, p + ni + 1, f, c, x.b1, x.b2⟩ ∧ LG T w w' lo (evs x.a L ((p + ni + 1) / bk x.a + (last x.a (p + ni + 1) + 1))) ∧ Kp (fun j => T j ∨ j = b) w w' := by
  obtain ⟨a, K, m0, f0, b00, b1, b2⟩ := x
  have HR := hid hr
  have HR2 := hid hr2
  have HI := hid hi
  have HP := hid hp
  have HC := hid (pb_reset h hl hk t0 t1 hb hp)
  have HE := hid (part_ev a p ni)
  obtain ⟨d1, hd1⟩ : ∃ d, (0 + p) / bk a - 0 / bk a = d := ⟨_, rfl⟩
  obtain ⟨d2, hd2⟩ : ∃ d, (0 + p + ni) / bk a - (0 + p) / bk a = d := ⟨_, rfl⟩
  obtain ⟨d3, hd3⟩ : ∃ d, (0 + p + ni + 1) / bk a - (0 + p + ni) / bk a = d := ⟨_, rfl⟩
  rw [hd1, hd2, hd3] at HE
  have b1' : d1 ≤ 3 := by rw [← hd1]; have := sub_le64 a (0 + p) 0; exact Nat.le_trans this (by omega)
  have b2' : d2 ≤ 2199023255600 := by rw [← hd2]; have := sub_le64 a (0 + p + ni) (0 + p); exact Nat.le_trans this (by omega)
  have b3' : d3 ≤ 2199023255600 := by rw [← hd3]; have := sub_le64 a (0 + p + ni + 1) (0 + p + ni); exact Nat.le_trans this (by omega)
  have D1 := hid hd1
  have D2 := hid hd2
  have D3 := hid hd3
  have E1 := evs_fine a hp d1 (by omega) (by omega)
  have E2 := evs_fine a (evsP a hp d1) d2 (by omega) (by omega)
  have E3 := evs_fine a (evsP a (evsP a hp d1) d2) d3 (by omega) (by omega)
  have R2 := hid (show tq (evs a L d1) + (ni / 64 : Nat) ≤ 5000000000000 by omega)
  have R3 := hid (show tq (evs a (evs a L d1) d2) + (1 / 64 : Nat) ≤ 5000000000000 by omega)
  have R4 := hid (show tq (evs a (evs a (evs a L d1) d2) d3) ≤ 4399500000000 by omega)
  have R1 := hid (show tq L + (p / 64 : Nat) ≤ 5000000000000 by omega)
  obtain ⟨-, va, vc, rfl, -⟩ := hr w (Kp.refl _ _)
  obtain ⟨-, xa, xc, rfl, -⟩ := hr2 w (Kp.refl _ _)
  clear h hl hk t0 t1 hr hr2 hi hd1 hd2 hd3 E1 E2 E3 hp hroom
  go_enter Tryz.func41, Tryz.ntmps41
  go_wp2_with fail
  refine HC.out.mono ?_
  rintro e w1 ⟨rfl, c, h1⟩
  have P1 := hid h1
  clear h1 HC
  go_wp2_with fail
  refine (P1.out.write p d1 D1.out (.slice va p vc) lf HR.out (by show 0 + p ≤ _; omega) R1.out).mono ?_
  rintro e w2 ⟨rfl, h2⟩
  have P2 := hid h2
  clear h2 P1
  go_wp2_with fail
  refine (P2.out.write ni d2 D2.out (.slice xa ni xc) inf HR2.out (by show 0 + p + ni ≤ _; omega) R2.out).mono ?_
  rintro e w3 ⟨rfl, h3⟩
  have P3 := hid (h3.below (below_alloc w3 (.cells #[.int .u8 i] 5)))
  have U3 := hid (own_byte w3 i HI.out)
  have Z3 := hid h3.kp.size
  clear h3 P2
  go_wp2_with fail
  obtain ⟨W3, hW3⟩ : ∃ x, w3.alloc (.cells #[.int .u8 i] 5) = x := ⟨_, rfl⟩
  rw [hW3] at P3 U3 ⊢
  clear hW3
  refine (P3.out.writeO 1 d3 _ D3.out (.slice (some ⟨w3.heap.size, 0, none⟩) 1 1) (fun _ => i) U3.out (by show 0 + p + ni + 1 ≤ _; omega) R3.out).mono ?_
  rintro e w4 ⟨rfl, h4⟩
  have P4 := hid h4
  clear h4 P3 U3
  go_wp2_with fail
  refine (P4.out.sum (by show 0 + p + ni + 1 ≤ _; omega) R4.out).mono ?_
  rintro e w5 ⟨u, rfl, hu, h5⟩
  have P5 := hid h5
  have U5 := hid hu
  clear h5 hu P4
  go_wp2
  go_ret
  have ez : 0 + p + ni + 1 = p + ni + 1 := by omega
  have er : sev a (evs a (evs a (evs a L d1) d2) d3) (0 + p + ni + 1) = evs a L ((p + ni + 1) / bk a + (last a (p + ni + 1) + 1)) := by
    unfold sev
    rw [evs_add, evs_add, evs_add, ez, ← HE.out]
    congr 1
    omega
  have g1 := P5.out.lg
  have g2 := P5.out.mc
  have g3 := U5.out
  rw [er] at g1
  rw [ez] at g2 g3
  rw [show cat 0 nof lf = lf from Sg.cat0 _ _, show 0 + p = p from by omega] at g3
  exact ⟨u, c, _, rfl, g3, g2, g1, P5.out.kp⟩
end Go.Proofs.YtmbcccmidfpgeaaGreatDoor.Dg
