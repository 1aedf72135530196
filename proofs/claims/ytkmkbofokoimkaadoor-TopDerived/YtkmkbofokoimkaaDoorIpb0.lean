/- A mac in its block while one message is written: what each call turns. -/
import Derived.Test.YtkmkbofokoimkaaDoorImac
import Derived.Test.YtkmkbofokoimkaaDoorInum
import Derived.Deep.RegionHeld3
namespace Go.Proofs.YtkmkbofokoimkaaDoor.Dg
open Go.ChangeShapes Go.WideShapes Go.ChangeAt Go.RowKit
open Go.Proofs.YtkmkbofokoimkaaDoor.By
open Go.Proofs.YtkmkbofokoimkaaDoor.Sh (Blk size_alloc)
theorem own_byte (w : World) (x : Int) (hx : 0 ≤ x ∧ x < 256) : By.Own (w.alloc (.cells #[.int .u8 x] 5)) w.heap.size (.slice (some ⟨w.heap.size, 0, none⟩) 1 1) 1 (fun _ => x) := By.own_lit w _ 1 _ (fun _ => hx) (by decide) rfl (bl_singleton x)
theorem lg_back {S S' : Nat → Prop} {w w1 w' : World} {lo : Option Nat} {L L0 : List Rn} (h : LG S' w1 w' lo L) (h0 : LG S w w1 lo L0) (hz : w.heap.size ≤ w1.heap.size) (hs : ∀ i, i < w.heap.size → S' i → S i) : LG S w w' lo L := by
  cases lo with
  | none => exact trivial
  | some lb =>
    obtain ⟨_, rv, hl, ho⟩ := h
    exact ⟨h0.1, rv, hl, fun g hg hlt => hs g hlt (ho g hg (by omega))⟩
/-- The mac in block b within one part: behind Reset, and behind each call. -/
structure PB (w : World) (T : Nat → Prop) (b : Nat) (lo : Option Nat) (L : List Rn) (x : MB) (W : World) : Prop where
  mc : IsMk W b x
  nc : w.heap.size ≤ x.b0
  lg : LG T w W lo L
  kp : Kp (fun j => T j ∨ j = b) w W
  kt : KT w
  t0 : ¬ T 0
  t1 : ¬ T 1
  hb : 1 < b
  hw : b < w.heap.size
  ps : Pos L
section
variable {w W W' : World} {T : Nat → Prop} {b : Nat} {lo : Option Nat} {L : List Rn} {x : MB}
theorem PB.ktW (h : PB w T b lo L x W) : KT W := h.kt.kept h.kp (fun e => e.elim h.t0 (fun e => by have := h.hb; omega)) (fun e => e.elim h.t1 (fun e => by have := h.hb; omega))
theorem PB.below (h : PB w T b lo L x W) (hb : Below W.heap.size W W') : PB w T b lo L x W' :=
  ⟨h.mc.below hb, h.nc, h.lg.below hb, h.kp.trans (Kp.of_below _ hb) (fun _ _ e => e), h.kt, h.t0, h.t1, h.hb, h.hw, h.ps⟩
theorem PB.set (h : PB w T b lo L x W) : ∃ T1, LG T1 W W lo L ∧ Tl W T1 ∧ (∀ j, j < w.heap.size → T1 j → T j) ∧ ¬ T1 0 ∧ ¬ T1 1 ∧ ¬ T1 b ∧ ¬ T1 x.b0 ∧ ¬ T1 x.b1 ∧ ¬ T1 x.b2 := by
  obtain ⟨T1, l1, hT, hTS⟩ := LG.own h.lg
  have hlt := h.kt.lt
  obtain ⟨c0, h0⟩ := h.mc.s0.blk
  obtain ⟨c1, h1⟩ := h.mc.s1.blk
  obtain ⟨c2, h2⟩ := h.mc.s2.blk
  exact ⟨T1, l1, hT, hTS, fun e => h.t0 (hTS 0 (by omega) e), fun e => h.t1 (hTS 1 (by omega) e), hT.no h.mc.here (by decide), hT.no h0 (tyS_l _), hT.no h1 (tyS_l _), hT.no h2 (tyS_l _)⟩
theorem PB.writeC (h : PB w T b lo L x W) (n d : Nat) (hd : (x.m + n) / bk x.a - x.m / bk x.a = d) (v : Value) (g : Nat → Int) (hr : ∀ T1, Tl W T1 → (∀ j, j < w.heap.size → T1 j → T j) → ∀ w', Kp (fun j => T1 j ∨ j = x.b0) W w' → By.RB w' v n g) (hmn : x.m + n ≤ 140737488353828) (hroom : tq L + (n / 64 : Nat) ≤ 5000000000000) :
    Calls Tryd.prog 12 #[.pointer (some ⟨b, 0, none⟩), lpv lo, v] W fun e w' => e = .returned (.int .i64 0) ∧ PB w T b lo (evs x.a L d) ⟨x.a, x.K, x.m + n, cat x.m x.f g, x.b0, x.b1, x.b2⟩ w' := by
  obtain ⟨T1, l1, hT, hTS, n0, n1, nb, nb0, nb1, nb2⟩ := h.set
  have hz := h.kp.size
  have ne := h.mc.ne
  have hnc := h.nc
  have hlt := h.kt.lt
  refine (writeM b x n v g lo L (fun j => T1 j ∨ j = x.b0) W h.mc h.ktW (fun e => e.elim n0 (fun e => by omega)) (fun e => e.elim n1 (fun e => by omega)) (.inr rfl) (fun e => e.elim nb ne.1) (fun e => e.elim nb1 (fun e => h.mc.n01 e.symm)) (fun e => e.elim nb2 (fun e => h.mc.n02 e.symm)) (Sg.LG.start l1 (Below.refl _ _) (fun i _ e => .inl e)) h.ps (hr T1 hT hTS) hmn hroom).mono ?_
  rintro e w' ⟨rfl, g1, g2, g3⟩
  rw [hd] at g2
  exact ⟨rfl, g1, hnc, lg_back g2 h.lg hz (fun i hi e => e.elim (hTS i hi) (fun e => by omega)), h.kp.trans g3 (fun i hi e => e.elim (fun e => .inl (hTS i hi e)) (fun e => by omega)), h.kt, h.t0, h.t1, h.hb, h.hw, evsP _ h.ps _⟩
theorem PB.write (h : PB w T b lo L x W) (n d : Nat) (hd : (x.m + n) / bk x.a - x.m / bk x.a = d) (v : Value) (g : Nat → Int) (hr : ∀ w', Kp (fun j => T j ∨ j = b) w w' → By.RB w' v n g) (hmn : x.m + n ≤ 140737488353828) (hroom : tq L + (n / 64 : Nat) ≤ 5000000000000) :
    Calls Tryd.prog 12 #[.pointer (some ⟨b, 0, none⟩), lpv lo, v] W fun e w' => e = .returned (.int .i64 0) ∧ PB w T b lo (evs x.a L d) ⟨x.a, x.K, x.m + n, cat x.m x.f g, x.b0, x.b1, x.b2⟩ w' :=
  h.writeC n d hd v g (fun T1 _ hTS w' hk => hr w' (h.kp.trans hk (fun i hi e => e.elim (fun e => .inl (hTS i hi e)) (fun e => by have := h.nc; omega)))) hmn hroom
theorem PB.writeO (h : PB w T b lo L x W) (n d base : Nat) (hd : (x.m + n) / bk x.a - x.m / bk x.a = d) (v : Value) (g : Nat → Int) (ho : By.Own W base v n g) (hmn : x.m + n ≤ 140737488353828) (hroom : tq L + (n / 64 : Nat) ≤ 5000000000000) :
    Calls Tryd.prog 12 #[.pointer (some ⟨b, 0, none⟩), lpv lo, v] W fun e w' => e = .returned (.int .i64 0) ∧ PB w T b lo (evs x.a L d) ⟨x.a, x.K, x.m + n, cat x.m x.f g, x.b0, x.b1, x.b2⟩ w' :=
  h.writeC n d hd v g (fun T1 hT _ w' hk => (Sg.own_kept ho hk (fun q hq e => by
    obtain ⟨c, hc⟩ := Sg.own8_type ho hq
    have hb : Blk W q c.toList 5 := by show W.heap[q]? = _; rw [hc]
    obtain ⟨c0, h0⟩ := h.mc.s0.blk
    exact e.elim (hT.no hb (by decide)) (fun e => Blk.ne hb h0 (by cases x.a <;> decide) e))).reads) hmn hroom
theorem PB.sum (h : PB w T b lo L x W) (hmm : x.m ≤ 140737488352328) (hroom : tq L ≤ 4399500000000) :
    Calls Tryd.prog 13 #[.pointer (some ⟨b, 0, none⟩), lpv lo] W fun e w' => ∃ v, e = .returned (.tuple #[v, .int .i64 0]) ∧ By.Own w' w.heap.size v (sz x.a) (hm x.a x.K x.m x.f) ∧ PB w T b lo (sev x.a L x.m) x w' := by
  obtain ⟨T1, l1, hT, hTS, n0, n1, nb, nb0, nb1, nb2⟩ := h.set
  have hz := h.kp.size
  refine (sumM b x lo L T1 W h.mc h.ktW n0 n1 l1 h.ps hmm hroom).mono ?_
  rintro e w' ⟨v, rfl, g1, g2, g3, g4⟩
  exact ⟨v, rfl, Sg.own_mono g1 hz, g4.mk h.mc, h.nc, lg_back g2 h.lg hz hTS, h.kp.trans g3 (fun i hi e => .inl (hTS i hi e)), h.kt, h.t0, h.t1, h.hb, h.hw, evsP _ h.ps _⟩
theorem pb_reset (h : IsMk w b x) (hl : LG T w w lo L) (hk : KT w) (t0 : ¬ T 0) (t1 : ¬ T 1) (hb : 1 < b) (hp : Pos L) :
    Calls Tryd.prog 44 #[.pointer (some ⟨b, 0, none⟩)] w fun e w' => e = .returned (.int .i64 0) ∧ ∃ c, PB w T b lo L ⟨x.a, x.K, 0, nof, c, x.b1, x.b2⟩ w' := by
  refine (resetM b x w h).mono ?_
  rintro e w' ⟨rfl, ⟨c, hc, g1⟩, g2⟩
  exact ⟨rfl, c, g1, hc, Sg.LG.kept hl g2 (fun j e => ⟨mc4 x, 60, (by rw [show j = b from e]; exact h.here), by decide, by decide⟩), g2.mono (fun _ _ e => .inr e), hk, t0, t1, hb, h.here.lt, hp⟩
end
theorem sub_le64 (a : Bool) (m n : Nat) : m / bk a - n / bk a ≤ m / 64 := Nat.le_trans (Nat.sub_le _ _) (bk_div a m)
section
variable {W : World}
/-- What a change of other blocks leaves. -/
theorem own_b8 {base n : Nat} {v : Value} {f : Nat → Int} (ho : By.Own W base v n f) {g : Nat} (hg : v.ownBlock = some g) : ∃ cs, Blk W g cs 5 := by
  obtain ⟨c, hc⟩ := Sg.own8_type ho hg
  exact ⟨c.toList, by show W.heap[g]? = _; rw [hc]⟩
theorem lg_keep {S T : Nat → Prop} {w W W' : World} {lo : Option Nat} {L : List Rn} (h : LG S w W lo L) (hk : Kp T W W') (hT : ∀ j cs t, T j → Blk W j cs t → ¬ Lt t) : LG S w W' lo L := by
  cases lo with
  | none => exact trivial
  | some lb =>
    obtain ⟨hs, rv, hl, ho⟩ := h
    refine ⟨hs, rv, hl.kept hk (fun e => hT _ _ _ e hl.here (.inl rfl)) (fun g hg e => ?_), ho⟩
    obtain ⟨c, hc⟩ := Sg.own_type hl.own hg
    exact hT g c.toList _ e (by show W.heap[g]? = _; rw [hc]) (.inr rfl)
end
end Go.Proofs.YtkmkbofokoimkaaDoor.Dg
