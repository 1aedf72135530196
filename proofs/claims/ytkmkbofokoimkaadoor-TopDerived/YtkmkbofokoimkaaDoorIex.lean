/- HKDF: Extract, Expand, Key of the program. -/
import Derived.Test.YtkmkbofokoimkaaDoorIfo
namespace Go.Proofs.YtkmkbofokoimkaaDoor.Dg
open Go.ChangeShapes Go.WideShapes Go.ChangeAt Go.RowKit
open Go.Proofs.YtkmkbofokoimkaaDoor.By
open Go.Proofs.YtkmkbofokoimkaaDoor.Sh (Blk size_alloc)
/-- Expand's code, how many bytes it tells, what it records, by any number. -/
def xc (a : Bool) (n : Int) : Int := if n < 0 then 2 else if ((255 * sz a : Nat) : Int) < n then 9 else 0
def xN (a : Bool) (n : Int) : Nat := if 0 ≤ n ∧ n ≤ ((255 * sz a : Nat) : Int) then n.toNat else 0
def xl (a : Bool) (L : List Rn) (nk ni : Nat) (n : Int) : List Rn := if 0 ≤ n ∧ n ≤ ((255 * sz a : Nat) : Int) then xev a L nk ni (qp a n.toNat) else L
theorem sumF (w : World) : Calls Tryd.prog 24 #[.int .u8 1] w fun e w' => e = .returned (.int .i64 32) ∧ w' = w := by
  go_enter Tryd.func24, Tryd.ntmps24
  go_wp2
  go_ret
  exact ⟨rfl, rfl⟩
theorem sumT (w : World) : Calls Tryd.prog 24 #[.int .u8 2] w fun e w' => e = .returned (.int .i64 64) ∧ w' = w := by
  go_enter Tryd.func24, Tryd.ntmps24
  go_wp2
  go_ret
  exact ⟨rfl, rfl⟩
theorem sumN (al : Int) (h1 : ¬ al = 1) (h2 : ¬ al = 2) (w : World) : Calls Tryd.prog 24 #[.int .u8 al] w fun e w' => e = .returned (.int .i64 0) ∧ w' = w := by
  go_enter Tryd.func24, Tryd.ntmps24
  go_wp2
  go_ret
  exact ⟨rfl, rfl⟩
theorem refN (al : Int) (h1 : ¬ al = 1) (h2 : ¬ al = 2) (n : Int) (w : World) : Calls Tryd.prog 14 #[.int .u8 al, .int .i64 n] w fun e w' => e = .returned (.int .i64 4) ∧ w' = w := by
  go_enter Tryd.func14, Tryd.ntmps14
  go_wp2_with fail
  refine (sumN al h1 h2 _).mono ?_
  rintro e w1 ⟨rfl, hw⟩
  subst w1
  go_wp2
  go_ret
  exact ⟨rfl, rfl⟩
theorem refA (a : Bool) (n : Int) (w : World) : Calls Tryd.prog 14 #[.int .u8 (an a), .int .i64 n] w fun e w' => e = .returned (.int .i64 (xc a n)) ∧ w' = w := by
  cases a
  · have e0 : xc false n = if n < 0 then 2 else if 8160 < n then 9 else 0 := rfl
    rw [e0]
    show Calls Tryd.prog 14 #[.int .u8 1, .int .i64 n] w _
    clear e0
    by_cases hn : n < 0
    · rw [if_pos hn]
      go_enter Tryd.func14, Tryd.ntmps14
      go_wp2_with fail
      refine (sumF _).mono ?_
      rintro e w1 ⟨rfl, hw⟩
      subst w1
      go_wp2
      go_ret
      exact ⟨rfl, rfl⟩
    · rw [if_neg hn]
      by_cases hl : 8160 < n
      · rw [if_pos hl]
        go_enter Tryd.func14, Tryd.ntmps14
        go_wp2_with fail
        refine (sumF _).mono ?_
        rintro e w1 ⟨rfl, hw⟩
        subst w1
        go_wp2
        go_ret
        exact ⟨rfl, rfl⟩
      · rw [if_neg hl]
        go_enter Tryd.func14, Tryd.ntmps14
        go_wp2_with fail
        refine (sumF _).mono ?_
        rintro e w1 ⟨rfl, hw⟩
        subst w1
        go_wp2
        go_ret
        exact ⟨rfl, rfl⟩
  · have e0 : xc true n = if n < 0 then 2 else if 16320 < n then 9 else 0 := rfl
    rw [e0]
    show Calls Tryd.prog 14 #[.int .u8 2, .int .i64 n] w _
    clear e0
    by_cases hn : n < 0
    · rw [if_pos hn]
      go_enter Tryd.func14, Tryd.ntmps14
      go_wp2_with fail
      refine (sumT _).mono ?_
      rintro e w1 ⟨rfl, hw⟩
      subst w1
      go_wp2
      go_ret
      exact ⟨rfl, rfl⟩
    · rw [if_neg hn]
      by_cases hl : 16320 < n
      · rw [if_pos hl]
        go_enter Tryd.func14, Tryd.ntmps14
        go_wp2_with fail
        refine (sumT _).mono ?_
        rintro e w1 ⟨rfl, hw⟩
        subst w1
        go_wp2
        go_ret
        exact ⟨rfl, rfl⟩
      · rw [if_neg hl]
        go_enter Tryd.func14, Tryd.ntmps14
        go_wp2_with fail
        refine (sumT _).mono ?_
        rintro e w1 ⟨rfl, hw⟩
        subst w1
        go_wp2
        go_ret
        exact ⟨rfl, rfl⟩
theorem parts_on (lo : Option Nat) (b : Nat) (xa : Option Addr) (xn xc : Nat) (w : World) : Calls Tryd.prog 26 #[lpv lo, .pointer (some ⟨b, 0, none⟩), .slice xa xn xc] w fun e w' => e = .returned (.func (.func 33) #[] #[.pointer (some ⟨w.heap.size, 0, none⟩), .pointer (some ⟨w.heap.size + 1, 0, none⟩), .pointer (some ⟨w.heap.size + 1 + 1, 0, none⟩)]) ∧ w' = ((w.alloc (.cells #[lpv lo] 34)).alloc (.cells #[.pointer (some ⟨b, 0, none⟩)] 35)).alloc (.cells #[.slice xa xn xc] 22) := by
  obtain ⟨lp, hlp⟩ : ∃ lp, lpv lo = .pointer lp := by cases lo; exact ⟨_, rfl⟩; exact ⟨_, rfl⟩
  rw [hlp]
  go_enter Tryd.func26, Tryd.ntmps26
  go_wp2
  go_ret
  exact ⟨rfl, rfl⟩
theorem first_none (fv : Value) (w : World) : Calls Tryd.prog 25 #[fv, .int .i64 0] w fun e w' => e = .returned (.slice none 0 0) ∧ Below w.heap.size w w' := by
  go_enter Tryd.func25, Tryd.ntmps25
  go_wp2
  go_ret
  exact ⟨rfl, below_alloc _ _⟩
theorem expandN (al : Int) (h1 : ¬ al = 1) (h2 : ¬ al = 2) (lp v v2 : Value) (n : Int) (w : World) : Calls Tryd.prog 16 #[lp, .int .u8 al, v, v2, .int .i64 n] w fun e w' => e = .returned (.tuple #[.slice none 0 0, .int .i64 4]) ∧ w' = w := by
  go_enter Tryd.func16, Tryd.ntmps16
  go_wp2_with fail
  refine (refN al h1 h2 n _).mono ?_
  rintro e w1 ⟨rfl, hw⟩
  subst w1
  go_wp2
  go_ret2
  exact ⟨rfl, rfl⟩
theorem keyN (al : Int) (h1 : ¬ al = 1) (h2 : ¬ al = 2) (lp v v2 v3 : Value) (n : Int) (w : World) : Calls Tryd.prog 9 #[lp, .int .u8 al, v, v2, v3, .int .i64 n] w fun e w' => e = .returned (.tuple #[.slice none 0 0, .int .i64 4]) ∧ w' = w := by
  go_enter Tryd.func9, Tryd.ntmps9
  go_wp2_with fail
  refine (refN al h1 h2 n _).mono ?_
  rintro e w1 ⟨rfl, hw⟩
  subst w1
  go_wp2
  go_ret2
  exact ⟨rfl, rfl⟩
theorem extractN (al : Int) (h1 : ¬ al = 1) (h2 : ¬ al = 2) (lp v v2 : Value) (w : World) : Calls Tryd.prog 15 #[lp, .int .u8 al, v, v2] w fun e w' => e = .returned (.tuple #[.slice none 0 0, .int .i64 4]) ∧ Below w.heap.size w w' := by
  go_enter Tryd.func15, Tryd.ntmps15
  go_wp2_with fail
  refine (tagNo al lp v v2 _ h1 h2).mono ?_
  rintro e w1 ⟨rfl, hb⟩
  have B := hid hb
  clear hb
  go_wp2
  go_ret2
  exact ⟨rfl, B.out⟩
theorem extract_ok (a : Bool) (n np : Nat) (v v2 : Value) (g f : Nat → Int) (lo : Option Nat) (L : List Rn) (S : Nat → Prop) (w : World) (hk : KT w) (hS0 : ¬ S 0) (hS1 : ¬ S 1) (hl : LG S w w lo L) (hp : Pos L)
    (hr : ∀ w', Kp S w w' → By.RB w' v n g) (hr2 : ∀ w', Kp S w w' → By.RB w' v2 np f) (hn : n ≤ 140737488352328) (hnp : np ≤ 140737488352328) (hroom : tq L ≤ 900000000) :
    Calls Tryd.prog 15 #[lpv lo, .int .u8 (an a), v, v2] w fun e w' => ∃ u, e = .returned (.tuple #[u, .int .i64 0]) ∧ By.Own w' w.heap.size u (sz a) (hm a (kb a n g) np f) ∧ LG S w w' lo (tev a L n np) ∧ Kp S w w' := by
  have HC := hid (tagM a n np v v2 g f lo L S w hk hS0 hS1 hl hp hr hr2 hn hnp hroom)
  clear hk hS0 hS1 hl hp hr hr2
  go_enter Tryd.func15, Tryd.ntmps15
  go_wp2_with fail
  refine HC.out.mono ?_
  rintro e w1 ⟨u, rfl, h1, h2, h3⟩
  have U := hid h1
  have HL := hid h2
  have HK := hid h3
  clear h1 h2 h3 HC
  go_wp2
  go_ret2
  exact ⟨u, rfl, U.out, HL.out, HK.out⟩
theorem expand_bad (a : Bool) (n : Int) (hn : ¬ (0 ≤ n ∧ n ≤ ((255 * sz a : Nat) : Int))) (lp v v2 : Value) (w : World) : Calls Tryd.prog 16 #[lp, .int .u8 (an a), v, v2, .int .i64 n] w fun e w' => e = .returned (.tuple #[.slice none 0 0, .int .i64 (xc a n)]) ∧ w' = w := by
  have hc : ¬ xc a n = 0 := by unfold xc; split; omega; split <;> omega
  have R := hid (fun w => refA a n w)
  obtain ⟨c, hcc⟩ : ∃ c, xc a n = c := ⟨_, rfl⟩
  rw [hcc] at R hc ⊢
  clear hcc hn
  go_enter Tryd.func16, Tryd.ntmps16
  go_wp2_with fail
  refine (R.out _).mono ?_
  rintro e w1 ⟨rfl, hw⟩
  subst w1
  go_wp2
  go_ret2
  exact ⟨rfl, rfl⟩
theorem key_bad (a : Bool) (n : Int) (hn : ¬ (0 ≤ n ∧ n ≤ ((255 * sz a : Nat) : Int))) (lp v v2 v3 : Value) (w : World) : Calls Tryd.prog 9 #[lp, .int .u8 (an a), v, v2, v3, .int .i64 n] w fun e w' => e = .returned (.tuple #[.slice none 0 0, .int .i64 (xc a n)]) ∧ w' = w := by
  have hc : ¬ xc a n = 0 := by unfold xc; split; omega; split <;> omega
  have R := hid (fun w => refA a n w)
  obtain ⟨c, hcc⟩ : ∃ c, xc a n = c := ⟨_, rfl⟩
  rw [hcc] at R hc ⊢
  clear hcc hn
  go_enter Tryd.func9, Tryd.ntmps9
  go_wp2_with fail
  refine (R.out _).mono ?_
  rintro e w1 ⟨rfl, hw⟩
  subst w1
  go_wp2
  go_ret2
  exact ⟨rfl, rfl⟩
theorem xc_ok (a : Bool) (N : Nat) (hN : N ≤ 255 * sz a) : xc a (N : Int) = 0 := by unfold xc; rw [if_neg (by omega), if_neg (by omega)]
set_option maxHeartbeats 2000000 in
theorem expand_ok (a : Bool) (nk ni N : Nat) (v v2 : Value) (g inf : Nat → Int) (lo : Option Nat) (L : List Rn) (S : Nat → Prop) (w : World) (hk : KT w) (hS0 : ¬ S 0) (hS1 : ¬ S 1) (hl : LG S w w lo L) (hp : Pos L)
    (hr : ∀ w', Kp S w w' → By.RB w' v nk g) (hr2 : ∀ w', Kp S w w' → By.RB w' v2 ni inf) (hn : nk ≤ 140737488353328) (hni : ni ≤ 140737488352000) (hN : N ≤ 255 * sz a) (hroom : tq L ≤ 1190000000) :
    Calls Tryd.prog 16 #[lpv lo, .int .u8 (an a), v, v2, .int .i64 N] w fun e w' => ∃ u, e = .returned (.tuple #[u, .int .i64 0]) ∧ By.Own w' w.heap.size u N (okm a (kb a nk g) ni inf) ∧ LG S w w' lo (xev a L nk ni (qp a N)) ∧ Kp S w w' := by
  have HC := hid (newM a nk v g lo L S w hk hS0 hS1 hl hp hr hn (by omega))
  have HK := hid hk
  have HS0 := hid hS0
  have HS1 := hid hS1
  have HP := hid hp
  have HR2 := hid hr2
  have HF := hid (kev_fine a hp nk hn (by omega))
  have hz := hid hk.lt
  obtain ⟨-, xa, xc', rfl, -⟩ := hr2 w (Kp.refl _ _)
  have e0 := xc_ok a N hN
  clear hk hS0 hS1 hl hp hr hr2
  go_enter Tryd.func16, Tryd.ntmps16
  go_wp2_with fail
  refine (refA a N _).mono ?_
  rintro e w1 ⟨rfl, hw⟩
  subst w1
  rw [e0]
  clear e0
  go_wp2_with fail
  refine HC.out.mono ?_
  rintro e w1 ⟨b, b0, b1, b2, rfl, h1, h2, h3, h4⟩
  have M1 := hid h1
  have Z1 := hid h2
  have L1 := hid h3
  have K1 := hid h4
  clear h1 h2 h3 h4 HC
  go_wp2_with fail
  refine (parts_on lo b xa ni xc' _).mono ?_
  rintro e w2 ⟨rfl, hw⟩
  have hb2 : Below w1.heap.size w1 w2 := by rw [hw]; exact below_next (below_next (below_alloc w1 _) (below_alloc _ _)) (below_alloc _ _)
  have bl : Blk w2 w1.heap.size [lpv lo] 34 := by rw [hw]; exact ((Sh.Blk.new w1 [lpv lo] _).below (below_alloc _ _)).below (below_alloc _ _)
  have bm : Blk w2 (w1.heap.size + 1) [.pointer (some ⟨b, 0, none⟩)] 35 := by
    have h := (Sh.Blk.new (w1.alloc (.cells #[lpv lo] 34)) [.pointer (some ⟨b, 0, none⟩)] 35).below (below_alloc _ (.cells #[.slice xa ni xc'] 22))
    rw [size_alloc] at h
    rw [hw]; exact h
  have bi : Blk w2 (w1.heap.size + 1 + 1) [.slice xa ni xc'] 22 := by
    have h := Sh.Blk.new ((w1.alloc (.cells #[lpv lo] 34)).alloc (.cells #[.pointer (some ⟨b, 0, none⟩)] 35)) [.slice xa ni xc'] 22
    rw [size_alloc, size_alloc] at h
    rw [hw]; exact h
  clear hw
  have hbl := M1.out.here.lt
  have K2 := hid (K1.out.trans (Kp.of_below S hb2) (fun _ _ e => e))
  have L2 := hid (L1.out.below hb2)
  have M2 := hid (M1.out.below hb2)
  have z12 := hb2.size
  have B2 := hid hb2
  clear hb2 M1 L1 K1
  by_cases hN0 : N = 0
  · subst hN0
    go_wp2_with fail
    refine (first_none _ _).mono ?_
    rintro e w3 ⟨rfl, hb⟩
    have K3 := hid (K2.out.trans (Kp.of_below S hb) (fun _ _ e => e))
    have L3 := hid (L2.out.below hb)
    clear hb
    go_wp2
    go_ret2
    refine ⟨_, rfl, own_nil _ _ _ (okm_b _ _ _ _), ?_, K3.out⟩
    show LG S w w3 lo (evs a (kev a L nk) (es a ni (qp a 0)))
    rw [qp_zero, show es a ni 0 = 0 from rfl, evs_zero]
    exact L3.out
  · obtain ⟨T, l1, hT, hTS⟩ := LG.own L2.out
    have zz := Z1.out
    have hlt := hz.out
    have hkz := K2.out.size
    have C : CX w2 (fun j => T j ∨ j = b) b w1.heap.size (w1.heap.size + 1) (w1.heap.size + 1 + 1) lo (kev a L nk) a ni inf (.slice xa ni xc') N := by
      refine ⟨HK.out.kept K2.out HS0.out HS1.out, fun e => e.elim (fun e => HS0.out (hTS 0 (by omega) e)) (fun e => by omega), fun e => e.elim (fun e => HS1.out (hTS 1 (by omega) e)) (fun e => by omega), .inr rfl, by omega, bl, bm, bi, fun e => e.elim (hT.no bl (by decide)) (fun e => by omega), fun e => e.elim (hT.no bm (by decide)) (fun e => by omega), fun e => e.elim (hT.no bi (by decide)) (fun e => by omega), fun w' hk' => HR2.out w' (K2.out.trans hk' (fun i hi e => e.elim (hTS i hi) (fun e => by omega))), kevP a HP.out nk, by have := HF.out; omega, hni, by omega, hN⟩
    have HC := hid (first_on C _ M2.out rfl rfl (Sg.LG.start l1 (Below.refl _ _) (fun i _ e => .inl e)))
    have HT := hid hTS
    clear C l1 hT hTS bl bm bi
    go_wp2_with fail
    refine HC.out.mono ?_
    rintro e w3 ⟨u, rfl, h1, h2, h3⟩
    have U := hid (Sg.own_mono h1 hkz)
    have L3 := hid (lg_back h2 L2.out hkz (fun i hi e => e.elim (HT.out i hi) (fun e => by omega)))
    have K3 := hid (K2.out.trans h3 (fun i hi e => e.elim (HT.out i hi) (fun e => by omega)))
    clear h1 h2 h3 HC
    go_wp2
    go_ret2
    exact ⟨u, rfl, U.out, L3.out, K3.out⟩
set_option maxHeartbeats 2000000 in
theorem key_ok (a : Bool) (nk ns ni N : Nat) (v v2 v3 : Value) (g f inf : Nat → Int) (lo : Option Nat) (L : List Rn) (S : Nat → Prop) (w : World) (hk : KT w) (hS0 : ¬ S 0) (hS1 : ¬ S 1) (hl : LG S w w lo L) (hp : Pos L)
    (hr : ∀ w', Kp S w w' → By.RB w' v nk g) (hr2 : ∀ w', Kp S w w' → By.RB w' v2 ns f) (hr3 : ∀ w', Kp S w w' → By.RB w' v3 ni inf) (hn : nk ≤ 140737488352328) (hns : ns ≤ 140737488352328) (hni : ni ≤ 140737488352000) (hN : N ≤ 255 * sz a) (hroom : tq L ≤ 900000000) :
    Calls Tryd.prog 9 #[lpv lo, .int .u8 (an a), v, v2, v3, .int .i64 N] w fun e w' => ∃ u, e = .returned (.tuple #[u, .int .i64 0]) ∧ By.Own w' w.heap.size u N (okm a (kb a (sz a) (hm a (kb a ns f) nk g)) ni inf) ∧ LG S w w' lo (xev a (tev a L ns nk) (sz a) ni (qp a N)) ∧ Kp S w w' := by
  have HC := hid (extract_ok a ns nk v2 v f g lo L S w hk hS0 hS1 hl hp hr2 hr hns hn hroom)
  have HK := hid hk
  have HS0 := hid hS0
  have HS1 := hid hS1
  have HP := hid hp
  have HR3 := hid hr3
  have HF := hid (tev_fine a hp ns nk (by omega) (by omega) (by omega))
  have hz := hid hk.lt
  have e0 := xc_ok a N hN
  have hsz := sz_le a
  clear hk hS0 hS1 hl hp hr hr2 hr3
  go_enter Tryd.func9, Tryd.ntmps9
  go_wp2_with fail
  refine (refA a N _).mono ?_
  rintro e w1 ⟨rfl, hw⟩
  subst w1
  rw [e0]
  clear e0
  go_wp2_with fail
  refine HC.out.mono ?_
  rintro e w1 ⟨u, rfl, h1, h2, h3⟩
  have hkz := h3.size
  have hlt := hz.out
  obtain ⟨T, l1, hT, hTS⟩ := LG.own h2
  have R1 : ∀ w', Kp T w1 w' → By.RB w' u (sz a) (hm a (kb a ns f) nk g) := fun w' hk' => (Sg.own_kept h1 hk' (fun q hq => by
    obtain ⟨cs, hc⟩ := own_b8 h1 hq
    exact hT.no hc (by decide))).reads
  have back : ∀ {w'}, Kp T w1 w' → Kp S w w' := fun hk' => h3.trans hk' hTS
  have HE := hid (expand_ok a (sz a) ni N u v3 (hm a (kb a ns f) nk g) inf lo (tev a L ns nk) T w1 (HK.out.kept h3 HS0.out HS1.out) (fun e => HS0.out (hTS 0 (by omega) e)) (fun e => HS1.out (hTS 1 (by omega) e)) l1 (tevP a HP.out ns nk) R1 (fun w' hk' => HR3.out w' (back hk')) (by omega) hni hN (by have := HF.out; omega))
  have HB := hid (show ∀ w', Kp T w1 w' → Kp S w w' from fun _ h => back h)
  have H2 := hid h2
  have HT := hid hTS
  clear h1 h2 h3 HC R1 back l1 hT hTS
  go_wp2_with fail
  refine HE.out.mono ?_
  rintro e w2 ⟨u2, rfl, g1, g2, g3⟩
  have U := hid (Sg.own_mono g1 hkz)
  have L3 := hid (lg_back g2 H2.out hkz HT.out)
  have K3 := hid (HB.out _ g3)
  clear g1 g2 g3 HE
  go_wp2
  go_ret2
  exact ⟨u2, rfl, U.out, L3.out, K3.out⟩
/-- Expand and Key of any number. -/
theorem expand_any (a : Bool) (nk ni : Nat) (n : Int) (v v2 : Value) (g inf : Nat → Int) (lo : Option Nat) (L : List Rn) (S : Nat → Prop) (w : World) (hk : KT w) (hS0 : ¬ S 0) (hS1 : ¬ S 1) (hl : LG S w w lo L) (hp : Pos L)
    (hr : ∀ w', Kp S w w' → By.RB w' v nk g) (hr2 : ∀ w', Kp S w w' → By.RB w' v2 ni inf) (hn : nk ≤ 140737488353328) (hni : ni ≤ 140737488352000) (hroom : tq L ≤ 1190000000) :
    Calls Tryd.prog 16 #[lpv lo, .int .u8 (an a), v, v2, .int .i64 n] w fun e w' => ∃ u, e = .returned (.tuple #[u, .int .i64 (xc a n)]) ∧ By.Own w' w.heap.size u (xN a n) (okm a (kb a nk g) ni inf) ∧ LG S w w' lo (xl a L nk ni n) ∧ Kp S w w' := by
  by_cases h : 0 ≤ n ∧ n ≤ ((255 * sz a : Nat) : Int)
  · obtain ⟨N, rfl⟩ : ∃ N : Nat, n = N := ⟨n.toNat, by omega⟩
    have hN : N ≤ 255 * sz a := by omega
    rw [xc_ok a N hN, show xN a (N : Int) = N from by unfold xN; rw [if_pos h]; omega, show xl a L nk ni (N : Int) = xev a L nk ni (qp a N) from by unfold xl; rw [if_pos h]; rfl]
    exact expand_ok a nk ni N v v2 g inf lo L S w hk hS0 hS1 hl hp hr hr2 hn hni hN hroom
  · refine (expand_bad a n h _ v v2 w).mono ?_
    rintro e w' ⟨rfl, rfl⟩
    exact ⟨_, rfl, by rw [show xN a n = 0 from by unfold xN; rw [if_neg h]]; exact own_nil _ _ _ (okm_b _ _ _ _), by rw [show xl a L nk ni n = L from by unfold xl; rw [if_neg h]]; exact hl, Kp.refl _ _⟩
/-- What Key records of any number. -/
def yl (a : Bool) (L : List Rn) (ns nk ni : Nat) (n : Int) : List Rn := if 0 ≤ n ∧ n ≤ ((255 * sz a : Nat) : Int) then xev a (tev a L ns nk) (sz a) ni (qp a n.toNat) else L
theorem key_any (a : Bool) (nk ns ni : Nat) (n : Int) (v v2 v3 : Value) (g f inf : Nat → Int) (lo : Option Nat) (L : List Rn) (S : Nat → Prop) (w : World) (hk : KT w) (hS0 : ¬ S 0) (hS1 : ¬ S 1) (hl : LG S w w lo L) (hp : Pos L)
    (hr : ∀ w', Kp S w w' → By.RB w' v nk g) (hr2 : ∀ w', Kp S w w' → By.RB w' v2 ns f) (hr3 : ∀ w', Kp S w w' → By.RB w' v3 ni inf) (hn : nk ≤ 140737488352328) (hns : ns ≤ 140737488352328) (hni : ni ≤ 140737488352000) (hroom : tq L ≤ 900000000) :
    Calls Tryd.prog 9 #[lpv lo, .int .u8 (an a), v, v2, v3, .int .i64 n] w fun e w' => ∃ u, e = .returned (.tuple #[u, .int .i64 (xc a n)]) ∧ By.Own w' w.heap.size u (xN a n) (okm a (kb a (sz a) (hm a (kb a ns f) nk g)) ni inf) ∧ LG S w w' lo (yl a L ns nk ni n) ∧ Kp S w w' := by
  by_cases h : 0 ≤ n ∧ n ≤ ((255 * sz a : Nat) : Int)
  · obtain ⟨N, rfl⟩ : ∃ N : Nat, n = N := ⟨n.toNat, by omega⟩
    have hN : N ≤ 255 * sz a := by omega
    rw [xc_ok a N hN, show xN a (N : Int) = N from by unfold xN; rw [if_pos h]; omega, show yl a L ns nk ni (N : Int) = xev a (tev a L ns nk) (sz a) ni (qp a N) from by unfold yl; rw [if_pos h]; rfl]
    exact key_ok a nk ns ni N v v2 v3 g f inf lo L S w hk hS0 hS1 hl hp hr hr2 hr3 hn hns hni hN hroom
  · refine (key_bad a n h _ v v2 v3 w).mono ?_
    rintro e w' ⟨rfl, rfl⟩
    exact ⟨_, rfl, by rw [show xN a n = 0 from by unfold xN; rw [if_neg h]]; exact own_nil _ _ _ (okm_b _ _ _ _), by rw [show yl a L ns nk ni n = L from by unfold yl; rw [if_neg h]]; exact hl, Kp.refl _ _⟩
end Go.Proofs.YtkmkbofokoimkaaDoor.Dg
