/- The program's macs: is it none, Size, Write, Reset; and each call at nil and at none. The program's macs: Sum; the function Tag. -/
import Derived.Test.YtpohogpkfdebdaaGreatDoorZmb
namespace Go.Proofs.YtpohogpkfdebdaaGreatDoor.Dg
open Go.ChangeShapes Go.WideShapes Go.ChangeAt Go.RowKit
open Go.Proofs.YtpohogpkfdebdaaGreatDoor.By
open Go.Proofs.YtpohogpkfdebdaaGreatDoor.Sh (Blk size_alloc)
theorem isNone256 (b : Nat) (K f : Nat → Int) (m b0 b1 b2 : Nat) (w : World) (h : IsMk w b ⟨false, K, m, f, b0, b1, b2⟩) : Calls Tryz.prog 192 #[.pointer (some ⟨b, 0, none⟩)] w fun e w' => e = .returned (.bool false) ∧ w' = w := by
  have c1 : w.cell? ⟨b, 1, none⟩ = some (.iface 261 (.agg #[.pointer (some ⟨b0, 0, none⟩)])) := h.here.cell 1 _ rfl
  clear h
  go_enter Tryz.func192, Tryz.ntmps192
  go_wp2
  go_ret
  exact ⟨rfl, rfl⟩
set_option maxRecDepth 4000 in
theorem write256 (b : Nat) (K f g : Nat → Int) (m n b0 b1 b2 : Nat) (v : Value) (lo : Option Nat) (L : List Rn) (S : Nat → Prop) (w : World) (h : IsMk w b ⟨false, K, m, f, b0, b1, b2⟩) (hk : KT w) (hS0 : ¬ S 1) (hS1 : ¬ S 3) (hSb : S b0) (hnb : ¬ S b) (hn1 : ¬ S b1) (hn2 : ¬ S b2) (hl : LG S w w lo L) (hp : Pos L)
    (hr : ∀ w', Kp S w w' → By.RB w' v n g) (hmn : m + n ≤ 140737488353828) (hroom : tq L + (n / 64 : Nat) ≤ 5000000000000) :
    Calls Tryz.prog 143 #[.pointer (some ⟨b, 0, none⟩), lpv lo, v] w fun e w' => e = .returned (.int .i64 0) ∧ IsMk w' b ⟨false, K, m + n, cat m f g, b0, b1, b2⟩ ∧ LG S w w' lo (evs false L ((m + n) / 64 - m / 64)) ∧ Kp S w w' := by
  have c1 : w.cell? ⟨b, 1, none⟩ = some (.iface 261 (.agg #[.pointer (some ⟨b0, 0, none⟩)])) := h.here.cell 1 _ rfl
  have HC := hid (show Calls Tryz.prog 334 #[.pointer (some ⟨b0, 0, none⟩), lpv lo, v] w (fun e w' => e = .returned (.int .i64 0) ∧ IsMk w' b ⟨false, K, m + n, cat m f g, b0, b1, b2⟩ ∧ LG S w w' lo (evs false L ((m + n) / 64 - m / 64)) ∧ Kp S w w') from by
    refine (dwrite false b0 (64 + m) n v (inr false K f) g lo L S w h.s0 hk hS0 hS1 hSb hl hp hr (by omega) hroom).mono ?_
    rintro e w' ⟨rfl, h1, h2, h3⟩
    have hg : BB g := (hr w (Kp.refl _ _)).1
    refine ⟨rfl, ⟨h.here.kept h3 hnb, ?_, h.s1.kept h3 hn1, h.s2.kept h3 hn2, h.n01, h.n02, h.n12, Sg.cat_bound h.fb hg⟩, ?_, h3⟩
    · show IsD w' b0 false (some (64 + (m + n), inr false K (cat m f g)))
      rw [← Nat.add_assoc]
      refine h1.congr (inr_b (Sg.cat_bound h.fb hg)) (fun i hi => ?_)
      show (if i < 64 + m then (if i < 64 then _ else f (i - 64)) else g (i - (64 + m))) = (if i < 64 then _ else (if i - 64 < m then f (i - 64) else g (i - 64 - m)))
      by_cases q1 : i < 64
      · rw [if_pos (by omega), if_pos q1, if_pos q1]
      · rw [if_neg q1, if_neg q1]
        by_cases q2 : i < 64 + m
        · rw [if_pos q2, if_pos (by omega)]
        · rw [if_neg q2, if_neg (by omega)]; congr 1; omega
    · have e : (64 + m + n) / bk false - (64 + m) / bk false = (m + n) / 64 - m / 64 := by show (64 + m + n) / 64 - (64 + m) / 64 = _; omega
      rw [e] at h2; exact h2)
  have H := hid h
  clear h hk hS0 hS1 hSb hnb hn1 hn2 hl hp hr hmn hroom
  go_enter Tryz.func143, Tryz.ntmps143
  go_wp2_with (first | (go_at_call 192; refine (isNone256 b K f m b0 b1 b2 _ H.out).mono ?_; rintro e w1 ⟨rfl, hw1⟩; subst w1) | (go_at_call 334; refine HC.out.mono ?_; rintro e w1 ⟨rfl, h1, h2, h3⟩))
  go_ret
  exact ⟨rfl, h1, h2, h3⟩
theorem isNone512 (b : Nat) (K f : Nat → Int) (m b0 b1 b2 : Nat) (w : World) (h : IsMk w b ⟨true, K, m, f, b0, b1, b2⟩) : Calls Tryz.prog 192 #[.pointer (some ⟨b, 0, none⟩)] w fun e w' => e = .returned (.bool false) ∧ w' = w := by
  have c1 : w.cell? ⟨b, 1, none⟩ = some (.iface 266 (.agg #[.pointer (some ⟨b0, 0, none⟩)])) := h.here.cell 1 _ rfl
  clear h
  go_enter Tryz.func192, Tryz.ntmps192
  go_wp2
  go_ret
  exact ⟨rfl, rfl⟩
set_option maxRecDepth 4000 in
theorem write512 (b : Nat) (K f g : Nat → Int) (m n b0 b1 b2 : Nat) (v : Value) (lo : Option Nat) (L : List Rn) (S : Nat → Prop) (w : World) (h : IsMk w b ⟨true, K, m, f, b0, b1, b2⟩) (hk : KT w) (hS0 : ¬ S 1) (hS1 : ¬ S 3) (hSb : S b0) (hnb : ¬ S b) (hn1 : ¬ S b1) (hn2 : ¬ S b2) (hl : LG S w w lo L) (hp : Pos L)
    (hr : ∀ w', Kp S w w' → By.RB w' v n g) (hmn : m + n ≤ 140737488353828) (hroom : tq L + (n / 64 : Nat) ≤ 5000000000000) :
    Calls Tryz.prog 143 #[.pointer (some ⟨b, 0, none⟩), lpv lo, v] w fun e w' => e = .returned (.int .i64 0) ∧ IsMk w' b ⟨true, K, m + n, cat m f g, b0, b1, b2⟩ ∧ LG S w w' lo (evs true L ((m + n) / 128 - m / 128)) ∧ Kp S w w' := by
  have c1 : w.cell? ⟨b, 1, none⟩ = some (.iface 266 (.agg #[.pointer (some ⟨b0, 0, none⟩)])) := h.here.cell 1 _ rfl
  have HC := hid (show Calls Tryz.prog 340 #[.pointer (some ⟨b0, 0, none⟩), lpv lo, v] w (fun e w' => e = .returned (.int .i64 0) ∧ IsMk w' b ⟨true, K, m + n, cat m f g, b0, b1, b2⟩ ∧ LG S w w' lo (evs true L ((m + n) / 128 - m / 128)) ∧ Kp S w w') from by
    refine (dwrite true b0 (128 + m) n v (inr true K f) g lo L S w h.s0 hk hS0 hS1 hSb hl hp hr (by omega) hroom).mono ?_
    rintro e w' ⟨rfl, h1, h2, h3⟩
    have hg : BB g := (hr w (Kp.refl _ _)).1
    refine ⟨rfl, ⟨h.here.kept h3 hnb, ?_, h.s1.kept h3 hn1, h.s2.kept h3 hn2, h.n01, h.n02, h.n12, Sg.cat_bound h.fb hg⟩, ?_, h3⟩
    · show IsD w' b0 true (some (128 + (m + n), inr true K (cat m f g)))
      rw [← Nat.add_assoc]
      refine h1.congr (inr_b (Sg.cat_bound h.fb hg)) (fun i hi => ?_)
      show (if i < 128 + m then (if i < 128 then _ else f (i - 128)) else g (i - (128 + m))) = (if i < 128 then _ else (if i - 128 < m then f (i - 128) else g (i - 128 - m)))
      by_cases q1 : i < 128
      · rw [if_pos (by omega), if_pos q1, if_pos q1]
      · rw [if_neg q1, if_neg q1]
        by_cases q2 : i < 128 + m
        · rw [if_pos q2, if_pos (by omega)]
        · rw [if_neg q2, if_neg (by omega)]; congr 1; omega
    · have e : (128 + m + n) / bk true - (128 + m) / bk true = (m + n) / 128 - m / 128 := by show (128 + m + n) / 128 - (128 + m) / 128 = _; omega
      rw [e] at h2; exact h2)
  have H := hid h
  clear h hk hS0 hS1 hSb hnb hn1 hn2 hl hp hr hmn hroom
  go_enter Tryz.func143, Tryz.ntmps143
  go_wp2_with (first | (go_at_call 192; refine (isNone512 b K f m b0 b1 b2 _ H.out).mono ?_; rintro e w1 ⟨rfl, hw1⟩; subst w1) | (go_at_call 340; refine HC.out.mono ?_; rintro e w1 ⟨rfl, h1, h2, h3⟩))
  go_ret
  exact ⟨rfl, h1, h2, h3⟩
end Go.Proofs.YtpohogpkfdebdaaGreatDoor.Dg
namespace Go.Proofs.YtpohogpkfdebdaaGreatDoor.Dg
open Go.ChangeShapes Go.WideShapes Go.ChangeAt Go.RowKit
open Go.Proofs.YtpohogpkfdebdaaGreatDoor.By
open Go.Proofs.YtpohogpkfdebdaaGreatDoor.Sh (Blk size_alloc)
theorem sev_eq (a : Bool) (L : List Rn) (m : Nat) : evs a (evs a (evs a L (last a (bk a + m))) 0) (last a (bk a + sz a)) = sev a L m := by
  rw [evs_add, evs_add, last_bk, last_sz]; rfl
set_option maxRecDepth 4000 in
set_option maxHeartbeats 2000000 in
theorem sum256 (b : Nat) (K f : Nat → Int) (m b0 b1 b2 : Nat) (lo : Option Nat) (L : List Rn) (S : Nat → Prop) (w : World) (h : IsMk w b ⟨false, K, m, f, b0, b1, b2⟩) (hk : KT w) (hS0 : ¬ S 1) (hS1 : ¬ S 3) (hl : LG S w w lo L) (hp : Pos L) (hmm : m ≤ 140737488352328) (hroom : tq L ≤ 4399500000000) :
    Calls Tryz.prog 144 #[.pointer (some ⟨b, 0, none⟩), lpv lo] w fun e w' => ∃ v, e = .returned (.tuple #[v, .int .i64 0]) ∧ By.Own w' w.heap.size v 32 (hm false K m f) ∧ LG S w w' lo (sev false L m) ∧ Kp S w w' ∧ Kl w w' := by
  have H := hid h
  have HL := hid hl
  have HK := hid hk
  obtain ⟨T, l1, hT, hTS⟩ := LG.own hl
  have hlt := hk.lt
  have hll := last_le false (64 + m)
  have t1 := evsT false hp (last false (64 + m)) (by omega)
  have p1 := evsP false hp (last false (64 + m))
  have P1 := hid p1
  have T1 := hid (show tq (evs false L (last false (64 + m))) ≤ 4400000000000 by omega)
  have HC1 := hid (show Calls Tryz.prog 238 #[.pointer (some ⟨b0, 0, none⟩), lpv lo] w (fun e w' => ∃ v, e = .returned (.tuple #[v, .int .i64 0]) ∧ By.Own w' w.heap.size v 32 (dig false (64 + m) (inr false K f)) ∧ LG S w w' lo (evs false L (last false (64 + m))) ∧ Kp S w w' ∧ Kl w w') from by
    refine (dsum false b0 (64 + m) (inr false K f) lo L T w h.s0 hk (fun e => hS0 (hTS 1 (by omega) e)) (fun e => hS1 (hTS 3 (by omega) e)) l1 hp (by omega) (by omega)).mono ?_
    rintro e w' ⟨v, rfl, h1, h2, h3⟩
    exact ⟨v, rfl, h1, Sg.LG.back h2 hl (Nat.le_refl _) hTS, h3.mono hTS, T, h3, hT⟩)
  have c1 : w.cell? ⟨b, 1, none⟩ = some (.iface 261 (.agg #[.pointer (some ⟨b0, 0, none⟩)])) := h.here.cell 1 _ rfl
  clear h hk hl hp hmm hroom l1 hT hTS t1 p1 hll
  go_enter Tryz.func144, Tryz.ntmps144
  go_wp2_with fail
  refine (isNone256 b K f m b0 b1 b2 _ H.out).mono ?_
  rintro e w1 ⟨rfl, hw1⟩
  subst w1
  go_wp2_with fail
  refine HC1.out.mono ?_
  rintro e w1 ⟨v, rfl, hv, hl1, hk1, kl1⟩
  have V1 := hid hv
  have L1 := hid hl1
  have K1 := hid hk1
  have X1 := hid kl1
  have M1 := hid (kl1.mk H.out)
  clear hv hl1 hk1 kl1 HC1 c1
  have c2 : w1.cell? ⟨b, 2, none⟩ = some (.iface 261 (.agg #[.pointer (some ⟨b1, 0, none⟩)])) := M1.out.here.cell 2 _ rfl
  obtain ⟨va, vc, rfl⟩ := own_sl V1.out
  go_wp2_with fail
  refine (copyC256 b1 _ _ _ M1.out.s1).mono ?_
  rintro e w2 ⟨c, hc, rfl, hd, hb2⟩
  have D2 := hid hd
  have L2 := hid (L1.out.below hb2)
  have V2 := hid (own_below V1.out hb2)
  have K2 := hid (K1.out.trans (Kp.of_below S hb2) (fun _ _ e => e))
  have X2 := hid (X1.out.trans (Kl.of_below hb2))
  have C := hid (show w1.heap.size ≤ c from hc)
  clear hd hb2 hc L1 V1 X1 M1 c2
  obtain ⟨T, l2, hT, hTS⟩ := LG.own L2.out
  have hz := K1.out.size
  have HC2 := hid (show Calls Tryz.prog 334 #[.pointer (some ⟨c, 0, none⟩), lpv lo, .slice va 32 vc] w2 (fun e w' => e = .returned (.int .i64 0) ∧ IsD w' c false (some (64 + 32, cat 64 (msk 92 K) (dig false (64 + m) (inr false K f)))) ∧ LG S w w' lo (evs false (evs false L (last false (64 + m))) 0) ∧ Kp S w w' ∧ Kl w w') from by
    obtain ⟨cs, hcs⟩ := D2.out.blk
    have hC := C.out
    refine (dwrite false c 64 32 (.slice va 32 vc) (msk 92 K) (dig false (64 + m) (inr false K f)) lo _ (fun j => j = c ∨ T j) w2 D2.out (HK.out.kept K2.out hS0 hS1) (fun e => e.elim (fun e => by omega) (fun e => hS0 (hTS 1 (by omega) e))) (fun e => e.elim (fun e => by omega) (fun e => hS1 (hTS 3 (by omega) e))) (.inl rfl) (l2.start (Below.refl _ _) (fun _ _ e => .inr e)) P1.out (fun w' h' => (Sg.own_kept V2.out h' (fun g hg e => ?_)).reads) (by omega) (by have := T1.out; omega)).mono ?_
    · obtain ⟨c8, hc8⟩ := Sg.own8_type V2.out hg
      have hu : Blk w2 g c8.toList 5 := by show w2.heap[g]? = _; rw [hc8]
      rcases e with e | e
      · exact Blk.ne hu hcs (by decide) e
      · exact hT.no hu (by decide) e
    · rintro e w' ⟨rfl, h1, h2, h3⟩
      refine ⟨rfl, h1, Sg.LG.back h2 HL.out K2.out.size (fun i hi e => e.elim (fun e => by omega) (fun e => hTS i hi e)), K2.out.trans h3 (fun i hi e => e.elim (fun e => by omega) (fun e => hTS i hi e)), ?_⟩
      obtain ⟨U, hU1, hU2⟩ := X2.out
      refine ⟨fun j => j < w.heap.size ∧ (U j ∨ T j), (hU1.mono (fun j hj e => ⟨hj, .inl e⟩)).trans h3 (fun i hi e => ⟨hi, e.elim (fun e => by omega) .inr⟩), fun j hj => ?_⟩
      rcases hj with ⟨hj, e | e⟩
      · exact hU2 j e
      · by_cases hu : U j
        · exact hU2 j hu
        · obtain ⟨cs', t', hb', ht'⟩ := hT j e
          exact ⟨cs', t', (hU1.block j hj hu).symm.trans hb', ht'⟩)
  clear l2 hT hTS D2 L2
  go_wp2_with fail
  refine HC2.out.mono ?_
  rintro e w3 ⟨rfl, hd, hl3, hk3, kl3⟩
  have D3 := hid hd
  have L3 := hid hl3
  have K3 := hid hk3
  have X3 := hid kl3
  clear hd hl3 hk3 kl3 HC2 V2 K2 X2
  obtain ⟨T, l3, hT, hTS⟩ := LG.own L3.out
  have HC3 := hid (show Calls Tryz.prog 238 #[.pointer (some ⟨c, 0, none⟩), lpv lo] w3 (fun e w' => ∃ v, e = .returned (.tuple #[v, .int .i64 0]) ∧ By.Own w' w.heap.size v 32 (hm false K m f) ∧ LG S w w' lo (sev false L m) ∧ Kp S w w' ∧ Kl w w') from by
    refine (dsum false c (64 + 32) _ lo _ T w3 D3.out (HK.out.kept K3.out hS0 hS1) (fun e => hS0 (hTS 1 (by omega) e)) (fun e => hS1 (hTS 3 (by omega) e)) l3 (evsP false P1.out 0) (by omega) (by rw [evs_zero]; exact T1.out)).mono ?_
    rintro e w' ⟨v, rfl, h1, h2, h3⟩
    refine ⟨v, rfl, Sg.own_mono h1 K3.out.size, ?_, K3.out.trans h3 hTS, X3.out.trans ⟨T, h3, hT⟩⟩
    have := Sg.LG.back h2 HL.out K3.out.size hTS
    rwa [← sev_eq])
  clear l3 hT hTS D3 L3 K3 X3
  go_wp2_with fail
  refine HC3.out.mono ?_
  rintro e w4 ⟨u, rfl, h1, h2, h3, h4⟩
  go_wp2
  go_ret2
  exact ⟨u, rfl, h1, h2, h3, h4⟩
set_option maxRecDepth 4000 in
set_option maxHeartbeats 2000000 in
theorem sum512 (b : Nat) (K f : Nat → Int) (m b0 b1 b2 : Nat) (lo : Option Nat) (L : List Rn) (S : Nat → Prop) (w : World) (h : IsMk w b ⟨true, K, m, f, b0, b1, b2⟩) (hk : KT w) (hS0 : ¬ S 1) (hS1 : ¬ S 3) (hl : LG S w w lo L) (hp : Pos L) (hmm : m ≤ 140737488352328) (hroom : tq L ≤ 4399500000000) :
    Calls Tryz.prog 144 #[.pointer (some ⟨b, 0, none⟩), lpv lo] w fun e w' => ∃ v, e = .returned (.tuple #[v, .int .i64 0]) ∧ By.Own w' w.heap.size v 64 (hm true K m f) ∧ LG S w w' lo (sev true L m) ∧ Kp S w w' ∧ Kl w w' := by
  have H := hid h
  have HL := hid hl
  have HK := hid hk
  obtain ⟨T, l1, hT, hTS⟩ := LG.own hl
  have hlt := hk.lt
  have hll := last_le true (128 + m)
  have t1 := evsT true hp (last true (128 + m)) (by omega)
  have p1 := evsP true hp (last true (128 + m))
  have P1 := hid p1
  have T1 := hid (show tq (evs true L (last true (128 + m))) ≤ 4400000000000 by omega)
  have HC1 := hid (show Calls Tryz.prog 241 #[.pointer (some ⟨b0, 0, none⟩), lpv lo] w (fun e w' => ∃ v, e = .returned (.tuple #[v, .int .i64 0]) ∧ By.Own w' w.heap.size v 64 (dig true (128 + m) (inr true K f)) ∧ LG S w w' lo (evs true L (last true (128 + m))) ∧ Kp S w w' ∧ Kl w w') from by
    refine (dsum true b0 (128 + m) (inr true K f) lo L T w h.s0 hk (fun e => hS0 (hTS 1 (by omega) e)) (fun e => hS1 (hTS 3 (by omega) e)) l1 hp (by omega) (by omega)).mono ?_
    rintro e w' ⟨v, rfl, h1, h2, h3⟩
    exact ⟨v, rfl, h1, Sg.LG.back h2 hl (Nat.le_refl _) hTS, h3.mono hTS, T, h3, hT⟩)
  have c1 : w.cell? ⟨b, 1, none⟩ = some (.iface 266 (.agg #[.pointer (some ⟨b0, 0, none⟩)])) := h.here.cell 1 _ rfl
  clear h hk hl hp hmm hroom l1 hT hTS t1 p1 hll
  go_enter Tryz.func144, Tryz.ntmps144
  go_wp2_with fail
  refine (isNone512 b K f m b0 b1 b2 _ H.out).mono ?_
  rintro e w1 ⟨rfl, hw1⟩
  subst w1
  go_wp2_with fail
  refine HC1.out.mono ?_
  rintro e w1 ⟨v, rfl, hv, hl1, hk1, kl1⟩
  have V1 := hid hv
  have L1 := hid hl1
  have K1 := hid hk1
  have X1 := hid kl1
  have M1 := hid (kl1.mk H.out)
  clear hv hl1 hk1 kl1 HC1 c1
  have c2 : w1.cell? ⟨b, 2, none⟩ = some (.iface 266 (.agg #[.pointer (some ⟨b1, 0, none⟩)])) := M1.out.here.cell 2 _ rfl
  obtain ⟨va, vc, rfl⟩ := own_sl V1.out
  go_wp2_with fail
  refine (copyC512 b1 _ _ _ M1.out.s1).mono ?_
  rintro e w2 ⟨c, hc, rfl, hd, hb2⟩
  have D2 := hid hd
  have L2 := hid (L1.out.below hb2)
  have V2 := hid (own_below V1.out hb2)
  have K2 := hid (K1.out.trans (Kp.of_below S hb2) (fun _ _ e => e))
  have X2 := hid (X1.out.trans (Kl.of_below hb2))
  have C := hid (show w1.heap.size ≤ c from hc)
  clear hd hb2 hc L1 V1 X1 M1 c2
  obtain ⟨T, l2, hT, hTS⟩ := LG.own L2.out
  have hz := K1.out.size
  have HC2 := hid (show Calls Tryz.prog 340 #[.pointer (some ⟨c, 0, none⟩), lpv lo, .slice va 64 vc] w2 (fun e w' => e = .returned (.int .i64 0) ∧ IsD w' c true (some (128 + 64, cat 128 (msk 92 K) (dig true (128 + m) (inr true K f)))) ∧ LG S w w' lo (evs true (evs true L (last true (128 + m))) 0) ∧ Kp S w w' ∧ Kl w w') from by
    obtain ⟨cs, hcs⟩ := D2.out.blk
    have hC := C.out
    refine (dwrite true c 128 64 (.slice va 64 vc) (msk 92 K) (dig true (128 + m) (inr true K f)) lo _ (fun j => j = c ∨ T j) w2 D2.out (HK.out.kept K2.out hS0 hS1) (fun e => e.elim (fun e => by omega) (fun e => hS0 (hTS 1 (by omega) e))) (fun e => e.elim (fun e => by omega) (fun e => hS1 (hTS 3 (by omega) e))) (.inl rfl) (l2.start (Below.refl _ _) (fun _ _ e => .inr e)) P1.out (fun w' h' => (Sg.own_kept V2.out h' (fun g hg e => ?_)).reads) (by omega) (by have := T1.out; omega)).mono ?_
    · obtain ⟨c8, hc8⟩ := Sg.own8_type V2.out hg
      have hu : Blk w2 g c8.toList 5 := by show w2.heap[g]? = _; rw [hc8]
      rcases e with e | e
      · exact Blk.ne hu hcs (by decide) e
      · exact hT.no hu (by decide) e
    · rintro e w' ⟨rfl, h1, h2, h3⟩
      refine ⟨rfl, h1, Sg.LG.back h2 HL.out K2.out.size (fun i hi e => e.elim (fun e => by omega) (fun e => hTS i hi e)), K2.out.trans h3 (fun i hi e => e.elim (fun e => by omega) (fun e => hTS i hi e)), ?_⟩
      obtain ⟨U, hU1, hU2⟩ := X2.out
      refine ⟨fun j => j < w.heap.size ∧ (U j ∨ T j), (hU1.mono (fun j hj e => ⟨hj, .inl e⟩)).trans h3 (fun i hi e => ⟨hi, e.elim (fun e => by omega) .inr⟩), fun j hj => ?_⟩
      rcases hj with ⟨hj, e | e⟩
      · exact hU2 j e
      · by_cases hu : U j
        · exact hU2 j hu
        · obtain ⟨cs', t', hb', ht'⟩ := hT j e
          exact ⟨cs', t', (hU1.block j hj hu).symm.trans hb', ht'⟩)
  clear l2 hT hTS D2 L2
  go_wp2_with fail
  refine HC2.out.mono ?_
  rintro e w3 ⟨rfl, hd, hl3, hk3, kl3⟩
  have D3 := hid hd
  have L3 := hid hl3
  have K3 := hid hk3
  have X3 := hid kl3
  clear hd hl3 hk3 kl3 HC2 V2 K2 X2
  obtain ⟨T, l3, hT, hTS⟩ := LG.own L3.out
  have HC3 := hid (show Calls Tryz.prog 241 #[.pointer (some ⟨c, 0, none⟩), lpv lo] w3 (fun e w' => ∃ v, e = .returned (.tuple #[v, .int .i64 0]) ∧ By.Own w' w.heap.size v 64 (hm true K m f) ∧ LG S w w' lo (sev true L m) ∧ Kp S w w' ∧ Kl w w') from by
    refine (dsum true c (128 + 64) _ lo _ T w3 D3.out (HK.out.kept K3.out hS0 hS1) (fun e => hS0 (hTS 1 (by omega) e)) (fun e => hS1 (hTS 3 (by omega) e)) l3 (evsP true P1.out 0) (by omega) (by rw [evs_zero]; exact T1.out)).mono ?_
    rintro e w' ⟨v, rfl, h1, h2, h3⟩
    refine ⟨v, rfl, Sg.own_mono h1 K3.out.size, ?_, K3.out.trans h3 hTS, X3.out.trans ⟨T, h3, hT⟩⟩
    have := Sg.LG.back h2 HL.out K3.out.size hTS
    rwa [← sev_eq])
  clear l3 hT hTS D3 L3 K3 X3
  go_wp2_with fail
  refine HC3.out.mono ?_
  rintro e w4 ⟨u, rfl, h1, h2, h3, h4⟩
  go_wp2
  go_ret2
  exact ⟨u, rfl, h1, h2, h3, h4⟩
end Go.Proofs.YtpohogpkfdebdaaGreatDoor.Dg
