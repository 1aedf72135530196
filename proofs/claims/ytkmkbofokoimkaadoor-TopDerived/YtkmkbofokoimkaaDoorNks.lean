/- PBKDF2: Key and Block of the program, whatever is asked. -/
import Derived.Test.YtkmkbofokoimkaaDoorNkey
namespace Go.Proofs.YtkmkbofokoimkaaDoor.Dg
open Go.ChangeShapes Go.WideShapes Go.ChangeAt Go.RowKit
open Go.Proofs.YtkmkbofokoimkaaDoor.By
open Go.Proofs.YtkmkbofokoimkaaDoor.Sh (Blk size_alloc)
theorem pkeyN (al : Int) (h1 : ¬ al = 1) (h2 : ¬ al = 2) (lp v v2 : Value) (c n : Int) (w : World) : Calls Tryd.prog 10 #[lp, .int .u8 al, v, v2, .int .i64 c, .int .i64 n] w fun e w' => e = .returned (.tuple #[.slice none 0 0, .int .i64 4]) ∧ w' = w := by
  go_enter Tryd.func10, Tryd.ntmps10
  go_wp2_with fail
  refine (prefN al h1 h2 c _).mono ?_
  rintro e w1 ⟨rfl, hw⟩
  subst w1
  go_wp2
  go_ret2
  exact ⟨rfl, rfl⟩
theorem pkey_bad (a : Bool) (c n : Int) (hn : ¬ kok c n) (lp v v2 : Value) (w : World) : Calls Tryd.prog 10 #[lp, .int .u8 (an a), v, v2, .int .i64 c, .int .i64 n] w fun e w' => e = .returned (.tuple #[.slice none 0 0, .int .i64 (kc c n)]) ∧ w' = w := by
  have R := hid (fun w => prefA a c w)
  by_cases hc : cok c
  · rw [show rc c = 0 from if_pos hc] at R
    rw [show kc c n = if n < 0 then 2 else if 16320 < n then 9 else 0 from if_pos hc]
    by_cases h1 : n < 0
    · rw [if_pos h1]
      clear hn hc
      go_enter Tryd.func10, Tryd.ntmps10
      go_wp2_with fail
      refine (R.out _).mono ?_
      rintro e w1 ⟨rfl, hw⟩
      subst w1
      go_wp2
      go_ret2
      exact ⟨rfl, rfl⟩
    · have h2 : 16320 < n := by unfold kok at hn; unfold cok at hc; omega
      rw [if_neg h1, if_pos h2]
      clear hn hc
      go_enter Tryd.func10, Tryd.ntmps10
      go_wp2_with fail
      refine (R.out _).mono ?_
      rintro e w1 ⟨rfl, hw⟩
      subst w1
      go_wp2
      go_ret2
      exact ⟨rfl, rfl⟩
  · rw [show rc c = 10 from if_neg hc] at R
    rw [show kc c n = 10 from if_neg hc]
    clear hn hc
    go_enter Tryd.func10, Tryd.ntmps10
    go_wp2_with fail
    refine (R.out _).mono ?_
    rintro e w1 ⟨rfl, hw⟩
    subst w1
    go_wp2
    go_ret2
    exact ⟨rfl, rfl⟩
/-- The closure, made behind New. -/
theorem nx_made {w w1 w2 : World} {S : Nat → Prop} {a : Bool} {K : Nat → Int} {b b0 b1 b2 ns sc c i : Nat} {sa : Option Addr} {f : Nat → Int} {lo : Option Nat} {L : List Rn} (hk : KT w) (hS0 : ¬ S 0) (hS1 : ¬ S 1) (hr2 : ∀ w', Kp S w w' → By.RB w' (.slice sa ns sc) ns f)
    (h1 : IsMk w1 b ⟨a, K, 0, nof, b0, b1, b2⟩) (h2 : w.heap.size ≤ b) (h3 : LG S w w1 lo L) (h4 : Kp S w w1) (hp : Pos L) (hroom : tq L ≤ 1900000000) (hns : ns ≤ 1000000) (hc1 : 1 ≤ c) (hc2 : c ≤ 1048576) (hi : i < 4294967296)
    (hw : w2 = ((((w1.alloc (.cells #[lpv lo] 34)).alloc (.cells #[.pointer (some ⟨b, 0, none⟩)] 35)).alloc (.cells #[.slice sa ns sc] 22)).alloc (.cells #[.int .i64 c] 3)).alloc (.cells #[.int .u32 i] 45)) :
    ∃ T : Nat → Prop, NX w2 T b w1.heap.size (w1.heap.size + 1) (w1.heap.size + 1 + 1) (w1.heap.size + 1 + 1 + 1) (w1.heap.size + 1 + 1 + 1 + 1) lo L a ns f (.slice sa ns sc) c ∧ NU w2 T b (w1.heap.size + 1 + 1 + 1 + 1) lo L a K ns c i 0 w2 ∧ Kp S w w2 ∧ (∀ {w'}, Kp T w2 w' → Kp S w w') ∧ (∀ {w' L'}, LG T w2 w' lo L' → LG S w w' lo L') := by
  have hb2 : Below w1.heap.size w1 w2 := by rw [hw]; exact below_next (below_next (below_next (below_next (below_alloc w1 _) (below_alloc _ _)) (below_alloc _ _)) (below_alloc _ _)) (below_alloc _ _)
  have bl : Blk w2 w1.heap.size [lpv lo] 34 := by rw [hw]; exact ((((Sh.Blk.new w1 [lpv lo] _).below (below_alloc _ _)).below (below_alloc _ _)).below (below_alloc _ _)).below (below_alloc _ _)
  have bm : Blk w2 (w1.heap.size + 1) [.pointer (some ⟨b, 0, none⟩)] 35 := by
    have h := (((Sh.Blk.new (w1.alloc (.cells #[lpv lo] 34)) [.pointer (some ⟨b, 0, none⟩)] 35).below (below_alloc _ (.cells #[.slice sa ns sc] 22))).below (below_alloc _ (.cells #[.int .i64 c] 3))).below (below_alloc _ (.cells #[.int .u32 i] 45))
    rw [size_alloc] at h
    rw [hw]; exact h
  have bs : Blk w2 (w1.heap.size + 1 + 1) [.slice sa ns sc] 22 := by
    have h := ((Sh.Blk.new ((w1.alloc (.cells #[lpv lo] 34)).alloc (.cells #[.pointer (some ⟨b, 0, none⟩)] 35)) [.slice sa ns sc] 22).below (below_alloc _ (.cells #[.int .i64 c] 3))).below (below_alloc _ (.cells #[.int .u32 i] 45))
    rw [size_alloc, size_alloc] at h
    rw [hw]; exact h
  have bc : Blk w2 (w1.heap.size + 1 + 1 + 1) [.int .i64 c] 3 := by
    have h := (Sh.Blk.new (((w1.alloc (.cells #[lpv lo] 34)).alloc (.cells #[.pointer (some ⟨b, 0, none⟩)] 35)).alloc (.cells #[.slice sa ns sc] 22)) [.int .i64 c] 3).below (below_alloc _ (.cells #[.int .u32 i] 45))
    rw [size_alloc, size_alloc, size_alloc] at h
    rw [hw]; exact h
  have bi : Blk w2 (w1.heap.size + 1 + 1 + 1 + 1) [.int .u32 i] 45 := by
    have h := Sh.Blk.new ((((w1.alloc (.cells #[lpv lo] 34)).alloc (.cells #[.pointer (some ⟨b, 0, none⟩)] 35)).alloc (.cells #[.slice sa ns sc] 22)).alloc (.cells #[.int .i64 c] 3)) [.int .u32 i] 45
    rw [size_alloc, size_alloc, size_alloc, size_alloc] at h
    rw [hw]; exact h
  clear hw
  have hbl := h1.here.lt
  have K2 := h4.trans (Kp.of_below S hb2) (fun _ _ e => e)
  have L2 := h3.below hb2
  have M2 := h1.below hb2
  have z12 := hb2.size
  obtain ⟨T, l1, hT, hTS⟩ := LG.own L2
  have hlt := hk.lt
  have hkz := K2.size
  have hz1 := h4.size
  have hsz2 := bi.lt
  have sub : ∀ i, i < w.heap.size → (T i ∨ i = b ∨ i = w1.heap.size + 1 + 1 + 1 + 1) → S i := fun i hi e => e.elim (hTS i hi) (fun e => e.elim (fun e => by omega) (fun e => by omega))
  refine ⟨fun j => T j ∨ j = b ∨ j = w1.heap.size + 1 + 1 + 1 + 1, ?_, ?_, K2, fun hk' => K2.trans hk' sub, fun hl' => lg_back hl' L2 hkz sub⟩
  · refine ⟨hk.kept K2 hS0 hS1, fun e => hS0 (sub 0 (by omega) e), fun e => hS1 (sub 1 (by omega) e), .inr (.inl rfl), .inr (.inr rfl), by omega, bl, bm, bs, bc, fun e => ?_, fun e => ?_, fun e => ?_, fun e => ?_, fun w' hk' => hr2 w' (K2.trans hk' sub), hp, hroom, hns, hc1, hc2⟩
    · exact e.elim (hT.no bl (by decide)) (fun e => by omega)
    · exact e.elim (hT.no bm (by decide)) (fun e => by omega)
    · exact e.elim (hT.no bs (by decide)) (fun e => by omega)
    · exact e.elim (hT.no bc (by decide)) (fun e => by omega)
  · refine ⟨Kp.refl _ _, ⟨_, M2, rfl, rfl⟩, ?_, ?_⟩
    · rw [Nat.zero_mul, evs_zero]
      exact Sg.LG.start l1 (Below.refl _ _) (fun i _ e => .inl e)
    · rw [show (i + 0) % 4294967296 = i from by omega]
      exact bi
set_option maxHeartbeats 2000000 in
theorem pkey_ok (a : Bool) (np ns c N : Nat) (v v2 : Value) (g f : Nat → Int) (lo : Option Nat) (L : List Rn) (S : Nat → Prop) (w : World) (hk : KT w) (hS0 : ¬ S 0) (hS1 : ¬ S 1) (hl : LG S w w lo L) (hp : Pos L)
    (hr : ∀ w', Kp S w w' → By.RB w' v np g) (hr2 : ∀ w', Kp S w w' → By.RB w' v2 ns f) (hn : np ≤ 140737488353328) (hns : ns ≤ 1000000) (hc1 : 1 ≤ c) (hc2 : c ≤ 1048576) (hN : N ≤ 16320) (hroom : tq L ≤ 1800000000) :
    Calls Tryd.prog 10 #[lpv lo, .int .u8 (an a), v, v2, .int .i64 c, .int .i64 N] w fun e w' => ∃ u, e = .returned (.tuple #[u, .int .i64 0]) ∧ By.Own w' w.heap.size u N (dk a (kb a np g) ns f c) ∧ LG S w w' lo (del a L np ns c (qp a N)) ∧ Kp S w w' := by
  have HC := hid (newM a np v g lo L S w hk hS0 hS1 hl hp hr hn (by omega))
  have HK := hid hk
  have HS0 := hid hS0
  have HS1 := hid hS1
  have HP := hid hp
  have HR2 := hid hr2
  have HF := hid (kev_fine a hp np hn (by omega))
  have R := hid (fun w => prefA a c w)
  rw [show rc (c : Int) = 0 from if_pos (by unfold cok; omega)] at R
  have hN' : (N : Int) ≤ 16320 := by omega
  obtain ⟨-, xa, xc', rfl, -⟩ := hr2 w (Kp.refl _ _)
  clear hk hS0 hS1 hl hp hr hr2
  go_enter Tryd.func10, Tryd.ntmps10
  go_wp2_with fail
  refine (R.out _).mono ?_
  rintro e w1 ⟨rfl, hw⟩
  subst w1
  go_wp2_with fail
  refine HC.out.mono ?_
  rintro e w1 ⟨b, b0, b1, b2, rfl, h1, h2, h3, h4⟩
  have NXM := hid (fun w2 hw => nx_made (w2 := w2) (sa := xa) (ns := ns) (sc := xc') (c := c) (i := 1) HK.out HS0.out HS1.out HR2.out h1 h2.1 h3 h4 (kevP a HP.out np) (by have := HF.out; omega) hns hc1 hc2 (by omega) hw)
  have H4 := hid h4.size
  clear h1 h2 h3 h4 HC
  go_wp2_with fail
  refine (from_on lo b ns xc' xa c 1 _).mono ?_
  rintro e w2 ⟨rfl, hw⟩
  obtain ⟨T, X, U, K2, kT, lT⟩ := NXM.out w2 hw
  have HX := hid X
  have HU := hid U
  have KT' := hid (show ∀ w', Kp T w2 w' → Kp S w w' from fun w' h => kT h)
  have LT' := hid (show ∀ w' L', LG T w2 w' lo L' → LG S w w' lo L' from fun w' L' h => lT h)
  have KZ := hid K2.size
  clear hw X U K2 kT lT NXM
  go_wp2_with fail
  refine (pfirst_on HX.out HU.out N hN).mono ?_
  rintro e w3 ⟨u, rfl, hu, hnu⟩
  have U3 := hid (Sg.own_mono hu KZ.out)
  have L3 := hid (LT'.out _ _ hnu.lg)
  have K3 := hid (KT'.out _ hnu.kp)
  clear hu hnu
  go_wp2
  go_ret2
  exact ⟨u, rfl, U3.out, L3.out, K3.out⟩
theorem kc_ok {c n : Int} (h : kok c n) : kc c n = 0 := by
  unfold kok at h
  unfold kc
  rw [if_pos (by unfold cok; omega), if_neg (by omega), if_neg (by omega)]
theorem ic_ok {c i : Int} (h : iok c i) : ic c i = 0 := by
  unfold iok at h
  unfold ic
  rw [if_pos (by unfold cok; omega), if_pos (by omega)]
theorem pkey_any (a : Bool) (np ns : Nat) (c n : Int) (v v2 : Value) (g f : Nat → Int) (lo : Option Nat) (L : List Rn) (S : Nat → Prop) (w : World) (hk : KT w) (hS0 : ¬ S 0) (hS1 : ¬ S 1) (hl : LG S w w lo L) (hp : Pos L)
    (hr : ∀ w', Kp S w w' → By.RB w' v np g) (hr2 : ∀ w', Kp S w w' → By.RB w' v2 ns f) (hn : np ≤ 140737488353328) (hns : kok c n → ns ≤ 1000000) (hroom : tq L ≤ 1800000000) :
    Calls Tryd.prog 10 #[lpv lo, .int .u8 (an a), v, v2, .int .i64 c, .int .i64 n] w fun e w' => ∃ u, e = .returned (.tuple #[u, .int .i64 (kc c n)]) ∧ By.Own w' w.heap.size u (kN c n) (dk a (kb a np g) ns f c.toNat) ∧ LG S w w' lo (kl a L np ns c n) ∧ Kp S w w' := by
  by_cases h : kok c n
  · have hs := hns h
    rw [kc_ok h, show kN c n = n.toNat from if_pos h, show kl a L np ns c n = del a L np ns c.toNat (qp a n.toNat) from if_pos h]
    have h' := h
    unfold kok at h'
    obtain ⟨N, rfl⟩ : ∃ N : Nat, n = N := ⟨n.toNat, by omega⟩
    obtain ⟨C, rfl⟩ : ∃ C : Nat, c = C := ⟨c.toNat, by omega⟩
    exact pkey_ok a np ns C N v v2 g f lo L S w hk hS0 hS1 hl hp hr hr2 hn hs (by omega) (by omega) (by omega) hroom
  · refine (pkey_bad a c n h _ v v2 w).mono ?_
    rintro e w' ⟨rfl, rfl⟩
    exact ⟨_, rfl, by rw [show kN c n = 0 from if_neg h]; exact own_nil _ _ _ (dk_b _ _ _ _ _), by rw [show kl a L np ns c n = L from if_neg h]; exact hl, Kp.refl _ _⟩
end Go.Proofs.YtkmkbofokoimkaaDoor.Dg
