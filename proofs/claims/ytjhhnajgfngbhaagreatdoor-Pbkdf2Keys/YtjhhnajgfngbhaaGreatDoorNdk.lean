/- The document's PBKDF2: Key and Block, whatever is asked. -/
import Derived.Test.YtjhhnajgfngbhaaGreatDoorNdb
import Derived.Test.YtjhhnajgfngbhaaGreatDoorNks
namespace Go.Proofs.YtjhhnajgfngbhaaGreatDoor.Dg
open Go.ChangeShapes Go.WideShapes Go.ChangeAt Go.RowKit
open Go.Proofs.YtjhhnajgfngbhaaGreatDoor.By
open Go.Proofs.YtjhhnajgfngbhaaGreatDoor.Sh (Blk size_alloc)
theorem sizeN (al : Int) (h1 : ¬ al = 1) (h2 : ¬ al = 2) (w : World) : Calls Tryz.prog 20 #[.int .u8 al] w fun e w' => e = .returned (.int .i64 0) ∧ w' = w := by
  go_enter Tryz.func20, Tryz.ntmps20
  go_wp2
  go_ret
  exact ⟨rfl, rfl⟩
theorem sizeA (a : Bool) (w : World) : Calls Tryz.prog 20 #[.int .u8 (an a)] w fun e w' => e = .returned (.int .i64 (sz a)) ∧ w' = w := by
  cases a
  · show Calls Tryz.prog 20 #[.int .u8 1] w _
    go_enter Tryz.func20, Tryz.ntmps20
    go_wp2
    go_ret
    exact ⟨rfl, rfl⟩
  · show Calls Tryz.prog 20 #[.int .u8 2] w _
    go_enter Tryz.func20, Tryz.ntmps20
    go_wp2
    go_ret
    exact ⟨rfl, rfl⟩
theorem firstN (al : Int) (h1 : ¬ al = 1) (h2 : ¬ al = 2) (c : Int) (w : World) : Calls Tryz.prog 23 #[.int .u8 al, .int .i64 c] w fun e w' => e = .returned (.int .i64 4) ∧ w' = w := by
  go_enter Tryz.func23, Tryz.ntmps23
  go_wp2_with fail
  refine (sizeN al h1 h2 _).mono ?_
  rintro e w1 ⟨rfl, hw⟩
  subst w1
  go_wp2
  go_ret
  exact ⟨rfl, rfl⟩
theorem firstA (a : Bool) (c : Int) (w : World) : Calls Tryz.prog 23 #[.int .u8 (an a), .int .i64 c] w fun e w' => e = .returned (.int .i64 (rc c)) ∧ w' = w := by
  obtain ⟨s, hs⟩ : ∃ s, sz a = s := ⟨_, rfl⟩
  have hs1 : ¬ (s : Int) = 0 := by have := sz_pos a; omega
  have SA := hid (fun w => sizeA a w)
  rw [hs] at SA
  clear hs
  by_cases h : cok c
  · have h1 : ¬ c < 1 := by have := h.1; omega
    have h2 : ¬ 1048576 < c := by have := h.2; omega
    rw [show rc c = 0 from if_pos h]
    clear h
    go_enter Tryz.func23, Tryz.ntmps23
    go_wp2_with fail
    refine (SA.out _).mono ?_
    rintro e w1 ⟨rfl, hw⟩
    subst w1
    go_wp2
    go_ret
    exact ⟨rfl, rfl⟩
  · rw [show rc c = 10 from if_neg h]
    by_cases h1 : c < 1
    · clear h
      go_enter Tryz.func23, Tryz.ntmps23
      go_wp2_with fail
      refine (SA.out _).mono ?_
      rintro e w1 ⟨rfl, hw⟩
      subst w1
      go_wp2
      go_ret
      exact ⟨rfl, rfl⟩
    · have h2 : 1048576 < c := by unfold cok at h; omega
      clear h
      go_enter Tryz.func23, Tryz.ntmps23
      go_wp2_with fail
      refine (SA.out _).mono ?_
      rintro e w1 ⟨rfl, hw⟩
      subst w1
      go_wp2
      go_ret
      exact ⟨rfl, rfl⟩
theorem dkeyN (al : Int) (h1 : ¬ al = 1) (h2 : ¬ al = 2) (lp v v2 : Value) (c n : Int) (w : World) : Calls Tryz.prog 9 #[lp, .int .u8 al, v, v2, .int .i64 c, .int .i64 n] w fun e w' => e = .returned (.tuple #[.slice none 0 0, .int .i64 4]) ∧ w' = w := by
  go_enter Tryz.func9, Tryz.ntmps9
  go_wp2_with fail
  refine (firstN al h1 h2 c _).mono ?_
  rintro e w1 ⟨rfl, hw⟩
  subst w1
  go_wp2
  go_ret2
  exact ⟨rfl, rfl⟩
theorem dblkN (al : Int) (h1 : ¬ al = 1) (h2 : ¬ al = 2) (lp v v2 : Value) (c n : Int) (w : World) : Calls Tryz.prog 18 #[lp, .int .u8 al, v, v2, .int .i64 c, .int .i64 n] w fun e w' => e = .returned (.tuple #[.slice none 0 0, .int .i64 4]) ∧ w' = w := by
  go_enter Tryz.func18, Tryz.ntmps18
  go_wp2_with fail
  refine (firstN al h1 h2 c _).mono ?_
  rintro e w1 ⟨rfl, hw⟩
  subst w1
  go_wp2
  go_ret2
  exact ⟨rfl, rfl⟩
theorem dkey_bad (a : Bool) (c n : Int) (hn : ¬ kok c n) (lp v v2 : Value) (w : World) : Calls Tryz.prog 9 #[lp, .int .u8 (an a), v, v2, .int .i64 c, .int .i64 n] w fun e w' => e = .returned (.tuple #[.slice none 0 0, .int .i64 (kc c n)]) ∧ w' = w := by
  have R := hid (fun w => firstA a c w)
  by_cases hc : cok c
  · rw [show rc c = 0 from if_pos hc] at R
    rw [show kc c n = if n < 0 then 2 else if 16320 < n then 9 else 0 from if_pos hc]
    by_cases h1 : n < 0
    · rw [if_pos h1]
      clear hn hc
      go_enter Tryz.func9, Tryz.ntmps9
      go_wp2_with fail
      refine (R.out _).mono ?_
      rintro e w1 ⟨rfl, hw⟩
      subst w1
      go_wp2
      go_ret2
      exact ⟨rfl, rfl⟩
    · have h2 : 16320 < n := by unfold kok at hn; unfold cok at hc; omega
      rw [if_neg h1, if_pos h2]
      clear hn hc
      go_enter Tryz.func9, Tryz.ntmps9
      go_wp2_with fail
      refine (R.out _).mono ?_
      rintro e w1 ⟨rfl, hw⟩
      subst w1
      go_wp2
      go_ret2
      exact ⟨rfl, rfl⟩
  · rw [show rc c = 10 from if_neg hc] at R
    rw [show kc c n = 10 from if_neg hc]
    clear hn hc
    go_enter Tryz.func9, Tryz.ntmps9
    go_wp2_with fail
    refine (R.out _).mono ?_
    rintro e w1 ⟨rfl, hw⟩
    subst w1
    go_wp2
    go_ret2
    exact ⟨rfl, rfl⟩
theorem dblk_bad (a : Bool) (c i : Int) (hn : ¬ iok c i) (lp v v2 : Value) (w : World) : Calls Tryz.prog 18 #[lp, .int .u8 (an a), v, v2, .int .i64 c, .int .i64 i] w fun e w' => e = .returned (.tuple #[.slice none 0 0, .int .i64 (ic c i)]) ∧ w' = w := by
  have R := hid (fun w => firstA a c w)
  by_cases hc : cok c
  · rw [show rc c = 0 from if_pos hc] at R
    rw [show ic c i = 2 from by unfold ic; rw [if_pos hc, if_neg (by unfold iok at hn; unfold cok at hc; omega)]]
    by_cases h1 : i < 1
    · clear hn hc
      go_enter Tryz.func18, Tryz.ntmps18
      go_wp2_with fail
      refine (R.out _).mono ?_
      rintro e w1 ⟨rfl, hw⟩
      subst w1
      go_wp2
      go_ret2
      exact ⟨rfl, rfl⟩
    · have h2 : 4294967295 < i := by unfold iok at hn; unfold cok at hc; omega
      clear hn hc
      go_enter Tryz.func18, Tryz.ntmps18
      go_wp2_with fail
      refine (R.out _).mono ?_
      rintro e w1 ⟨rfl, hw⟩
      subst w1
      go_wp2
      go_ret2
      exact ⟨rfl, rfl⟩
  · rw [show rc c = 10 from if_neg hc] at R
    rw [show ic c i = 10 from if_neg hc]
    clear hn hc
    go_enter Tryz.func18, Tryz.ntmps18
    go_wp2_with fail
    refine (R.out _).mono ?_
    rintro e w1 ⟨rfl, hw⟩
    subst w1
    go_wp2
    go_ret2
    exact ⟨rfl, rfl⟩
/-- The list that a told one is the beginning of. -/
def OwnF (W : World) (base : Nat) (v : Value) (n : Nat) (f : Nat → Int) : Prop := ∃ oa ol oc, v = .slice oa n oc ∧ n ≤ ol ∧ By.Own W base (.slice oa ol oc) ol f
theorem ownf_own {W : World} {base n : Nat} {v : Value} {f : Nat → Int} (h : By.Own W base v n f) : OwnF W base v n f := by
  obtain ⟨oa, oc, rfl⟩ := own_sl h
  exact ⟨oa, n, oc, rfl, Nat.le_refl _, h⟩
set_option maxHeartbeats 4000000 in
theorem dblk_ok (a : Bool) (mb np ns C i : Nat) (rv v v2 : Value) (g f : Nat → Int) (L : List Rn) (w : World) (h : RLed w mb rv L) (hr : ∀ w', Kp (SM mb rv) w w' → By.RB w' v np g) (hr2 : ∀ w', Kp (SM mb rv) w w' → By.RB w' v2 ns f) (hn : np ≤ 140737488352328) (hns : ns ≤ 1000000) (hC1 : 1 ≤ C) (hC2 : C ≤ 1048576) (hi1 : 1 ≤ i) (hi2 : i ≤ 4294967295) (ht : tq L ≤ 900000000) :
    Calls Tryz.prog 18 #[.pointer (some ⟨mb, 0, none⟩), .int .u8 (an a), v, v2, .int .i64 C, .int .i64 i] w fun e w' => ∃ u, e = .returned (.tuple #[u, .int .i64 0]) ∧ By.Own w' w.heap.size u (sz a) (xs a (kb a np g) ns f i (C - 1)) ∧ RW w w' mb rv (del a L np ns C 1) := by
  have HC := hid (qnewM a mb np rv v g L w h hr hn ht)
  have HR2 := hid hr2
  have HP := hid h.pos
  have HF := hid (kev_fine a h.pos np (by omega) (by omega))
  have R := hid (fun w => firstA a C w)
  rw [show rc (C : Int) = 0 from if_pos (by unfold cok; omega)] at R
  have h1' : ¬ (i : Int) < 1 := by omega
  have h2' : ¬ (4294967295 : Int) < (i : Int) := by omega
  obtain ⟨-, xa, xc', rfl, -⟩ := hr2 w (Kp.refl _ _)
  clear h hr hr2
  go_enter Tryz.func18, Tryz.ntmps18
  go_wp2_with fail
  refine (R.out _).mono ?_
  rintro e w1 ⟨rfl, hw⟩
  subst w1
  go_wp2_with fail
  refine HC.out.mono ?_
  rintro e w1 ⟨c, kv, hcz, rfl, hq, hkv, hrw⟩
  have X1 := hid (show EX w mb c rv a np g (kev a L np) 0 nof kv (.slice none 0 0) w1 from ⟨hrw.2, hrw.1, hq, hcz⟩)
  have Z1 := hid (show w.heap.size ≤ w1.heap.size from hrw.2.size)
  clear hcz hq hkv hrw HC
  go_wp2_with fail
  refine (eblock X1.out ns C i _ f HR2.out hns hC1 hC2 hn (kevP a HP.out np) (by have := HF.out; omega)).mono ?_
  rintro e w2 ⟨u, rfl, hu, hx, -⟩
  have U2 := hid (Sg.own_mono hu Z1.out)
  have X2 := hid hx
  clear hu hx X1
  go_wp2
  go_ret2
  refine ⟨u, rfl, U2.out, ?_⟩
  have e1 : del a L np ns C 1 = evs a (kev a L np) (be a ns C) := by unfold del; rw [Nat.one_mul]
  rw [e1]
  exact ⟨X2.out.rl, X2.out.kp⟩
set_option maxHeartbeats 4000000 in
theorem dkey_ok (a : Bool) (mb np ns C N : Nat) (rv v v2 : Value) (g f : Nat → Int) (L : List Rn) (w : World) (h : RLed w mb rv L) (hr : ∀ w', Kp (SM mb rv) w w' → By.RB w' v np g) (hr2 : ∀ w', Kp (SM mb rv) w w' → By.RB w' v2 ns f) (hn : np ≤ 140737488352328) (hns : ns ≤ 1000000) (hC1 : 1 ≤ C) (hC2 : C ≤ 1048576) (hN : N ≤ 16320) (ht : tq L ≤ 900000000) :
    Calls Tryz.prog 9 #[.pointer (some ⟨mb, 0, none⟩), .int .u8 (an a), v, v2, .int .i64 C, .int .i64 N] w fun e w' => ∃ u, e = .returned (.tuple #[u, .int .i64 0]) ∧ OwnF w' w.heap.size u N (dk a (kb a np g) ns f C) ∧ RW w w' mb rv (del a L np ns C (qp a N)) := by
  have HC := hid (qnewM a mb np rv v g L w h hr hn ht)
  have HR2 := hid hr2
  have HP := hid h.pos
  have HF := hid (kev_fine a h.pos np (by omega) (by omega))
  have HQ := hid (qp_511 a N hN)
  have R := hid (fun w => firstA a C w)
  rw [show rc (C : Int) = 0 from if_pos (by unfold cok; omega)] at R
  have hN' : (N : Int) ≤ 16320 := by omega
  obtain ⟨s, hs⟩ : ∃ s, sz a = s := ⟨_, rfl⟩
  have hs1 : 0 < s := by rw [← hs]; exact sz_pos a
  have hs2 : s ≤ 64 := by rw [← hs]; exact sz_le a
  have HS := hid hs
  obtain ⟨K, hK⟩ : ∃ K, kb a np g = K := ⟨_, rfl⟩
  rw [hK]
  have HKK := hid hK
  obtain ⟨-, xa, xc', rfl, -⟩ := hr2 w (Kp.refl _ _)
  clear h hr hr2 hs hK
  go_enter Tryz.func9, Tryz.ntmps9
  go_wp2_with fail
  refine (R.out _).mono ?_
  rintro e w1 ⟨rfl, hw⟩
  subst w1
  go_wp2_with fail
  refine HC.out.mono ?_
  rintro e w1 ⟨c, kv, hcz, rfl, hq, hkv, hrw⟩
  have X1 := hid (show EX w mb c rv a np g (kev a L np) 0 nof kv (.slice none 0 0) w1 from ⟨hrw.2, hrw.1, hq, hcz⟩)
  clear hcz hq hkv hrw HC
  go_wp2_with fail
  go_loopw [17, 18] (fun ov j wr => ∃ k ol : Nat, k ≤ qp a N ∧ k * s = ol ∧ j = .int .i64 ((k : Int) + 1) ∧ EX w mb c rv a np g (evs a (kev a L np) (k * be a ns C)) 0 nof kv (.slice none 0 0) wr ∧ By.Own wr w.heap.size ov ol (dk a K ns f C) ∧ (∀ p, ov.ownBlock = some p → kv.ownBlock ≠ some p) ∧ ol ≤ N + 64) (fun ov _ _ => N + 64 - slen ov)
  case atStart => exact ⟨0, 0, Nat.zero_le _, Nat.zero_mul _, rfl, by rw [Nat.zero_mul, evs_zero]; exact X1.out, own_nil _ _ _ (dk_b _ _ _ _ _), fun p hp => by simp [Value.ownBlock] at hp, by omega⟩
  case round =>
    clear X1
    obtain ⟨k, ol, hk, hol, rfl, hx, ho, hne, hol2⟩ := hrel
    have X := hid hx
    have O := hid ho
    have NE := hid hne
    have HK := hid hk
    have HO := hid hol
    obtain ⟨oa, oc, rfl⟩ := own_sl ho
    clear hx ho hne hk hol
    by_cases hlt : ol < N
    · have hlt' : (ol : Int) < (N : Int) := by omega
      have hkb : k ≤ 510 := Nat.le_trans HK.out HQ.out
      have hkq := hid (qp_lt a N k (by rw [HS.out, HO.out]; exact hlt))
      have P := hid (eblock X.out ns C (k + 1) _ f HR2.out hns hC1 hC2 hn (evsP a (kevP a HP.out np) _) (by
        have h1 := bes_fine a (kevP a HP.out np) ns C k (by have := HF.out; omega) hns hC2 (by have := HK.out; have := HQ.out; omega)
        have := HF.out
        omega))
      rw [show ((k + 1 : Nat) : Int) = (k : Int) + 1 from rfl, HKK.out, HS.out, evs_add, ← Nat.succ_mul] at P
      go_wp2_with fail
      refine P.out.mono ?_
      rintro e w2 ⟨u, rfl, hu, hx, hko⟩
      have U2 := hid hu
      have X2 := hid hx
      have O2 := hid (hko.1 _ _ _ _ O.out)
      have Z2 := hid (show w.heap.size ≤ w2.heap.size from hx.kp.size)
      obtain ⟨ua, uc, rfl⟩ := own_sl hu
      clear hu hx hko P X O
      go_wp2_with (at_builtin; go_must (refine wpList_catS rfl _ _ rfl w.heap.size ol s _ _ _ _ rfl O2.out rfl U2.out.reads (by omega) Z2.out ?_))
      intro ov' w3 ho3 hk3 hs3
      have X3 := hid (X2.out.grow O2.out hk3 NE.out)
      have O3 := hid (show By.Own w3 w.heap.size ov' (ol + s) (dk a K ns f C) from own_congr ho3 (dk_b a K ns f C) (fun i hi => by
        have h := dk_cat a K ns f C k s (by rw [HS.out]; omega) i (by rw [HS.out, HO.out]; exact hi)
        rw [HS.out, HO.out] at h
        exact h))
      have N3 := hid (show ∀ p, ov'.ownBlock = some p → kv.ownBlock ≠ some p from fun p hp e => by
        rcases hs3 with h | h
        · exact NE.out p (h ▸ hp) e
        · have h1 := h p hp
          have h2 := own_lt X2.out.q.k p e
          omega)
      obtain ⟨na, nc, rfl⟩ := own_sl O3.out
      clear ho3 hk3 hs3 O2 X2 NE
      go_wp2_with fail
      exact ⟨⟨k + 1, ol + s, hkq.out, by rw [Nat.succ_mul, HO.out], by rfl, X3.out, O3.out, N3.out, by omega⟩, by simp [slen]; omega⟩
    · have hlt' : ¬ (ol : Int) < (N : Int) := by omega
      have EQ := hid (show qp a N = k by
        apply Classical.byContradiction
        intro h
        have h1 := HK.out
        have h2 := qp_spec a N
        have h3 : (k + 1) * sz a ≤ qp a N * sz a := Nat.mul_le_mul_right _ (by have : ¬ qp a N = k := h; omega)
        have h4 : (k + 1) * sz a = k * sz a + sz a := Nat.succ_mul _ _
        have h5 := HO.out
        have h6 := HS.out
        rw [h6] at h2 h3 h4
        omega)
      have hoc := rb_cap O.out.reads
      have hsl := fun W => psub_h oa ol oc N W (by omega) hoc
      go_wp2
      go_ret2
      have x := X.out
      rw [← EQ.out] at x
      exact ⟨_, rfl, ⟨oa, ol, oc, rfl, by omega, O.out⟩, x.rl, x.kp⟩
theorem dkey_any (a : Bool) (mb np ns : Nat) (c n : Int) (rv v v2 : Value) (g f : Nat → Int) (L : List Rn) (w : World) (h : RLed w mb rv L) (hr : ∀ w', Kp (SM mb rv) w w' → By.RB w' v np g) (hr2 : ∀ w', Kp (SM mb rv) w w' → By.RB w' v2 ns f) (hn : np ≤ 140737488352328) (hns : kok c n → ns ≤ 1000000) (ht : tq L ≤ 900000000) :
    Calls Tryz.prog 9 #[.pointer (some ⟨mb, 0, none⟩), .int .u8 (an a), v, v2, .int .i64 c, .int .i64 n] w fun e w' => ∃ u, e = .returned (.tuple #[u, .int .i64 (kc c n)]) ∧ OwnF w' w.heap.size u (kN c n) (dk a (kb a np g) ns f c.toNat) ∧ RW w w' mb rv (kl a L np ns c n) := by
  by_cases hh : kok c n
  · have hs := hns hh
    rw [kc_ok hh, show kN c n = n.toNat from if_pos hh, show kl a L np ns c n = del a L np ns c.toNat (qp a n.toNat) from if_pos hh]
    have h' := hh
    unfold kok at h'
    obtain ⟨N, rfl⟩ : ∃ N : Nat, n = N := ⟨n.toNat, by omega⟩
    obtain ⟨C, rfl⟩ : ∃ C : Nat, c = C := ⟨c.toNat, by omega⟩
    exact dkey_ok a mb np ns C N rv v v2 g f L w h hr hr2 hn hs (by omega) (by omega) (by omega) ht
  · refine (dkey_bad a c n hh _ v v2 w).mono ?_
    rintro e w' ⟨rfl, rfl⟩
    exact ⟨_, rfl, by rw [show kN c n = 0 from if_neg hh]; exact ownf_own (own_nil _ _ _ (dk_b _ _ _ _ _)), by rw [show kl a L np ns c n = L from if_neg hh]; exact RW.refl h⟩
theorem dblk_any (a : Bool) (mb np ns : Nat) (c i : Int) (rv v v2 : Value) (g f : Nat → Int) (L : List Rn) (w : World) (h : RLed w mb rv L) (hr : ∀ w', Kp (SM mb rv) w w' → By.RB w' v np g) (hr2 : ∀ w', Kp (SM mb rv) w w' → By.RB w' v2 ns f) (hn : np ≤ 140737488352328) (hns : iok c i → ns ≤ 1000000) (ht : tq L ≤ 900000000) :
    Calls Tryz.prog 18 #[.pointer (some ⟨mb, 0, none⟩), .int .u8 (an a), v, v2, .int .i64 c, .int .i64 i] w fun e w' => ∃ u, e = .returned (.tuple #[u, .int .i64 (ic c i)]) ∧ OwnF w' w.heap.size u (iN a c i) (xs a (kb a np g) ns f i.toNat (c.toNat - 1)) ∧ RW w w' mb rv (il a L np ns c i) := by
  by_cases hh : iok c i
  · have hs := hns hh
    rw [ic_ok hh, show iN a c i = sz a from if_pos hh, show il a L np ns c i = del a L np ns c.toNat 1 from if_pos hh]
    have h' := hh
    unfold iok at h'
    obtain ⟨N, rfl⟩ : ∃ N : Nat, i = N := ⟨i.toNat, by omega⟩
    obtain ⟨C, rfl⟩ : ∃ C : Nat, c = C := ⟨c.toNat, by omega⟩
    refine (dblk_ok a mb np ns C N rv v v2 g f L w h hr hr2 hn hs (by omega) (by omega) (by omega) (by omega) ht).mono ?_
    rintro e w' ⟨u, rfl, g1, g2⟩
    exact ⟨u, rfl, ownf_own g1, g2⟩
  · refine (dblk_bad a c i hh _ v v2 w).mono ?_
    rintro e w' ⟨rfl, rfl⟩
    exact ⟨_, rfl, by rw [show iN a c i = 0 from if_neg hh]; exact ownf_own (own_nil _ _ _ (xs_b _ _ _ _ _ _)), by rw [show il a L np ns c i = L from if_neg hh]; exact RW.refl h⟩
end Go.Proofs.YtjhhnajgfngbhaaGreatDoor.Dg
