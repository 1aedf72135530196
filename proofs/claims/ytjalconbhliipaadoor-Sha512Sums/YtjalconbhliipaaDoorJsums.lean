/- The document's function Sum, and the law Sha512Sums, walked. -/
import Derived.Test.YtjalconbhliipaaDoorEdig
import Derived.Test.YtjalconbhliipaaDoorJgen
namespace Go.Proofs.YtjalconbhliipaaDoor.Sg
open Go.ChangeShapes Go.WideShapes Go.ChangeAt Go.RowKit
open Go.Proofs.YtjalconbhliipaaDoor.By Go.Proofs.YtjalconbhliipaaDoor.Wd

theorem last51 (n : Nat) (w : World) (hn : n ≤ 281474976710656) : Calls Tryd.prog 51 #[.int .i64 n] w fun e w' => e = .returned (.int .i64 (last n)) ∧ w' = w := by
  by_cases h : n % 128 < 112
  · have h1 : (n : Int) % 128 < 112 := by omega
    have e : last n = 1 := by unfold last zs; omega
    go_enter Tryd.func51, Tryd.ntmps51
    go_wp2
    go_ret
    exact ⟨by rw [e]; rfl, rfl⟩
  · have h1 : ¬ (n : Int) % 128 < 112 := by omega
    have e : last n = 2 := by unfold last zs; omega
    go_enter Tryd.func51, Tryd.ntmps51
    go_wp2
    go_ret
    exact ⟨rfl, rfl⟩
theorem noteTimes0 (b : Nat) (k s : Int) (w : World) :
    Calls Tryd.prog 62 #[.pointer (some ⟨b, 0, none⟩), .agg #[.int .u8 k, .int .i64 s], .int .i64 0] w fun e w' => e = .returned (.tuple #[]) ∧ Below w.heap.size w w' := by
  have HA := hid (below_alloc w (.cells #[.int .u8 k, .int .i64 s] 69))
  go_enter Tryd.func62, Tryd.ntmps62
  go_wp2
  refine bodyPost_ret (results_none rfl _ _ _) rfl ?_
  exact ⟨rfl, HA.out⟩
/-- The document's ledger, if there is one, has n events more. -/
theorem blocks50 (b n : Nat) (rv : Value) (L : List Rn) (w : World) (h : RLed w b rv L) (hn : 0 < n) (hn2 : n ≤ 1152921504606846976) (hw : Wide L) :
    Calls Tryd.prog 50 #[.pointer (some ⟨b, 0, none⟩), .int .i64 n] w fun e w' => e = .returned (.tuple #[]) ∧ ∃ rv', RLed w' b rv' (evs512 L n) ∧ Kp (fun j => j = b ∨ rv.ownBlock = some j) w w' ∧ SameOrNew w rv rv' := by
  have H := hid h
  have hA := below_alloc w (.cells #[.int .u8 2, .int .i64 128] 69)
  have HA := hid hA
  have h1 := hw.1
  have h2 := hw.2
  clear hA h
  go_enter Tryd.func50, Tryd.ntmps50
  go_wp2_with fail
  obtain ⟨p, rfl⟩ : ∃ p, n = p + 1 := ⟨n - 1, by omega⟩
  refine (refNoteTimes45 b rv L 2 128 ((p + 1 : Nat) : Int) _ H.out ⟨by show (0 : Int) ≤ 2 ∧ (2 : Int) < 256; decide, by show (-9223372036854775808 : Int) ≤ 128 ∧ (128 : Int) ≤ 9223372036854775807; decide, by show -9223372036854775808 ≤ ((p + 1 : Nat) : Int) ∧ ((p + 1 : Nat) : Int) ≤ 9223372036854775807; omega⟩ (by omega) (by omega) (by omega)).mono ?_
  rintro e w3 ⟨rfl, rv3, hl3, hk3, hs3⟩
  rw [putL_many L H.out.pos p (by omega)] at hl3
  have R := hid (show RLed w3 b rv3 (evs512 L (p + 1)) ∧ Kp (fun j => j = b ∨ rv.ownBlock = some j) w w3 ∧ SameOrNew w rv rv3 from ⟨hl3, hk3, hs3⟩)
  clear hl3 hk3 hs3
  go_wp2
  go_end0
  exact ⟨rfl, rv3, R.out⟩
theorem blocks50z (b : Nat) (w : World) :
    Calls Tryd.prog 50 #[.pointer (some ⟨b, 0, none⟩), .int .i64 0] w fun e w' => e = .returned (.tuple #[]) ∧ Below w.heap.size w w' := by
  go_enter Tryd.func50, Tryd.ntmps50
  go_wp2_with fail
  refine (noteTimes0 b 2 128 w).mono ?_
  rintro e w3 ⟨rfl, hb⟩
  have B := hid hb
  clear hb
  go_wp2
  go_end0
  exact ⟨rfl, B.out⟩
set_option maxRecDepth 4000 in
set_option maxHeartbeats 800000 in
theorem rsum23 (b m : Nat) (v : Value) (f : Nat → Int) (rv : Value) (L : List Rn) (w : World) (h : RLed w b rv L) (hw : Wide L) (hr : ∀ w', Kp (fun j => j = b ∨ rv.ownBlock = some j) w w' → By.RB w' v m f) (hm : m ≤ 140737488351232) :
    Calls Tryd.prog 23 #[.pointer (some ⟨b, 0, none⟩), v] w fun e w' => ∃ u rv', e = .returned u ∧ By.Own w' w.heap.size u 64 (dig m f) ∧ RLed w' b rv' (evs512 L (m / 128 + last m)) ∧ SameOrNew w rv rv' ∧ Kp (fun j => j = b ∨ rv.ownBlock = some j) w w' := by
  have HL := hid h
  have HR := hid hr
  have HW := hid hw
  obtain ⟨a, cap, rfl⟩ : ∃ a cap, v = .slice a m cap := by obtain ⟨_, a, cap, e, _⟩ := hr w (Kp.refl _ _); exact ⟨a, cap, e⟩
  have hl1 : Hid (1 ≤ last m ∧ last m ≤ 2) := by show 1 ≤ last m ∧ last m ≤ 2; unfold last zs; omega
  clear h hr hw
  go_enter Tryd.func23, Tryd.ntmps23
  go_wp2_with fail
  refine (last51 m _ (by omega)).mono ?_
  rintro e w ⟨rfl, rfl⟩
  obtain ⟨q, hq⟩ : ∃ q, last m = q := ⟨_, rfl⟩
  have HQ := hid hq
  rw [hq] at hl1
  rw [hq]
  clear hq
  have l2 := hl1.out.2
  go_wp2_with fail
  rw [show (m : Int) / 128 + (q : Int) = ((m / 128 + q : Nat) : Int) from by omega]
  refine (blocks50 b (m / 128 + q) rv L _ HL.out (by have := hl1.out; omega) (by omega) HW.out).mono ?_
  rintro e w3 ⟨rfl, rv3, hl3, hk3, hs3⟩
  have L3 := hid hl3
  rw [← HQ.out] at L3
  have K3 := hid hk3
  have O3 := hid hs3
  clear hl3 hk3 hs3
  go_wp2_with fail
  refine (digest52 m _ f _ (HR.out _ K3.out) hm).mono ?_
  rintro e w4 ⟨u4, rfl, hu, hb⟩
  have U4 := hid (own_mono hu K3.out.size)
  have K4 := hid (K3.out.trans (Kp.of_below _ hb) (fun _ _ e => e))
  have L4 := hid (L3.out.below hb)
  clear hu hb
  go_wp2
  go_ret
  exact ⟨_, _, rfl, U4.out, L4.out, O3.out, K4.out⟩

theorem apart3 (B n : Nat) (a b c : Value) (f g h : Nat → Int) (w : World) (ha : By.Own w B a n f) (hb : By.Own w B b 64 g) (hc : By.Own w B c 64 h) (hn : n ≤ 140737488355000) (h1 : a.ownBlock ≠ b.ownBlock) (h2 : a.ownBlock ≠ c.ownBlock) (h3 : b.ownBlock ≠ c.ownBlock) (hB : B ≤ w.heap.size) :
    Calls Tryd.prog 20 #[.slice (some ⟨w.heap.size, 0, none⟩) 3 3] (w.alloc (.cells #[a, b, c] 41)) fun e w' => e = .returned (.bool true) ∧ Below B (w.alloc (.cells #[a, b, c] 41)) w' := by
  have ha' := own_below ha (below_alloc w (.cells #[a, b, c] 41))
  have hb' := own_below hb (below_alloc w (.cells #[a, b, c] 41))
  have hc' := own_below hc (below_alloc w (.cells #[a, b, c] 41))
  have bz := Blk.newAt w #[a, b, c] [a, b, c] 41 w.heap.size rfl rfl
  have lt1 : ∀ (v : Value) (k : Nat) (h : Nat → Int), By.Own w B v k h → v.ownBlock ≠ some w.heap.size := by
    intro v k h ho e
    obtain ⟨cs, hc⟩ := own8_type ho e
    have := (Array.getElem?_eq_some_iff.1 hc).1
    omega
  refine By.apart30 B 3 w.heap.size 3 (fun j => if j = 0 then a else if j = 1 then b else c) (fun j => if j = 0 then n else 64) (fun j => if j = 0 then f else if j = 1 then g else h) _ ⟨?_, ?_⟩ ⟨?_, ?_⟩ ?_ (by omega) (by omega) (fun j _ => by split <;> omega) (by rw [size_alloc]; omega)
  · intro i j hi hj hij
    right
    match i, j, hi, hj, hij with
    | 0, 1, _, _, _ => exact h1
    | 1, 0, _, _, _ => exact fun e => h1 e.symm
    | 0, 2, _, _, _ => exact h2
    | 2, 0, _, _, _ => exact fun e => h2 e.symm
    | 1, 2, _, _, _ => exact h3
    | 2, 1, _, _, _ => exact fun e => h3 e.symm
    | 0, 0, _, _, h => exact absurd rfl h
    | 1, 1, _, _, h => exact absurd rfl h
    | 2, 2, _, _, h => exact absurd rfl h
  · intro j hj
    match j, hj with
    | 0, _ => exact lt1 a n f ha
    | 1, _ => exact lt1 b 64 g hb
    | 2, _ => exact lt1 c 64 h hc
  · intro j hj
    match j, hj with
    | 0, _ => exact ha'
    | 1, _ => exact hb'
    | 2, _ => exact hc'
  · intro j hj
    match j, hj with
    | 0, _ => exact bz.cell 0 _ rfl
    | 1, _ => exact bz.cell 1 _ rfl
    | 2, _ => exact bz.cell 2 _ rfl
  · intro j i
    by_cases q : j = 0
    · simp only [q, if_true]; exact ha.1 i
    · by_cases q2 : j = 1
      · simp only [q2, if_true]; exact hb.1 i
      · simp only [q, q2, if_false]; exact hc.1 i
/-- Lists that were there ahead of one another are no one another. -/
theorem own_ne {w w' : World} {B B' n m : Nat} {u v : Value} {f g : Nat → Int} (hu : By.Own w B u n f) (hn : 0 < n) (hv : By.Own w' B' v m g) (hB : w.heap.size ≤ B') : u.ownBlock ≠ v.ownBlock := fun e => by
  obtain ⟨g5, c5, e5, -⟩ := own_cells hu hn
  have q5 : u.ownBlock = some g5 := by rw [e5]; rfl
  have := (Array.getElem?_eq_some_iff.1 (own8_type hu q5).choose_spec).1
  have := own_row hv g5 (by rw [← e]; exact q5)
  omega
theorem own_grown {w w' : World} {base n : Nat} {v : Value} {f : Nat → Int} {r : Option Nat} (h : By.Own w base v n f) (hg : w.grownBy w' r) (hne : v.ownBlock ≠ r) : By.Own w' base v n f :=
  own_kept h (Kp.of_grown hg) (fun q hq e => hne (by rw [hq]; exact e.symm))
theorem led_grown {w w' : World} {lb : Nat} {rv : Value} {L : List Rn} {g n base : Nat} {v : Value} {f : Nat → Int} (h : Led w lb rv L) (ho : By.Own w base v n f) (hv : v.ownBlock = some g) (hg : w.grownBy w' (some g)) : Led w' lb rv L := by
  obtain ⟨cs, hc⟩ := own8_type ho hv
  have key := led_apart h (g := g) (cs := cs.toList) (t := 5) (by show w.heap[g]? = _; rw [hc]) (by decide) (by decide)
  exact h.kept (Kp.of_grown hg) (fun e => key (.inl (Option.some.inj e))) (fun q hq e => key (.inr (by rw [hq]; exact e.symm)))
theorem rled_grown {w w' : World} {lb : Nat} {rv : Value} {L : List Rn} {g n base : Nat} {v : Value} {f : Nat → Int} (h : RLed w lb rv L) (ho : By.Own w base v n f) (hv : v.ownBlock = some g) (hg : w.grownBy w' (some g)) : RLed w' lb rv L := by
  obtain ⟨cs, hc⟩ := own8_type ho hv
  refine h.kept (Kp.of_grown hg) (fun e => ?_) (fun q hq e => ?_)
  · have e' : g = lb := Option.some.inj e
    subst e'
    have := Option.some.inj (hc.symm.trans h.here)
    simp at this
  · have e' : g = q := Option.some.inj e
    subst e'
    obtain ⟨cs', hc'⟩ := own_type h.own hq
    have := Option.some.inj (hc.symm.trans hc')
    simp at this
set_option maxRecDepth 4000 in
set_option maxHeartbeats 1200000 in
theorem sums_walk (a : Option Addr) (n cap : Nat) (f : Nat → Int) (w : World) (hr : By.RB w (.slice a n cap) n f) (hk : KT w) (hn : n ≤ 140737488351232) :
    Calls Tryd.prog 4 #[.slice a n cap] w fun e w' => e = .returned (.bool true) ∧ Below w.heap.size w w' := by
  have HR := hid hr
  have HK := hid hk
  have H0 := hid hk.lt
  clear hr hk
  go_enter Tryd.func4, Tryd.ntmps4
  go_wp2_with fail
  refine (new9 _).mono ?_
  rintro e w1 ⟨rfl, hl, hb⟩
  have L1 := hid hl
  have b1 := hid hb
  clear hl hb
  go_wp2_with fail
  refine (refNew10 _).mono ?_
  rintro e w2 ⟨rfl, hl, hb⟩
  have L2 := hid (L1.out.below hb)
  have R2 := hid hl
  have b2 := hid (below_next b1.out hb)
  clear hl hb L1
  go_wp2_with fail
  refine (lent14 _ n f _ (HR.out.below b2.out) (by omega)).mono ?_
  rintro e w3 ⟨v3, rfl, hu, hb⟩
  obtain ⟨gf, cf, rfl, -⟩ := own_cells hu (by omega)
  have F3 := hid (own_mono hu b2.out.size)
  have hcf := rb_cap hu.reads
  have hcf' : (n : Int) ≤ cf := by omega
  have L3 := hid (L2.out.below hb)
  have R3 := hid (R2.out.below hb)
  have b3 := hid (below_next b2.out hb)
  clear hu hb L2 R2
  go_wp2_with fail
  refine (sum_led2 w.heap.size w.heap.size n _ (lent n f) _ [] _ (HK.out.below b3.out) H0.out b3.out.size L3.out (Nat.le_refl _) (fun q hq => by simp [Value.ownBlock] at hq) (fun w' hk' => (own_led F3.out L3.out hk' (fun _ _ e => e)).reads.first n (by omega)) (by omega) wide_nil).mono ?_
  rintro e w5 ⟨u5, rv5, rfl, hu, hl, -, hk5, hb⟩
  rw [lent_dig] at hu
  have ne1 := hid (own_ne F3.out (by omega) hu (Nat.le_refl _))
  have U5 := hid hu
  have L5 := hid hl
  have F5 := hid (own_led F3.out L3.out hk5 (fun _ _ e => e))
  have R5 := hid (rled_led R3.out L3.out hk5)
  have b5 := hid (b3.out.trans hb)
  have k5 := hid (HK.out.below b5.out)
  clear hu hl hk5 hb F3 L3 R3
  go_wp2_with fail
  refine (sum23 n _ (lent n f) none [] (fun _ => False) _ k5.out (fun e => e) (lg_nil _ _) pos_nil' (fun w' h' => (own_below F5.out (below_kp h')).reads.first n (by omega)) (by omega) wide_nil).mono ?_
  rintro e w6 ⟨u6, rfl, hu, -, hk6⟩
  rw [lent_dig] at hu
  have hb := below_kp hk6
  have ne2 := hid (own_ne F5.out (by omega) hu (Nat.le_refl _))
  have ne3 := hid (own_ne U5.out (by omega) hu (Nat.le_refl _))
  have U6 := hid hu
  have V5 := hid (own_below U5.out hb)
  have L6 := hid (L5.out.below hb)
  have F6 := hid (own_below F5.out hb)
  have R6 := hid (R5.out.below hb)
  have b6 := hid (b5.out.trans (hb.mono b5.out.size))
  have z1 := hid b1.out.size
  clear hu hk6 hb L5 F5 R5
  go_wp2_with fail
  refine (rsum23 w1.heap.size n _ f _ [] _ R6.out wide_nil (fun w' hk' => HR.out.below (b6.out.trans (hk'.below b6.out.size (fun k hk e => by rcases e with e | e; have := z1.out; omega; simp [Value.ownBlock] at e)))) hn).mono ?_
  rintro e w7 ⟨u7, rv7, rfl, hu, hl, -, hk7'⟩
  have hk7 := hk7'.mono (T := fun j => j = w1.heap.size) (fun k _ e => by rcases e with e | e; exact e; simp [Value.ownBlock] at e)
  have ne7 := hid (own_ne F6.out (by omega) hu (Nat.le_refl _))
  have U7 := hid hu
  have R7 := hid hl
  have W5 := hid (own_rled V5.out R6.out hk7)
  have W6 := hid (own_rled U6.out R6.out hk7)
  have F7 := hid (own_rled F6.out R6.out hk7)
  have L7 := hid (led_rled L6.out R6.out hk7)
  have b7 := hid (b6.out.trans (hk7.below b6.out.size (fun k hk e => by have : k = w1.heap.size := e; have := z1.out; omega)))
  have z3 := hid b3.out.size
  have z5 := hid b5.out.size
  have z6 := hid b6.out.size
  clear hu hl hk7 hk7' V5 U6 F6 L6 R6
  go_wp2_with fail
  refine (kept17 _ _ n f _ F7.out.reads (HR.out.below b7.out) (by omega)).mono ?_
  rintro e w8 ⟨rfl, hb⟩
  have V5 := hid (own_below (own_mono W5.out z3.out) hb)
  have V6 := hid (own_below (own_mono W6.out z5.out) hb)
  have V7 := hid (own_below (own_mono U7.out z6.out) hb)
  have F8 := hid (own_below F7.out hb)
  have L8 := hid (L7.out.below hb)
  have R8 := hid (R7.out.below hb)
  have b8 := hid (b7.out.trans (hb.mono b7.out.size))
  clear hb W5 W6 U7 F7 L7 R7
  go_wp2_with fail
  refine (over18 gf cf (n + 6) w.heap.size _ _ F8.out (by omega)).mono ?_
  rintro e w9 ⟨rfl, ho, hg⟩
  have X5 := hid (own_grown V5.out hg (fun e => ne1.out e.symm))
  have X6 := hid (own_grown V6.out hg (fun e => ne2.out e.symm))
  have X7 := hid (own_grown V7.out hg (fun e => ne7.out e.symm))
  have LX := hid (led_grown L8.out F8.out rfl hg)
  have RX := hid (rled_grown R8.out F8.out rfl hg)
  have bX := hid (b8.out.grown hg b8.out.size (fun q hq => by have := own_row F8.out q hq; omega))
  have FX := hid ho
  clear ho hg V5 V6 V7 F8 L8 R8 b8
  go_wp2_with fail
  refine (same_true _ _ 64 _ _ _ X5.out.reads X7.out.reads (by omega) (fun _ _ => rfl)).mono ?_
  rintro e w10 ⟨rfl, d9, rfl⟩
  go_wp2_with fail
  refine (same_true _ _ 64 _ _ _ (X6.out.reads.drewN d9) (X7.out.reads.drewN d9) (by omega) (fun _ _ => rfl)).mono ?_
  rintro e w11 ⟨rfl, d10, rfl⟩
  obtain ⟨X, hX⟩ : ∃ x, (w9.drewN d9).drewN d10 = x := ⟨_, rfl⟩
  have hbx : Below w9.heap.size w9 X := by rw [← hX]; exact below_drew' (below_drewN w9 d9) d10
  rw [hX]
  clear hX
  have Y5 := hid (own_below X5.out hbx)
  have Y6 := hid (own_below X6.out hbx)
  have FY := hid (own_below FX.out hbx)
  have LY := hid (LX.out.below hbx)
  have RY := hid (RX.out.below hbx)
  have bY := hid (bX.out.trans (hbx.mono bX.out.size))
  obtain ⟨M, hM⟩ : ∃ M, evs512 [] (n / 128 + last n) = M := ⟨_, rfl⟩
  have hMl : Hid (M.length ≤ 1) := by show M.length ≤ 1; rw [← hM]; exact evs512_len pos_nil' _
  rw [hM] at LY RY
  clear hbx hM X5 X6 X7 LX RX FX bX
  go_wp2_with fail
  refine (runs22 _ _ _ _ LY.out (by have := hMl.out; omega)).mono ?_
  rintro e w12 ⟨r11, rfl, hu, hb⟩
  have A11 := hid hu
  have Z5 := hid (own_below Y5.out hb)
  have Z6 := hid (own_below Y6.out hb)
  have FZ := hid (own_below FY.out hb)
  have RZ := hid (RY.out.below hb)
  have bZ := hid (bY.out.trans (hb.mono bY.out.size))
  clear hu hb Y5 Y6 FY LY RY
  go_wp2_with fail
  refine (refRuns20 _ _ _ _ RZ.out (by have := hMl.out; omega)).mono ?_
  rintro e w13 ⟨r12, rfl, hu, hb⟩
  have A12 := hid hu
  have B12 := hid (A11.out.below hb)
  have Q5 := hid (own_below Z5.out hb)
  have Q6 := hid (own_below Z6.out hb)
  have FQ := hid (own_below FZ.out hb)
  have bQ := hid (bZ.out.trans (hb.mono bZ.out.size))
  clear hu hb Z5 Z6 FZ RZ A11
  go_wp2_with fail
  refine (same14 _ _ M M _ B12.out.reads A12.out.reads (by have := hMl.out; omega) (by have := hMl.out; omega)).mono ?_
  rw [decide_eq_true (show M = M from rfl)]
  rintro e w14 ⟨rfl, d13, rfl⟩
  obtain ⟨Q, hQ⟩ : ∃ x, w13.drewN d13 = x := ⟨_, rfl⟩
  have hbq : Below w13.heap.size w13 Q := by rw [← hQ]; exact below_drewN w13 d13
  rw [hQ]
  clear hQ
  have P5 := hid (own_below Q5.out hbq)
  have P6 := hid (own_below Q6.out hbq)
  have FP := hid (own_below FQ.out hbq)
  have bP := hid (bQ.out.trans (hbq.mono bQ.out.size))
  clear hbq Q5 Q6 FQ A12 B12 U5
  obtain ⟨g5, c5, rfl, -⟩ := own_cells P5.out (by omega)
  obtain ⟨g6, c6, rfl, -⟩ := own_cells P6.out (by omega)
  go_wp2_with fail
  refine (apart3 w.heap.size (n + 6) _ _ _ _ _ _ Q FP.out P5.out P6.out (by omega) ne1.out ne2.out ne3.out bP.out.size).mono ?_
  rintro e w15 ⟨rfl, hb⟩
  have bE := hid ((bP.out.trans ((below_alloc Q (.cells #[.slice (some ⟨gf, 0, none⟩) (n + 6) cf, .slice (some ⟨g5, 0, none⟩) 64 c5, .slice (some ⟨g6, 0, none⟩) 64 c6] 41)).mono bP.out.size)).trans hb)
  clear hb
  go_wp2
  go_ret
  exact ⟨rfl, bE.out⟩
end Go.Proofs.YtjalconbhliipaaDoor.Sg
