/- The document's function Sum, and the law Sha512Sums, walked. -/
import Derived.Test.YtojldjckpjokcaaGreatDoorEdig
import Derived.Test.YtojldjckpjokcaaGreatDoorJgen
namespace Go.Proofs.YtojldjckpjokcaaGreatDoor.Sg
open Go.ChangeShapes Go.WideShapes Go.ChangeAt Go.RowKit
open Go.Proofs.YtojldjckpjokcaaGreatDoor.By Go.Proofs.YtojldjckpjokcaaGreatDoor.Wd

theorem last51 (n : Nat) (w : World) (hn : n ≤ 281474976710656) : Calls Tryz.prog 68 #[.int .i64 n] w fun e w' => e = .returned (.int .i64 (last n)) ∧ w' = w := by
  by_cases h : n % 128 < 112
  · have h1 : (n : Int) % 128 < 112 := by omega
    have e : last n = 1 := by unfold last zs; omega
    go_enter Tryz.func68, Tryz.ntmps68
    go_wp2
    go_ret
    exact ⟨by rw [e]; rfl, rfl⟩
  · have h1 : ¬ (n : Int) % 128 < 112 := by omega
    have e : last n = 2 := by unfold last zs; omega
    go_enter Tryz.func68, Tryz.ntmps68
    go_wp2
    go_ret
    exact ⟨rfl, rfl⟩
theorem noteTimes0 (b : Nat) (k s : Int) (w : World) :
    Calls Tryz.prog 62 #[.pointer (some ⟨b, 0, none⟩), .agg #[.int .u8 k, .int .i64 s], .int .i64 0] w fun e w' => e = .returned (.tuple #[]) ∧ Below w.heap.size w w' := by
  have HA := hid (below_alloc w (.cells #[.int .u8 k, .int .i64 s] 57))
  go_enter Tryz.func62, Tryz.ntmps62
  go_wp2
  refine bodyPost_ret (results_none rfl _ _ _) rfl ?_
  exact ⟨rfl, HA.out⟩
/-- The document's ledger, if there is one, has n events more. -/
theorem blocks50 (b n : Nat) (rv : Value) (L : List Rn) (w : World) (h : RLed w b rv L) (hn : 0 < n) (hn2 : n ≤ 1152921504606846976) (hw : Wide L) :
    Calls Tryz.prog 65 #[.pointer (some ⟨b, 0, none⟩), .int .i64 n] w fun e w' => e = .returned (.tuple #[]) ∧ ∃ rv', RLed w' b rv' (evs512 L n) ∧ Kp (fun j => j = b ∨ rv.ownBlock = some j) w w' ∧ SameOrNew w rv rv' := by
  have H := hid h
  have hA := below_alloc w (.cells #[.int .u8 2, .int .i64 128] 57)
  have HA := hid hA
  have h1 := hw.1
  have h2 := hw.2
  clear hA h
  go_enter Tryz.func65, Tryz.ntmps65
  go_wp2_with fail
  obtain ⟨p, rfl⟩ : ∃ p, n = p + 1 := ⟨n - 1, by omega⟩
  refine (refNoteTimes45 b rv L 2 128 ((p + 1 : Nat) : Int) _ H.out ⟨by show (0 : Int) ≤ 2 ∧ (2 : Int) < 256; decide, by show (-9223372036854775808 : Int) ≤ 128 ∧ (128 : Int) ≤ 9223372036854775807; decide, by show -9223372036854775808 ≤ ((p + 1 : Nat) : Int) ∧ ((p + 1 : Nat) : Int) ≤ 9223372036854775807; omega⟩ (by omega) (by omega) (by omega)).mono ?_
  rintro e w3 ⟨rfl, rv3, hl3, hk3, hs3⟩
  rw [putL_many L H.out.pos p (by omega)] at hl3
  have R := hid (show RLed w3 b rv3 (evs512 L (p + 1)) ∧ Kp (fun j => j = b ∨ rv.ownBlock = some j) w w3 ∧ SameOrNew w rv rv3 from ⟨hl3, hk3, hs3⟩)
  clear hl3 hk3 hs3
  go_wp2
  go_end0
  exact ⟨rfl, rv3, R.out⟩
theorem blocks50z (b : Nat) (w : World) :
    Calls Tryz.prog 65 #[.pointer (some ⟨b, 0, none⟩), .int .i64 0] w fun e w' => e = .returned (.tuple #[]) ∧ Below w.heap.size w w' := by
  go_enter Tryz.func65, Tryz.ntmps65
  go_wp2_with fail
  refine (noteTimes0 b 2 128 w).mono ?_
  rintro e w3 ⟨rfl, hb⟩
  have B := hid hb
  clear hb
  go_wp2
  go_end0
  exact ⟨rfl, B.out⟩
set_option maxRecDepth 4000 in
set_option maxHeartbeats 800000 in
theorem rsum23 (b m : Nat) (v : Value) (f : Nat → Int) (rv : Value) (L : List Rn) (w : World) (h : RLed w b rv L) (hw : Wide L) (hr : ∀ w', Kp (fun j => j = b ∨ rv.ownBlock = some j) w w' → By.RB w' v m f) (hm : m ≤ 140737488351232) :
    Calls Tryz.prog 54 #[.pointer (some ⟨b, 0, none⟩), v] w fun e w' => ∃ u rv', e = .returned u ∧ By.Own w' w.heap.size u 64 (dig m f) ∧ RLed w' b rv' (evs512 L (m / 128 + last m)) ∧ SameOrNew w rv rv' ∧ Kp (fun j => j = b ∨ rv.ownBlock = some j) w w' := by
  have HL := hid h
  have HR := hid hr
  have HW := hid hw
  obtain ⟨a, cap, rfl⟩ : ∃ a cap, v = .slice a m cap := by obtain ⟨_, a, cap, e, _⟩ := hr w (Kp.refl _ _); exact ⟨a, cap, e⟩
  have hl1 : Hid (1 ≤ last m ∧ last m ≤ 2) := by show 1 ≤ last m ∧ last m ≤ 2; unfold last zs; omega
  clear h hr hw
  go_enter Tryz.func54, Tryz.ntmps54
  go_wp2_with fail
  refine (last51 m _ (by omega)).mono ?_
  rintro e w ⟨rfl, rfl⟩
  obtain ⟨q, hq⟩ : ∃ q, last m = q := ⟨_, rfl⟩
  have HQ := hid hq
  rw [hq] at hl1
  rw [hq]
  clear hq
  have l2 := hl1.out.2
  go_wp2_with fail
  rw [show (m : Int) / 128 + (q : Int) = ((m / 128 + q : Nat) : Int) from by omega]
  refine (blocks50 b (m / 128 + q) rv L _ HL.out (by have := hl1.out; omega) (by omega) HW.out).mono ?_
  rintro e w3 ⟨rfl, rv3, hl3, hk3, hs3⟩
  have L3 := hid hl3
  rw [← HQ.out] at L3
  have K3 := hid hk3
  have O3 := hid hs3
  clear hl3 hk3 hs3
  go_wp2_with fail
  refine (digest52 m _ f _ (HR.out _ K3.out) hm).mono ?_
  rintro e w4 ⟨u4, rfl, hu, hb⟩
  have U4 := hid (own_mono hu K3.out.size)
  have K4 := hid (K3.out.trans (Kp.of_below _ hb) (fun _ _ e => e))
  have L4 := hid (L3.out.below hb)
  clear hu hb
  go_wp2
  go_ret
  exact ⟨_, _, rfl, U4.out, L4.out, O3.out, K4.out⟩

theorem apart3 (B n : Nat) (a b c : Value) (f g h : Nat → Int) (w : World) (ha : By.Own w B a n f) (hb : By.Own w B b 64 g) (hc : By.Own w B c 64 h) (hn : n ≤ 140737488355000) (h1 : a.ownBlock ≠ b.ownBlock) (h2 : a.ownBlock ≠ c.ownBlock) (h3 : b.ownBlock ≠ c.ownBlock) (hB : B ≤ w.heap.size) :
    Calls Tryz.prog 17 #[.slice (some ⟨w.heap.size, 0, none⟩) 3 3] (w.alloc (.cells #[a, b, c] 41)) fun e w' => e = .returned (.bool true) ∧ Below B (w.alloc (.cells #[a, b, c] 41)) w' := by
  have ha' := own_below ha (below_alloc w (.cells #[a, b, c] 41))
  have hb' := own_below hb (below_alloc w (.cells #[a, b, c] 41))
  have hc' := own_below hc (below_alloc w (.cells #[a, b, c] 41))
  have bz := Blk.newAt w #[a, b, c] [a, b, c] 41 w.heap.size rfl rfl
  have lt1 : ∀ (v : Value) (k : Nat) (h : Nat → Int), By.Own w B v k h → v.ownBlock ≠ some w.heap.size := by
    intro v k h ho e
    obtain ⟨cs, hc⟩ := own8_type ho e
    have := (Array.getElem?_eq_some_iff.1 hc).1
    omega
  refine By.apart30 B 3 w.heap.size 3 (fun j => if j = 0 then a else if j = 1 then b else c) (fun j => if j = 0 then n else 64) (fun j => if j = 0 then f else if j = 1 then g else h) _ ⟨?_, ?_⟩ ⟨?_, ?_⟩ ?_ (by omega) (by omega) (fun j _ => by split <;> omega) (by rw [size_alloc]; omega)
  · intro i j hi hj hij
    right
    match i, j, hi, hj, hij with
    | 0, 1, _, _, _ => exact h1
    | 1, 0, _, _, _ => exact fun e => h1 e.symm
    | 0, 2, _, _, _ => exact h2
    | 2, 0, _, _, _ => exact fun e => h2 e.symm
    | 1, 2, _, _, _ => exact h3
    | 2, 1, _, _, _ => exact fun e => h3 e.symm
    | 0, 0, _, _, h => exact absurd rfl h
    | 1, 1, _, _, h => exact absurd rfl h
    | 2, 2, _, _, h => exact absurd rfl h
  · intro j hj
    match j, hj with
    | 0, _ => exact lt1 a n f ha
    | 1, _ => exact lt1 b 64 g hb
    | 2, _ => exact lt1 c 64 h hc
  · intro j hj
    match j, hj with
    | 0, _ => exact ha'
    | 1, _ => exact hb'
    | 2, _ => exact hc'
  · intro j hj
    match j, hj with
    | 0, _ => exact bz.cell 0 _ rfl
    | 1, _ => exact bz.cell 1 _ rfl
    | 2, _ => exact bz.cell 2 _ rfl
  · intro j i
    by_cases q : j = 0
    · simp only [q, if_true]; exact ha.1 i
    · by_cases q2 : j = 1
      · simp only [q2, if_true]; exact hb.1 i
      · simp only [q, q2, if_false]; exact hc.1 i
/-- Lists that were there ahead of one another are no one another. -/
theorem own_ne {w w' : World} {B B' n m : Nat} {u v : Value} {f g : Nat → Int} (hu : By.Own w B u n f) (hn : 0 < n) (hv : By.Own w' B' v m g) (hB : w.heap.size ≤ B') : u.ownBlock ≠ v.ownBlock := fun e => by
  obtain ⟨g5, c5, e5, -⟩ := own_cells hu hn
  have q5 : u.ownBlock = some g5 := by rw [e5]; rfl
  have := (Array.getElem?_eq_some_iff.1 (own8_type hu q5).choose_spec).1
  have := own_row hv g5 (by rw [← e]; exact q5)
  omega
theorem own_grown {w w' : World} {base n : Nat} {v : Value} {f : Nat → Int} {r : Option Nat} (h : By.Own w base v n f) (hg : w.grownBy w' r) (hne : v.ownBlock ≠ r) : By.Own w' base v n f :=
  own_kept h (Kp.of_grown hg) (fun q hq e => hne (by rw [hq]; exact e.symm))
theorem led_grown {w w' : World} {lb : Nat} {rv : Value} {L : List Rn} {g n base : Nat} {v : Value} {f : Nat → Int} (h : Led w lb rv L) (ho : By.Own w base v n f) (hv : v.ownBlock = some g) (hg : w.grownBy w' (some g)) : Led w' lb rv L := by
  obtain ⟨cs, hc⟩ := own8_type ho hv
  have key := led_apart h (g := g) (cs := cs.toList) (t := 5) (by show w.heap[g]? = _; rw [hc]) (by decide) (by decide)
  exact h.kept (Kp.of_grown hg) (fun e => key (.inl (Option.some.inj e))) (fun q hq e => key (.inr (by rw [hq]; exact e.symm)))
theorem rled_grown {w w' : World} {lb : Nat} {rv : Value} {L : List Rn} {g n base : Nat} {v : Value} {f : Nat → Int} (h : RLed w lb rv L) (ho : By.Own w base v n f) (hv : v.ownBlock = some g) (hg : w.grownBy w' (some g)) : RLed w' lb rv L := by
  obtain ⟨cs, hc⟩ := own8_type ho hv
  refine h.kept (Kp.of_grown hg) (fun e => ?_) (fun q hq e => ?_)
  · have e' : g = lb := Option.some.inj e
    subst e'
    have := Option.some.inj (hc.symm.trans h.here)
    simp at this
  · have e' : g = q := Option.some.inj e
    subst e'
    obtain ⟨cs', hc'⟩ := own_type h.own hq
    have := Option.some.inj (hc.symm.trans hc')
    simp at this
end Go.Proofs.YtojldjckpjokcaaGreatDoor.Sg
