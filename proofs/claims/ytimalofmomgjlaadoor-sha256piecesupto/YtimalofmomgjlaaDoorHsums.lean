/- The document's function Sum, and the law Sha256Sums, walked. -/
import Derived.Test.YtimalofmomgjlaaDoorDsum
import Derived.Test.YtimalofmomgjlaaDoorHnames
import Derived.Test.YtimalofmomgjlaaDoorBapart
namespace Go.Proofs.YtimalofmomgjlaaDoor.Sh
open Go.ChangeShapes Go.WideShapes Go.ChangeAt Go.RowKit
open Go.Proofs.YtimalofmomgjlaaDoor.By Go.Proofs.YtimalofmomgjlaaDoor.Wd

theorem put_nil (r : Rn) (h : 1 ≤ r.c) : putL [] r = [r] := by simp [putL]; omega
def blocks (m : Nat) : Nat := (m + (1 + zs m + 8)) / 64
theorem blocks_pos (m : Nat) : 1 ≤ blocks m := by unfold blocks zs; omega
theorem blocks_last (m : Nat) : m / 64 + last m = blocks m := by unfold blocks last; omega
theorem evs_one (n : Nat) (h : n ≤ 1000000) : evs256 [] (n + 1) = [⟨1, 64, ((n + 1 : Nat) : Int)⟩] := by
  induction n with
  | zero => rfl
  | succ n ih =>
    rw [evs256, ih (by omega)]
    have e : sm ((n + 1 : Nat) : Int) 1 = ((n + 1 + 1 : Nat) : Int) := by unfold sm; rw [if_pos (by omega)]; omega
    show putL [⟨1, 64, ((n + 1 : Nat) : Int)⟩] ⟨1, 64, 1⟩ = _
    rw [← e]
    rfl
theorem dig_congr (m : Nat) (f g : Nat → Int) (h : ∀ i, i < m → f i = g i) : dig m f = dig m g := by
  have e : cat m f (endf m) = cat m g (endf m) := by
    funext i
    unfold cat
    split
    · exact h i (by assumption)
    · rfl
  unfold dig
  rw [e]
set_option maxRecDepth 4000 in
set_option maxHeartbeats 200000 in
theorem sum24 (b m : Nat) (v : Value) (f : Nat → Int) (w : World) (h : RLed w b (.slice none 0 0) []) (hr : ∀ w', Kp (fun j => j = b) w w' → By.RB w' v m f) (hm : m ≤ 900000) :
    Calls Tryd.prog 24 #[.pointer (some ⟨b, 0, none⟩), v] w fun e w' => ∃ u rv', e = .returned u ∧ By.Own w' w.heap.size u 32 (dig m f) ∧ RLed w' b rv' [⟨1, 64, (blocks m : Int)⟩] ∧ (∀ q, rv'.ownBlock = some q → w.heap.size ≤ q) ∧ Kp (fun j => j = b) w w' := by
  have HL := hid h
  have HR := hid hr
  have hN := hid (blocks_pos m)
  have hN2 : Hid (blocks m ≤ 100000) := by show blocks m ≤ 100000; unfold blocks zs; omega
  have hq : Hid (wrap64 (((m : Int) + (1 + (zs m : Int) + 8)).tdiv 64) = (blocks m : Int)) := by
    show wrap64 (((m : Int) + (1 + (zs m : Int) + 8)).tdiv 64) = (blocks m : Int)
    have e1 : ((m : Int) + (1 + (zs m : Int) + 8)).tdiv 64 = (blocks m : Int) := by rw [Int.tdiv_eq_ediv_of_nonneg (by omega)]; unfold blocks; omega
    have := hN2.out
    rw [e1]; unfold wrap64; omega
  clear h hr
  go_enter Tryd.func24, Tryd.ntmps24
  go_wp2_with fail
  refine (event52 _).mono ?_
  rintro e w1 ⟨rfl, hb⟩
  have b1 := hid hb
  clear hb
  go_wp2_with fail
  refine (padded53 m v f _ (HR.out _ (Kp.of_below _ b1.out)) hm).mono ?_
  rintro e w2 ⟨u2, rfl, hu, hb⟩
  obtain ⟨gu, cu, rfl, -⟩ := own_cells hu (by omega)
  have b2 := hid (below_next b1.out hb)
  clear hu hb
  go_wp2_with fail
  rw [hq.out]
  refine (refNoteTimes45 b _ [] 1 64 (blocks m) _ (HL.out.below b2.out) ⟨by show (0 : Int) ≤ 1 ∧ (1 : Int) < 256; decide, by show (-9223372036854775808 : Int) ≤ 64 ∧ (64 : Int) ≤ 9223372036854775807; decide, by show -9223372036854775808 ≤ (blocks m : Int) ∧ (blocks m : Int) ≤ 9223372036854775807; have := hN2.out; omega⟩ (by have := hN.out; omega) (by have := hN2.out; show (0 : Int) + blocks m ≤ _; omega) (by decide)).mono ?_
  rintro e w3 ⟨rfl, rv3, hl3, hk3, hs3⟩
  have L3 := hid (show RLed w3 b rv3 [⟨1, 64, (blocks m : Int)⟩] from by rw [← put_nil _ (by show (1 : Int) ≤ blocks m; have := hN.out; omega)]; exact hl3)
  have K3 := hid ((Kp.of_below (fun j => j = b) b2.out).trans hk3 (fun i _ e => by rcases e with e | e; exact e; simp [Value.ownBlock] at e))
  have O3 := hid (show ∀ q, rv3.ownBlock = some q → w.heap.size ≤ q from fun q hq => by
    rcases hs3 with e | e
    · rw [e] at hq; simp [Value.ownBlock] at hq
    · have := e q hq; have := b2.out.size; omega)
  clear hl3 hk3 hs3
  go_wp2_with fail
  refine (digest54 m v f _ (HR.out _ K3.out) hm).mono ?_
  rintro e w4 ⟨u4, rfl, hu, hb⟩
  have U4 := hid (own_mono hu K3.out.size)
  have K4 := hid (K3.out.trans (Kp.of_below _ hb) (fun _ _ e => e))
  have L4 := hid (L3.out.below hb)
  clear hu hb
  go_wp2
  go_ret
  exact ⟨_, _, rfl, U4.out, L4.out, O3.out, K4.out⟩

theorem apart2 (B : Nat) (a b : Value) (f g : Nat → Int) (w : World) (ha : By.Own w B a 32 f) (hb : By.Own w B b 32 g) (hne : a.ownBlock ≠ b.ownBlock) (hB : B ≤ w.heap.size) :
    Calls Tryd.prog 21 #[.slice (some ⟨w.heap.size, 0, none⟩) 2 2] (w.alloc (.cells #[a, b] 40)) fun e w' => e = .returned (.bool true) ∧ Below B (w.alloc (.cells #[a, b] 40)) w' := by
  have ha' := own_below ha (below_alloc w (.cells #[a, b] 40))
  have hb' := own_below hb (below_alloc w (.cells #[a, b] 40))
  have bz := Blk.newAt w #[a, b] [a, b] 40 w.heap.size rfl rfl
  have lt1 : ∀ (v : Value) (h : Nat → Int), By.Own w B v 32 h → v.ownBlock ≠ some w.heap.size := by
    intro v h ho e
    obtain ⟨cs, hc⟩ := own8_type ho e
    have := (Array.getElem?_eq_some_iff.1 hc).1
    omega
  refine By.apart30 B 2 w.heap.size 2 (fun j => if j = 0 then a else b) (fun _ => 32) (fun j => if j = 0 then f else g) _ ⟨?_, ?_⟩ ⟨?_, ?_⟩ ?_ (by omega) (by omega) (fun _ _ => by omega) (by rw [size_alloc]; omega)
  · intro i j hi hj hij
    right
    match i, j, hi, hj, hij with
    | 0, 1, _, _, _ => exact hne
    | 1, 0, _, _, _ => exact fun e => hne e.symm
    | 0, 0, _, _, h => exact absurd rfl h
    | 1, 1, _, _, h => exact absurd rfl h
  · intro j hj
    match j, hj with
    | 0, _ => exact lt1 a f ha
    | 1, _ => exact lt1 b g hb
  · intro j hj
    match j, hj with
    | 0, _ => exact ha'
    | 1, _ => exact hb'
  · intro j hj
    match j, hj with
    | 0, _ => exact bz.cell 0 _ rfl
    | 1, _ => exact bz.cell 1 _ rfl
  · intro j i
    by_cases h : j = 0
    · simp only [h, if_true]; exact ha.1 i
    · simp only [h, if_false]; exact hb.1 i
theorem SL_kp2 {w w' : World} {lb : Nat} {rv : Value} {B : Nat} (hk : Kp (SL lb rv) w w') (hB : B ≤ w.heap.size) (h1 : B ≤ lb) (h2 : ∀ g, rv.ownBlock = some g → B ≤ g) : Below B w w' :=
  hk.below hB (fun k hk e => by rcases e with e | e; omega; have := h2 k e; omega)
/-- sum23 with a ledger that lies at B or behind it: what it leaves. -/
theorem sum_led2 (B lb n : Nat) (v : Value) (g : Nat → Int) (rv : Value) (L : List Rn) (w : World) (hk : KT w) (hB : 0 < B) (hBw : B ≤ w.heap.size) (hl : Led w lb rv L) (h1 : B ≤ lb) (h2 : ∀ q, rv.ownBlock = some q → B ≤ q)
    (hr : ∀ w', Kp (SL lb rv) w w' → By.RB w' v n g) (hn : n ≤ 900000) (hroom : tot L ≤ 50000) :
    Calls Tryd.prog 23 #[lpv (some lb), v] w fun e w' => ∃ u rv', e = .returned u ∧ By.Own w' w.heap.size u 32 (dig n g) ∧ Led w' lb rv' (evs256 L (n / 64 + last n)) ∧ (∀ q, rv'.ownBlock = some q → B ≤ q) ∧ Kp (SL lb rv) w w' ∧ Below B w w' := by
  refine (sum23 n v g (some lb) L (SL lb rv) w hk (by rintro (e | e); omega; have := h2 0 e; omega) (lg_led hl) hl.pos hr hn hroom).mono ?_
  rintro e w' ⟨u, rfl, hu, hlg, hkp⟩
  obtain ⟨_, rv', hl', ho'⟩ := hlg
  refine ⟨u, rv', rfl, hu, hl', fun q hq => ?_, hkp, SL_kp2 hkp hBw h1 h2⟩
  by_cases hlt : q < w.heap.size
  · rcases ho' q hq hlt with e | e
    · omega
    · exact h2 q e
  · omega

theorem own_rled {w w' : World} {base n db : Nat} {v rv : Value} {f : Nat → Int} {L : List Rn} (h : By.Own w base v n f) (hl : RLed w db rv L) (hk : Kp (fun j => j = db) w w') : By.Own w' base v n f :=
  own_kept h hk (fun g hg e => by
    obtain ⟨cs, hc⟩ := own8_type h hg
    have e' : g = db := e
    subst e'
    have := Option.some.inj (hc.symm.trans hl.here)
    simp at this)
theorem led_rled {w w' : World} {lb db : Nat} {rv rv' : Value} {L M : List Rn} (h : Led w lb rv L) (hl : RLed w db rv' M) (hk : Kp (fun j => j = db) w w') : Led w' lb rv L := by
  refine h.kept hk (fun e => ?_) (fun g hg e => ?_)
  · have e' : lb = db := e
    subst e'
    have := Option.some.inj (h.here.symm.trans hl.here)
    simp at this
  · have e' : g = db := e
    subst e'
    obtain ⟨cs, hc⟩ := own_type h.own hg
    have := Option.some.inj (hc.symm.trans hl.here)
    simp at this
theorem rled_led {w w' : World} {lb db : Nat} {rv : Value} {L : List Rn} (h : RLed w db (.slice none 0 0) []) (hl : Led w lb rv L) (hk : Kp (SL lb rv) w w') : RLed w' db (.slice none 0 0) [] := by
  refine h.kept hk (fun e => ?_) (fun g hg => by simp [Value.ownBlock] at hg)
  rcases e with e | e
  · subst e
    have := Option.some.inj (h.here.symm.trans hl.here)
    simp at this
  · obtain ⟨cs, hc⟩ := own_type hl.own e
    have := Option.some.inj (hc.symm.trans h.here)
    simp at this
theorem lent_dig (n : Nat) (f : Nat → Int) : dig n (lent n f) = dig n f := dig_congr n _ _ (fun i hi => by unfold lent; rw [if_pos hi])
set_option maxRecDepth 4000 in
set_option maxHeartbeats 1200000 in
theorem sums_walk (a : Option Addr) (n cap : Nat) (f : Nat → Int) (w : World) (hr : By.RB w (.slice a n cap) n f) (hk : KT w) :
    Calls Tryd.prog 4 #[.slice a n cap] w fun e w' => e = .returned (.bool true) ∧ Below w.heap.size w w' := by
  have HR := hid hr
  have HK := hid hk
  have H0 := hid hk.lt
  clear hr hk
  go_enter Tryd.func4, Tryd.ntmps4
  go_wp2_with fail
  refine (lives8 _ HK.out).mono ?_
  rintro e w1 ⟨rfl, hb⟩
  have b1 := hid hb
  clear hb
  by_cases hn : 16384 < n
  · go_wp2
    go_ret
    exact ⟨rfl, b1.out⟩
  · go_wp2_with fail
    refine (lent14 _ n f _ (HR.out.below b1.out) (by omega)).mono ?_
    rintro e w2 ⟨v2, rfl, hu, hb⟩
    obtain ⟨gf, cf, rfl, -⟩ := own_cells hu (by omega)
    have F2 := hid (own_mono hu b1.out.size)
    have hcf := rb_cap hu.reads
    have hcf' : (n : Int) ≤ cf := by omega
    have b2 := hid (below_next b1.out hb)
    clear hu hb
    go_wp2_with fail
    refine (new9 _).mono ?_
    rintro e w3 ⟨rfl, hl, hb⟩
    have F3 := hid (own_below F2.out hb)
    have L3 := hid hl
    have z2 := hid b2.out.size
    have b3 := hid (below_next b2.out hb)
    clear hl hb F2
    go_wp2_with fail
    refine (refNew10 _).mono ?_
    rintro e w4 ⟨rfl, hl, hb⟩
    have F4 := hid (own_below F3.out hb)
    have L4 := hid (L3.out.below hb)
    have R4 := hid hl
    have b4 := hid (below_next b3.out hb)
    clear hl hb F3 L3
    go_wp2_with fail
    refine (sum_led2 w.heap.size w2.heap.size n _ (lent n f) _ [] _ (HK.out.below b4.out) H0.out b4.out.size L4.out z2.out (fun q hq => by simp [Value.ownBlock] at hq) (fun w' hk' => (own_led F4.out L4.out hk' (fun _ _ e => e)).reads.first n (by omega)) (by omega) (by decide)).mono ?_
    rintro e w5 ⟨u5, rv5, rfl, hu, hl, -, hk5, hb⟩
    rw [lent_dig] at hu
    have U5 := hid hu
    have L5 := hid hl
    have F5 := hid (own_led F4.out L4.out hk5 (fun _ _ e => e))
    have R5 := hid (rled_led R4.out L4.out hk5)
    have b5 := hid (b4.out.trans hb)
    have k5 := hid (HK.out.below b5.out)
    clear hu hl hk5 hb F4 L4 R4
    go_wp2_with fail
    refine (sum23 n _ (lent n f) none [] (fun _ => False) _ k5.out (fun e => e) (lg_nil _ _) pos_nil' (fun w' h' => (own_below F5.out (below_kp h')).reads.first n (by omega)) (by omega) (by decide)).mono ?_
    rintro e w6 ⟨u6, rfl, hu, -, hk6⟩
    rw [lent_dig] at hu
    have hb := below_kp hk6
    have U6 := hid hu
    have V5 := hid (own_below U5.out hb)
    have ne := hid (show u5.ownBlock ≠ u6.ownBlock from fun e => by
      obtain ⟨g5, c5, e5, -⟩ := own_cells U5.out (by omega)
      have q5 : u5.ownBlock = some g5 := by rw [e5]; rfl
      have := (Array.getElem?_eq_some_iff.1 (own8_type U5.out q5).choose_spec).1
      have := own_row hu g5 (by rw [← e]; exact q5)
      omega)
    have L6 := hid (L5.out.below hb)
    have F6 := hid (own_below F5.out hb)
    have R6 := hid (R5.out.below hb)
    have b6 := hid (b5.out.trans (hb.mono b5.out.size))
    clear hu hk6 hb L5 F5 R5
    go_wp2_with fail
    refine (sum24 w3.heap.size n _ f _ R6.out (fun w' hk' => HR.out.below (b6.out.trans (hk'.below b6.out.size (fun k hk e => by have : k = w3.heap.size := e; have := b3.out.size; omega)))) (by omega)).mono ?_
    rintro e w7 ⟨u7, rv7, rfl, hu, hl, -, hk7⟩
    have U7 := hid hu
    have R7 := hid hl
    have W5 := hid (own_rled V5.out R6.out hk7)
    have W6 := hid (own_rled U6.out R6.out hk7)
    have F7 := hid (own_rled F6.out R6.out hk7)
    have L7 := hid (led_rled L6.out R6.out hk7)
    have b7 := hid (b6.out.trans (hk7.below b6.out.size (fun k hk e => by have : k = w3.heap.size := e; have := b3.out.size; omega)))
    have z4 := hid b4.out.size
    have z5 := hid b5.out.size
    have z6 := hid b6.out.size
    clear hu hl hk7 V5 U6 F6 L6 R6
    go_wp2_with fail
    refine (kept17 _ _ n f _ F7.out.reads (HR.out.below b7.out) (by omega)).mono ?_
    rintro e w8 ⟨rfl, hb⟩
    have V5 := hid (own_below (own_mono W5.out z4.out) hb)
    have V6 := hid (own_below (own_mono W6.out z5.out) hb)
    have V7 := hid (own_below U7.out hb)
    have L8 := hid (L7.out.below hb)
    have R8 := hid (R7.out.below hb)
    have b8 := hid (b7.out.trans (hb.mono b7.out.size))
    clear hb W5 W6 U7 F7 L7 R7
    go_wp2_with fail
    refine (same_true _ _ 32 _ _ _ V5.out.reads V7.out.reads (by omega) (fun _ _ => rfl)).mono ?_
    rintro e w9 ⟨rfl, d9, rfl⟩
    go_wp2_with fail
    refine (same_true _ _ 32 _ _ _ (V6.out.reads.drewN d9) (V7.out.reads.drewN d9) (by omega) (fun _ _ => rfl)).mono ?_
    rintro e w10 ⟨rfl, d10, rfl⟩
    obtain ⟨X, hX⟩ : ∃ x, (w8.drewN d9).drewN d10 = x := ⟨_, rfl⟩
    have hbx : Below w8.heap.size w8 X := by rw [← hX]; exact below_drew' (below_drewN w8 d9) d10
    rw [hX]
    clear hX
    have X5 := hid (own_below V5.out hbx)
    have X6 := hid (own_below V6.out hbx)
    have LX := hid (L8.out.below hbx)
    have RX := hid (R8.out.below hbx)
    have bX := hid (b8.out.trans (hbx.mono b8.out.size))
    have hN := hid (show evs256 [] (n / 64 + last n) = [⟨1, 64, (blocks n : Int)⟩] from by
      rw [blocks_last]
      have h1 := blocks_pos n
      have h2 : blocks n ≤ 100000 := by unfold blocks zs; omega
      have := evs_one (blocks n - 1) (by omega)
      rwa [show blocks n - 1 + 1 = blocks n from by omega] at this)
    rw [hN.out] at LX
    clear hbx V5 V6 V7 L8 R8 b8
    go_wp2_with fail
    refine (runs22 _ _ _ _ LX.out (by show 1 * 24 ≤ 140737488355328; decide)).mono ?_
    rintro e w11 ⟨r11, rfl, hu, hb⟩
    have A11 := hid hu
    have Y5 := hid (own_below X5.out hb)
    have Y6 := hid (own_below X6.out hb)
    have RY := hid (RX.out.below hb)
    have bY := hid (bX.out.trans (hb.mono bX.out.size))
    clear hu hb X5 X6 LX RX
    go_wp2_with fail
    refine (refRuns20 _ _ _ _ RY.out (by show 1 * 24 ≤ 140737488355328; decide)).mono ?_
    rintro e w12 ⟨r12, rfl, hu, hb⟩
    have A12 := hid hu
    have B12 := hid (A11.out.below hb)
    have Z5 := hid (own_below Y5.out hb)
    have Z6 := hid (own_below Y6.out hb)
    have bZ := hid (bY.out.trans (hb.mono bY.out.size))
    clear hu hb Y5 Y6 RY A11
    go_wp2_with fail
    refine (same14 _ _ [⟨1, 64, (blocks n : Int)⟩] [⟨1, 64, (blocks n : Int)⟩] _ B12.out.reads A12.out.reads (by show 1 < 1000000000000000000; decide) (by show 1 < 1000000000000000000; decide)).mono ?_
    rw [decide_eq_true (show ([⟨1, 64, (blocks n : Int)⟩] : List Rn) = [⟨1, 64, (blocks n : Int)⟩] from rfl)]
    rintro e w13 ⟨rfl, d13, rfl⟩
    obtain ⟨Q, hQ⟩ : ∃ x, w12.drewN d13 = x := ⟨_, rfl⟩
    have hbq : Below w12.heap.size w12 Q := by rw [← hQ]; exact below_drewN w12 d13
    rw [hQ]
    clear hQ
    have Q5 := hid (own_below Z5.out hbq)
    have Q6 := hid (own_below Z6.out hbq)
    have bQ := hid (bZ.out.trans (hbq.mono bZ.out.size))
    clear hbq Z5 Z6 A12 B12 U5
    obtain ⟨g5, c5, rfl, -⟩ := own_cells Q5.out (by omega)
    obtain ⟨g6, c6, rfl, -⟩ := own_cells Q6.out (by omega)
    go_wp2_with fail
    refine (apart2 w.heap.size _ _ _ _ Q Q5.out Q6.out ne.out bQ.out.size).mono ?_
    rintro e w14 ⟨rfl, hb⟩
    have bE := hid ((bQ.out.trans ((below_alloc Q (.cells #[.slice (some ⟨g5, 0, none⟩) 32 c5, .slice (some ⟨g6, 0, none⟩) 32 c6] 40)).mono bQ.out.size)).trans hb)
    clear hb
    go_wp2
    go_ret
    exact ⟨rfl, bE.out⟩
end Go.Proofs.YtimalofmomgjlaaDoor.Sh
