/- The law HmacTags. -/
import Derived.Test.YtpgkalgnlkfmaaaGreatDoorZmd
import Derived.Test.YtpgkalgnlkfmaaaGreatDoorZmf
namespace Go.Proofs.YtpgkalgnlkfmaaaGreatDoor.Dg
open Go.ChangeShapes Go.WideShapes Go.ChangeAt Go.RowKit
open Go.Proofs.YtpgkalgnlkfmaaaGreatDoor.By
open Go.Proofs.YtpgkalgnlkfmaaaGreatDoor.Sh (Blk size_alloc)
theorem own_other {w w' : World} {base n q : Nat} {v : Value} {f : Nat → Int} {cs : List Value} {t : TypeId} (h : By.Own w base v n f) (hq : Blk w q cs t) (ht : 5 ≠ t) (hk : Kp (fun j => j = q) w w') : By.Own w' base v n f :=
  Sg.own_kept h hk (fun g hg e => by
    obtain ⟨c, hc⟩ := Sg.own8_type h hg
    exact Sh.Blk.ne (show Blk w g c.toList 5 from by show w.heap[g]? = _; rw [hc]) hq ht e)
theorem bel_one {w W W' : World} {q : Nat} (h : Below w.heap.size w W) (hk : Kp (fun j => j = q) W W') (hq : w.heap.size ≤ q) : Below w.heap.size w W' := h.trans (hk.below h.size (fun k hk e => by have : k = q := e; omega))
theorem led_other {w w' : World} {lb q : Nat} {rv : Value} {L : List Rn} {cs : List Value} (h : Led w lb rv L) (hq : Blk w q cs 62) (hk : Kp (fun j => j = q) w w') : Led w' lb rv L :=
  h.kept hk (fun e => Sh.Blk.ne (show Blk w lb _ 60 from h.here) hq (by decide) e) (fun g hg e => by
    obtain ⟨c, hc⟩ := Sg.own_type h.own hg
    exact Sh.Blk.ne (show Blk w g c.toList 84 from by show w.heap[g]? = _; rw [hc]) hq (by decide) e)
theorem rled_other {w w' : World} {lb q : Nat} {rv : Value} {L : List Rn} {cs : List Value} (h : RLed w lb rv L) (hq : Blk w q cs 60) (hk : Kp (fun j => j = q) w w') : RLed w' lb rv L :=
  h.kept hk (fun e => Sh.Blk.ne (show Blk w lb _ 62 from h.here) hq (by decide) e) (fun g hg e => by
    obtain ⟨c, hc⟩ := Sg.own_type h.own hg
    exact Sh.Blk.ne (show Blk w g c.toList 84 from by show w.heap[g]? = _; rw [hc]) hq (by decide) e)
theorem sm_nil (mb : Nat) : ∀ j, SM mb (.slice none 0 0) j → j = mb := fun j e => by
  rcases e with e | e
  · exact e
  · simp [Value.ownBlock] at e
set_option maxRecDepth 8000 in
set_option maxHeartbeats 4000000 in
theorem tags256 (A C : Option Addr) (n cap np cp : Nat) (g f : Nat → Int) (w : World) (hr : By.RB w (.slice A n cap) n g) (hr2 : By.RB w (.slice C np cp) np f) (hk : KT w) (hs : n ≤ 140737488351232 ∧ np ≤ 140737488351232) :
    Calls Tryz.prog 4 #[.int .u8 1, .slice A n cap, .slice C np cp] w fun e w' => e = .returned (.bool true) ∧ Below w.heap.size w w' := by
  have HR := hid hr
  have HR2 := hid hr2
  have HK := hid hk
  have H1 := hid hk.lt
  clear hr hr2 hk
  go_enter Tryz.func4, Tryz.ntmps4
  go_wp2_with fail
  refine (new9 _).mono ?_
  rintro e w1 ⟨rfl, hl, hb⟩
  have L1 := hid hl
  have b1 := hid hb
  clear hl hb
  go_wp2_with fail
  refine (refNew10 _).mono ?_
  rintro e w2 ⟨rfl, hl, hb⟩
  have L2 := hid (L1.out.below hb)
  have R2 := hid hl
  have z1 := hid b1.out.size
  have b2 := hid (below_next b1.out hb)
  clear hl hb L1 b1
  go_wp2_with fail
  refine (tag256 n np _ _ g f (some w.heap.size) [] (fun j => j = w.heap.size) _ (HK.out.below b2.out) (by have := H1.out; omega) (by have := H1.out; omega) ⟨rfl, _, L2.out, fun g hg _ => by simp [Value.ownBlock] at hg⟩ Sg.pos_nil' (fun w' hk' => HR.out.below (bel_one b2.out hk' (Nat.le_refl _))) (fun w' hk' => HR2.out.below (bel_one b2.out hk' (Nat.le_refl _))) (by omega) (by omega) (by decide)).mono ?_
  rintro e w3 ⟨u3, rfl, hu, ⟨-, rv3, hl, -⟩, hk3⟩
  obtain ⟨LL, hLL⟩ : ∃ x, sev false (evs false (kev false [] n) (np / 64)) np = x := ⟨_, rfl⟩
  rw [hLL] at hl
  have U3 := hid hu
  have L3 := hid hl
  have R3 := hid (rled_other R2.out L2.out.here hk3)
  have b3 := hid (bel_one b2.out hk3 (Nat.le_refl _))
  clear hu hl hk3 L2 R2
  go_wp2_with fail
  refine (tag256 n np _ _ g f none [] (fun _ => False) _ (HK.out.below b3.out) id id trivial Sg.pos_nil' (fun w' hk' => (HR.out.below b3.out).below (Sg.below_kp hk')) (fun w' hk' => (HR2.out.below b3.out).below (Sg.below_kp hk')) (by omega) (by omega) (by decide)).mono ?_
  rintro e w4 ⟨u4, rfl, hu, -, hk4⟩
  have hb4 := Sg.below_kp hk4
  have V4 := hid hu
  have U4 := hid (own_below U3.out hb4)
  have L4 := hid (L3.out.below hb4)
  have R4 := hid (R3.out.below hb4)
  have b4 := hid (below_next b3.out hb4)
  clear hu hk4 hb4 U3 L3 R3 b3
  go_wp2_with fail
  refine (rtag256 w1.heap.size n np (.slice none 0 0) _ _ g f [] _ R4.out (fun w' hk' => HR.out.below (bel_one b4.out (hk'.mono (fun j _ e => sm_nil _ j e)) z1.out)) (fun w' hk' => HR2.out.below (bel_one b4.out (hk'.mono (fun j _ e => sm_nil _ j e)) z1.out)) (by omega) (by omega) (by decide)).mono ?_
  rintro e w5 ⟨u5, rfl, hu, ⟨rv5, hl, -⟩, hk5⟩
  rw [hLL] at hl
  have hk5' := hk5.mono (fun j _ e => sm_nil _ j e)
  have W5 := hid hu
  have R5 := hid hl
  have V5 := hid (own_other V4.out R4.out.here (by decide) hk5')
  have U5 := hid (own_other U4.out R4.out.here (by decide) hk5')
  have L5 := hid (led_other L4.out R4.out.here hk5')
  have b5 := hid (bel_one b4.out hk5' z1.out)
  clear hu hl hk5 hk5' V4 U4 L4 R4 b4
  have tn := len_tot L5.out.pos
  have tl := L5.out.len
  have TL := hid (show LL.length < 5000000000000 by
    have h0 := Sg.pos_nil'
    have a1 := keT false h0 n (by omega) (by decide)
    have a2 := evsT false (keP false h0 n) 2 (by have : tot ([] : List Rn) = 0 := rfl; omega)
    have a3 := evsT false (evsP false (keP false h0 n) 2) (np / 64) (by have : tot ([] : List Rn) = 0 := rfl; omega)
    have a4 := evsT false (evsP false (evsP false (keP false h0 n) 2) (np / 64)) (last false np + 1) (by have : tot ([] : List Rn) = 0 := rfl; have := (last_le false np).1; omega)
    have a5 : tot LL = tot (evs false (evs false (evs false (ke false [] n) 2) (np / 64)) (last false np + 1)) := by rw [← hLL]; rfl
    have : tot ([] : List Rn) = 0 := rfl
    have := (last_le false np).1
    omega)
  clear tn tl hLL
  go_wp2_with fail
  refine (same_true _ _ 32 _ _ _ U5.out.reads W5.out.reads (by decide) (fun _ _ => rfl)).mono ?_
  rintro e w6 ⟨rfl, d6, rfl⟩
  obtain ⟨X, hX⟩ : ∃ x, w5.drewN d6 = x := ⟨_, rfl⟩
  have hbx : Below w5.heap.size w5 X := by rw [← hX]; exact below_drewN w5 d6
  rw [hX]
  clear hX
  have V6 := hid (own_below V5.out hbx)
  have W6 := hid (own_below W5.out hbx)
  have L6 := hid (L5.out.below hbx)
  have R6 := hid (R5.out.below hbx)
  have b6 := hid (below_next b5.out hbx)
  clear hbx V5 W5 L5 R5 b5 U5
  go_wp2_with fail
  refine (same_true _ _ 32 _ _ _ V6.out.reads W6.out.reads (by decide) (fun _ _ => rfl)).mono ?_
  rintro e w7 ⟨rfl, d7, rfl⟩
  obtain ⟨Y, hY⟩ : ∃ x, X.drewN d7 = x := ⟨_, rfl⟩
  have hbx : Below X.heap.size X Y := by rw [← hY]; exact below_drewN X d7
  rw [hY]
  clear hY
  have L7 := hid (L6.out.below hbx)
  have R7 := hid (R6.out.below hbx)
  have b7 := hid (below_next b6.out hbx)
  clear hbx V6 W6 L6 R6 b6
  go_wp2_with fail
  refine (runs22 _ _ _ _ L7.out (by have := TL.out; omega)).mono ?_
  rintro e w8 ⟨r8, rfl, ho, hb⟩
  have O8 := hid ho
  have R8 := hid (R7.out.below hb)
  have b8 := hid (below_next b7.out hb)
  clear ho hb L7 R7
  go_wp2_with fail
  refine (refRuns20 _ _ _ _ R8.out (by have := TL.out; omega)).mono ?_
  rintro e w9 ⟨r9, rfl, ho, hb⟩
  have P9 := hid ho
  have O9 := hid (O8.out.below hb)
  have b9 := hid (below_next b8.out hb)
  clear ho hb O8 R8
  go_wp2_with fail
  refine (same14 _ _ LL LL _ O9.out.reads P9.out.reads (by have := TL.out; omega) (by have := TL.out; omega)).mono ?_
  rw [decide_eq_true (show LL = LL from rfl)]
  rintro e w10 ⟨rfl, d10, rfl⟩
  go_wp2
  go_ret
  exact ⟨rfl, below_next b9.out (below_drewN w9 d10)⟩
set_option maxRecDepth 8000 in
set_option maxHeartbeats 4000000 in
theorem tags512 (A C : Option Addr) (n cap np cp : Nat) (g f : Nat → Int) (w : World) (hr : By.RB w (.slice A n cap) n g) (hr2 : By.RB w (.slice C np cp) np f) (hk : KT w) (hs : n ≤ 140737488351232 ∧ np ≤ 140737488351232) :
    Calls Tryz.prog 4 #[.int .u8 2, .slice A n cap, .slice C np cp] w fun e w' => e = .returned (.bool true) ∧ Below w.heap.size w w' := by
  have HR := hid hr
  have HR2 := hid hr2
  have HK := hid hk
  have H1 := hid hk.lt
  clear hr hr2 hk
  go_enter Tryz.func4, Tryz.ntmps4
  go_wp2_with fail
  refine (new9 _).mono ?_
  rintro e w1 ⟨rfl, hl, hb⟩
  have L1 := hid hl
  have b1 := hid hb
  clear hl hb
  go_wp2_with fail
  refine (refNew10 _).mono ?_
  rintro e w2 ⟨rfl, hl, hb⟩
  have L2 := hid (L1.out.below hb)
  have R2 := hid hl
  have z1 := hid b1.out.size
  have b2 := hid (below_next b1.out hb)
  clear hl hb L1 b1
  go_wp2_with fail
  refine (tag512 n np _ _ g f (some w.heap.size) [] (fun j => j = w.heap.size) _ (HK.out.below b2.out) (by have := H1.out; omega) (by have := H1.out; omega) ⟨rfl, _, L2.out, fun g hg _ => by simp [Value.ownBlock] at hg⟩ Sg.pos_nil' (fun w' hk' => HR.out.below (bel_one b2.out hk' (Nat.le_refl _))) (fun w' hk' => HR2.out.below (bel_one b2.out hk' (Nat.le_refl _))) (by omega) (by omega) (by decide)).mono ?_
  rintro e w3 ⟨u3, rfl, hu, ⟨-, rv3, hl, -⟩, hk3⟩
  obtain ⟨LL, hLL⟩ : ∃ x, sev true (evs true (kev true [] n) (np / 128)) np = x := ⟨_, rfl⟩
  rw [hLL] at hl
  have U3 := hid hu
  have L3 := hid hl
  have R3 := hid (rled_other R2.out L2.out.here hk3)
  have b3 := hid (bel_one b2.out hk3 (Nat.le_refl _))
  clear hu hl hk3 L2 R2
  go_wp2_with fail
  refine (tag512 n np _ _ g f none [] (fun _ => False) _ (HK.out.below b3.out) id id trivial Sg.pos_nil' (fun w' hk' => (HR.out.below b3.out).below (Sg.below_kp hk')) (fun w' hk' => (HR2.out.below b3.out).below (Sg.below_kp hk')) (by omega) (by omega) (by decide)).mono ?_
  rintro e w4 ⟨u4, rfl, hu, -, hk4⟩
  have hb4 := Sg.below_kp hk4
  have V4 := hid hu
  have U4 := hid (own_below U3.out hb4)
  have L4 := hid (L3.out.below hb4)
  have R4 := hid (R3.out.below hb4)
  have b4 := hid (below_next b3.out hb4)
  clear hu hk4 hb4 U3 L3 R3 b3
  go_wp2_with fail
  refine (rtag512 w1.heap.size n np (.slice none 0 0) _ _ g f [] _ R4.out (fun w' hk' => HR.out.below (bel_one b4.out (hk'.mono (fun j _ e => sm_nil _ j e)) z1.out)) (fun w' hk' => HR2.out.below (bel_one b4.out (hk'.mono (fun j _ e => sm_nil _ j e)) z1.out)) (by omega) (by omega) (by decide)).mono ?_
  rintro e w5 ⟨u5, rfl, hu, ⟨rv5, hl, -⟩, hk5⟩
  rw [hLL] at hl
  have hk5' := hk5.mono (fun j _ e => sm_nil _ j e)
  have W5 := hid hu
  have R5 := hid hl
  have V5 := hid (own_other V4.out R4.out.here (by decide) hk5')
  have U5 := hid (own_other U4.out R4.out.here (by decide) hk5')
  have L5 := hid (led_other L4.out R4.out.here hk5')
  have b5 := hid (bel_one b4.out hk5' z1.out)
  clear hu hl hk5 hk5' V4 U4 L4 R4 b4
  have tn := len_tot L5.out.pos
  have tl := L5.out.len
  have TL := hid (show LL.length < 5000000000000 by
    have h0 := Sg.pos_nil'
    have a1 := keT true h0 n (by omega) (by decide)
    have a2 := evsT true (keP true h0 n) 2 (by have : tot ([] : List Rn) = 0 := rfl; omega)
    have a3 := evsT true (evsP true (keP true h0 n) 2) (np / 128) (by have : tot ([] : List Rn) = 0 := rfl; omega)
    have a4 := evsT true (evsP true (evsP true (keP true h0 n) 2) (np / 128)) (last true np + 1) (by have : tot ([] : List Rn) = 0 := rfl; have := (last_le true np).1; omega)
    have a5 : tot LL = tot (evs true (evs true (evs true (ke true [] n) 2) (np / 128)) (last true np + 1)) := by rw [← hLL]; rfl
    have : tot ([] : List Rn) = 0 := rfl
    have := (last_le true np).1
    omega)
  clear tn tl hLL
  go_wp2_with fail
  refine (same_true _ _ 64 _ _ _ U5.out.reads W5.out.reads (by decide) (fun _ _ => rfl)).mono ?_
  rintro e w6 ⟨rfl, d6, rfl⟩
  obtain ⟨X, hX⟩ : ∃ x, w5.drewN d6 = x := ⟨_, rfl⟩
  have hbx : Below w5.heap.size w5 X := by rw [← hX]; exact below_drewN w5 d6
  rw [hX]
  clear hX
  have V6 := hid (own_below V5.out hbx)
  have W6 := hid (own_below W5.out hbx)
  have L6 := hid (L5.out.below hbx)
  have R6 := hid (R5.out.below hbx)
  have b6 := hid (below_next b5.out hbx)
  clear hbx V5 W5 L5 R5 b5 U5
  go_wp2_with fail
  refine (same_true _ _ 64 _ _ _ V6.out.reads W6.out.reads (by decide) (fun _ _ => rfl)).mono ?_
  rintro e w7 ⟨rfl, d7, rfl⟩
  obtain ⟨Y, hY⟩ : ∃ x, X.drewN d7 = x := ⟨_, rfl⟩
  have hbx : Below X.heap.size X Y := by rw [← hY]; exact below_drewN X d7
  rw [hY]
  clear hY
  have L7 := hid (L6.out.below hbx)
  have R7 := hid (R6.out.below hbx)
  have b7 := hid (below_next b6.out hbx)
  clear hbx V6 W6 L6 R6 b6
  go_wp2_with fail
  refine (runs22 _ _ _ _ L7.out (by have := TL.out; omega)).mono ?_
  rintro e w8 ⟨r8, rfl, ho, hb⟩
  have O8 := hid ho
  have R8 := hid (R7.out.below hb)
  have b8 := hid (below_next b7.out hb)
  clear ho hb L7 R7
  go_wp2_with fail
  refine (refRuns20 _ _ _ _ R8.out (by have := TL.out; omega)).mono ?_
  rintro e w9 ⟨r9, rfl, ho, hb⟩
  have P9 := hid ho
  have O9 := hid (O8.out.below hb)
  have b9 := hid (below_next b8.out hb)
  clear ho hb O8 R8
  go_wp2_with fail
  refine (same14 _ _ LL LL _ O9.out.reads P9.out.reads (by have := TL.out; omega) (by have := TL.out; omega)).mono ?_
  rw [decide_eq_true (show LL = LL from rfl)]
  rintro e w10 ⟨rfl, d10, rfl⟩
  go_wp2
  go_ret
  exact ⟨rfl, below_next b9.out (below_drewN w9 d10)⟩
set_option maxRecDepth 8000 in
set_option maxHeartbeats 4000000 in
theorem tagsNo (a : Int) (h1 : ¬ a = 1) (h2 : ¬ a = 2) (A C : Option Addr) (n cap np cp : Nat) (w : World) :
    Calls Tryz.prog 4 #[.int .u8 a, .slice A n cap, .slice C np cp] w fun e w' => e = .returned (.bool true) ∧ Below w.heap.size w w' := by
  go_enter Tryz.func4, Tryz.ntmps4
  go_wp2_with fail
  refine (new9 _).mono ?_
  rintro e w1 ⟨rfl, hl, hb⟩
  have L1 := hid hl
  have b1 := hid hb
  clear hl hb
  go_wp2_with fail
  refine (refNew10 _).mono ?_
  rintro e w2 ⟨rfl, hl, hb⟩
  have L2 := hid (L1.out.below hb)
  have R2 := hid hl
  have z1 := hid b1.out.size
  have b2 := hid (below_next b1.out hb)
  clear hl hb L1 b1
  go_wp2_with fail
  refine (tagNo a _ _ _ _ h1 h2).mono ?_
  rintro e w3 ⟨rfl, hb⟩
  have L3 := hid (L2.out.below hb)
  have R3 := hid (R2.out.below hb)
  have b3 := hid (below_next b2.out hb)
  clear hb L2 R2 b2
  go_wp2_with fail
  refine (tagNo a _ _ _ _ h1 h2).mono ?_
  rintro e w4 ⟨rfl, hb⟩
  have L4 := hid (L3.out.below hb)
  have R4 := hid (R3.out.below hb)
  have b4 := hid (below_next b3.out hb)
  clear hb L3 R3 b3
  go_wp2_with fail
  refine (rtagNo a _ _ _ _ h1 h2).mono ?_
  rintro e w5 ⟨rfl, hw5⟩
  subst w5
  go_wp2_with fail
  refine (same_true _ _ 0 (fun _ => 0) (fun _ => 0) _ (own_nil _ 0 _ (fun _ => by decide)).reads (own_nil _ 0 _ (fun _ => by decide)).reads (by decide) (fun _ _ => rfl)).mono ?_
  rintro e w6 ⟨rfl, d6, rfl⟩
  obtain ⟨X, hX⟩ : ∃ x, w4.drewN d6 = x := ⟨_, rfl⟩
  have hbx : Below w4.heap.size w4 X := by rw [← hX]; exact below_drewN w4 d6
  rw [hX]
  clear hX
  have L6 := hid (L4.out.below hbx)
  have R6 := hid (R4.out.below hbx)
  have b6 := hid (below_next b4.out hbx)
  clear hbx L4 R4 b4
  go_wp2_with fail
  refine (same_true _ _ 0 (fun _ => 0) (fun _ => 0) _ (own_nil _ 0 _ (fun _ => by decide)).reads (own_nil _ 0 _ (fun _ => by decide)).reads (by decide) (fun _ _ => rfl)).mono ?_
  rintro e w7 ⟨rfl, d7, rfl⟩
  obtain ⟨Y, hY⟩ : ∃ x, X.drewN d7 = x := ⟨_, rfl⟩
  have hbx : Below X.heap.size X Y := by rw [← hY]; exact below_drewN X d7
  rw [hY]
  clear hY
  have L7 := hid (L6.out.below hbx)
  have R7 := hid (R6.out.below hbx)
  have b7 := hid (below_next b6.out hbx)
  clear hbx L6 R6 b6
  go_wp2_with fail
  refine (runs22 _ _ _ _ L7.out (by decide)).mono ?_
  rintro e w8 ⟨r8, rfl, ho, hb⟩
  have O8 := hid ho
  have R8 := hid (R7.out.below hb)
  have b8 := hid (below_next b7.out hb)
  clear ho hb L7 R7
  go_wp2_with fail
  refine (refRuns20 _ _ _ _ R8.out (by decide)).mono ?_
  rintro e w9 ⟨r9, rfl, ho, hb⟩
  have P9 := hid ho
  have O9 := hid (O8.out.below hb)
  have b9 := hid (below_next b8.out hb)
  clear ho hb O8 R8
  go_wp2_with fail
  refine (same14 _ _ [] [] _ O9.out.reads P9.out.reads (by decide) (by decide)).mono ?_
  rw [decide_eq_true (show ([] : List Rn) = [] from rfl)]
  rintro e w10 ⟨rfl, d10, rfl⟩
  go_wp2
  go_ret
  exact ⟨rfl, below_next b9.out (below_drewN w9 d10)⟩
end Go.Proofs.YtpgkalgnlkfmaaaGreatDoor.Dg
