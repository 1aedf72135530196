/- The statement None, walked. -/
import Derived.Test.YtidejhkajabdfaaDoorSlive
import Derived.Test.YtidejhkajabdfaaDoorRlen
import Derived.Test.YtidejhkajabdfaaDoorRreads
namespace Go.Proofs.YtidejhkajabdfaaDoor.Kc
open Go.ChangeShapes Go.WideShapes Go.ChangeAt Go.RowKit
open Go.Proofs.YtidejhkajabdfaaDoor.By Go.Proofs.YtidejhkajabdfaaDoor.Wd
theorem pickN (i : Int) (N : Nat) (h0 : 0 < N) (h1 : N ≤ 1000000) (w : World) :
    Calls Tryd.prog 21 #[.int .i64 i, .int .i64 N] w fun e w' => (∃ p : Nat, p < N ∧ e = .returned (.int .i64 p)) ∧ w' = w := by
  have hN : (0 : Int) < N := by omega
  have a1 := Int.tmod_lt_of_pos i hN
  have a2 : - (N : Int) < i.tmod N := by
    have := Int.lt_tmod_of_pos i hN
    omega
  have nz : ¬ (N : Int) = 0 := by omega
  have nz2 : ¬ N = 0 := by omega
  obtain ⟨q, hq⟩ : ∃ q, i.tmod N = q := ⟨_, rfl⟩
  rw [hq] at a1 a2
  have w1 : IntKind.i64.wrap q = q := by rw [IntKind.wrap_i64]; omega
  by_cases hlt : q < 0
  · have w2 : IntKind.i64.wrap (q + N) = q + N := by rw [IntKind.wrap_i64]; omega
    go_enter Tryd.func21, Tryd.ntmps21
    go_wp2
    go_ret
    exact ⟨⟨(q + N).toNat, by omega, by rw [show (((q + N).toNat : Nat) : Int) = q + N by omega]; rfl⟩, rfl⟩
  · go_enter Tryd.func21, Tryd.ntmps21
    go_wp2
    go_ret
    exact ⟨⟨q.toNat, by omega, by rw [show ((q.toNat : Nat) : Int) = q by omega]; rfl⟩, rfl⟩
theorem rateOf1 (n : Int) (w : World) :
    Calls Tryd.prog 20 #[.int .i64 n] w fun e w' => (∃ r : Nat, 8 ≤ r ∧ r ≤ 192 ∧ r % 8 = 0 ∧ e = .returned (.int .i64 r)) ∧ w' = w := by
  go_enter Tryd.func20, Tryd.ntmps20
  go_wp2_with fail
  refine (pickN n 24 (by omega) (by omega) w).mono ?_
  rintro e w' ⟨⟨p, hp, rfl⟩, rfl⟩
  go_wp2
  go_ret
  exact ⟨⟨8 + 8 * p, by omega, by omega, by omega, by go_num⟩, rfl⟩
/-- No sponge: a nil pointer, or a block without one. -/
def NoP (w : World) (sp : Value) : Prop := sp = .pointer none ∨ ∃ b, sp = .pointer (some ⟨b, 0, none⟩) ∧ NoSp w b
theorem NoSp.below {w w' : World} {b : Nat} (h : NoSp w b) (hb : Below w.heap.size w w') : NoSp w' b := by
  obtain ⟨cs, h⟩ := h; exact ⟨cs, h.below hb⟩
theorem NoP.below {w w' : World} {sp : Value} (h : NoP w sp) (hb : Below w.heap.size w w') : NoP w' sp := by
  rcases h with h | ⟨b, e, h⟩
  · exact .inl h
  · exact .inr ⟨b, e, h.below hb⟩
section
variable {w : World} {sp : Value}
theorem NoP.read (h : NoP w sp) (n lp : Value) : Calls Tryd.prog 27 #[sp, lp, n] w fun e w' => e = .returned (.tuple #[.slice none 0 0, .int .i64 1]) ∧ w' = w := by
  rcases h with rfl | ⟨b, rfl, h⟩
  · exact read_nil n lp w
  · exact read_no b n lp w h
theorem NoP.write (h : NoP w sp) (v lp : Value) : Calls Tryd.prog 24 #[sp, lp, v] w fun e w' => e = .returned (.int .i64 1) ∧ w' = w := by
  rcases h with rfl | ⟨b, rfl, h⟩
  · exact write_nil v lp w
  · exact write_no b v lp w h
theorem NoP.close (h : NoP w sp) (lp : Value) : Calls Tryd.prog 26 #[sp, lp] w fun e w' => e = .returned (.int .i64 1) ∧ w' = w := by
  rcases h with rfl | ⟨b, rfl, h⟩
  · exact close_nil lp w
  · exact close_no b lp w h
theorem NoP.wipe (h : NoP w sp) (lp : Value) : Calls Tryd.prog 28 #[sp, lp] w fun e w' => e = .returned (.int .i64 1) ∧ w' = w := by
  rcases h with rfl | ⟨b, rfl, h⟩
  · exact wipe_nil lp w
  · exact wipe_no b lp w h
theorem NoP.clone (h : NoP w sp) : Calls Tryd.prog 40 #[sp] w fun e w' => e = .returned (.tuple #[.pointer none, .int .i64 1]) ∧ w' = w := by
  rcases h with rfl | ⟨b, rfl, h⟩
  · exact clone_nil w
  · exact clone_no b w h
theorem NoP.form (h : NoP w sp) : Calls Tryd.prog 25 #[sp] w fun e w' => e = .returned (.slice none 0 0) ∧ w' = w := by
  rcases h with rfl | ⟨b, rfl, h⟩
  · exact form_nil w
  · exact form_no b w h
theorem NoP.rate (h : NoP w sp) : Calls Tryd.prog 31 #[sp] w fun e w' => e = .returned (.int .i64 0) ∧ w' = w := by
  rcases h with rfl | ⟨b, rfl, h⟩
  · exact rate_nil w
  · exact rate_no b w h
theorem NoP.shut (h : NoP w sp) : Calls Tryd.prog 30 #[sp] w fun e w' => e = .returned (.bool false) ∧ w' = w := by
  rcases h with rfl | ⟨b, rfl, h⟩
  · exact shut_nil w
  · exact shut_no b w h
end
set_option maxHeartbeats 2000000 in
theorem empty1 (sp pv nv : Value) (w : World) (h : NoP w sp) :
    Calls Tryd.prog 29 #[sp, pv, nv] w fun e w' => e = .returned (.bool true) ∧ Below w.heap.size w w' := by
  have H := hid h
  clear h
  go_enter Tryd.func29, Tryd.ntmps29
  go_wp2_with fail
  refine (new9 w).mono ?_
  rintro e w1 ⟨rfl, hl, hb⟩
  have HL := hid hl
  have HB := hid hb
  have HN := hid (H.out.below hb)
  clear hl hb H
  go_wp2_with (first
    | (go_at_call 27; refine (HN.out.read _ _).mono ?_; rintro e w' ⟨rfl, rfl⟩)
    | (go_at_call 24; refine (HN.out.write _ _).mono ?_; rintro e w' ⟨rfl, rfl⟩)
    | (go_at_call 26; refine (HN.out.close _).mono ?_; rintro e w' ⟨rfl, rfl⟩)
    | (go_at_call 28; refine (HN.out.wipe _).mono ?_; rintro e w' ⟨rfl, rfl⟩)
    | (go_at_call 40; refine HN.out.clone.mono ?_; rintro e w' ⟨rfl, rfl⟩)
    | (go_at_call 25; refine HN.out.form.mono ?_; rintro e w' ⟨rfl, rfl⟩)
    | (go_at_call 31; refine HN.out.rate.mono ?_; rintro e w' ⟨rfl, rfl⟩)
    | (go_at_call 30; refine HN.out.shut.mono ?_; rintro e w' ⟨rfl, rfl⟩)
    | (go_at_call 13; refine (len20 _ _ _ _ HL.out).mono ?_; rintro e w' ⟨rfl, rfl⟩))
  go_ret
  exact ⟨rfl, HB.out⟩
/-- What came in is read still, whatever the call did with memory of its own. -/
theorem rb_in {w W W' : World} {B n : Nat} {v : Value} {f : Nat → Int} {S : Nat → Prop} (h : By.RB w v n f) (hB : B = w.heap.size) (hb : Below B w W) (hk : Kp S W W') (hs : ∀ k, k < B → ¬ S k) : By.RB W' v n f := by
  subst hB
  exact h.below (hb.trans (hk.below hb.size hs))
set_option maxRecDepth 4000 in
set_option maxHeartbeats 4000000 in
theorem none_walk (a : Option Addr) (n cap : Nat) (f : Nat → Int) (a1 : Int) (w : World) (hr : By.RB w (.slice a n cap) n f) (hk : KT w) :
    Calls Tryd.prog 5 #[.slice a n cap, .int .i64 a1] w fun e w' => e = .returned (.bool true) ∧ Below w.heap.size w w' := by
  by_cases hn : 6000 < n
  · clear hr hk
    go_enter Tryd.func5, Tryd.ntmps5
    go_wp2
    go_ret
    exact ⟨rfl, Below.refl _ _⟩
  · have HR := hid hr
    have HK := hid hk
    have G0 := hid (GS.start w hk)
    clear hr hk
    go_enter Tryd.func5, Tryd.ntmps5
    go_wp2_with fail
    refine (rateOf1 a1 w).mono ?_
    rintro e w1 ⟨⟨r, hr1, hr2, hr3, rfl⟩, rfl⟩
    go_wp2_with fail
    refine (newOk r 6 w1 hr1 hr2 hr3 (by decide)).mono ?_
    rintro e w2 ⟨rfl, hs2, hb2⟩
    have G2 := hid (G0.out.addNew hb2 (k := some (r, 6, zz, false)) hs2)
    clear hs2 hb2
    obtain ⟨b, hb⟩ : ∃ b, w1.heap.size = b := ⟨_, rfl⟩
    have HB := hid hb
    rw [hb] at G2
    rw [hb]
    clear hb
    go_wp2_with fail
    refine (new9 w2).mono ?_
    rintro e w3 ⟨rfl, hl3, hb3⟩
    have G3 := hid (G2.out.addLed hb3 (o := true) hl3)
    clear hl3 hb3
    obtain ⟨lb, hlb⟩ : ∃ lb, w2.heap.size = lb := ⟨_, rfl⟩
    rw [hlb] at G3
    rw [hlb]
    clear hlb
    go_wp2_with fail
    refine (GS.write0 (sts1 := []) (sts2 := []) G3.out n _ f (fun w' hk => rb_in HR.out HB.out.symm G3.out.bel hk (fun k hk e => by omega)) (by omega)).mono ?_
    rintro e w4 ⟨rfl, hG4, -⟩
    have G4 := hid hG4
    clear hG4
    go_wp2_with fail
    refine (GS.wipe (sts1 := []) (sts2 := []) (leds1 := []) (leds2 := []) G4.out big_nil).mono ?_
    rintro e w5 ⟨rfl, rv5, hG5, -⟩
    have G5 := hid hG5
    clear hG5
    go_wp2_with fail
    refine (runs22 lb rv5 _ _ (GS.midL (leds1 := []) (leds2 := []) G5.out).1 (by show (putL [] (⟨8, 203, 1⟩ : Rn)).length * 24 ≤ _; decide)).mono ?_
    rintro e w6 ⟨u6, rfl, hu6, hb6⟩
    have U6 := hid hu6
    have G6 := hid (G5.out.below hb6)
    clear hu6 hb6
    go_wp2_with fail
    have ol := own_lit w6 [⟨8, 203, 1⟩] #[.int .u8 8, .int .i64 203, .int .i64 1] (fun r hr => by simp at hr; subst hr; exact ⟨by decide, by decide, by decide⟩) rfl (by decide)
    refine (same14 _ _ (putL [] ⟨8, 203, 1⟩) [⟨8, 203, 1⟩] _ ((U6.out.alloc _).reads) ol.reads (by decide) (by decide)).mono ?_
    rw [decide_eq_true (show putL [] ⟨8, 203, 1⟩ = [⟨8, 203, 1⟩] from rfl)]
    rintro e w7 ⟨rfl, d7, rfl⟩
    have G7 := hid (G6.out.below (below_drew' (below_alloc w6 (.cells #[.int .u8 8, .int .i64 203, .int .i64 1] 67)) d7))
    clear ol
    obtain ⟨w7, hw7⟩ : ∃ x, (w6.alloc (.cells #[.int .u8 8, .int .i64 203, .int .i64 1] 67)).drewN d7 = x := ⟨_, rfl⟩
    rw [hw7] at G7
    rw [hw7]
    clear hw7
    go_wp2_with fail
    refine (lives1 _ G7.out.kt).mono ?_
    rintro e w8 ⟨rfl, hb8⟩
    have G8 := hid (G7.out.below hb8)
    clear hb8
    go_wp2_with fail
    refine (empty1 _ _ _ w8 (.inl rfl)).mono ?_
    rintro e w9 ⟨rfl, hb9⟩
    have G9 := hid (G8.out.below hb9)
    clear hb9
    go_wp2_with fail
    have Z9 := hid (Blk.newAt w9 Tryd.zeroCells71 zsp 71 w9.heap.size rfl zero_sp)
    refine (empty1 _ _ _ _ (.inr ⟨_, rfl, _, Z9.out⟩)).mono ?_
    rintro e w10 ⟨rfl, hb10⟩
    have G10 := hid (G9.out.below (below_next (below_alloc w9 _) hb10))
    clear hb10 Z9
    go_wp2_with fail
    refine (empty1 _ _ _ w10 (.inr ⟨b, rfl, (GS.mid (sts1 := []) (sts2 := []) G10.out).1⟩)).mono ?_
    rintro e w11 ⟨rfl, hb11⟩
    have G11 := hid (G10.out.below hb11)
    clear hb11
    go_wp2
    go_ret
    refine ⟨rfl, ?_⟩
    rw [HB.out]
    exact G11.out.bel
end Go.Proofs.YtidejhkajabdfaaDoor.Kc
