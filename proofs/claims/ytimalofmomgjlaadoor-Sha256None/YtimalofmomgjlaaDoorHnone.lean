/- The law Sha256None, walked. -/
import Derived.Test.YtimalofmomgjlaaDoorHlives
namespace Go.Proofs.YtimalofmomgjlaaDoor.Sh
open Go.ChangeShapes Go.WideShapes Go.ChangeAt Go.RowKit
open Go.Proofs.YtimalofmomgjlaaDoor.By Go.Proofs.YtimalofmomgjlaaDoor.Wd

/-- No state: a nil one, or one that is none. -/
def NoS (w : World) : Option Nat → Prop
  | none => True
  | some b => NoSt w b
theorem NoS.below {w w' : World} {sp : Option Nat} (h : NoS w sp) (hb : Below w.heap.size w w') : NoS w' sp := by
  cases sp with
  | none => trivial
  | some b => obtain ⟨cs, h1, h2⟩ := h; exact ⟨cs, h1.below hb, h2⟩
theorem sum_no (sp : Option Nat) (lp : Value) (w : World) (h : NoS w sp) : Calls Tryd.prog 32 #[lpv sp, lp] w fun e w' => e = .returned (.tuple #[.slice none 0 0, .int .i64 1]) ∧ w' = w := by
  cases sp with
  | none => exact sum32z lp w
  | some b => exact sum32n b lp w h
theorem clone_no (sp : Option Nat) (w : World) (h : NoS w sp) : Calls Tryd.prog 28 #[lpv sp] w fun e w' => e = .returned (.tuple #[.pointer none, .int .i64 1]) ∧ w' = w := by
  cases sp with
  | none => exact clone28z w
  | some b => exact clone28n b w h
theorem write_no (sp : Option Nat) (lp v : Value) (w : World) (h : NoS w sp) : Calls Tryd.prog 26 #[lpv sp, lp, v] w fun e w' => e = .returned (.int .i64 1) ∧ w' = w := by
  cases sp with
  | none => exact write26z v lp w
  | some b => exact write26n b v lp w h
theorem reset_no (sp : Option Nat) (w : World) (h : NoS w sp) : Calls Tryd.prog 33 #[lpv sp] w fun e w' => e = .returned (.int .i64 1) ∧ w' = w := by
  cases sp with
  | none => exact reset33z w
  | some b => exact reset33n b w h
theorem wipe_no (sp : Option Nat) (lp : Value) (w : World) (h : NoS w sp) : Calls Tryd.prog 29 #[lpv sp, lp] w fun e w' => e = .returned (.int .i64 1) ∧ w' = w := by
  cases sp with
  | none => exact wipe29z lp w
  | some b => exact wipe29n b lp w h
theorem form_no (sp : Option Nat) (w : World) (h : NoS w sp) : Calls Tryd.prog 30 #[lpv sp] w fun e w' => e = .returned (.slice none 0 0) ∧ w' = w := by
  cases sp with
  | none => exact form30z w
  | some b => exact form30n b w h
theorem len_no (sp : Option Nat) (w : World) (h : NoS w sp) : Calls Tryd.prog 31 #[lpv sp] w fun e w' => e = .returned (.int .i64 0) ∧ w' = w := by
  cases sp with
  | none => exact len31z w
  | some b => exact len31n b w h
theorem lpv_ptr (sp : Option Nat) : ∃ a, lpv sp = .pointer a := by cases sp <;> exact ⟨_, rfl⟩
set_option maxRecDepth 4000 in
set_option maxHeartbeats 1200000 in
theorem empty34 (sp : Option Nat) (v : Value) (w : World) (h : NoS w sp) : Calls Tryd.prog 34 #[lpv sp, v] w fun e w' => e = .returned (.bool true) ∧ Below w.heap.size w w' := by
  have H := hid h
  clear h
  go_enter Tryd.func34, Tryd.ntmps34
  go_wp2_with fail
  refine (new9 _).mono ?_
  rintro e w1 ⟨rfl, hl, hb⟩
  have HL := hid hl
  have HB := hid hb
  have N := hid (H.out.below hb)
  have T0 : Hid (tot [] = 0) := rfl
  clear hl hb
  go_wp2_with (first
    | (go_at_call 32; refine (sum_no sp _ _ N.out).mono ?_; rintro e w1 ⟨rfl, rfl⟩)
    | (go_at_call 28; refine (clone_no sp _ N.out).mono ?_; rintro e w1 ⟨rfl, rfl⟩)
    | (go_at_call 26; refine (write_no sp _ _ _ N.out).mono ?_; rintro e w1 ⟨rfl, rfl⟩)
    | (go_at_call 33; refine (reset_no sp _ N.out).mono ?_; rintro e w1 ⟨rfl, rfl⟩)
    | (go_at_call 29; refine (wipe_no sp _ _ N.out).mono ?_; rintro e w1 ⟨rfl, rfl⟩)
    | (go_at_call 30; refine (form_no sp _ N.out).mono ?_; rintro e w1 ⟨rfl, rfl⟩)
    | (go_at_call 31; refine (len_no sp _ N.out).mono ?_; rintro e w1 ⟨rfl, rfl⟩)
    | (go_at_call 15; refine (len20 _ _ _ _ HL.out).mono ?_; rw [T0.out]; rintro e w1 ⟨rfl, rfl⟩))
  go_ret
  exact ⟨rfl, HB.out⟩
set_option maxRecDepth 4000 in
set_option maxHeartbeats 2000000 in
theorem none_walk (a : Option Addr) (n cap : Nat) (f : Nat → Int) (w : World) (hr : By.RB w (.slice a n cap) n f) (hk : KT w) :
    Calls Tryd.prog 6 #[.slice a n cap] w fun e w' => e = .returned (.bool true) ∧ Below w.heap.size w w' := by
  by_cases hn : 16384 < n
  · clear hr hk
    go_enter Tryd.func6, Tryd.ntmps6
    go_wp2
    go_ret
    exact ⟨rfl, Below.refl _ _⟩
  · have HR := hid hr
    have HK := hid hk
    have hz := zero75
    clear hr hk
    go_enter Tryd.func6, Tryd.ntmps6
    go_wp2_with fail
    refine (new12 _).mono ?_
    rintro e w1 ⟨rfl, hs1, hb1⟩
    have S1 := hid hs1
    have b1 := hid hb1
    clear hs1 hb1
    go_wp2_with fail
    refine (new9 _).mono ?_
    rintro e w2 ⟨rfl, hl2, hb2⟩
    have S2 := hid (S1.out.below hb2)
    have L2 := hid hl2
    have b2 := hid (below_next b1.out hb2)
    have z1 := hid b1.out.size
    have z1' := hid S1.out.here.lt
    clear hl2 hb2
    go_wp2_with fail
    refine (write26 w.heap.size 0 n _ (fun _ => 0) f none [] (fun j => j = w.heap.size) _ S2.out (HK.out.below b2.out) (by have := HK.out.lt; omega) rfl trivial pos_nil' (fun w' h' => HR.out.below (b2.out.trans (h'.below (by have := b2.out.size; omega) (fun k hk e => by have : k = w.heap.size := e; omega)))) (by omega) (by decide)).mono ?_
    rintro e w3 ⟨rfl, hs3, -, hk3⟩
    have S3 := hid hs3
    have b3 := hid (b2.out.trans (hk3.below (by have := b2.out.size; omega) (fun k hk e => by have : k = w.heap.size := e; omega)))
    have L3 := hid (L2.out.kept hk3 (by have := z1'.out; omega) (fun g hg e => by simp [Value.ownBlock] at hg))
    clear hs3 hk3
    go_wp2_with fail
    refine (wipe29 w.heap.size _ _ (some w1.heap.size) [] (fun j => j = w.heap.size ∨ j = w1.heap.size) _ S3.out (.inl rfl) ⟨.inr rfl, _, L3.out, fun g hg _ => by simp [Value.ownBlock] at hg⟩ (by decide)).mono ?_
    rintro e w4 ⟨rfl, hs4, hl4, hk4⟩
    have N4 := hid hs4
    have b4 := hid (b3.out.trans (hk4.below (by have := b3.out.size; omega) (fun k hk e => by have := z1.out; rcases e with e | e <;> omega)))
    obtain ⟨_, rv4, hl4, _⟩ := hl4
    have L4 := hid hl4
    clear hs4 hk4 hl4
    go_wp2_with fail
    refine (runs22 _ _ _ _ L4.out (by decide)).mono ?_
    rintro e w5 ⟨u5, rfl, hu5, hb5⟩
    have U5 := hid hu5
    have N5 := hid (show NoS w5 (some w.heap.size) from NoS.below (sp := some w.heap.size) N4.out hb5)
    have b5 := hid (b4.out.trans (hb5.mono b4.out.size))
    clear hu5 hb5
    go_wp2_with fail
    have ol := own_lit w5 [⟨8, 104, 1⟩] #[.int .u8 8, .int .i64 104, .int .i64 1] (fun r hr => by simp at hr; subst hr; exact ⟨by decide, by decide, by decide⟩) rfl (by decide)
    refine (same14 _ _ (putL [] ⟨8, 104, 1⟩) [⟨8, 104, 1⟩] _ ((U5.out.alloc _).reads) ol.reads (by decide) (by decide)).mono ?_
    rw [decide_eq_true (show putL [] ⟨8, 104, 1⟩ = [⟨8, 104, 1⟩] from rfl)]
    rintro e w6 ⟨rfl, d6, rfl⟩
    have b6 := hid (below_drew' (b5.out.trans ((below_alloc w5 (.cells #[.int .u8 8, .int .i64 104, .int .i64 1] 68)).mono b5.out.size)) d6)
    have N6 := hid (show NoS _ (some w.heap.size) from NoS.below (sp := some w.heap.size) N5.out (below_drew' (below_alloc w5 (.cells #[.int .u8 8, .int .i64 104, .int .i64 1] 68)) d6))
    clear ol
    go_wp2_with fail
    refine (lives8 _ (HK.out.below b6.out)).mono ?_
    rintro e w7 ⟨rfl, hb7⟩
    have N7 := hid (NoS.below (sp := some w.heap.size) N6.out hb7)
    have b7 := hid (b6.out.trans (hb7.mono b6.out.size))
    clear hb7
    go_wp2_with fail
    refine (empty34 none _ _ trivial).mono ?_
    rintro e w8 ⟨rfl, hb8⟩
    have N8 := hid (NoS.below (sp := some w.heap.size) N7.out hb8)
    have b8 := hid (b7.out.trans (hb8.mono b7.out.size))
    clear hb8
    go_wp2_with fail
    have nz : NoS (w8.alloc (.cells zc.toArray 75)) (some w8.heap.size) := ⟨_, Blk.new w8 zc _, by kernel_rfl⟩
    have b8' := hid (b8.out.trans ((below_alloc w8 (.cells zc.toArray 75)).mono b8.out.size))
    have N8' := hid (NoS.below (sp := some w.heap.size) N8.out (below_alloc w8 (.cells zc.toArray 75)))
    refine (empty34 (some w8.heap.size) _ _ nz).mono ?_
    rintro e w9 ⟨rfl, hb9⟩
    have N9 := hid (NoS.below (sp := some w.heap.size) N8'.out hb9)
    have b9 := hid (b8'.out.trans (hb9.mono b8'.out.size))
    clear hb9 nz
    go_wp2_with fail
    refine (empty34 (some w.heap.size) _ _ N9.out).mono ?_
    rintro e w10 ⟨rfl, hb10⟩
    have b10 := hid (b9.out.trans (hb10.mono b9.out.size))
    clear hb10
    go_wp2
    go_ret
    exact ⟨rfl, b10.out⟩
end Go.Proofs.YtimalofmomgjlaaDoor.Sh
