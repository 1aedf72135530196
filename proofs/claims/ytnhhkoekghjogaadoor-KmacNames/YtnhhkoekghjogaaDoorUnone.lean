/- The statement None, walked. -/
import Derived.Test.YtnhhkoekghjogaaDoorUlive
import Derived.Test.YtnhhkoekghjogaaDoorRlen
import Derived.Test.YtnhhkoekghjogaaDoorRreads
namespace Go.Proofs.YtnhhkoekghjogaaDoor.Kc
open Go.ChangeShapes Go.WideShapes Go.ChangeAt Go.RowKit
open Go.Proofs.YtnhhkoekghjogaaDoor.By Go.Proofs.YtnhhkoekghjogaaDoor.Wd
set_option maxHeartbeats 2000000 in
theorem empty1 (m pv nv : Value) (w : World) (h : NoM w m) :
    Calls Tryd.prog 28 #[m, pv, nv] w fun e w' => e = .returned (.bool true) ∧ Below w.heap.size w w' := by
  have H := hid h
  clear h
  go_enter Tryd.func28, Tryd.ntmps28
  go_wp2_with fail
  refine (new9 w).mono ?_
  rintro e w1 ⟨rfl, hl, hb⟩
  have HL := hid hl
  have HB := hid hb
  have HN := hid (H.out.below hb)
  clear hl hb H
  go_wp2_with (first
    | (go_at_call 26; refine (HN.out.sum _ _ _).mono ?_; rintro e w' ⟨rfl, rfl⟩)
    | (go_at_call 21; refine (HN.out.write _ _).mono ?_; rintro e w' ⟨rfl, rfl⟩)
    | (go_at_call 24; refine (HN.out.wipe _).mono ?_; rintro e w' ⟨rfl, rfl⟩)
    | (go_at_call 23; refine HN.out.clone.mono ?_; rintro e w' ⟨rfl, rfl⟩)
    | (go_at_call 27; refine HN.out.form.mono ?_; rintro e w' ⟨rfl, rfl⟩)
    | (go_at_call 33; refine HN.out.strength.mono ?_; rintro e w' ⟨rfl, rfl⟩)
    | (go_at_call 32; refine (len20 _ _ _ _ HL.out).mono ?_; rintro e w' ⟨rfl, rfl⟩))
  go_ret
  exact ⟨rfl, HB.out⟩
set_option maxRecDepth 4000 in
set_option maxHeartbeats 4000000 in
theorem none_walk (a : Option Addr) (n cap : Nat) (f : Nat → Int) (a1 : Int) (w : World) (hr : By.RB w (.slice a n cap) n f) (hk : KT w) :
    Calls Tryd.prog 5 #[.slice a n cap, .int .i64 a1] w fun e w' => e = .returned (.bool true) ∧ Below w.heap.size w w' := by
  by_cases hn : 4000 < n
  · clear hr hk
    go_enter Tryd.func5, Tryd.ntmps5
    go_wp2
    go_ret
    exact ⟨rfl, Below.refl _ _⟩
  · have HR := hid hr
    have HK := hid hk
    clear hr hk
    go_enter Tryd.func5, Tryd.ntmps5
    go_wp2_with fail
    refine (knew_ok 256 136 n 0 f no0 _ _ none [] (fun _ => False) w (.inr ⟨rfl, rfl⟩) HK.out (fun e => e) (fun e => e) trivial pos_nil tiny_nil (fun w' hk' => HR.out.below (below_no hk')) (fun w' _ => rb_none w') (by omega) (by omega)).mono ?_
    rintro e w1 ⟨g, b, rfl, hb, hg, hm, -, hkp⟩
    have B1 := hid (below_no hkp)
    have M1 := hid hm
    have HG := hid hg
    have HB := hid hb
    clear hb hg hm hkp
    go_wp2_with fail
    refine (new9 w1).mono ?_
    rintro e w2 ⟨rfl, hl, hb⟩
    have L2 := hid hl
    have M2 := hid (M1.out.below hb)
    have B2 := hid (below_next B1.out hb)
    clear hl hb M1
    obtain ⟨lb, hlb⟩ : ∃ lb, w1.heap.size = lb := ⟨_, rfl⟩
    have HLB : Hid (w.heap.size ≤ lb) := by have := B1.out.size; show _ ≤ _; omega
    rw [hlb] at L2
    rw [hlb]
    clear hlb B1
    go_wp2_with fail
    refine (M2.out.wipe (some lb) [] (fun j => w.heap.size ≤ j) HG.out HB.out ⟨HLB.out, .slice none 0 0, L2.out, fun x hx => by simp [Value.ownBlock] at hx⟩ big_nil).mono ?_
    rintro e w3 ⟨rfl, hg3, -, hl3, hk3⟩
    obtain ⟨_, rv, hl3, _⟩ := hl3
    have G3 := hid hg3
    have L3 := hid hl3
    have B3 : Hid (Below w.heap.size w w3) := B2.out.trans (hk3.below B2.out.size (fun k hk e => by have e' : w.heap.size ≤ k := e; omega))
    clear hg3 hl3 hk3 M2 L2 B2
    go_wp2_with fail
    refine (runs22 lb rv _ _ L3.out (by show (putL [] (⟨8, 203, 1⟩ : Rn)).length * 24 ≤ _; decide)).mono ?_
    rintro e w6 ⟨u6, rfl, hu6, hb6⟩
    have U6 := hid hu6
    have B6 := hid (below_next B3.out hb6)
    have G6 := hid (G3.out.below hb6)
    clear hu6 hb6 B3 G3 L3
    go_wp2_with fail
    have ol := own_lit w6 [⟨8, 203, 1⟩] #[.int .u8 8, .int .i64 203, .int .i64 1] (fun r hr => by simp at hr; subst hr; exact ⟨by decide, by decide, by decide⟩) rfl (by decide)
    refine (same14 _ _ (putL [] ⟨8, 203, 1⟩) [⟨8, 203, 1⟩] _ ((U6.out.alloc _).reads) ol.reads (by decide) (by decide)).mono ?_
    rw [decide_eq_true (show putL [] ⟨8, 203, 1⟩ = [⟨8, 203, 1⟩] from rfl)]
    rintro e w7 ⟨rfl, d7, rfl⟩
    have b67 := below_drew' (below_alloc w6 (.cells #[.int .u8 8, .int .i64 203, .int .i64 1] 63)) d7
    have B7 := hid (below_next B6.out b67)
    have G7 := hid (G6.out.below b67)
    clear ol b67 B6 G6
    obtain ⟨w7, hw7⟩ : ∃ x, (w6.alloc (.cells #[.int .u8 8, .int .i64 203, .int .i64 1] 63)).drewN d7 = x := ⟨_, rfl⟩
    rw [hw7] at B7 G7
    rw [hw7]
    clear hw7
    go_wp2_with fail
    refine (lives1 _ (HK.out.below B7.out)).mono ?_
    rintro e w8 ⟨rfl, hb8⟩
    have B8 := hid (below_next B7.out hb8)
    have G8 := hid (G7.out.below hb8)
    clear hb8 B7 G7
    go_wp2_with fail
    refine (empty1 _ _ _ w8 (.inl rfl)).mono ?_
    rintro e w9 ⟨rfl, hb9⟩
    have B9 := hid (below_next B8.out hb9)
    have G9 := hid (G8.out.below hb9)
    clear hb9 B8 G8
    go_wp2_with fail
    have Z9 := hid (Blk.newAt w9 #[.pointer none, .int .i64 0] [.pointer none, .int .i64 0] 67 w9.heap.size rfl rfl)
    refine (empty1 _ _ _ _ (.inr ⟨_, rfl, Z9.out⟩)).mono ?_
    rintro e w10 ⟨rfl, hb10⟩
    have B10 := hid (below_next B9.out (below_next (below_alloc w9 _) hb10))
    have G10 := hid (G9.out.below (below_next (below_alloc w9 _) hb10))
    clear hb10 Z9 B9 G9
    go_wp2_with fail
    refine (empty1 _ _ _ w10 (.inr ⟨g, rfl, G10.out⟩)).mono ?_
    rintro e w11 ⟨rfl, hb11⟩
    have B11 := hid (below_next B10.out hb11)
    clear hb11
    go_wp2
    go_ret
    exact ⟨rfl, B11.out⟩
end Go.Proofs.YtnhhkoekghjogaaDoor.Kc
