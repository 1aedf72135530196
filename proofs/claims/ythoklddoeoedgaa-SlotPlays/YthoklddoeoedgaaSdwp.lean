/- The document's memory of a slot: what Wipe and Same answer. -/
import Derived.Test.YthoklddoeoedgaaSdlk
import Derived.Test.YthoklddoeoedgaaCref
namespace Go.Proofs.Ythoklddoeoedgaa.Sl
open Go.ChangeShapes Go.WideShapes Go.ChangeAt Go.RowKit
open Go.Proofs.Ythoklddoeoedgaa.By
theorem rwipe_no (p bv lp : Value) (w : World) (h : IsD w p bv none) : Calls Try.prog 24 #[p, lp] w fun e w' => e = .returned (.int .i64 1) ∧ w' = w := by
  rcases h with rfl | ⟨b, rfl, h⟩
  · go_enter Try.func24, Try.ntmps24
    go_wp2
    go_ret
    exact ⟨rfl, rfl⟩
  · have c1 := h.cell 1 _ rfl
    clear h
    go_enter Try.func24, Try.ntmps24
    go_wp2
    go_ret
    exact ⟨rfl, rfl⟩
set_option maxRecDepth 20000 in
set_option maxHeartbeats 1200000 in
theorem rwipe_mem (b : Nat) (bv lp : Value) (w : World) (R : World → Prop) (h : Blk w b [bv, .bool true] 38) (hN : RNotes w lp 8 1024 R) (hR : ∀ w', R w' → Blk w' b [bv, .bool true] 38) :
    Calls Try.prog 24 #[.pointer (some ⟨b, 0, none⟩), lp] w fun e w' => e = .returned (.int .i64 0) ∧ ∃ w1, R w1 ∧ IsD w' (.pointer (some ⟨b, 0, none⟩)) (.slice none 0 0) (some (0, fun _ => 0)) ∧ Kp (fun j => j = b) w1 w' := by
  have c1 := h.cell 1 _ rfl
  have HN := hid hN
  have HR := hid hR
  clear h hN hR
  go_enter Try.func24, Try.ntmps24
  go_wp2_with fail
  refine HN.out.mono ?_
  rintro e w1 ⟨rfl, hr⟩
  have B := HR.out w1 hr
  have c0 := B.cell 0 _ rfl
  have z0 := B.frozen 0
  have Q : Hid (∃ w0, R w0 ∧ IsD (w1.setCell ⟨b, 0, none⟩ (.slice none 0 0)) (.pointer (some ⟨b, 0, none⟩)) (.slice none 0 0) (some (0, fun _ => 0)) ∧ Kp (fun j => j = b) w0 (w1.setCell ⟨b, 0, none⟩ (.slice none 0 0))) :=
    ⟨w1, hr, ⟨⟨b, rfl, B.set 0 _⟩, own_nil _ _ _ (fun _ => by show (0 : Int) ≤ 0 ∧ (0 : Int) < 256; decide), Nat.zero_le _, fun _ _ => rfl⟩, Kp.setCell b 0 _⟩
  clear B hr HN HR
  go_wp2
  go_ret
  exact ⟨rfl, Q.out⟩
/-- A memory's mark, as Same asks for it. -/
def Mk (w : World) (p : Value) (y : Bool) : Prop := (p = .pointer none ∧ y = false) ∨ ∃ b, p = .pointer (some ⟨b, 0, none⟩) ∧ w.cell? ⟨b, 1, none⟩ = some (.bool y)
theorem IsD.mk {w : World} {p bv : Value} {k : Kd} (h : IsD w p bv k) : Mk w p k.isSome := by
  cases k with
  | none => exact h.imp (fun e => ⟨e, rfl⟩) (fun ⟨b, e, h⟩ => ⟨b, e, h.cell 1 _ rfl⟩)
  | some z => obtain ⟨⟨b, e, h⟩, _⟩ := h; exact .inr ⟨b, e, h.cell 1 _ rfl⟩
theorem rsame_no (lp p q : Value) (y z : Bool) (w : World) (hp : Mk w p y) (hq : Mk w q z) (hn : y = false ∨ z = false) : Calls Try.prog 26 #[lp, p, q] w fun e w' => e = .returned (.bool false) ∧ w' = w := by
  rcases hp with ⟨rfl, rfl⟩ | ⟨a, rfl, ca⟩
  · clear hn
    rcases hq with ⟨rfl, rfl⟩ | ⟨b, rfl, cb⟩
    · go_enter Try.func26, Try.ntmps26
      go_wp2
      go_ret
      exact ⟨rfl, rfl⟩
    · go_enter Try.func26, Try.ntmps26
      go_wp2
      go_ret
      exact ⟨rfl, rfl⟩
  · rcases hq with ⟨rfl, rfl⟩ | ⟨b, rfl, cb⟩
    · clear hn
      go_enter Try.func26, Try.ntmps26
      go_wp2
      go_ret
      exact ⟨rfl, rfl⟩
    · rcases hn with rfl | rfl
      · go_enter Try.func26, Try.ntmps26
        go_wp2
        go_ret
        exact ⟨rfl, rfl⟩
      · cases y
        · go_enter Try.func26, Try.ntmps26
          go_wp2
          go_ret
          exact ⟨rfl, rfl⟩
        · go_enter Try.func26, Try.ntmps26
          go_wp2
          go_ret
          exact ⟨rfl, rfl⟩
set_option maxRecDepth 20000 in
set_option maxHeartbeats 1200000 in
theorem rsame_mem (lp : Value) (a b : Nat) (av bv : Value) (x y : Nat × (Nat → Int)) (w : World) (R : World → Prop) (ha : IsD w (.pointer (some ⟨a, 0, none⟩)) av (some x)) (hb : IsD w (.pointer (some ⟨b, 0, none⟩)) bv (some y)) (hN : RNotes w lp 6 1024 R) (hRa : ∀ w', R w' → IsD w' (.pointer (some ⟨a, 0, none⟩)) av (some x)) (hRb : ∀ w', R w' → IsD w' (.pointer (some ⟨b, 0, none⟩)) bv (some y)) :
    Calls Try.prog 26 #[lp, .pointer (some ⟨a, 0, none⟩), .pointer (some ⟨b, 0, none⟩)] w fun e w' => e = .returned (.bool (eqS x.2 y.2)) ∧ ∃ w1, R w1 ∧ Below w1.heap.size w1 w' := by
  obtain ⟨n, f⟩ := x
  obtain ⟨m, g⟩ := y
  obtain ⟨⟨a', ea, hA⟩, _⟩ := ha
  cases ea
  obtain ⟨⟨b', eb, hB⟩, _⟩ := hb
  cases eb
  have ca := hA.cell 1 _ rfl
  have cb := hB.cell 1 _ rfl
  have HN := hid hN
  have HA := hid hRa
  have HB := hid hRb
  clear hA hB hN hRa hRb
  go_enter Try.func26, Try.ntmps26
  go_wp2_with fail
  refine HN.out.mono ?_
  rintro e w1 ⟨rfl, hr⟩
  have DA := hid (HA.out w1 hr)
  have DB := hid (HB.out w1 hr)
  have HR := hid hr
  clear hr HN HA HB
  go_wp2_with fail
  refine (rlook_m _ av _ w1 DA.out).mono ?_
  rintro e w2 ⟨rfl, hb2⟩
  have B2 := hid hb2
  clear hb2
  go_wp2_with fail
  refine (rlook_m _ bv _ w2 (DB.out.below B2.out)).mono ?_
  rintro e w3 ⟨rfl, hb3⟩
  have B3 := hid (below_next B2.out hb3)
  clear hb3
  go_wp2
  go_ret
  exact ⟨rfl, w1, HR.out, B3.out⟩
end Go.Proofs.Ythoklddoeoedgaa.Sl
