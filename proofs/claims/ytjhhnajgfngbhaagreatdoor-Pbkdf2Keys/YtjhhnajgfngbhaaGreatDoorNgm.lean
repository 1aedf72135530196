/- PBKDF2's calls with a ledger among several, and without one. -/
import Derived.Test.YtjhhnajgfngbhaaGreatDoorNks
import Derived.Test.YtjhhnajgfngbhaaGreatDoorIgm0
namespace Go.Proofs.YtjhhnajgfngbhaaGreatDoor.Dg
open Go.ChangeShapes Go.WideShapes Go.ChangeAt Go.RowKit
open Go.Proofs.YtjhhnajgfngbhaaGreatDoor.By
open Go.Proofs.YtjhhnajgfngbhaaGreatDoor.Sh (Blk size_alloc)
theorem klP (a : Bool) {L : List Rn} (h : Pos L) (np ns : Nat) (c n : Int) : Pos (kl a L np ns c n) := by unfold kl; split; exact delP a h _ _ _ _; exact h
theorem ilP (a : Bool) {L : List Rn} (h : Pos L) (np ns : Nat) (c n : Int) : Pos (il a L np ns c n) := by unfold il; split; exact delP a h _ _ _ _; exact h
theorem kl_fine (a : Bool) {L : List Rn} (h : Pos L) (np ns : Nat) (c n : Int) (hp : np ≤ 140737488353328) (hn : kok c n → ns ≤ 1000000) (hb : tq L ≤ 3000000000) : tq (kl a L np ns c n) ≤ tq L + 2100000 := by
  unfold kl
  split
  · rename_i hh
    have h' := hh
    unfold kok at h'
    exact del_fine a h np ns _ _ hb hp (hn hh) (by omega) (by have := qp_511 a n.toNat (by omega); omega)
  · omega
theorem il_fine (a : Bool) {L : List Rn} (h : Pos L) (np ns : Nat) (c n : Int) (hp : np ≤ 140737488353328) (hn : iok c n → ns ≤ 1000000) (hb : tq L ≤ 3000000000) : tq (il a L np ns c n) ≤ tq L + 2100000 := by
  unfold il
  split
  · rename_i hh
    have h' := hh
    unfold iok at h'
    exact del_fine a h np ns _ _ hb hp (hn hh) (by omega) (by omega)
  · omega
section
variable {w0 W : World} {B : Nat} {sts : List EM} {leds l1 l2 : List LE} {lb : Nat} {rv : Value} {L : List Rn}
theorem GM.pkey (h : GM w0 B sts (l1 ++ ⟨true, lb, rv, L⟩ :: l2) W) (a : Bool) (np ns : Nat) (c n : Int) (v v2 : Value) (g f : Nat → Int) (hr : ∀ w', Kp (SE ⟨true, lb, rv, L⟩) W w' → By.RB w' v np g) (hr2 : ∀ w', Kp (SE ⟨true, lb, rv, L⟩) W w' → By.RB w' v2 ns f) (hn : np ≤ 140737488353328) (hns : kok c n → ns ≤ 1000000) (hroom : tq L ≤ 1800000000) :
    Calls Tryz.prog 10 #[.pointer (some ⟨lb, 0, none⟩), .int .u8 (an a), v, v2, .int .i64 c, .int .i64 n] W fun e w' => ∃ u rv', e = .returned (.tuple #[u, .int .i64 (kc c n)]) ∧ By.Own w' W.heap.size u (kN c n) (dk a (kb a np g) ns f c.toNat) ∧ GM w0 B sts (l1 ++ ⟨true, lb, rv', kl a L np ns c n⟩ :: l2) w' ∧ Ko W w' := by
  refine (pkey_any a np ns c n v v2 g f (some lb) L (SE ⟨true, lb, rv, L⟩) W h.kt h.no.1 h.no.2 h.lg h.midL.1.pos hr hr2 hn hns hroom).mono ?_
  rintro e w' ⟨u, rfl, g1, g2, g3⟩
  obtain ⟨rv', k1, k2⟩ := h.goL g2 g3
  exact ⟨u, rv', rfl, g1, k1, k2⟩
theorem GM.pblk (h : GM w0 B sts (l1 ++ ⟨true, lb, rv, L⟩ :: l2) W) (a : Bool) (np ns : Nat) (c i : Int) (hi : -9223372036854775808 ≤ i ∧ i ≤ 9223372036854775807) (v v2 : Value) (g f : Nat → Int) (hr : ∀ w', Kp (SE ⟨true, lb, rv, L⟩) W w' → By.RB w' v np g) (hr2 : ∀ w', Kp (SE ⟨true, lb, rv, L⟩) W w' → By.RB w' v2 ns f) (hn : np ≤ 140737488353328) (hns : iok c i → ns ≤ 1000000) (hroom : tq L ≤ 1800000000) :
    Calls Tryz.prog 19 #[.pointer (some ⟨lb, 0, none⟩), .int .u8 (an a), v, v2, .int .i64 c, .int .i64 i] W fun e w' => ∃ u rv', e = .returned (.tuple #[u, .int .i64 (ic c i)]) ∧ By.Own w' W.heap.size u (iN a c i) (xs a (kb a np g) ns f i.toNat (c.toNat - 1)) ∧ GM w0 B sts (l1 ++ ⟨true, lb, rv', il a L np ns c i⟩ :: l2) w' ∧ Ko W w' := by
  refine (pblk_any a np ns c i hi v v2 g f (some lb) L (SE ⟨true, lb, rv, L⟩) W h.kt h.no.1 h.no.2 h.lg h.midL.1.pos hr hr2 hn hns hroom).mono ?_
  rintro e w' ⟨u, rfl, g1, g2, g3⟩
  obtain ⟨rv', k1, k2⟩ := h.goL g2 g3
  exact ⟨u, rv', rfl, g1, k1, k2⟩
end
/-- Without a ledger. -/
theorem pkey0 (a : Bool) (np ns : Nat) (c n : Int) (v v2 : Value) (g f : Nat → Int) (w : World) (hk : KT w) (hr : By.RB w v np g) (hr2 : By.RB w v2 ns f) (hn : np ≤ 140737488353328) (hns : kok c n → ns ≤ 1000000) :
    Calls Tryz.prog 10 #[.pointer none, .int .u8 (an a), v, v2, .int .i64 c, .int .i64 n] w fun e w' => ∃ u, e = .returned (.tuple #[u, .int .i64 (kc c n)]) ∧ By.Own w' w.heap.size u (kN c n) (dk a (kb a np g) ns f c.toNat) ∧ Below w.heap.size w w' := by
  refine (pkey_any a np ns c n v v2 g f none [] (fun _ => False) w hk id id trivial Sg.pos_nil' (fun w' hk' => hr.below (Sg.below_kp hk')) (fun w' hk' => hr2.below (Sg.below_kp hk')) hn hns (by decide)).mono ?_
  rintro e w' ⟨u, rfl, g1, -, g3⟩
  exact ⟨u, rfl, g1, Sg.below_kp g3⟩
theorem pkey0k (a : Bool) (np ns c N : Nat) (v v2 : Value) (g f : Nat → Int) (w : World) (hk : KT w) (hr : By.RB w v np g) (hr2 : By.RB w v2 ns f) (hn : np ≤ 140737488353328) (hns : ns ≤ 1000000) (hc1 : 1 ≤ c) (hc2 : c ≤ 1048576) (hN : N ≤ 16320) :
    Calls Tryz.prog 10 #[.pointer none, .int .u8 (an a), v, v2, .int .i64 c, .int .i64 N] w fun e w' => ∃ u, e = .returned (.tuple #[u, .int .i64 0]) ∧ By.Own w' w.heap.size u N (dk a (kb a np g) ns f c) ∧ Below w.heap.size w w' := by
  refine (pkey_ok a np ns c N v v2 g f none [] (fun _ => False) w hk id id trivial Sg.pos_nil' (fun w' hk' => hr.below (Sg.below_kp hk')) (fun w' hk' => hr2.below (Sg.below_kp hk')) hn hns hc1 hc2 hN (by decide)).mono ?_
  rintro e w' ⟨u, rfl, g1, -, g3⟩
  exact ⟨u, rfl, g1, Sg.below_kp g3⟩
theorem pblk0 (a : Bool) (np ns : Nat) (c i : Int) (hi : -9223372036854775808 ≤ i ∧ i ≤ 9223372036854775807) (v v2 : Value) (g f : Nat → Int) (w : World) (hk : KT w) (hr : By.RB w v np g) (hr2 : By.RB w v2 ns f) (hn : np ≤ 140737488353328) (hns : iok c i → ns ≤ 1000000) :
    Calls Tryz.prog 19 #[.pointer none, .int .u8 (an a), v, v2, .int .i64 c, .int .i64 i] w fun e w' => ∃ u, e = .returned (.tuple #[u, .int .i64 (ic c i)]) ∧ By.Own w' w.heap.size u (iN a c i) (xs a (kb a np g) ns f i.toNat (c.toNat - 1)) ∧ Below w.heap.size w w' := by
  refine (pblk_any a np ns c i hi v v2 g f none [] (fun _ => False) w hk id id trivial Sg.pos_nil' (fun w' hk' => hr.below (Sg.below_kp hk')) (fun w' hk' => hr2.below (Sg.below_kp hk')) hn hns (by decide)).mono ?_
  rintro e w' ⟨u, rfl, g1, -, g3⟩
  exact ⟨u, rfl, g1, Sg.below_kp g3⟩
theorem pblk0k (a : Bool) (np ns c i : Nat) (v v2 : Value) (g f : Nat → Int) (w : World) (hk : KT w) (hr : By.RB w v np g) (hr2 : By.RB w v2 ns f) (hn : np ≤ 140737488353328) (hns : ns ≤ 1000000) (hc1 : 1 ≤ c) (hc2 : c ≤ 1048576) (hi1 : 1 ≤ i) (hi2 : i ≤ 4294967295) :
    Calls Tryz.prog 19 #[.pointer none, .int .u8 (an a), v, v2, .int .i64 c, .int .i64 i] w fun e w' => ∃ u, e = .returned (.tuple #[u, .int .i64 0]) ∧ By.Own w' w.heap.size u (sz a) (xs a (kb a np g) ns f i (c - 1)) ∧ Below w.heap.size w w' := by
  refine (pblk_ok a np ns c i v v2 g f none [] (fun _ => False) w hk id id trivial Sg.pos_nil' (fun w' hk' => hr.below (Sg.below_kp hk')) (fun w' hk' => hr2.below (Sg.below_kp hk')) hn hns hc1 hc2 hi1 hi2 (by decide)).mono ?_
  rintro e w' ⟨u, rfl, g1, -, g3⟩
  exact ⟨u, rfl, g1, Sg.below_kp g3⟩
end Go.Proofs.YtjhhnajgfngbhaaGreatDoor.Dg
