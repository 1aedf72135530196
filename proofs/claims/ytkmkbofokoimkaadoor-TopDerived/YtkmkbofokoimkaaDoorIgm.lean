/- HKDF's calls with a ledger among several, and without one. -/
import Derived.Test.YtkmkbofokoimkaaDoorIex
import Derived.Test.YtkmkbofokoimkaaDoorIgm0
namespace Go.Proofs.YtkmkbofokoimkaaDoor.Dg
open Go.ChangeShapes Go.WideShapes Go.ChangeAt Go.RowKit
open Go.Proofs.YtkmkbofokoimkaaDoor.By
open Go.Proofs.YtkmkbofokoimkaaDoor.Sh (Blk size_alloc)
theorem xlP (a : Bool) {L : List Rn} (h : Pos L) (nk ni : Nat) (n : Int) : Pos (xl a L nk ni n) := by unfold xl; split; exact xevP a h _ _ _; exact h
theorem ylP (a : Bool) {L : List Rn} (h : Pos L) (ns nk ni : Nat) (n : Int) : Pos (yl a L ns nk ni n) := by unfold yl; split; exact xevP a (tevP a h _ _) _ _ _; exact h
theorem xl_fine (a : Bool) {L : List Rn} (h : Pos L) (nk ni : Nat) (n : Int) (hn : nk ≤ 140737488353328) (hni : ni ≤ 140737488352000) (hb : tq L ≤ 3000000000) : tq (xl a L nk ni n) ≤ tq L + 538000000 := by
  unfold xl
  split
  · rename_i hh
    exact xev_fine a h nk ni _ hn hni (qp_le a _ (by omega)) hb
  · omega
theorem yl_fine (a : Bool) {L : List Rn} (h : Pos L) (ns nk ni : Nat) (n : Int) (hs : ns ≤ 140737488353328) (hn : nk ≤ 140737488353328) (hni : ni ≤ 140737488352000) (hb : tq L ≤ 2900000000) : tq (yl a L ns nk ni n) ≤ tq L + 545000000 := by
  unfold yl
  split
  · rename_i hh
    have h1 := tev_fine a h ns nk hs hn (by omega)
    have h2 := xev_fine a (tevP a h ns nk) (sz a) ni (qp a n.toNat) (by have := sz_le a; omega) hni (qp_le a _ (by omega)) (by omega)
    omega
  · omega
section
variable {w0 W : World} {B : Nat} {sts : List EM} {leds l1 l2 : List LE} {e : LE} {lb : Nat} {rv : Value} {L : List Rn}
theorem GM.extract (h : GM w0 B sts (l1 ++ ⟨true, lb, rv, L⟩ :: l2) W) (a : Bool) (n np : Nat) (v v2 : Value) (g f : Nat → Int) (hr : ∀ w', Kp (SE ⟨true, lb, rv, L⟩) W w' → By.RB w' v n g) (hr2 : ∀ w', Kp (SE ⟨true, lb, rv, L⟩) W w' → By.RB w' v2 np f) (hn : n ≤ 140737488352328) (hnp : np ≤ 140737488352328) (hroom : tq L ≤ 900000000) :
    Calls Tryd.prog 15 #[.pointer (some ⟨lb, 0, none⟩), .int .u8 (an a), v, v2] W fun e w' => ∃ u rv', e = .returned (.tuple #[u, .int .i64 0]) ∧ By.Own w' W.heap.size u (sz a) (hm a (kb a n g) np f) ∧ GM w0 B sts (l1 ++ ⟨true, lb, rv', tev a L n np⟩ :: l2) w' ∧ Ko W w' := by
  refine (extract_ok a n np v v2 g f (some lb) L (SE ⟨true, lb, rv, L⟩) W h.kt h.no.1 h.no.2 h.lg h.midL.1.pos hr hr2 hn hnp hroom).mono ?_
  rintro e w' ⟨u, rfl, g1, g2, g3⟩
  obtain ⟨rv', k1, k2⟩ := h.goL g2 g3
  exact ⟨u, rv', rfl, g1, k1, k2⟩
theorem GM.expand (h : GM w0 B sts (l1 ++ ⟨true, lb, rv, L⟩ :: l2) W) (a : Bool) (nk ni : Nat) (n : Int) (v v2 : Value) (g inf : Nat → Int) (hr : ∀ w', Kp (SE ⟨true, lb, rv, L⟩) W w' → By.RB w' v nk g) (hr2 : ∀ w', Kp (SE ⟨true, lb, rv, L⟩) W w' → By.RB w' v2 ni inf) (hn : nk ≤ 140737488353328) (hni : ni ≤ 140737488352000) (hroom : tq L ≤ 1190000000) :
    Calls Tryd.prog 16 #[.pointer (some ⟨lb, 0, none⟩), .int .u8 (an a), v, v2, .int .i64 n] W fun e w' => ∃ u rv', e = .returned (.tuple #[u, .int .i64 (xc a n)]) ∧ By.Own w' W.heap.size u (xN a n) (okm a (kb a nk g) ni inf) ∧ GM w0 B sts (l1 ++ ⟨true, lb, rv', xl a L nk ni n⟩ :: l2) w' ∧ Ko W w' := by
  refine (expand_any a nk ni n v v2 g inf (some lb) L (SE ⟨true, lb, rv, L⟩) W h.kt h.no.1 h.no.2 h.lg h.midL.1.pos hr hr2 hn hni hroom).mono ?_
  rintro e w' ⟨u, rfl, g1, g2, g3⟩
  obtain ⟨rv', k1, k2⟩ := h.goL g2 g3
  exact ⟨u, rv', rfl, g1, k1, k2⟩
theorem GM.key (h : GM w0 B sts (l1 ++ ⟨true, lb, rv, L⟩ :: l2) W) (a : Bool) (nk ns ni : Nat) (n : Int) (v v2 v3 : Value) (g f inf : Nat → Int) (hr : ∀ w', Kp (SE ⟨true, lb, rv, L⟩) W w' → By.RB w' v nk g) (hr2 : ∀ w', Kp (SE ⟨true, lb, rv, L⟩) W w' → By.RB w' v2 ns f) (hr3 : ∀ w', Kp (SE ⟨true, lb, rv, L⟩) W w' → By.RB w' v3 ni inf) (hn : nk ≤ 140737488352328) (hns : ns ≤ 140737488352328) (hni : ni ≤ 140737488352000) (hroom : tq L ≤ 900000000) :
    Calls Tryd.prog 9 #[.pointer (some ⟨lb, 0, none⟩), .int .u8 (an a), v, v2, v3, .int .i64 n] W fun e w' => ∃ u rv', e = .returned (.tuple #[u, .int .i64 (xc a n)]) ∧ By.Own w' W.heap.size u (xN a n) (okm a (kb a (sz a) (hm a (kb a ns f) nk g)) ni inf) ∧ GM w0 B sts (l1 ++ ⟨true, lb, rv', yl a L ns nk ni n⟩ :: l2) w' ∧ Ko W w' := by
  refine (key_any a nk ns ni n v v2 v3 g f inf (some lb) L (SE ⟨true, lb, rv, L⟩) W h.kt h.no.1 h.no.2 h.lg h.midL.1.pos hr hr2 hr3 hn hns hni hroom).mono ?_
  rintro e w' ⟨u, rfl, g1, g2, g3⟩
  obtain ⟨rv', k1, k2⟩ := h.goL g2 g3
  exact ⟨u, rv', rfl, g1, k1, k2⟩
end
/-- Without a ledger. -/
theorem extract0 (a : Bool) (n np : Nat) (v v2 : Value) (g f : Nat → Int) (w : World) (hk : KT w) (hr : By.RB w v n g) (hr2 : By.RB w v2 np f) (hn : n ≤ 140737488352328) (hnp : np ≤ 140737488352328) :
    Calls Tryd.prog 15 #[.pointer none, .int .u8 (an a), v, v2] w fun e w' => ∃ u, e = .returned (.tuple #[u, .int .i64 0]) ∧ By.Own w' w.heap.size u (sz a) (hm a (kb a n g) np f) ∧ Below w.heap.size w w' := by
  refine (extract_ok a n np v v2 g f none [] (fun _ => False) w hk id id trivial Sg.pos_nil' (fun w' hk' => hr.below (Sg.below_kp hk')) (fun w' hk' => hr2.below (Sg.below_kp hk')) hn hnp (by decide)).mono ?_
  rintro e w' ⟨u, rfl, g1, -, g3⟩
  exact ⟨u, rfl, g1, Sg.below_kp g3⟩
theorem expand0 (a : Bool) (nk ni : Nat) (n : Int) (v v2 : Value) (g inf : Nat → Int) (w : World) (hk : KT w) (hr : By.RB w v nk g) (hr2 : By.RB w v2 ni inf) (hn : nk ≤ 140737488353328) (hni : ni ≤ 140737488352000) :
    Calls Tryd.prog 16 #[.pointer none, .int .u8 (an a), v, v2, .int .i64 n] w fun e w' => ∃ u, e = .returned (.tuple #[u, .int .i64 (xc a n)]) ∧ By.Own w' w.heap.size u (xN a n) (okm a (kb a nk g) ni inf) ∧ Below w.heap.size w w' := by
  refine (expand_any a nk ni n v v2 g inf none [] (fun _ => False) w hk id id trivial Sg.pos_nil' (fun w' hk' => hr.below (Sg.below_kp hk')) (fun w' hk' => hr2.below (Sg.below_kp hk')) hn hni (by decide)).mono ?_
  rintro e w' ⟨u, rfl, g1, -, g3⟩
  exact ⟨u, rfl, g1, Sg.below_kp g3⟩
theorem key0 (a : Bool) (nk ns ni : Nat) (n : Int) (v v2 v3 : Value) (g f inf : Nat → Int) (w : World) (hk : KT w) (hr : By.RB w v nk g) (hr2 : By.RB w v2 ns f) (hr3 : By.RB w v3 ni inf) (hn : nk ≤ 140737488352328) (hns : ns ≤ 140737488352328) (hni : ni ≤ 140737488352000) :
    Calls Tryd.prog 9 #[.pointer none, .int .u8 (an a), v, v2, v3, .int .i64 n] w fun e w' => ∃ u, e = .returned (.tuple #[u, .int .i64 (xc a n)]) ∧ By.Own w' w.heap.size u (xN a n) (okm a (kb a (sz a) (hm a (kb a ns f) nk g)) ni inf) ∧ Below w.heap.size w w' := by
  refine (key_any a nk ns ni n v v2 v3 g f inf none [] (fun _ => False) w hk id id trivial Sg.pos_nil' (fun w' hk' => hr.below (Sg.below_kp hk')) (fun w' hk' => hr2.below (Sg.below_kp hk')) (fun w' hk' => hr3.below (Sg.below_kp hk')) hn hns hni (by decide)).mono ?_
  rintro e w' ⟨u, rfl, g1, -, g3⟩
  exact ⟨u, rfl, g1, Sg.below_kp g3⟩
end Go.Proofs.YtkmkbofokoimkaaDoor.Dg
