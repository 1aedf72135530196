/- A ledger or none: what a note makes of it. -/
import Derived.Test.YtdmacflcjbkkpaaGreatJr
import Derived.Test.YtdmacflcjbkkpaaGreatJp
namespace Go.Proofs.YtdmacflcjbkkpaaGreat.Co
open Go.ChangeShapes Go.WideShapes Go.ChangeAt Go.RowKit
open Go.Proofs.YtdmacflcjbkkpaaGreat (Rn Own putL SameOrNew Led tot noteTimes17 noteTimes17z noteTimes17n tot_put putL_pos)
/-- A ledger's block and list; none. -/
abbrev Lo := Option (Nat × Value)
def lpo (lo : Lo) : Value := match lo with | none => .pointer none | some (b, _) => .pointer (some ⟨b, 0, none⟩)
def blo (lo : Lo) (j : Nat) : Prop := match lo with | none => False | some (b, rv) => j = b ∨ rv.ownBlock = some j
def LdO (W : World) (lo : Lo) (L : List Rn) : Prop := match lo with | none => True | some (b, rv) => Led W b rv L
/-- There is room for m notes more. -/
def Rm (L : List Rn) (m : Nat) : Prop := tot L + m * 1125899906842624 ≤ 4611686018427387904 ∧ L.length + m ≤ 1099511627776 ∧ Pos L
theorem Rm.less {L : List Rn} {m k : Nat} (h : Rm L m) (hk : k ≤ m) : Rm L k := ⟨by have := h.1; omega, by have := h.2.1; omega, h.2.2⟩
theorem Rm.put {L : List Rn} {m : Nat} (h : Rm L (m + 1)) {r : Rn} (hr : r.c ≤ 1125899906842624) : Rm (putL L r) m := by
  by_cases h1 : r.c < 1
  · rw [putU_0 h1]; exact h.less (Nat.le_succ _)
  · have h2 := h.1
    have e := tot_put h.2.2 (r := r) (by omega) (by omega)
    have l := putU_len (A := L) (r := r)
    have := h.2.1
    exact ⟨by rw [e]; omega, by omega, putL_pos h.2.2⟩
/-- What a call leaves of a ledger. -/
structure LT (W W' : World) (lo lo' : Lo) (L : List Rn) : Prop where
  led : LdO W' lo' L
  ptr : lpo lo' = lpo lo
  blk : ∀ j, blo lo' j → blo lo j ∨ W.heap.size ≤ j
  kp : Kp (blo lo) W W'
theorem LdO.lt {W : World} {lo : Lo} {L : List Rn} (h : LdO W lo L) : ∀ j, blo lo j → j < W.heap.size := fun j hj => by
  cases lo with
  | none => exact hj.elim
  | some x =>
    obtain ⟨b, rv⟩ := x
    rcases hj with e | e
    · rw [show j = b from e]; exact Led.lt h
    · exact (Led.own h).lt j e |>.2
theorem LdO.kept {W W' : World} {lo : Lo} {L : List Rn} {S : Nat → Prop} (h : LdO W lo L) (hk : Kp S W W') (hn : ∀ j, blo lo j → ¬ S j) : LdO W' lo L := by
  cases lo with
  | none => trivial
  | some x =>
    obtain ⟨b, rv⟩ := x
    exact Led.kept h hk (hn b (.inl rfl)) (fun g hg => hn g (.inr hg))
theorem LdO.below {W W' : World} {lo : Lo} {L : List Rn} (h : LdO W lo L) (hb : Below W.heap.size W W') : LdO W' lo L := h.kept (Kp.of_below (fun _ => False) hb) (fun _ _ e => e)
theorem LT.refl {W : World} {lo : Lo} {L : List Rn} (h : LdO W lo L) : LT W W lo lo L := ⟨h, rfl, fun _ e => .inl e, Kp.refl _ _⟩
theorem LT.of_below {W W' : World} {lo : Lo} {L : List Rn} (h : LdO W lo L) (hb : Below W.heap.size W W') : LT W W' lo lo L := ⟨h.below hb, rfl, fun _ e => .inl e, Kp.of_below _ hb⟩
theorem LT.trans {W W1 W2 : World} {lo l1 l2 : Lo} {L M : List Rn} (h : LT W W1 lo l1 L) (k : LT W1 W2 l1 l2 M) : LT W W2 lo l2 M :=
  ⟨k.led, k.ptr.trans h.ptr, fun j hj => (k.blk j hj).elim (h.blk j) (fun e => .inr (Nat.le_trans h.kp.size e)), h.kp.trans k.kp (fun i hi e => (h.blk i e).elim id (fun e => by omega))⟩
theorem LT.after {W W0 W1 : World} {lo l1 : Lo} {L : List Rn} (hb : Below W.heap.size W W0) (k : LT W0 W1 lo l1 L) : LT W W1 lo l1 L :=
  ⟨k.led, k.ptr, fun j hj => (k.blk j hj).imp id (fun e => Nat.le_trans hb.size e), (Kp.of_below _ hb).trans k.kp (fun _ _ e => e)⟩
theorem LT.below {W W1 W2 : World} {lo l1 : Lo} {L : List Rn} (k : LT W W1 lo l1 L) (hb : Below W1.heap.size W1 W2) : LT W W2 lo l1 L := k.trans (LT.of_below k.led hb)
/-- Something else is turned. -/
theorem LT.other {W W1 W2 : World} {lo l1 : Lo} {L : List Rn} {S : Nat → Prop} (k : LT W W1 lo l1 L) (hk : Kp S W1 W2) (hn : ∀ j, blo l1 j → ¬ S j) : LdO W2 l1 L := k.led.kept hk hn
theorem noteTimes_o (lo : Lo) (L : List Rn) (k s n : Int) (w : World) (h : LdO w lo L) (hr : 0 ≤ k ∧ k < 256 ∧ -9223372036854775808 ≤ s ∧ s ≤ 9223372036854775807) (hn : -9223372036854775808 ≤ n ∧ n ≤ 1125899906842624) (hm : Rm L 1) :
    Calls Tryz.prog 85 #[lpo lo, .agg #[.int .u8 k, .int .i64 s], .int .i64 n] w fun e w' => e = .returned (.tuple #[]) ∧ ∃ lo', LT w w' lo lo' (putL L ⟨k, s, n⟩) := by
  cases lo with
  | none =>
    refine (noteTimes17n k s n w).mono ?_
    rintro e w' ⟨rfl, hb⟩
    exact ⟨rfl, none, trivial, rfl, fun _ e => e.elim, Kp.of_below _ hb⟩
  | some x =>
    obtain ⟨b, rv⟩ := x
    by_cases h1 : n < 1
    · refine (noteTimes17z b k s n w h1).mono ?_
      rintro e w' ⟨rfl, hb⟩
      refine ⟨rfl, some (b, rv), ?_⟩
      rw [putU_0 h1]
      exact LT.of_below (lo := some (b, rv)) h hb
    · refine (noteTimes17 b rv L k s n w h ⟨⟨hr.1, hr.2.1⟩, ⟨hr.2.2.1, hr.2.2.2⟩, by show -9223372036854775808 ≤ n; omega, by show n ≤ 9223372036854775807; omega⟩ (by omega) (by have := hm.1; omega) (by have := hm.2.1; omega)).mono ?_
      rintro e w' ⟨rfl, rv', hl, hk, hs⟩
      refine ⟨rfl, some (b, rv'), hl, rfl, fun j hj => ?_, hk⟩
      rcases hj with e | e
      · exact .inl (.inl e)
      · rcases hs with hs | hs
        · exact .inl (.inr (hs ▸ e))
        · exact .inr (hs j e)
theorem note_o (lo : Lo) (L : List Rn) (k s : Int) (w : World) (h : LdO w lo L) (hr : 0 ≤ k ∧ k < 256 ∧ -9223372036854775808 ≤ s ∧ s ≤ 9223372036854775807) (hm : Rm L 1) :
    Calls Tryz.prog 63 #[lpo lo, .agg #[.int .u8 k, .int .i64 s]] w fun e w' => e = .returned (.tuple #[]) ∧ ∃ lo', LT w w' lo lo' (putL L ⟨k, s, 1⟩) := by
  cases lo with
  | none =>
    refine (note16n k s w).mono ?_
    rintro e w' ⟨rfl, hb⟩
    exact ⟨rfl, none, trivial, rfl, fun _ e => e.elim, Kp.of_below _ hb⟩
  | some x =>
    obtain ⟨b, rv⟩ := x
    refine (note16 b rv L k s w h ⟨⟨hr.1, hr.2.1⟩, ⟨hr.2.2.1, hr.2.2.2⟩, by show (-9223372036854775808 : Int) ≤ 1; decide, by show (1 : Int) ≤ 9223372036854775807; decide⟩ (by have := hm.1; omega) (by have := hm.2.1; omega)).mono ?_
    rintro e w' ⟨rfl, rv', hl, hk, hs⟩
    refine ⟨rfl, some (b, rv'), hl, rfl, fun j hj => ?_, hk⟩
    rcases hj with e | e
    · exact .inl (.inl e)
    · rcases hs with hs | hs
      · exact .inl (.inr (hs ▸ e))
      · exact .inr (hs j e)
end Go.Proofs.YtdmacflcjbkkpaaGreat.Co
