/- A state of the document: the calls that note in a ledger, or in none. -/
import Derived.Test.YtbjccfnaadmofaaDoorHref1
namespace Go.Proofs.YtbjccfnaadmofaaDoor.Sh
open Go.ChangeShapes Go.WideShapes Go.ChangeAt Go.RowKit
open Go.Proofs.YtbjccfnaadmofaaDoor.By Go.Proofs.YtbjccfnaadmofaaDoor.Wd

/-- The document's ledger, or none. -/
def RG (w : World) (L : List Rn) : Option (Nat × Value) → Prop
  | none => True
  | some (lb, rv) => RLed w lb rv L ∧ Room L
def lptr : Option (Nat × Value) → Value
  | none => .pointer none
  | some (lb, _) => .pointer (some ⟨lb, 0, none⟩)
def SR : Option (Nat × Value) → Nat → Prop
  | none, _ => False
  | some (lb, rv), j => j = lb ∨ rv.ownBlock = some j
def RP (w w' : World) (L' : List Rn) : Option (Nat × Value) → Prop
  | none => True
  | some (lb, rv) => ∃ rv', RLed w' lb rv' L' ∧ SameOrNew w rv rv'
theorem RG.below {w w' : World} {L : List Rn} {lo : Option (Nat × Value)} (h : RG w L lo) (hb : Below w.heap.size w w') : RG w' L lo := by
  match lo, h with
  | none, _ => exact trivial
  | some (lb, rv), h => exact ⟨h.1.below hb, h.2⟩
theorem RP.below {w w1 w' : World} {L : List Rn} {lo : Option (Nat × Value)} (h : RP w w1 L lo) (hb : Below w1.heap.size w1 w') : RP w w' L lo := by
  match lo, h with
  | none, _ => exact trivial
  | some (lb, rv), ⟨rv', h, s⟩ => exact ⟨rv', h.below hb, s⟩
theorem RP.from {w0 w w' : World} {L : List Rn} {lo : Option (Nat × Value)} (h : RP w w' L lo) (hb : w0.heap.size ≤ w.heap.size) : RP w0 w' L lo := by
  match lo, h with
  | none, _ => exact trivial
  | some (lb, rv), ⟨rv', h, s⟩ => exact ⟨rv', h, s.imp id (fun h g hg => Nat.le_trans hb (h g hg))⟩
theorem RG.apart {w : World} {L : List Rn} {lo : Option (Nat × Value)} (h : RG w L lo) {g : Nat} {cs : List Value} {t : TypeId} (hg : Blk w g cs t) (h1 : t ≠ 56) (h2 : t ≠ 84) : ¬ SR lo g := by
  match lo, h with
  | none, _ => exact id
  | some (lb, rv), h => exact rled_apart h.1 hg h1 h2
theorem rtimes0 (p : Option Addr) (a : Value) (n : Int) (k s : Int) (w : World) (ha : a = .agg #[.int .u8 k, .int .i64 s]) (h : p = none ∨ n < 1) :
    Calls Tryd.prog 45 #[.pointer p, a, .int .i64 n] w fun e w' => e = .returned (.tuple #[]) ∧ Below w.heap.size w w' := by
  subst ha
  have b := below_alloc w (.cells #[.int .u8 k, .int .i64 s] 82)
  cases p with
  | none =>
    go_enter Tryd.func45, Tryd.ntmps45
    go_wp2
    refine bodyPost_ret (results_none rfl _ _ _) rfl ?_
    exact ⟨rfl, b⟩
  | some q =>
    have hn : n < 1 := by rcases h with h | h; cases h; exact h
    go_enter Tryd.func45, Tryd.ntmps45
    go_wp2
    refine bodyPost_ret (results_none rfl _ _ _) rfl ?_
    exact ⟨rfl, b⟩
theorem rlen_tot {w : World} {b : Nat} {rv : Value} {L : List Rn} (h : RLed w b rv L) : (L.length : Int) ≤ tot L ∧ 0 ≤ tot L := by have := tot_pos h.pos; omega
theorem rroom_len {w : World} {lb : Nat} {rv : Value} {L : List Rn} (h : RLed w lb rv L) (hr : Room L) : (L.length + 1) * 24 ≤ 140737488355328 := by
  have := rlen_tot h
  unfold Room at hr
  have h2 : L.length ≤ 1000000 := by omega
  have := Nat.mul_le_mul_right 24 (Nat.succ_le_succ h2)
  omega
theorem rtimes (lo : Option (Nat × Value)) (L : List Rn) (n : Nat) (w : World) (h : RG w L lo) (hn : n ≤ 1000000) :
    Calls Tryd.prog 45 #[lptr lo, .agg #[.int .u8 1, .int .i64 64], .int .i64 n] w fun e w' => e = .returned (.tuple #[]) ∧ RP w w' (evs256 L n) lo ∧ Kp (SR lo) w w' := by
  match lo, h with
  | none, _ =>
    refine (rtimes0 none _ n 1 64 w rfl (.inl rfl)).mono ?_
    rintro e w1 ⟨rfl, hb⟩
    exact ⟨rfl, trivial, Kp.of_below _ hb⟩
  | some (lb, rv), ⟨h, hr⟩ =>
    have hl := rroom_len h hr
    have ht := rlen_tot h
    unfold Room at hr
    match n with
    | 0 =>
      refine (rtimes0 (some ⟨lb, 0, none⟩) _ _ 1 64 w rfl (.inr (by omega))).mono ?_
      rintro e w1 ⟨rfl, hb⟩
      exact ⟨rfl, ⟨rv, h.below hb, .inl rfl⟩, Kp.of_below _ hb⟩
    | k + 1 =>
      refine (refNoteTimes45 lb rv L 1 64 ((k + 1 : Nat) : Int) w h ⟨by show (0 : Int) ≤ 1 ∧ (1 : Int) < 256; decide, by show (-9223372036854775808 : Int) ≤ 64 ∧ (64 : Int) ≤ 9223372036854775807; decide, by show -9223372036854775808 ≤ ((k + 1 : Nat) : Int) ∧ ((k + 1 : Nat) : Int) ≤ 9223372036854775807; omega⟩ (by omega) (by omega) hl).mono ?_
      rintro e w1 ⟨rfl, rv1, hl1, hk1, hs1⟩
      rw [putL_many L h.pos k (by omega)] at hl1
      exact ⟨rfl, ⟨rv1, hl1, hs1⟩, hk1⟩
theorem rnote0 (a : Value) (k s : Int) (w : World) (ha : a = .agg #[.int .u8 k, .int .i64 s]) :
    Calls Tryd.prog 52 #[.pointer none, a] w fun e w' => e = .returned (.tuple #[]) ∧ Below w.heap.size w w' := by
  subst ha
  have b := hid (below_alloc w (.cells #[.int .u8 k, .int .i64 s] 82))
  go_enter Tryd.func52, Tryd.ntmps52
  go_wp2_with fail
  refine (rtimes0 none _ _ k s _ rfl (.inl rfl)).mono ?_
  rintro e w1 ⟨rfl, hb⟩
  have b1 := hid (below_next b.out hb)
  clear hb
  go_wp2
  go_end0
  exact ⟨rfl, b1.out⟩
theorem rnote (lo : Option (Nat × Value)) (L : List Rn) (k s : Int) (w : World) (h : RG w L lo) (hk : 0 ≤ k ∧ k < 256) (hs : 0 ≤ s ∧ s ≤ 1000) :
    Calls Tryd.prog 52 #[lptr lo, .agg #[.int .u8 k, .int .i64 s]] w fun e w' => e = .returned (.tuple #[]) ∧ RP w w' (putL L ⟨k, s, 1⟩) lo ∧ Kp (SR lo) w w' := by
  match lo, h with
  | none, _ =>
    refine (rnote0 _ k s w rfl).mono ?_
    rintro e w1 ⟨rfl, hb⟩
    exact ⟨rfl, trivial, Kp.of_below _ hb⟩
  | some (lb, rv), ⟨h, hr⟩ =>
    have hl := rroom_len h hr
    unfold Room at hr
    refine (refNote42 lb rv L k s w h ⟨hk, by show (-9223372036854775808 : Int) ≤ s ∧ s ≤ 9223372036854775807; omega, by show (-9223372036854775808 : Int) ≤ 1 ∧ (1 : Int) ≤ 9223372036854775807; decide⟩ (by omega) hl).mono ?_
    rintro e w1 ⟨rfl, rv1, hl1, hk1, hs1⟩
    exact ⟨rfl, ⟨rv1, hl1, hs1⟩, hk1⟩
end Go.Proofs.YtbjccfnaadmofaaDoor.Sh
