/- A ledger that is handed in, or none: what Note makes of it, told by the blocks that it may turn. -/
import Derived.Test.YtojldjckpjokcaaGreatDoorJst
namespace Go.Proofs.YtojldjckpjokcaaGreatDoor.Sg
open Go.ChangeShapes Go.WideShapes Go.ChangeAt Go.RowKit
open Go.Proofs.YtojldjckpjokcaaGreatDoor.By Go.Proofs.YtojldjckpjokcaaGreatDoor.Wd

/-- A ledger's pointer. -/
def lpv : Option Nat → Value
  | none => .pointer none
  | some b => .pointer (some ⟨b, 0, none⟩)
/-- The ledger (if there is one) has L; of the blocks that were there in w0 it has only such as S names. -/
def LG (S : Nat → Prop) (w0 w : World) (lo : Option Nat) (L : List Rn) : Prop :=
  match lo with
  | none => True
  | some lb => S lb ∧ ∃ rv, Led w lb rv L ∧ ∀ g, rv.ownBlock = some g → g < w0.heap.size → S g
theorem own_type {w : World} {base : Nat} {v : Value} {L : List Rn} (h : Own w base v L) {g : Nat} (hg : v.ownBlock = some g) : ∃ cs, w.heap[g]? = some (.cells cs 84 (0, 0)) := by
  obtain ⟨_, _, h | ⟨g', cap, cur, rfl, _, hc, _⟩⟩ := h
  · obtain ⟨rfl, _⟩ := h; simp [Value.ownBlock] at hg
  · simp [Value.ownBlock] at hg; subst hg; exact ⟨cur, hc⟩
theorem led_apart {w : World} {lb : Nat} {rv : Value} {L : List Rn} (h : Led w lb rv L) {g : Nat} {cs : List Value} {t : TypeId} (hg : Blk w g cs t) (h1 : t ≠ 66) (h2 : t ≠ 84) : ¬ (g = lb ∨ rv.ownBlock = some g) := by
  rintro (e | e)
  · subst e
    have := Option.some.inj (hg.symm.trans h.here)
    simp only [Obj.cells.injEq] at this
    exact h1 this.2.1
  · obtain ⟨c, hc⟩ := own_type h.own e
    have := Option.some.inj (hg.symm.trans hc)
    simp only [Obj.cells.injEq] at this
    exact h2 this.2.1
/-- Blocks that are no ledger's stay. -/
def Kt (w w' : World) : Prop := ∀ g cs t, Blk w g cs t → t ≠ 66 → t ≠ 84 → Blk w' g cs t
theorem LG.kept {S : Nat → Prop} {w0 w w' : World} {lo : Option Nat} {L : List Rn} {T : Nat → Prop} (h : LG S w0 w lo L) (hk : Kp T w w') (hT : ∀ g, T g → ∃ cs t, Blk w g cs t ∧ t ≠ 66 ∧ t ≠ 84) : LG S w0 w' lo L := by
  cases lo with
  | none => exact trivial
  | some lb =>
    obtain ⟨hs, rv, hl, ho⟩ := h
    refine ⟨hs, rv, hl.kept hk (fun e => ?_) (fun g hg e => ?_), ho⟩
    · obtain ⟨cs, t, hb, h1, h2⟩ := hT _ e
      exact led_apart hl hb h1 h2 (.inl rfl)
    · obtain ⟨cs, t, hb, h1, h2⟩ := hT _ e
      exact led_apart hl hb h1 h2 (.inr hg)
theorem LG.below {S : Nat → Prop} {w0 w w' : World} {lo : Option Nat} {L : List Rn} (h : LG S w0 w lo L) (hb : Below w.heap.size w w') : LG S w0 w' lo L := h.kept (Kp.of_below (fun _ => False) hb) (fun _ e => e.elim)
/-- Room for one event more. -/
def Room (L : List Rn) : Prop := tot L ≤ 4611686018427387904 ∧ L.length ≤ 100000000
/-- Room for many. -/
def Big (L : List Rn) : Prop := tot L ≤ 2305843009213693952 ∧ L.length ≤ 10000000
theorem room_len {L : List Rn} (hr : Room L) : (L.length + 1) * 24 ≤ 140737488355328 := by
  have := hr.2; omega
theorem note_lg (S : Nat → Prop) (w0 w : World) (lo : Option Nat) (L : List Rn) (k s : Int) (hk : 0 ≤ k ∧ k < 256) (hs : 0 ≤ s ∧ s ≤ 1000) (h : LG S w0 w lo L) (h0 : Kp S w0 w) (hr : Room L) :
    Calls Tryz.prog 75 #[lpv lo, .agg #[.int .u8 k, .int .i64 s]] w fun e w' => e = .returned (.tuple #[]) ∧ LG S w0 w' lo (putL L ⟨k, s, 1⟩) ∧ Kp S w0 w' ∧ Kt w w' := by
  cases lo with
  | none =>
    refine (note16n k s w).mono ?_
    rintro e w' ⟨rfl, hb⟩
    exact ⟨rfl, trivial, h0.trans (Kp.of_below S hb) (fun _ _ e => e), fun g cs t hg _ _ => hg.below hb⟩
  | some lb =>
    obtain ⟨hs1, rv, hl, ho⟩ := h
    have hrl := room_len hr
    have hrt := hr.1
    refine (note16 lb rv L k s w hl ⟨hk, ⟨by show -9223372036854775808 ≤ s; omega, by show s ≤ 9223372036854775807; omega⟩, by show -9223372036854775808 ≤ (1 : Int) ∧ (1 : Int) ≤ 9223372036854775807; omega⟩ (by omega) hrl).mono ?_
    rintro e w' ⟨rfl, rv', hl', hkp, hsn⟩
    refine ⟨rfl, ⟨hs1, rv', hl', fun g hg hlt => ?_⟩, h0.trans hkp ?_, fun g cs t hg h1 h2 => hg.kept hkp (led_apart hl hg h1 h2)⟩
    · rcases hsn with e | e
      · exact ho g (by rw [← e]; exact hg) hlt
      · have := e g hg; have := h0.size; omega
    · rintro i hi (rfl | e)
      · exact hs1
      · exact ho i e hi
theorem putL_tot {L : List Rn} {r : Rn} (h : Pos L) (hr : r.c = 1) (hb : tot L ≤ 9000000000000000000) : tot (putL L r) = tot L + 1 := by
  rw [tot_put h (by omega) (by omega), hr]
/-- n events {2, 128} more. -/
def evs512 (L : List Rn) : Nat → List Rn
  | 0 => L
  | n + 1 => putL (evs512 L n) ⟨2, 128, 1⟩
theorem evs512_pos {L : List Rn} (h : Pos L) (n : Nat) : Pos (evs512 L n) := by
  induction n with
  | zero => exact h
  | succ n ih => exact putL_pos ih
theorem evs512_tot {L : List Rn} (h : Pos L) (n : Nat) (hb : tot L + n ≤ 9000000000000000000) : tot (evs512 L n) = tot L + n := by
  induction n with
  | zero => simp [evs512]
  | succ n ih =>
    have := ih (by omega)
    rw [evs512, putL_tot (evs512_pos h n) rfl (by omega), this]; omega
theorem evs512_add (L : List Rn) (a b : Nat) : evs512 (evs512 L a) b = evs512 L (a + b) := by
  induction b with
  | zero => rfl
  | succ b ih => rw [← Nat.add_assoc, evs512, evs512, ih]
/-- The last run is of that event. -/
def Ends (L : List Rn) : Prop := ∃ M c, L = M ++ [⟨2, 128, c⟩] ∧ 1 ≤ c
theorem putL_ends {L : List Rn} (h : Ends L) : Ends (putL L ⟨2, 128, 1⟩) ∧ (putL L ⟨2, 128, 1⟩).length = L.length := by
  obtain ⟨M, c, rfl, hc⟩ := h
  have e : putL (M ++ [⟨2, 128, c⟩]) ⟨2, 128, 1⟩ = M ++ [⟨2, 128, sm c 1⟩] := by
    unfold putL
    rw [if_neg (by show ¬ (1 : Int) < 1; omega), List.getLast?_append, List.getLast?_singleton]
    simp
  rw [e]
  exact ⟨⟨M, _, rfl, (sm_bound hc (by omega)).1⟩, by simp⟩
theorem putL_ends0 (L : List Rn) (hp : Pos L) : Ends (putL L ⟨2, 128, 1⟩) := by
  unfold putL
  rw [if_neg (by show ¬ (1 : Int) < 1; omega)]
  split
  · rename_i q hq
    obtain ⟨M, hM⟩ := List.getLast?_eq_some_iff.1 hq
    split
    · rename_i hk
      subst hM
      obtain ⟨qk, qs, qc⟩ := q
      obtain ⟨rfl, rfl⟩ : qk = 2 ∧ qs = 128 := hk
      have h1 : (1 : Int) ≤ qc := hp ⟨2, 128, qc⟩ (by simp)
      exact ⟨M, sm qc 1, by simp, (sm_bound h1 (by omega)).1⟩
    · exact ⟨L, 1, rfl, by omega⟩
  · exact ⟨[], 1, rfl, by omega⟩
theorem evs512_len {L : List Rn} (hp : Pos L) (n : Nat) : (evs512 L n).length ≤ L.length + 1 := by
  cases n with
  | zero => simp [evs512]
  | succ n =>
    have : Ends (evs512 L (n + 1)) ∧ (evs512 L (n + 1)).length ≤ L.length + 1 := by
      induction n with
      | zero => exact ⟨putL_ends0 L hp, (putL_len (L := L) (r := ⟨2, 128, 1⟩)).1⟩
      | succ n ih =>
        have h := putL_ends ih.1
        rw [evs512]
        exact ⟨h.1, by rw [h.2]; exact ih.2⟩
    exact this.2
/-- Room for more still. -/
def Wide (L : List Rn) : Prop := tot L ≤ 1152921504606846976 ∧ L.length ≤ 1000000
theorem Wide.big {L : List Rn} (h : Wide L) : Big L := ⟨by have := h.1; omega, by have := h.2; omega⟩
theorem Big.room {L : List Rn} (h : Big L) : Room L := ⟨by have := h.1; omega, by have := h.2; omega⟩
theorem wide_nil : Wide [] := ⟨by decide, by decide⟩
theorem evs512_big {L : List Rn} (h : Pos L) (hb : Wide L) (n : Nat) (hn : n ≤ 1152921504606846976) : Big (evs512 L n) := by
  have h1 := hb.1
  have h2 := hb.2
  have h3 := evs512_len h n
  refine ⟨?_, by omega⟩
  rw [evs512_tot h n (by omega)]; omega
theorem evs512_room {L : List Rn} (h : Pos L) (hb : Big L) (n : Nat) (hn : n ≤ 2305843009213693952) : Room (evs512 L n) := by
  have h1 := hb.1
  have h2 := hb.2
  have h3 := evs512_len h n
  refine ⟨?_, by omega⟩
  rw [evs512_tot h n (by omega)]; omega
end Go.Proofs.YtojldjckpjokcaaGreatDoor.Sg
