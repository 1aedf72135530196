/- A ledger, or none there, of the program and of the document: how it stands behind steps that record; what a choice records. -/
import Derived.Test.YtpcnkiapbkmjbaaNpu
import Derived.Test.YtpcnkiapbkmjbaaRreads
import Derived.Test.YtpcnkiapbkmjbaaRref
import Derived.Test.YtpcnkiapbkmjbaaBkit
import Derived.Test.YtpcnkiapbkmjbaaTbk
namespace Go.Proofs.Ytpcnkiapbkmjbaa.Nv
open Go.ChangeShapes Go.WideShapes Go.ChangeAt Go.RowKit
open Go.Proofs.Ytpcnkiapbkmjbaa
theorem ht {p : Prop} (h : p) : Hid p := h
/-- A ledger's pointer, or nil. -/
def lpv (lo : Option Nat) : Value := match lo with | none => .pointer none | some lb => .pointer (some ⟨lb, 0, none⟩)
/-- The blocks of a ledger. -/
def lf (lo : Option Nat) (rv : Value) : Nat → Prop := fun j => match lo with | none => False | some b => j = b ∨ rv.ownBlock = some j
theorem lf_new {lo : Option Nat} {rv rv' : Value} {w : World} (hs : SameOrNew w rv rv') : ∀ j, j < w.heap.size → lf lo rv' j → lf lo rv j := by
  intro j hj h
  cases lo with
  | none => exact h
  | some b =>
    rcases h with h | h
    · exact .inl h
    · rcases hs with e | e
      · exact .inr (by rw [← e]; exact h)
      · have := e j h; omega
theorem sn_trans {w w' : World} {a b c : Value} (hz : w.heap.size ≤ w'.heap.size) (h : SameOrNew w a b) (k : SameOrNew w' b c) : SameOrNew w a c := by
  rcases k with e | e
  · rcases h with f | f
    · exact .inl (e.trans f)
    · exact .inr fun g hg => f g (by rw [← e]; exact hg)
  · exact .inr fun g hg => Nat.le_trans hz (e g hg)
/-- The program's ledger in memory, or none. -/
def PL (w : World) (lo : Option Nat) (rv : Value) (L : List Rn) : Prop := Pos L ∧ (match lo with | none => True | some b => Led w b rv L)
/-- Steps from w0 on that turned the ledger's blocks alone; it holds L now. -/
def ST (w0 : World) (lo : Option Nat) (rv0 : Value) (w : World) (L : List Rn) : Prop := ∃ rv, PL w lo rv L ∧ Kp (lf lo rv0) w0 w ∧ SameOrNew w0 rv0 rv
theorem PL.below {w w' : World} {lo : Option Nat} {rv : Value} {L : List Rn} (h : PL w lo rv L) (hb : Below w.heap.size w w') : PL w' lo rv L := by
  refine ⟨h.1, ?_⟩
  have := h.2
  cases lo with
  | none => trivial
  | some b => exact Led.below this hb
theorem PL.st {w : World} {lo : Option Nat} {rv : Value} {L : List Rn} (h : PL w lo rv L) : ST w lo rv w L := ⟨rv, h, Kp.refl _ _, .inl rfl⟩
theorem ST.kp {w0 w : World} {lo : Option Nat} {rv0 : Value} {L : List Rn} (h : ST w0 lo rv0 w L) : Kp (lf lo rv0) w0 w := h.elim fun _ h => h.2.1
theorem ST.pos {w0 w : World} {lo : Option Nat} {rv0 : Value} {L : List Rn} (h : ST w0 lo rv0 w L) : Pos L := h.elim fun _ h => h.1.1
theorem ST.below {w0 w w' : World} {lo : Option Nat} {rv0 : Value} {L : List Rn} (h : ST w0 lo rv0 w L) (hb : Below w.heap.size w w') : ST w0 lo rv0 w' L := by
  obtain ⟨rv, h1, h2, h3⟩ := h
  exact ⟨rv, h1.below hb, h2.trans (Kp.of_below (fun _ => False) hb) (fun _ _ e => e.elim), h3⟩
theorem ST.trans {w0 w w' : World} {lo : Option Nat} {rv0 rv : Value} {M : List Rn} (h : Kp (lf lo rv0) w0 w) (h2 : SameOrNew w0 rv0 rv) (k : ST w lo rv w' M) : ST w0 lo rv0 w' M := by
  obtain ⟨rv', k1, k2, k3⟩ := k
  exact ⟨rv', k1, h.trans k2 (fun j hj e => lf_new h2 j hj e), sn_trans h.size h2 k3⟩
set_option maxHeartbeats 1200000 in
theorem note_st {w0 w : World} {lo : Option Nat} {rv0 : Value} {L : List Rn} (k s : Int) (h : ST w0 lo rv0 w L) (hr : (⟨k, s, 1⟩ : Rn).Ok) (hb : tot L ≤ 1000000) :
    Calls Try.prog 40 #[lpv lo, .agg #[.int .u8 k, .int .i64 s]] w fun e w' => e = .returned (.tuple #[]) ∧ ST w0 lo rv0 w' (putL L ⟨k, s, 1⟩) := by
  have hl := tot_pos h.pos
  obtain ⟨rv, h1, h2, h3⟩ := h
  cases lo with
  | none =>
    refine (note16n k s w).mono ?_
    rintro e w' ⟨rfl, hb⟩
    exact ⟨rfl, rv, ⟨putL_pos h1.1, trivial⟩, h2.trans (Kp.of_below (fun _ => False) hb) (fun _ _ e => e.elim), h3⟩
  | some b =>
    refine (note16 b rv L k s w h1.2 hr (by omega) (by omega)).mono ?_
    rintro e w' ⟨rfl, rv', hl', hk, hs⟩
    exact ⟨rfl, ST.trans h2 h3 ⟨rv', ⟨putL_pos h1.1, hl'⟩, hk, hs⟩⟩
set_option maxHeartbeats 1200000 in
theorem rnote0 (k s : Int) (w : World) :
    Calls Try.prog 41 #[.pointer none, .agg #[.int .u8 k, .int .i64 s]] w fun e w' => e = .returned (.tuple #[]) ∧ Below w.heap.size w w' := by
  have hA := below_alloc w (.cells #[.int .u8 k, .int .i64 s] 59)
  have HA := ht hA
  clear hA
  go_enter Try.func41, Try.ntmps41
  go_wp2_with fail
  refine (show Calls Try.prog 50 #[.pointer none, .agg #[.int .u8 k, .int .i64 s], .int .i64 1] _ (fun e w' => e = .returned (.tuple #[]) ∧ Below (w.alloc (.cells #[.int .u8 k, .int .i64 s] 59)).heap.size (w.alloc (.cells #[.int .u8 k, .int .i64 s] 59)) w') from by
    have hB := ht (below_alloc (w.alloc (.cells #[.int .u8 k, .int .i64 s] 59)) (.cells #[.int .u8 k, .int .i64 s] 59))
    go_enter Try.func50, Try.ntmps50
    go_wp2_with fail
    first | (go_quiet (fail)) | skip
    go_wp2
    first | go_end0 | refine bodyPost_ret (results_none rfl _ _ _) rfl ?_
    exact ⟨rfl, hB.out⟩).mono ?_
  rintro e w1 ⟨rfl, hb⟩
  have R := ht (below_next HA.out hb)
  clear hb
  go_wp2
  go_end0
  exact ⟨rfl, R.out⟩
/-- The document's ledger in memory, or none. -/
def RPL (w : World) (lo : Option Nat) (rv : Value) (L : List Rn) : Prop := Pos L ∧ (match lo with | none => True | some b => RLed w b rv L)
/-- Steps from w0 on that turned the ledger's blocks alone; it holds L now. -/
def RST (w0 : World) (lo : Option Nat) (rv0 : Value) (w : World) (L : List Rn) : Prop := ∃ rv, RPL w lo rv L ∧ Kp (lf lo rv0) w0 w ∧ SameOrNew w0 rv0 rv
theorem RPL.below {w w' : World} {lo : Option Nat} {rv : Value} {L : List Rn} (h : RPL w lo rv L) (hb : Below w.heap.size w w') : RPL w' lo rv L := by
  refine ⟨h.1, ?_⟩
  have := h.2
  cases lo with
  | none => trivial
  | some b => exact RLed.below this hb
theorem RPL.st {w : World} {lo : Option Nat} {rv : Value} {L : List Rn} (h : RPL w lo rv L) : RST w lo rv w L := ⟨rv, h, Kp.refl _ _, .inl rfl⟩
theorem RST.kp {w0 w : World} {lo : Option Nat} {rv0 : Value} {L : List Rn} (h : RST w0 lo rv0 w L) : Kp (lf lo rv0) w0 w := h.elim fun _ h => h.2.1
theorem RST.pos {w0 w : World} {lo : Option Nat} {rv0 : Value} {L : List Rn} (h : RST w0 lo rv0 w L) : Pos L := h.elim fun _ h => h.1.1
theorem RST.below {w0 w w' : World} {lo : Option Nat} {rv0 : Value} {L : List Rn} (h : RST w0 lo rv0 w L) (hb : Below w.heap.size w w') : RST w0 lo rv0 w' L := by
  obtain ⟨rv, h1, h2, h3⟩ := h
  exact ⟨rv, h1.below hb, h2.trans (Kp.of_below (fun _ => False) hb) (fun _ _ e => e.elim), h3⟩
theorem RST.trans {w0 w w' : World} {lo : Option Nat} {rv0 rv : Value} {M : List Rn} (h : Kp (lf lo rv0) w0 w) (h2 : SameOrNew w0 rv0 rv) (k : RST w lo rv w' M) : RST w0 lo rv0 w' M := by
  obtain ⟨rv', k1, k2, k3⟩ := k
  exact ⟨rv', k1, h.trans k2 (fun j hj e => lf_new h2 j hj e), sn_trans h.size h2 k3⟩
set_option maxHeartbeats 1200000 in
theorem rnote_st {w0 w : World} {lo : Option Nat} {rv0 : Value} {L : List Rn} (k s : Int) (h : RST w0 lo rv0 w L) (hr : (⟨k, s, 1⟩ : Rn).Ok) (hb : tot L ≤ 1000000) :
    Calls Try.prog 41 #[lpv lo, .agg #[.int .u8 k, .int .i64 s]] w fun e w' => e = .returned (.tuple #[]) ∧ RST w0 lo rv0 w' (putL L ⟨k, s, 1⟩) := by
  have hl := tot_pos h.pos
  obtain ⟨rv, h1, h2, h3⟩ := h
  cases lo with
  | none =>
    refine (rnote0 k s w).mono ?_
    rintro e w' ⟨rfl, hb⟩
    exact ⟨rfl, rv, ⟨putL_pos h1.1, trivial⟩, h2.trans (Kp.of_below (fun _ => False) hb) (fun _ _ e => e.elim), h3⟩
  | some b =>
    refine (refNote42 b rv L k s w h1.2 hr (by omega) (by omega)).mono ?_
    rintro e w' ⟨rfl, rv', hl', hk, hs⟩
    exact ⟨rfl, RST.trans h2 h3 ⟨rv', ⟨putL_pos h1.1, hl'⟩, hk, hs⟩⟩
set_option maxHeartbeats 1200000 in
theorem branch_st {w0 w : World} {lo : Option Nat} {rv0 : Value} {L : List Rn} (b : Bool) (h : ST w0 lo rv0 w L) (hb : tot L ≤ 1000000) :
    Calls Try.prog 38 #[lpv lo, .bool b] w fun e w' => e = .returned (.bool b) ∧ ST w0 lo rv0 w' (putL L (br b)) := by
  have N := ht (note_st (k := 9) (s := if b then 1 else 0) h (br_ok b) hb)
  clear h
  generalize lpv lo = p at *
  cases b with
  | true =>
    go_enter Try.func38, Try.ntmps38
    go_wp2_with fail
    refine N.out.mono ?_
    rintro e w' ⟨rfl, h⟩
    have R := ht h
    clear h
    go_wp2
    go_ret
    exact ⟨rfl, R.out⟩
  | false =>
    go_enter Try.func38, Try.ntmps38
    go_wp2_with fail
    refine N.out.mono ?_
    rintro e w' ⟨rfl, h⟩
    have R := ht h
    clear h
    go_wp2
    go_ret
    exact ⟨rfl, R.out⟩
set_option maxHeartbeats 1200000 in
theorem rbranch_st {w0 w : World} {lo : Option Nat} {rv0 : Value} {L : List Rn} (b : Bool) (h : RST w0 lo rv0 w L) (hb : tot L ≤ 1000000) :
    Calls Try.prog 39 #[lpv lo, .bool b] w fun e w' => e = .returned (.bool b) ∧ RST w0 lo rv0 w' (putL L (br b)) := by
  cases b with
  | true =>
    have N := ht (rnote_st (k := 9) (s := 1) (h.below (below_alloc w (.cells #[.int .u8 9, .int .i64 1] 59))) (br_ok true) hb)
    clear h
    generalize lpv lo = p at *
    go_enter Try.func39, Try.ntmps39
    go_wp2_with fail
    refine N.out.mono ?_
    rintro e w' ⟨rfl, h⟩
    have R := ht h
    clear h
    go_wp2
    go_ret
    exact ⟨rfl, R.out⟩
  | false =>
    have N := ht (rnote_st (k := 9) (s := 0) (h.below (below_alloc w (.cells #[.int .u8 9, .int .i64 0] 59))) (br_ok false) hb)
    clear h
    generalize lpv lo = p at *
    go_enter Try.func39, Try.ntmps39
    go_wp2_with fail
    refine N.out.mono ?_
    rintro e w' ⟨rfl, h⟩
    have R := ht h
    clear h
    go_wp2
    go_ret
    exact ⟨rfl, R.out⟩
end Go.Proofs.Ytpcnkiapbkmjbaa.Nv
