/- The document's ledger, handed in or none; the document's ciphers. The document's New. -/
import Derived.Test.YtbgdjjfonmoemaaDoorYn
import Derived.Test.YtbgdjjfonmoemaaDoorYi
import Derived.Test.YtbgdjjfonmoemaaDoorYp
import Derived.Test.YtbgdjjfonmoemaaDoorYo
namespace Go.Proofs.YtbgdjjfonmoemaaDoor.Ae
open Go.ChangeShapes Go.WideShapes Go.ChangeAt Go.RowKit
open Go.Proofs.YtbgdjjfonmoemaaDoor.By Go.Proofs.YtbgdjjfonmoemaaDoor.Gf
/-- The document's ledger (if there is one) has L; of the blocks that were there in w0 it has only such as S names. -/
def RLG (S : Nat → Prop) (w0 w : World) (lo : Option Nat) (L : List Rn) : Prop :=
  match lo with
  | none => True
  | some lb => S lb ∧ ∃ rv, RLed w lb rv L ∧ ∀ g, rv.ownBlock = some g → g < w0.heap.size → S g
theorem rled_apart {w : World} {lb : Nat} {rv : Value} {L : List Rn} (h : RLed w lb rv L) {g : Nat} {cs : List Value} {t : TypeId} (hg : Blk w g cs t) (h1 : t ≠ 50) (h2 : t ≠ 77) : ¬ (g = lb ∨ rv.ownBlock = some g) := by
  rintro (e | e)
  · subst e
    have := Option.some.inj (hg.symm.trans h.here)
    simp only [Obj.cells.injEq] at this
    exact h1 this.2.1
  · obtain ⟨c, hc⟩ := own_type h.own e
    have := Option.some.inj (hg.symm.trans hc)
    simp only [Obj.cells.injEq] at this
    exact h2 this.2.1
/-- Blocks that are no ledger's of the document stay. -/
def Ku (w w' : World) : Prop := w.heap.size ≤ w'.heap.size ∧ ∀ g cs t, Blk w g cs t → t ≠ 50 → t ≠ 77 → Blk w' g cs t
theorem Ku.refl (w : World) : Ku w w := ⟨Nat.le_refl _, fun _ _ _ h _ _ => h⟩
theorem Ku.trans {a b c : World} (h : Ku a b) (k : Ku b c) : Ku a c := ⟨Nat.le_trans h.1 k.1, fun g cs t hg h1 h2 => k.2 g cs t (h.2 g cs t hg h1 h2) h1 h2⟩
theorem Ku.of_below {w w' : World} (h : Below w.heap.size w w') : Ku w w' := ⟨h.size, fun _ _ _ hg _ _ => hg.below h⟩
theorem RLG.kept {S : Nat → Prop} {w0 w w' : World} {lo : Option Nat} {L : List Rn} {T : Nat → Prop} (h : RLG S w0 w lo L) (hk : Kp T w w') (hT : ∀ g, T g → ∃ cs t, Blk w g cs t ∧ t ≠ 50 ∧ t ≠ 77) : RLG S w0 w' lo L := by
  cases lo with
  | none => exact trivial
  | some lb =>
    obtain ⟨hs, rv, hl, ho⟩ := h
    refine ⟨hs, rv, hl.kept hk (fun e => ?_) (fun g hg e => ?_), ho⟩
    · obtain ⟨cs, t, hb, h1, h2⟩ := hT _ e
      exact rled_apart hl hb h1 h2 (.inl rfl)
    · obtain ⟨cs, t, hb, h1, h2⟩ := hT _ e
      exact rled_apart hl hb h1 h2 (.inr hg)
theorem RLG.below {S : Nat → Prop} {w0 w w' : World} {lo : Option Nat} {L : List Rn} (h : RLG S w0 w lo L) (hb : Below w.heap.size w w') : RLG S w0 w' lo L := h.kept (Kp.of_below (fun _ => False) hb) (fun _ e => e.elim)
theorem rtimes0 (a : Value) (n : Int) (k s : Int) (w : World) (ha : a = .agg #[.int .u8 k, .int .i64 s]) :
    Calls Tryd.prog 64 #[.pointer none, a, .int .i64 n] w fun e w' => e = .returned (.tuple #[]) ∧ Below w.heap.size w w' := by
  subst ha
  have b := below_alloc w (.cells #[.int .u8 k, .int .i64 s] 75)
  go_enter Tryd.func64, Tryd.ntmps64
  go_wp2
  refine bodyPost_ret (results_none rfl _ _ _) rfl ?_
  exact ⟨rfl, b⟩
theorem rnote0 (a : Value) (k s : Int) (w : World) (ha : a = .agg #[.int .u8 k, .int .i64 s]) :
    Calls Tryd.prog 42 #[.pointer none, a] w fun e w' => e = .returned (.tuple #[]) ∧ Below w.heap.size w w' := by
  subst ha
  have b := hid (below_alloc w (.cells #[.int .u8 k, .int .i64 s] 75))
  go_enter Tryd.func42, Tryd.ntmps42
  go_wp2_with fail
  refine (rtimes0 _ _ k s _ rfl).mono ?_
  rintro e w1 ⟨rfl, hb⟩
  have b1 := hid (below_next b.out hb)
  clear hb
  go_wp2
  go_end0
  exact ⟨rfl, b1.out⟩
theorem rnote_lg (S : Nat → Prop) (w0 w : World) (lo : Option Nat) (L : List Rn) (k s : Int) (hk : 0 ≤ k ∧ k < 256) (hs : 0 ≤ s ∧ s ≤ 1000) (h : RLG S w0 w lo L) (h0 : Kp S w0 w) (hr : Room L) :
    Calls Tryd.prog 42 #[lpv lo, .agg #[.int .u8 k, .int .i64 s]] w fun e w' => e = .returned (.tuple #[]) ∧ RLG S w0 w' lo (putL L ⟨k, s, 1⟩) ∧ Kp S w0 w' ∧ Ku w w' := by
  cases lo with
  | none =>
    refine (rnote0 _ k s w rfl).mono ?_
    rintro e w' ⟨rfl, hb⟩
    exact ⟨rfl, trivial, h0.trans (Kp.of_below S hb) (fun _ _ e => e), hb.size, fun g cs t hg _ _ => hg.below hb⟩
  | some lb =>
    obtain ⟨hs1, rv, hl, ho⟩ := h
    have hrl := room_len hr
    have hrt := hr.1
    refine (refNote42 lb rv L k s w hl ⟨hk, ⟨by show -9223372036854775808 ≤ s; omega, by show s ≤ 9223372036854775807; omega⟩, by show -9223372036854775808 ≤ (1 : Int) ∧ (1 : Int) ≤ 9223372036854775807; omega⟩ (by omega) hrl).mono ?_
    rintro e w' ⟨rfl, rv', hl', hkp, hsn⟩
    refine ⟨rfl, ⟨hs1, rv', hl', fun g hg hlt => ?_⟩, h0.trans hkp ?_, hkp.size, fun g cs t hg h1 h2 => hg.kept hkp (rled_apart hl hg h1 h2)⟩
    · rcases hsn with e | e
      · exact ho g (by rw [← e]; exact hg) hlt
      · have := e g hg; have := h0.size; omega
    · rintro i hi (rfl | e)
      · exact hs1
      · exact ho i e hi
theorem OW.ku {W W' : World} {B n : Nat} {v : Value} {f : Nat → Nat} (h : OW W B v n f) (hk : Ku W W') : OW W' B v n f := by
  obtain ⟨hl, h | ⟨q, cap, cur, rfl, hb, hc, r⟩⟩ := h
  · exact ⟨hl, .inl h⟩
  · refine ⟨hl, .inr ⟨q, cap, cur, rfl, hb, ?_, r⟩⟩
    have := hk.2 q cur.toList 100 (by show W.heap[q]? = _; rw [hc]) (by decide) (by decide)
    simpa [Blk] using this
theorem RA.ku {W W' : World} {g n : Nat} {wv : Value} {f : Nat → Nat} (h : RA W g wv n f) (hk : Ku W W') : RA W' g wv n f :=
  ⟨hk.2 _ _ _ h.here (by decide) (by decide), OW.ku (B := 0) h.own hk, h.lt⟩
end Go.Proofs.YtbgdjjfonmoemaaDoor.Ae
namespace Go.Proofs.YtbgdjjfonmoemaaDoor.Ae
open Go.ChangeShapes Go.WideShapes Go.ChangeAt Go.RowKit
open Go.Proofs.YtbgdjjfonmoemaaDoor.By Go.Proofs.YtbgdjjfonmoemaaDoor.Gf
open Go.Proofs.YtbgdjjfonmoemaaDoor.Kc (own_kept own_mono own8_type cat cat_bound wpList_cat below_grow)
theorem rright_ok (k : Nat) (hk : k = 4 ∨ k = 6 ∨ k = 8) (w : World) : Calls Tryd.prog 41 #[.int .i64 (4 * (k : Int))] w fun e w' => e = .returned (.bool true) ∧ w' = w := by
  rcases hk with rfl | rfl | rfl
  · go_enter Tryd.func41, Tryd.ntmps41
    go_wp2_with fail
    go_ret
    exact ⟨rfl, rfl⟩
  · go_enter Tryd.func41, Tryd.ntmps41
    go_wp2_with fail
    go_ret
    exact ⟨rfl, rfl⟩
  · go_enter Tryd.func41, Tryd.ntmps41
    go_wp2_with fail
    go_ret
    exact ⟨rfl, rfl⟩
theorem rright_no (n : Nat) (h1 : n ≠ 16) (h2 : n ≠ 24) (h3 : n ≠ 32) (w : World) : Calls Tryd.prog 41 #[.int .i64 (n : Int)] w fun e w' => e = .returned (.bool false) ∧ w' = w := by
  have d1 : decide ((n : Int) = 16) = false := decide_eq_false (by omega)
  have d2 : decide ((n : Int) = 24) = false := decide_eq_false (by omega)
  have d3 : decide ((n : Int) = 32) = false := decide_eq_false (by omega)
  have e1 : ((n : Int) == 16) = false := by rw [beq_eq_false_iff_ne]; omega
  have e2 : ((n : Int) == 24) = false := by rw [beq_eq_false_iff_ne]; omega
  have e3 : ((n : Int) == 32) = false := by rw [beq_eq_false_iff_ne]; omega
  go_enter Tryd.func41, Tryd.ntmps41
  go_wp2_with fail
  go_ret
  exact ⟨rfl, rfl⟩
end Go.Proofs.YtbgdjjfonmoemaaDoor.Ae
