/- What was told lies apart. -/
import Derived.Test.YthoklddoeoedgaaSpl1
namespace Go.Proofs.Ythoklddoeoedgaa.Sl
open Go.ChangeShapes Go.WideShapes Go.ChangeAt Go.RowKit
open Go.Proofs.Ythoklddoeoedgaa.By
theorem own_raise {w : World} {B : Nat} {v : Value} {n : Nat} {f : Nat → Int} (h : By.Own w 0 v n f) (hb : ∀ j, v.ownBlock = some j → B ≤ j) : By.Own w B v n f := by
  refine ⟨h.1, h.2.1, ?_⟩
  rcases h.2.2 with hn | ⟨g, cap, cur, rfl, _, hr⟩
  · exact .inl hn
  · exact .inr ⟨g, cap, cur, rfl, hb g rfl, hr⟩
theorem row_cell {W : World} {base n : Nat} {e : TypeId} {a : Option Addr} {c : Nat} {ev : Nat → Value} (h : W.ownsRow base e 1 (.slice a n c) n (vals n ev)) {j : Nat} (hj : j < n) : ∃ g, a = some ⟨g, 0, none⟩ ∧ W.cell? ⟨g, j, none⟩ = some (ev j) := by
  have h2 := h
  rcases h.2 with ⟨_, h0⟩ | ⟨g, cap, cur, e', _⟩
  · omega
  · simp only [Value.slice.injEq] at e'
    obtain ⟨rfl, _, rfl⟩ := e'
    exact ⟨g, rfl, by rw [h2.cellAt j (by omega), vals_get _ _ _ hj]⟩
set_option maxRecDepth 20000 in
set_option maxHeartbeats 1200000 in
theorem apart_zero (a : Option Addr) (c : Nat) (w : World) : Calls Try.prog 30 #[.slice a 0 c] w fun e w' => e = .returned (.bool true) ∧ w' = w := by
  go_enter Try.func30, Try.ntmps30
  go_wp2
  refine wp_loop_rounds 1 ?_
  rw [rounds_succ]
  go_wp2
  refine wp_loop_rounds 1 ?_
  rw [rounds_succ]
  go_wp2
  refine wp_loop_rounds 1 ?_
  rw [rounds_succ]
  go_wp2
  go_ret
  exact ⟨rfl, rfl⟩
/-- Behind ApartBytes: all things but the told lists are as they were. -/
def rest (t : Nat → Th) (n : Nat) : Nat → Th := fun i => if 20 ≤ i ∧ (i - 20) % 2 = 0 ∧ (i - 20) / 2 < n then Th.no else t i
theorem rest_at (t : Nat → Th) (n : Nat) {i : Nat} (h : ∃ j, j < n ∧ i = 20 + 2 * j) : rest t n i = Th.no := by
  obtain ⟨j, hj, rfl⟩ := h
  unfold rest; rw [if_pos (by omega)]
theorem rest_ne (t : Nat → Th) (n : Nat) {i : Nat} (h : ¬ ∃ j, j < n ∧ i = 20 + 2 * j) : rest t n i = t i := by
  unfold rest; rw [if_neg]; exact fun e => h ⟨(i - 20) / 2, by omega, by omega⟩
theorem rest_lt (t : Nat → Th) (n : Nat) {i : Nat} (h : i < 20) : rest t n i = t i := rest_ne t n (fun ⟨j, _, e⟩ => by omega)
theorem gx_apart {w W : World} {lb mb sb rb : Nat} {sp rp : Nat → Value} {wv : Value} {x y : Nat → Kd} {bv : Nat → Value} {L M : List Rn} {n n' c : Nat} {a : Option Addr} {ev ew : Nat → Value} {en : Nat → Nat} {ef : Nat → Nat → Int} {t : Nat → Th} (h : PS w lb mb sb rb sp rp (.slice a n c) wv x y bv L M n n' ev ew en ef t W) (hn : n ≤ 5000000000000) :
    Calls Try.prog 30 #[.slice a n c] W fun e W' => e = .returned (.bool true) ∧ GX w w.heap.size (rest t n) W' := by
  have hT : W.ownsRow 0 36 1 (.slice a n c) n (vals n ev) := by have := h.G.all 12; rw [h.told] at this; exact this
  have turn : ∀ W', Kp (fun j => ∃ i, i < n ∧ (ev i).ownBlock = some j) W W' → GX w w.heap.size (rest t n) W' := fun W' hk =>
    h.G.turn (rest t n) (fun i => ∃ j, j < n ∧ i = 20 + 2 * j) hk (fun j hs _ => by
      obtain ⟨i, hi, e⟩ := hs
      exact ⟨20 + 2 * i, ⟨i, hi, rfl⟩, by rw [h.te i hi]; exact e⟩) (fun i hi => rest_ne t n hi) (fun i hi => by rw [rest_at t n hi]; trivial) (fun i hi j hj => by rw [rest_at t n hi] at hj; exact hj.elim) (fun i k hi _ _ j hj => by rw [rest_at t n hi] at hj; exact hj.elim)
  by_cases h0 : n = 0
  · subst h0
    refine (apart_zero a c W).mono ?_
    rintro e W' ⟨rfl, rfl⟩
    exact ⟨rfl, turn W' (Kp.refl _ _)⟩
  · obtain ⟨g, rfl, _⟩ := row_cell hT (j := 0) (by omega)
    have hap : ∀ i j, i < n → j < n → i ≠ j → ∀ q, (ev i).ownBlock = some q → (ev j).ownBlock ≠ some q := fun i j hi hj hij q e e' => by
      have := h.G.ap (20 + 2 * i) (20 + 2 * j) (by omega) q
      rw [h.te i hi, h.te j hj] at this
      exact this e e'
    have hdl : ∀ j, j < n → (ev j).ownBlock ≠ some g := fun j hj e => by
      have := h.G.ap (20 + 2 * j) 12 (by omega) g
      rw [h.te j hj, h.told] at this
      exact this e rfl
    have hown : ∀ j, j < n → By.Own W w.heap.size (ev j) (en j) (ef j) := fun j hj => by
      have h1 := h.G.all (20 + 2 * j)
      have h2 := h.G.lo (20 + 2 * j)
      rw [h.te j hj] at h1 h2
      exact own_raise h1 (fun q e => h2 q e)
    have hF : ∀ j i, 0 ≤ (if j < n then ef j i else 0) ∧ (if j < n then ef j i else 0) < 256 := fun j i => by
      by_cases e : j < n
      · rw [if_pos e]; exact (hown j e).1 i
      · rw [if_neg e]; omega
    refine (apart30z (fun q => q < W.heap.size ∧ ∀ i, i < n → (ev i).ownBlock ≠ some q) w.heap.size n g c ev en (fun j i => if j < n then ef j i else 0) W ⟨fun i j hi hj hij => ?_, hdl⟩ ⟨fun j hj => ?_, fun j hj => ?_⟩ hF hn (by omega) (fun j hj => by have := h.le j hj; omega) h.G.hB (fun q hq => hq.1) (fun j hj q hq => hq.2 j hj)).mono ?_
    · cases e : (ev i).ownBlock with
      | none => exact .inl rfl
      | some q => exact .inr (fun e' => hap i j hi hj hij q e e'.symm)
    · have := hown j hj
      exact own_congr this (fun i => hF j i) (fun i _ => by show _ = if j < n then ef j i else 0; rw [if_pos hj])
    · obtain ⟨g', e, hc⟩ := row_cell hT hj
      cases e; exact hc
    · rintro e W' ⟨rfl, hbx⟩
      refine ⟨rfl, turn W' ⟨hbx.bel.os, hbx.bel.tape, hbx.bel.output, hbx.bel.size, fun q hq hns => hbx.same q ⟨hq, fun i hi e => hns ⟨i, hi, e⟩⟩⟩⟩
end Go.Proofs.Ythoklddoeoedgaa.Sl
