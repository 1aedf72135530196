/- Operations as bytes, one behind the other (pure); lists of ints gone on with. -/
import Derived.Test.YtnadpglfliiplaaUbk
import Derived.Test.YtnadpglfliiplaaUopn
import Derived.Test.YtnadpglfliiplaaUrp
namespace Go.Proofs.Ytnadpglfliiplaa.Ou
open Go.ChangeShapes Go.WideShapes Go.ChangeAt Go.RowKit
open Go.Proofs.Ytnadpglfliiplaa.By
/-- How many bytes an operation has. -/
def len (x : OE) : Nat := 32 + x.dn + x.mn
def enO (x : OE) : Nat → Int := en x.q x.dn x.f x.mn x.g
/-- Where operation j begins. -/
def off (y : Nat → OE) : Nat → Nat
  | 0 => 0
  | j + 1 => off y j + len (y j)
/-- The bytes of the first j operations. -/
def AF (y : Nat → OE) : Nat → Nat → Int
  | 0 => fun _ => 0
  | j + 1 => cat (off y j) (AF y j) (enO (y j))
theorem off_mono (y : Nat → OE) {i j : Nat} (h : i ≤ j) : off y i ≤ off y j := by
  induction j with
  | zero => obtain rfl : i = 0 := by omega
            exact Nat.le_refl _
  | succ j ih =>
    rcases Nat.lt_or_ge i (j + 1) with h1 | h1
    · exact Nat.le_trans (ih (by omega)) (by simp only [off]; omega)
    · obtain rfl : i = j + 1 := by omega
      exact Nat.le_refl _
theorem off_next (y : Nat → OE) {i j : Nat} (h : i < j) : off y i + len (y i) ≤ off y j := off_mono y (i := i + 1) h
theorem AF_at (y : Nat → OE) {i j : Nat} (h : i < j) (t : Nat) (ht : t < len (y i)) : AF y j (off y i + t) = enO (y i) t := by
  induction j with
  | zero => omega
  | succ j ih =>
    simp only [AF]
    rcases Nat.lt_or_ge i j with h1 | h1
    · rw [cat_lt (by have := off_next y h1; omega)]; exact ih h1
    · obtain rfl : i = j := by omega
      rw [cat_ge (by omega), show off y i + t - off y i = t by omega]
theorem AF_bound (y : Nat → OE) (j : Nat) (h : ∀ i, i < j → (y i).q.Ok ∧ (∀ t, 0 ≤ (y i).f t ∧ (y i).f t < 256) ∧ ∀ t, 0 ≤ (y i).g t ∧ (y i).g t < 256) : ∀ t, 0 ≤ AF y j t ∧ AF y j t < 256 := by
  induction j with
  | zero => intro t; exact ⟨Int.le_refl 0, show (0 : Int) < 256 by decide⟩
  | succ j ih =>
    obtain ⟨h1, h2, h3⟩ := h j (by omega)
    exact cat_bound (ih (fun i hi => h i (by omega))) (en_bound h1 h2 h3)
theorem off_le (y : Nat → OE) (j : Nat) (h : ∀ i, i < j → (y i).dn + (y i).mn ≤ 4000) : off y j ≤ j * 4032 := by
  induction j with
  | zero => exact Nat.le_refl _
  | succ j ih =>
    have h1 := ih (fun i hi => h i (by omega))
    have h2 := h j (by omega)
    simp only [off, len]; omega
/-- All of them, and what stands behind. -/
theorem whole_at (y : Nat → OE) (L : Nat) (r : Nat → Int) {i : Nat} (h : i < L) : Begins (sh (off y i) (cat (off y L) (AF y L) r)) (y i).q (y i).dn (y i).f (y i).mn (y i).g := fun t ht => by
  show cat _ _ _ (off y i + t) = _
  rw [cat_lt (by have := off_next y h; unfold len at this; omega)]
  exact AF_at y h t ht
/-- The ends. -/
def evs (y : Nat → OE) (j : Nat) : List Value := (List.range j).map (fun i => Value.int .i64 ((off y (i + 1) : Nat) : Int))
theorem evs_len (y : Nat → OE) (j : Nat) : (evs y j).length = j := by simp [evs]
theorem evs_snoc (y : Nat → OE) (j : Nat) : evs y j ++ [.int .i64 ((off y (j + 1) : Nat) : Int)] = evs y (j + 1) := by simp [evs, List.range_succ]
theorem evs_get (y : Nat → OE) (i j : Nat) (h : i < j) : (evs y j)[i]? = some (.int .i64 ((off y (i + 1) : Nat) : Int)) := by simp [evs, h]
theorem infoI : (Try.prog.info? 3).map (fun i => (i.zero, i.size, i.bytes)) = some (some (.int .i64 0), 1, 8) := by kernel_rfl
/-- A list of ints of the call's own. -/
def OwnI (w : World) (base : Nat) (v : Value) (n : Nat) (xs : List Value) : Prop := w.ownsRow base 3 1 v n xs
theorem ownI_kept {S : Nat → Prop} {w w' : World} {base : Nat} {v : Value} {n : Nat} {xs : List Value} (h : OwnI w base v n xs) (hk : Kp S w w') (hne : ∀ g, v.ownBlock = some g → ¬ S g) : OwnI w' base v n xs := by
  refine ⟨h.1, ?_⟩
  rcases h.2 with hn | ⟨g, cap, cur, rfl, hb, hg, hr⟩
  · exact .inl hn
  · exact .inr ⟨g, cap, cur, rfl, hb, (hk.block g (Array.getElem?_eq_some_iff.1 hg).1 (hne g rfl)).trans hg, hr⟩
theorem ownI_below {w w' : World} {base : Nat} {v : Value} {n : Nat} {xs : List Value} (h : OwnI w base v n xs) (hb : Below w.heap.size w w') : OwnI w' base v n xs := ownI_kept h (Kp.of_below (fun _ => False) hb) (fun _ _ e => e)
theorem ne_ty {w : World} {B B' n k : Nat} {v u : Value} {f : Nat → Int} {xs : List Value} (h : By.Own w B v n f) (h' : OwnI w B' u k xs) : ∀ g, v.ownBlock = some g → ¬ u.ownBlock = some g := by
  intro g e e'
  obtain ⟨_, _, h1 | ⟨g1, _, cur, rfl, _, hg, _⟩⟩ := h
  · obtain ⟨rfl, _⟩ := h1; cases e
  · obtain ⟨_, h2 | ⟨g2, _, cur', rfl, _, hg', _⟩⟩ := h'
    · obtain ⟨rfl, _⟩ := h2; cases e'
    · cases e; cases e'
      have := Option.some.inj (hg.symm.trans hg')
      simp only [Obj.cells.injEq] at this
      exact absurd this.2.1 (by decide)
theorem ownI_cell {w : World} {B n i : Nat} {v x : Value} {xs : List Value} (h : OwnI w B v n xs) (hx : xs[i]? = some x) : ∃ b c, v = .slice (some ⟨b, 0, none⟩) n c ∧ w.cell? ⟨b, i, none⟩ = some x := by
  have hl : i < xs.length := (List.getElem?_eq_some_iff.1 hx).1
  rcases h.2 with ⟨rfl, e⟩ | ⟨g, c, cur, rfl, _, hg, _⟩
  · have := h.1; omega
  · refine ⟨g, c, rfl, ?_⟩
    have := (show w.ownsRow B 3 1 (.slice (some ⟨g, 0, none⟩) n c) n xs from h).cells rfl i x hx
    rwa [By.add_plain, Nat.zero_add] at this
theorem ownI_sl {w : World} {B n : Nat} {v : Value} {xs : List Value} (h : OwnI w B v n xs) : ∃ a c, v = .slice a n c := by
  rcases h.2 with ⟨rfl, rfl⟩ | ⟨g, c, cur, rfl, _⟩
  · exact ⟨_, _, rfl⟩
  · exact ⟨_, _, rfl⟩
/-- Plain of what is plain. -/
theorem pq_pq (q : Nu) : pq (pq q) = pq q := by
  unfold pq
  simp only
  congr 1 <;> (split <;> rfl)
theorem pN_pN (q : Nu) (n : Nat) : pN (pq q) (pN q n) = pN q n := by unfold pN pq; simp only; split <;> rfl
theorem pM_pM (q : Nu) (n : Nat) : pM (pq q) (pM q n) = pM q n := by unfold pM pq; simp only; split <;> rfl
theorem LDo_at {W : World} {A : Option Addr} {m : Nat} {v : Nat → OE} {i : Nat} (h : AO W A m v) (hi : i < m) : ∃ b o, A = some ⟨b, o, none⟩ ∧ (LDo ⟨b, o + i * 7, none⟩).run Try.prog W = .ok (ov (v i).q (.slice (v i).da (v i).dn (v i).dc) (.slice (v i).ma (v i).mn (v i).mc)) W := by
  obtain ⟨b, o, e, _, c0, c1, c2, c3, c4, c5, c6⟩ := h i hi
  refine ⟨b, o, e, ?_⟩
  refine run_loadVar_mid W b (o + i * 7) _ (oL (v i).q (.slice (v i).da (v i).dn (v i).dc) (.slice (v i).ma (v i).mn (v i).mc)) _ (fun j u hj => ?_) Try.underlying26 rfl (infoo _ _ _)
  have hl : j < 7 := (List.getElem?_eq_some_iff.1 hj).1
  match j, hl with
  | 0, _ => cases hj; exact c0
  | 1, _ => cases hj; exact c1
  | 2, _ => cases hj; exact c2
  | 3, _ => cases hj; exact c3
  | 4, _ => cases hj; exact c4
  | 5, _ => cases hj; exact c5
  | 6, _ => cases hj; exact c6
theorem pickN (i : Int) (N : Nat) (h0 : 0 < N) (h1 : N ≤ 1000000) (w : World) :
    Calls Try.prog 30 #[.int .i64 i, .int .i64 N] w fun e w' => (∃ p : Nat, p < N ∧ e = .returned (.int .i64 p)) ∧ w' = w := by
  have hN : (0 : Int) < N := by omega
  have a1 := Int.tmod_lt_of_pos i hN
  have a2 : - (N : Int) < i.tmod N := by
    have := Int.lt_tmod_of_pos i hN
    omega
  have nz : ¬ (N : Int) = 0 := by omega
  have nz2 : ¬ N = 0 := by omega
  obtain ⟨q, hq⟩ : ∃ q, i.tmod N = q := ⟨_, rfl⟩
  rw [hq] at a1 a2
  have w1 : IntKind.i64.wrap q = q := by rw [IntKind.wrap_i64]; omega
  by_cases hlt : q < 0
  · have w2 : IntKind.i64.wrap (q + N) = q + N := by rw [IntKind.wrap_i64]; omega
    go_enter Try.func30, Try.ntmps30
    go_wp2
    go_ret
    exact ⟨⟨(q + N).toNat, by omega, by rw [show (((q + N).toNat : Nat) : Int) = q + N by omega]; rfl⟩, rfl⟩
  · go_enter Try.func30, Try.ntmps30
    go_wp2
    go_ret
    exact ⟨⟨q.toNat, by omega, by rw [show ((q.toNat : Nat) : Int) = q by omega]; rfl⟩, rfl⟩
end Go.Proofs.Ytnadpglfliiplaa.Ou
