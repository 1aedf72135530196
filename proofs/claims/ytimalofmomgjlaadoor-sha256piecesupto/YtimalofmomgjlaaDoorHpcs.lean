/- The law Sha256Pieces: what its loop keeps. -/
import Derived.Test.YtimalofmomgjlaaDoorHcut
import Derived.Test.YtimalofmomgjlaaDoorHnames3
namespace Go.Proofs.YtimalofmomgjlaaDoor.Sh
open Go.ChangeShapes Go.WideShapes Go.ChangeAt Go.RowKit
open Go.Proofs.YtimalofmomgjlaaDoor.By Go.Proofs.YtimalofmomgjlaaDoor.Wd

theorem Cuts.mono {w : World} {B B' : Nat} {f : Nat → Int} {vs : List Value} {s e : Nat} (h : Cuts w B f vs s e) (hB : B' ≤ B) : Cuts w B' f vs s e := by
  induction vs generalizing s with
  | nil => exact h
  | cons u vs ih =>
    obtain ⟨k, hu, hr⟩ := h
    exact ⟨k, own_mono hu hB, ih hr⟩
theorem Cuts.le {w : World} {B : Nat} {f : Nat → Int} {vs : List Value} {s e : Nat} (h : Cuts w B f vs s e) : s ≤ e := by
  induction vs generalizing s with
  | nil => exact Nat.le_of_eq h
  | cons u vs ih =>
    obtain ⟨k, _, hr⟩ := h
    have := ih hr
    omega
theorem row_mono {w : World} {base B' n : Nat} {v : Value} {e : TypeId} {size : Nat} {xs : List Value} (h : w.ownsRow base e size v n xs) (hB : B' ≤ base) : w.ownsRow B' e size v n xs := by
  obtain ⟨hl, h | ⟨g, cap, cur, rfl, hb, hc, h1, h2, h3, h4⟩⟩ := h
  · exact ⟨hl, .inl h⟩
  · exact ⟨hl, .inr ⟨g, cap, cur, rfl, by omega, hc, h1, h2, h3, h4⟩⟩
/-- The cells of a list of lists. -/
theorem rowL_cell {w : World} {base n i : Nat} {v x : Value} {xs : List Value} (h : w.ownsRow base 40 1 v n xs) (hi : xs[i]? = some x) : ∃ g cap, v = .slice (some ⟨g, 0, none⟩) n cap ∧ w.cell? ⟨g, 0 + i, none⟩ = some x := by
  obtain ⟨hl, h | ⟨g, cap, cur, e, hb, hc, h1, h2, h3, h4⟩⟩ := h
  · have := h.2
    simp_all
  · refine ⟨g, cap, e, ?_⟩
    rw [Nat.zero_add, cell_of_row w g i cur 40 (0, 0) hc]
    rw [← h4, List.getElem?_take] at hi
    split at hi
    · simpa using hi
    · cases hi

structure PS (w0 : World) (B b wb lb kb n m : Nat) (f : Nat → Int) (L K : List Rn) (pv : Value) (vs us : List Value) (W : World) : Prop where
  st : St W b m f
  whole : St W wb n f
  led : ∃ rv rk, Led W lb rv L ∧ Led W kb rk K ∧ (∀ q, rv.ownBlock = some q → B ≤ q ∧ rk.ownBlock ≠ some q) ∧ (∀ q, rk.ownBlock = some q → B ≤ q)
  row : W.ownsRow B 40 1 pv vs.length vs
  cuts : Cuts W B f us m n
  bel : Below B w0 W
  kt : KT W
  hb : B ≤ b
  hwb : B ≤ wb
  hlb : B ≤ lb
  hkb : B ≤ kb
  ne1 : wb ≠ b
  ne2 : kb ≠ lb
  hB : B ≤ W.heap.size
  h0 : 0 < B
theorem PS.below {w0 W W' : World} {B b wb lb kb n m : Nat} {f : Nat → Int} {L K : List Rn} {pv : Value} {vs us : List Value} (h : PS w0 B b wb lb kb n m f L K pv vs us W) (hb : Below W.heap.size W W') : PS w0 B b wb lb kb n m f L K pv vs us W' := by
  obtain ⟨rv, rk, hl, hk, h1, h2⟩ := h.led
  exact ⟨h.st.below hb, h.whole.below hb, ⟨rv, rk, hl.below hb, hk.below hb, h1, h2⟩, row_kept h.row (Kp.of_below (fun _ => False) hb) (fun _ _ e => e), h.cuts.below hb, h.bel.trans (hb.mono h.hB), h.kt.below hb, h.hb, h.hwb, h.hlb, h.hkb, h.ne1, h.ne2, Nat.le_trans h.hB hb.size, h.h0⟩
theorem cat_self (m : Nat) (f : Nat → Int) : cat m f (fun i => f (m + i)) = f := by
  funext i; unfold cat; split
  · rfl
  · show f (m + (i - m)) = f i
    rw [show m + (i - m) = i from by omega]
/-- Write of a piece, with the ledger. -/
theorem PS.write {w0 W : World} {B b wb lb kb n m : Nat} {f : Nat → Int} {L K : List Rn} {pv v : Value} {vs us : List Value} (h : PS w0 B b wb lb kb n m f L K pv vs (v :: us) W) (hn : n ≤ 1000000) (hL : tot L ≤ 100000) :
    Calls Tryd.prog 26 #[.pointer (some ⟨b, 0, none⟩), .pointer (some ⟨lb, 0, none⟩), v] W fun e w' => e = .returned (.int .i64 0) ∧ ∃ q, m + q ≤ n ∧ PS w0 B b wb lb kb n (m + q) f (evs256 L ((m + q) / 64 - m / 64)) K pv vs us w' := by
  obtain ⟨q, hv, hus⟩ := h.cuts
  have hq : m + q ≤ n := hus.le
  obtain ⟨rv, rk, hl, hlk, ho, hok⟩ := h.led
  have key : ∀ g cells t, Blk W g cells t → t ≠ 75 → t ≠ 80 → t ≠ 68 → ¬ (g = b ∨ SL lb rv g) := by
    rintro g cells t hg h1 h2 h3 (e | e)
    · exact Blk.ne hg h.st.here h1 e
    · exact led_apart hl hg h2 h3 e
  have own8 : ∀ u k g, By.Own W B u k g → ∀ x, u.ownBlock = some x → ¬ (x = b ∨ SL lb rv x) := fun u k g hu x hx => by
    obtain ⟨c, hc⟩ := own8_type hu hx
    exact key x c.toList 5 (by show W.heap[x]? = _; rw [hc]) (by decide) (by decide) (by decide)
  have no0 : ¬ (0 = b ∨ SL lb rv 0) := by
    have := h.hb; have := h.hlb; have := h.h0
    rintro (e | e | e)
    · omega
    · omega
    · have := (ho 0 e).1; omega
  have nk : ¬ (kb = b ∨ SL lb rv kb) := by
    rintro (e | e | e)
    · exact Blk.ne (show Blk W kb _ 80 from hlk.here) h.st.here (by decide) e
    · exact h.ne2 e
    · obtain ⟨c, hc⟩ := own_type hl.own e
      exact Blk.ne (show Blk W kb _ 80 from hlk.here) (show Blk W kb c.toList 68 from by show W.heap[kb]? = _; rw [hc]) (by decide) rfl
  have nkr : ∀ x, rk.ownBlock = some x → ¬ (x = b ∨ SL lb rv x) := by
    intro x hx
    obtain ⟨c, hc⟩ := own_type hlk.own hx
    have hX : Blk W x c.toList 68 := by show W.heap[x]? = _; rw [hc]
    rintro (e | e | e)
    · exact Blk.ne hX h.st.here (by decide) e
    · exact Blk.ne hX (show Blk W lb _ 80 from hl.here) (by decide) e
    · exact (ho x e).2 hx
  have nwb : ¬ (wb = b ∨ SL lb rv wb) := by
    rintro (e | e)
    · exact h.ne1 e
    · exact led_apart hl h.whole.here (by decide) (by decide) e
  refine (write26 b m q v f (fun i => f (m + i)) (some lb) L (fun j => j = b ∨ SL lb rv j) W h.st h.kt no0 (.inl rfl) ⟨.inr (.inl rfl), rv, hl, fun g hg _ => .inr (.inr hg)⟩ hl.pos (fun w' hk => (own_kept hv hk (own8 _ _ _ hv)).reads) (by omega) hL).mono ?_
  rintro e w' ⟨rfl, hs, hlg, hk⟩
  rw [cat_self] at hs
  obtain ⟨_, rv', hl', ho'⟩ := hlg
  have hbel : Below B W w' := hk.below h.hB (fun k hk e => by
    rcases e with e | e | e
    · have := h.hb; omega
    · have := h.hlb; omega
    · have := (ho k e).1; omega)
  refine ⟨rfl, q, hq, hs, h.whole.kept hk nwb, ⟨rv', rk, hl', hlk.kept hk nk nkr, fun x hx => ?_, hok⟩, ?_, hus.imp (fun u k g hu => own_kept hu hk (own8 u k g hu)), h.bel.trans hbel, h.kt.kept hk no0, h.hb, h.hwb, h.hlb, h.hkb, h.ne1, h.ne2, Nat.le_trans h.hB hk.size, h.h0⟩
  · by_cases hlt : x < W.heap.size
    · have hS := ho' x hx hlt
      refine ⟨?_, fun e => nkr x e hS⟩
      rcases hS with e | e | e
      · have := h.hb; omega
      · have := h.hlb; omega
      · exact (ho x e).1
    · refine ⟨by have := h.hB; omega, fun e => ?_⟩
      obtain ⟨c, hc⟩ := own_type hlk.own e
      exact hlt (Array.getElem?_eq_some_iff.1 hc).1
  · refine row_kept h.row hk (fun g hg => ?_)
    obtain ⟨c, hc⟩ := row_type h.row hg
    exact key g c.toList 40 (by show W.heap[g]? = _; rw [hc]) (by decide) (by decide) (by decide)
/-- The first Write: the whole message, with a ledger. -/
theorem whole_write {w0 W : World} {B b wb lb kb n : Nat} {f : Nat → Int} {v : Value} (S : St W b 0 (fun _ => 0)) (T : St W wb 0 (fun _ => 0)) (hl : Led W lb (.slice none 0 0) []) (hlk : Led W kb (.slice none 0 0) []) (hwb : B ≤ wb) (hkb : B ≤ kb) (ne1 : wb ≠ b) (ne2 : kb ≠ lb) (bel : Below B w0 W) (hB0 : B = w0.heap.size) (kt : KT W) (h0 : 0 < B) (hr : By.RB w0 v n f) (hn : n ≤ 1000000) :
    Calls Tryd.prog 26 #[.pointer (some ⟨wb, 0, none⟩), .pointer (some ⟨kb, 0, none⟩), v] W fun e w' => e = .returned (.int .i64 0) ∧ St w' b 0 f ∧ St w' wb n f ∧ Led w' lb (.slice none 0 0) [] ∧ (∃ rk, Led w' kb rk (evs256 [] (n / 64)) ∧ ∀ q, rk.ownBlock = some q → B ≤ q) ∧ Below B w0 w' := by
  have hB : B ≤ W.heap.size := by have := bel.size; omega
  have ns : ∀ j, j < B → ¬ (j = wb ∨ SL kb (.slice none 0 0) j) := by
    intro j hj
    rintro (e | e | e)
    · omega
    · omega
    · simp [Value.ownBlock] at e
  have bk : ∀ w', Kp (fun j => j = wb ∨ SL kb (.slice none 0 0) j) W w' → Below B w0 w' := fun w' hk => bel.trans (hk.below hB (fun k hk e => ns k hk e))
  have hf := hr.1
  refine (write26 wb 0 n v (fun _ => 0) f (some kb) [] (fun j => j = wb ∨ SL kb (.slice none 0 0) j) W T kt (ns 0 h0) (.inl rfl) ⟨.inr (.inl rfl), _, hlk, fun g hg _ => .inr (.inr hg)⟩ pos_nil' (fun w' hk => hr.below (by have := bk w' hk; rwa [hB0] at this)) (by omega) (by decide)).mono ?_
  rintro e w' ⟨rfl, hs, hlg, hk⟩
  obtain ⟨_, rk, hl', ho'⟩ := hlg
  rw [show (0 + n) / 64 - 0 / 64 = n / 64 from by omega] at hl'
  refine ⟨rfl, ?_, ?_, hl.kept hk ?_ (fun g hg => by simp [Value.ownBlock] at hg), ⟨rk, hl', fun q hq => ?_⟩, bk w' hk⟩
  · refine (S.kept hk ?_).congr hf (fun i hi => by omega)
    rintro (e | e)
    · exact ne1 e.symm
    · exact led_apart hlk S.here (by decide) (by decide) e
  · have e := hs.congr hf (fun i hi => by unfold cat; rw [if_neg (by omega)]; rfl)
    rwa [Nat.zero_add] at e
  · rintro (e | e | e)
    · exact Blk.ne (show Blk W lb _ 80 from hl.here) T.here (by decide) e
    · exact ne2 e.symm
    · simp [Value.ownBlock] at e
  · by_cases hlt : q < W.heap.size
    · rcases ho' q hq hlt with e | e | e
      · omega
      · omega
      · simp [Value.ownBlock] at e
    · omega
theorem row_slice {w : World} {base n : Nat} {v : Value} {xs : List Value} (h : w.ownsRow base 40 1 v n xs) : ∃ A cp, v = .slice A n cp := by
  obtain ⟨_, h | ⟨g, cap, cur, e, _⟩⟩ := h
  · obtain ⟨rfl, rfl⟩ := h; exact ⟨_, _, rfl⟩
  · exact ⟨_, _, e⟩
theorem PS.swap {w0 W : World} {B b wb lb kb n : Nat} {f : Nat → Int} {L K : List Rn} {pv : Value} {vs us : List Value} (h : PS w0 B b wb lb kb n n f L K pv vs us W) : PS w0 B wb b kb lb n n f K L pv vs us W := by
  obtain ⟨rv, rk, hl, hk, h1, h2⟩ := h.led
  exact ⟨h.whole, h.st, ⟨rk, rv, hk, hl, fun q hq => ⟨h2 q hq, fun e => (h1 q e).2 hq⟩, fun q hq => (h1 q hq).1⟩, h.row, h.cuts, h.bel, h.kt, h.hwb, h.hb, h.hkb, h.hlb, fun e => h.ne1 e.symm, fun e => h.ne2 e.symm, h.hB, h.h0⟩
/-- Sum, with the ledger. -/
theorem PS.sum {w0 W : World} {B b wb lb kb n : Nat} {f : Nat → Int} {L K : List Rn} {pv : Value} {vs us : List Value} (h : PS w0 B b wb lb kb n n f L K pv vs us W) (hn : n ≤ 900000) (hL : tot L ≤ 100000) :
    Calls Tryd.prog 32 #[.pointer (some ⟨b, 0, none⟩), .pointer (some ⟨lb, 0, none⟩)] W fun e w' => ∃ v, e = .returned (.tuple #[v, .int .i64 0]) ∧ By.Own w' W.heap.size v 32 (dig n f) ∧ PS w0 B b wb lb kb n n f (evs256 L (last n)) K pv vs us w' ∧ (∀ B' u k g, By.Own W B' u k g → By.Own w' B' u k g) := by
  obtain ⟨rv, rk, hl, hlk, ho, hok⟩ := h.led
  have key : ∀ g cells t, Blk W g cells t → t ≠ 80 → t ≠ 68 → ¬ (SL lb rv g) := fun g cells t hg h2 h3 e => led_apart hl hg h2 h3 e
  have own8 : ∀ B' u k g, By.Own W B' u k g → ∀ x, u.ownBlock = some x → ¬ (SL lb rv x) := fun B' u k g hu x hx => by
    obtain ⟨c, hc⟩ := own8_type hu hx
    exact key x c.toList 5 (by show W.heap[x]? = _; rw [hc]) (by decide) (by decide)
  have no0 : ¬ (SL lb rv 0) := by
    have := h.hlb; have := h.h0
    rintro (e | e)
    · omega
    · have := (ho 0 e).1; omega
  have nk : ¬ (SL lb rv kb) := by
    rintro (e | e)
    · exact h.ne2 e
    · obtain ⟨c, hc⟩ := own_type hl.own e
      exact Blk.ne (show Blk W kb _ 80 from hlk.here) (show Blk W kb c.toList 68 from by show W.heap[kb]? = _; rw [hc]) (by decide) rfl
  have nkr : ∀ x, rk.ownBlock = some x → ¬ (SL lb rv x) := by
    intro x hx
    obtain ⟨c, hc⟩ := own_type hlk.own hx
    have hX : Blk W x c.toList 68 := by show W.heap[x]? = _; rw [hc]
    rintro (e | e)
    · exact Blk.ne hX (show Blk W lb _ 80 from hl.here) (by decide) e
    · exact (ho x e).2 hx
  refine (sum32 b n f (some lb) L (SL lb rv) W h.st h.kt no0 (lg_led hl) hl.pos (by omega) (by omega)).mono ?_
  rintro e w' ⟨v, rfl, hv, hlg, hk⟩
  obtain ⟨_, rv', hl', ho'⟩ := hlg
  have hbel : Below B W w' := hk.below h.hB (fun k hk e => by
    rcases e with e | e
    · have := h.hlb; omega
    · have := (ho k e).1; omega)
  have all : ∀ B' u k g, By.Own W B' u k g → By.Own w' B' u k g := fun B' u k g hu => own_kept hu hk (own8 B' u k g hu)
  refine ⟨v, rfl, hv, ⟨h.st.kept hk (key b _ _ h.st.here (by decide) (by decide)), h.whole.kept hk (key wb _ _ h.whole.here (by decide) (by decide)), ⟨rv', rk, hl', hlk.kept hk nk nkr, fun x hx => ?_, hok⟩, ?_, h.cuts.imp (all B), h.bel.trans hbel, h.kt.kept hk no0, h.hb, h.hwb, h.hlb, h.hkb, h.ne1, h.ne2, Nat.le_trans h.hB hk.size, h.h0⟩, all⟩
  · by_cases hlt : x < W.heap.size
    · have hS := ho' x hx hlt
      refine ⟨?_, fun e => nkr x e hS⟩
      rcases hS with e | e
      · have := h.hlb; omega
      · exact (ho x e).1
    · refine ⟨by have := h.hB; omega, fun e => ?_⟩
      obtain ⟨c, hc⟩ := own_type hlk.own e
      exact hlt (Array.getElem?_eq_some_iff.1 hc).1
  · refine row_kept h.row hk (fun g hg => ?_)
    obtain ⟨c, hc⟩ := row_type h.row hg
    exact key g c.toList 40 (by show W.heap[g]? = _; rw [hc]) (by decide) (by decide)
/-- A clone that goes on by itself and is wiped: nothing that was there is turned. -/
theorem kp_fresh {W W1 W2 : World} {c : Nat} (hb : Below W.heap.size W W1) (hc : W.heap.size ≤ c) (hk : Kp (fun j => j = c) W1 W2) : Below W.heap.size W W2 :=
  hb.trans (hk.below hb.size (fun k hk e => by have : k = c := e; omega))
end Go.Proofs.YtimalofmomgjlaaDoor.Sh
