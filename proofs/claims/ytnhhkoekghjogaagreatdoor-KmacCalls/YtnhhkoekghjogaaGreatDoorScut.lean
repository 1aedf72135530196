/- A message cut into pieces: CutInto. -/
import Derived.Test.YtnhhkoekghjogaaGreatDoorSgs2
import Derived.Test.YtnhhkoekghjogaaGreatDoorKa
import Derived.Laws.AppendOwnNone
import Derived.Deep.OwnRows
namespace Go.Proofs.YtnhhkoekghjogaaGreatDoor.Kc
open Go.ChangeShapes Go.WideShapes Go.ChangeAt Go.RowKit
open Go.Proofs.YtnhhkoekghjogaaGreatDoor.By Go.Proofs.YtnhhkoekghjogaaGreatDoor.Wd

/-- The lists vs are, one behind the other, the bytes f from s to e. -/
def Cuts (w : World) (B : Nat) (f : Nat → Int) : List Value → Nat → Nat → Prop
  | [], s, e => s = e
  | v :: vs, s, e => ∃ m, By.Own w B v m (fun i => f (s + i)) ∧ Cuts w B f vs (s + m) e
theorem Cuts.snoc {w : World} {B : Nat} {f : Nat → Int} {vs : List Value} {s e m : Nat} {v : Value} (h : Cuts w B f vs s e) (hv : By.Own w B v m (fun i => f (e + i))) : Cuts w B f (vs ++ [v]) s (e + m) := by
  induction vs generalizing s with
  | nil =>
    have e' : s = e := h
    subst e'
    exact ⟨m, hv, rfl⟩
  | cons u vs ih =>
    obtain ⟨k, hu, hr⟩ := h
    exact ⟨k, hu, ih hr⟩
theorem Cuts.imp {w w' : World} {B : Nat} {f : Nat → Int} {vs : List Value} {s e : Nat} (h : Cuts w B f vs s e) (hk : ∀ v m g, By.Own w B v m g → By.Own w' B v m g) : Cuts w' B f vs s e := by
  induction vs generalizing s with
  | nil => exact h
  | cons u vs ih =>
    obtain ⟨k, hu, hr⟩ := h
    exact ⟨k, hk _ _ _ hu, ih hr⟩
theorem Cuts.below {w w' : World} {B : Nat} {f : Nat → Int} {vs : List Value} {s e : Nat} (h : Cuts w B f vs s e) (hb : Below w.heap.size w w') : Cuts w' B f vs s e := h.imp (fun _ _ _ ho => own_below ho hb)
/-- An append to a list of lists turns no list of bytes. -/
theorem Cuts.pushed {w w' : World} {B n : Nat} {f : Nat → Int} {vs xs : List Value} {s e : Nat} {v : Value} (h : Cuts w B f vs s e) (hr : w.ownsRow B 22 1 v n xs) (hg : w.grownBy w' v.ownBlock) : Cuts w' B f vs s e :=
  h.imp (fun u m g ho => own_kept ho (Kp.of_grown hg) (fun q hq e => by
    obtain ⟨c1, h1⟩ := own8_type ho hq
    obtain ⟨c2, h2⟩ : ∃ cs, w.heap[q]? = some (.cells cs 22 (0, 0)) := by
      obtain ⟨_, h | ⟨g', cap, cur, rfl, _, hc, _⟩⟩ := hr
      · obtain ⟨rfl, _⟩ := h; simp [Value.ownBlock] at e
      · simp [Value.ownBlock] at e; subst e; exact ⟨cur, hc⟩
    have := Option.some.inj (h1.symm.trans h2)
    simp at this))
theorem row_kept3 {w w' : World} {base n : Nat} {v : Value} {e : TypeId} {size : Nat} {xs : List Value} {S : Nat → Prop} (h : w.ownsRow base e size v n xs) (hk : Kp S w w') (hne : ∀ g, v.ownBlock = some g → ¬ S g) : w'.ownsRow base e size v n xs := by
  obtain ⟨hl, h | ⟨g, cap, cur, rfl, hb, hc, h1, h2, h3, h4⟩⟩ := h
  · exact ⟨hl, .inl h⟩
  · refine ⟨hl, .inr ⟨g, cap, cur, rfl, hb, ?_, h1, h2, h3, h4⟩⟩
    rw [hk.block g (Array.getElem?_eq_some_iff.1 hc).1 (hne g rfl)]; exact hc
theorem row_ge {w : World} {base n : Nat} {v : Value} {e : TypeId} {size : Nat} {xs : List Value} (h : w.ownsRow base e size v n xs) {q : Nat} (hq : v.ownBlock = some q) : base ≤ q := by
  obtain ⟨_, h' | ⟨g', cap', cur, e', hb, _⟩⟩ := h
  · rw [h'.1] at hq; simp [Value.ownBlock] at hq
  · rw [e'] at hq; simp [Value.ownBlock] at hq; omega
theorem infoL : (Tryz.prog.info? 22).map (fun i => (i.zero, i.size, i.bytes)) = some (some (.slice none 0 0), 1, 24) := by kernel_rfl
/-- What is left of a slice of bytes from o on. -/
def Left (a : Option Addr) (n cap o : Nat) (v : Value) : Prop := ∃ A, v = .slice A (n - o) (cap - o) ∧ (o < n → ∃ b p, a = some ⟨b, p, none⟩ ∧ A = some ⟨b, p + o, none⟩) ∧ (A = none → cap - o = 0)
theorem Left.reads {w : World} {a : Option Addr} {n cap o : Nat} {v : Value} {f : Nat → Int} (h : Left a n cap o v) (hr : By.RB w (.slice a n cap) n f) (ho : o ≤ n) : By.RB w v (n - o) (fun i => f (o + i)) := by
  obtain ⟨hf, a', cap', he, h1, h2, hc⟩ := hr
  simp only [Value.slice.injEq] at he
  obtain ⟨e1, _, e3⟩ := he
  obtain ⟨A, rfl, hA, hN⟩ := h
  refine ⟨fun i => hf _, A, cap - o, rfl, by omega, by omega, ?_⟩
  by_cases hlt : o < n
  · obtain ⟨b, p, ea, eA⟩ := hA hlt
    rcases hc with ⟨h, _⟩ | ⟨b', off, e, hc⟩
    · omega
    · rw [← e1, ea] at e
      simp only [Option.some.injEq, Addr.mk.injEq] at e
      obtain ⟨rfl, rfl, _⟩ := e
      exact .inr ⟨b, p + o, eA, fun i hi => by rw [Nat.add_assoc]; exact hc (o + i) (by omega)⟩
  · exact .inl ⟨by omega, hN⟩
theorem Left.start (a : Option Addr) (n cap : Nat) (w : World) (f : Nat → Int) (hr : By.RB w (.slice a n cap) n f) : Left a n cap 0 (.slice a n cap) := by
  obtain ⟨_, a', cap', he, _, _, hc⟩ := hr
  simp only [Value.slice.injEq] at he
  obtain ⟨rfl, _, rfl⟩ := he
  refine ⟨a, rfl, fun h => ?_, fun h => ?_⟩
  · rcases hc with ⟨e, _⟩ | ⟨b, p, e, _⟩
    · omega
    · exact ⟨b, p, e, e⟩
  · rcases hc with ⟨_, e⟩ | ⟨b, p, e, _⟩
    · exact e h
    · rw [h] at e; cases e
theorem sub_left (A : Option Addr) (a : Option Addr) (n cap o k : Nat) (h : Left a n cap o (.slice A (n - o) (cap - o))) (hn : n ≤ cap) : Left a n cap (o + k) (sub A (cap - o) k ((n - o : Nat) : Int)) := by
  obtain ⟨A', e, hA, hN⟩ := h
  simp only [Value.slice.injEq, and_true] at e
  obtain rfl := e
  refine ⟨if cap - o = ((k : Int)).toNat then A else A.map (·.add (((k : Int)).toNat * 1)), ?_, fun hlt => ?_, fun h => ?_⟩
  · unfold sub; rw [Int.toNat_natCast, Int.toNat_natCast, Nat.sub_sub, Nat.sub_sub]
  · obtain ⟨b, p, ea, eA⟩ := hA (by omega)
    refine ⟨b, p, ea, ?_⟩
    rw [Int.toNat_natCast, if_neg (by omega), eA, Nat.mul_one, Option.map_some, By.add_plain, Nat.add_assoc]
  · rw [Int.toNat_natCast] at h
    split at h
    · omega
    · cases A with
      | none => have := hN rfl; omega
      | some x => simp at h

/-- How long the pieces are, from the cut j and the place o on (k cuts are left). -/
def rest (g : Nat → Int) (n : Nat) : Nat → Nat → Nat → List Nat
  | 0, _, o => [n - o]
  | k + 1, j, o => if o < n then Nat.min (g j % 200).toNat (n - o) :: rest g n k (j + 1) (o + Nat.min (g j % 200).toNat (n - o)) else [n - o]
theorem rest_in (g : Nat → Int) (n nc j o K : Nat) (hj : j < nc) (ho : o < n) (hK : Nat.min (g j % 200).toNat (n - o) = K) : rest g n (nc - j) j o = K :: rest g n (nc - (j + 1)) (j + 1) (o + K) := by
  rw [show nc - j = (nc - (j + 1)) + 1 from by omega, rest, if_pos ho, hK]
theorem rest_out (g : Nat → Int) (n nc j o : Nat) (h : ¬ (j < nc ∧ o < n)) : rest g n (nc - j) j o = [n - o] := by
  by_cases hj : j < nc
  · rw [show nc - j = (nc - (j + 1)) + 1 from by omega, rest, if_neg (by omega)]
  · rw [show nc - j = 0 from by omega, rest]
theorem ls_next {vs : List Value} {x : Value} {K : Nat} {R R' T : List Nat} (h : vs.map slLen ++ R = T) (hR : R = K :: R') (hx : slLen x = K) : (vs ++ [x]).map slLen ++ R' = T := by
  rw [← h, hR]; simp [hx]
theorem ls_end {vs : List Value} {x : Value} {K : Nat} {R T : List Nat} (h : vs.map slLen ++ R = T) (hR : R = [K]) (hx : slLen x = K) : (vs ++ [x]).map slLen = T := by
  rw [← h, hR]; simp [hx]
theorem Cuts.mono {w : World} {B B' : Nat} {f : Nat → Int} {vs : List Value} {s e : Nat} (h : Cuts w B f vs s e) (hB : B' ≤ B) : Cuts w B' f vs s e := by
  induction vs generalizing s with
  | nil => exact h
  | cons u vs ih =>
    obtain ⟨k, hu, hr⟩ := h
    exact ⟨k, own_mono hu hB, ih hr⟩
theorem Cuts.le {w : World} {B : Nat} {f : Nat → Int} {vs : List Value} {s e : Nat} (h : Cuts w B f vs s e) : s ≤ e := by
  induction vs generalizing s with
  | nil => exact Nat.le_of_eq h
  | cons u vs ih =>
    obtain ⟨k, _, hr⟩ := h
    have := ih hr
    omega
theorem row_mono {w : World} {base B' n : Nat} {v : Value} {e : TypeId} {size : Nat} {xs : List Value} (h : w.ownsRow base e size v n xs) (hB : B' ≤ base) : w.ownsRow B' e size v n xs := by
  obtain ⟨hl, h | ⟨g, cap, cur, rfl, hb, hc, h1, h2, h3, h4⟩⟩ := h
  · exact ⟨hl, .inl h⟩
  · exact ⟨hl, .inr ⟨g, cap, cur, rfl, by omega, hc, h1, h2, h3, h4⟩⟩
/-- The cells of a list of lists. -/
theorem rowL_cell {w : World} {base n i : Nat} {v x : Value} {xs : List Value} (h : w.ownsRow base 22 1 v n xs) (hi : xs[i]? = some x) : ∃ g cap, v = .slice (some ⟨g, 0, none⟩) n cap ∧ w.cell? ⟨g, 0 + i, none⟩ = some x := by
  obtain ⟨hl, h | ⟨g, cap, cur, e, hb, hc, h1, h2, h3, h4⟩⟩ := h
  · have := h.2
    simp_all
  · refine ⟨g, cap, e, ?_⟩
    rw [Nat.zero_add, cell_of_row w g i cur 22 (0, 0) hc]
    rw [← h4, List.getElem?_take] at hi
    split at hi
    · simpa using hi
    · cases hi

theorem row_slice {w : World} {base n : Nat} {v : Value} {xs : List Value} (h : w.ownsRow base 22 1 v n xs) : ∃ A cp, v = .slice A n cp := by
  obtain ⟨_, h | ⟨g, cap, cur, e, _⟩⟩ := h
  · obtain ⟨rfl, rfl⟩ := h; exact ⟨_, _, rfl⟩
  · exact ⟨_, _, e⟩
theorem Cuts.ko {W W' : World} {B : Nat} {f : Nat → Int} {vs : List Value} {s e : Nat} (h : Cuts W B f vs s e) (hk : Ko W W') : Cuts W' B f vs s e := h.imp (fun _ _ _ ho => hk.own ho)
end Go.Proofs.YtnhhkoekghjogaaGreatDoor.Kc
