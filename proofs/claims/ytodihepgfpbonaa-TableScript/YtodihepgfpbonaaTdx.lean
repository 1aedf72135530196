/- The document's table among other things; blocks that stay. -/
import Derived.Test.YtodihepgfpbonaaThl
namespace Go.Proofs.Ytodihepgfpbonaa.Tb
open Go.ChangeShapes Go.WideShapes Go.ChangeAt Go.RowKit
/-- All that is new stays. -/
theorem gx_freeze {w0 W W' : World} {B : Nat} {t : Nat → Th} {C : Cn} (hG : GX w0 B t W) (h0 : t 0 = tK C) (hb : Below W.heap.size W W') : ∃ t' C', GX w0 B t' W' ∧ t' 0 = tK C' ∧ Cle C C' ∧ But t t' 0 0 ∧ ∀ j, W.heap.size ≤ j → C' j = W'.heap[j]? := by
  have hP := hG.all 0
  rw [h0] at hP
  have hlt : ∀ j o, C j = some o → j < W.heap.size := fun j o e => (Array.getElem?_eq_some_iff.1 (hP j o e)).1
  refine ⟨_, fun j => if W.heap.size ≤ j then W'.heap[j]? else C j, hG.one 0 (tK (fun j => if W.heap.size ≤ j then W'.heap[j]? else C j)) (Kp.of_below (fun _ => False) hb) (fun _ e => e.elim) (fun j o e => ?_) (fun j hj => ?_), up_at _ _ _, fun j o e => ?_, fun m h1 _ => up_ne _ _ h1, fun j hj => if_pos hj⟩
  · dsimp only at e
    by_cases l : W.heap.size ≤ j
    · rw [if_pos l] at e; exact e
    · rw [if_neg l] at e; exact (hb.block j (by omega)).trans (hP j o e)
  · by_cases l : W.heap.size ≤ j
    · exact .inr l
    · obtain ⟨o, e⟩ := hj
      dsimp only at e
      rw [if_neg l] at e
      exact .inl (by rw [h0]; exact ⟨o, e⟩)
  · show (if _ then _ else _) = _
    rw [if_neg (by have := hlt j o e; omega)]; exact e
/-- Which numbers are held. -/
abbrev so (hd : Nat → Option Int) : Nat → Bool := fun j => (hd j).isSome
/-- A table of the document's at the numbers i, i + 1, i + 2. -/
structure DT (t : Nat → Th) (i b hb vb m : Nat) (hd : Nat → Option Int) (vf : Nat → Int) : Prop where
  tb : t i = tC b (rc hb vb m) 74
  hs : t (i + 1) = tC hb (bs (so hd) m) 4
  vs : t (i + 2) = tC vb (is vf m) 3
  vv : ∀ j v, hd j = some v → vf j = v
  h1 : 1 ≤ m
  h2 : m ≤ 64
  hi : ∀ j, m ≤ j → hd j = none
theorem DT.keep {t t' : Nat → Th} {i b hb vb m : Nat} {hd : Nat → Option Int} {vf : Nat → Int} (h : DT t i b hb vb m hd vf) (e : ∀ k, k < 3 → t' (i + k) = t (i + k)) : DT t' i b hb vb m hd vf :=
  ⟨(e 0 (by decide)).trans h.tb, (e 1 (by decide)).trans h.hs, (e 2 (by decide)).trans h.vs, h.vv, h.h1, h.h2, h.hi⟩
section
variable {w0 W : World} {B : Nat} {t : Nat → Th} {i b hb vb m : Nat} {hd : Nat → Option Int} {vf : Nat → Int}
theorem DT.rt (h : DT t i b hb vb m hd vf) (hG : GX w0 B t W) : RT W b hb vb m (so hd) vf := ⟨hG.blk h.tb, hG.blk h.hs, hG.blk h.vs⟩
theorem DT.bh (h : DT t i b hb vb m hd vf) (hG : GX w0 B t W) : b ≠ hb := (hG.blk h.tb).ne (hG.blk h.hs) (by decide)
theorem hN_eq (h : DT t i b hb vb m hd vf) (k : Int) : hN (so hd) m k = (hdI hd k).isSome := by
  unfold hN hdI
  by_cases h0 : 0 ≤ k
  · rw [if_pos h0, decide_eq_true h0, Bool.true_and]
    by_cases h1 : k < m
    · rw [decide_eq_true h1, Bool.true_and]
    · rw [decide_eq_false h1, h.hi _ (by omega)]; rfl
  · rw [if_neg h0, decide_eq_false h0]; rfl
theorem gx_rnew (hG : GX w0 B t W) (i n : Nat) (h1 : 1 ≤ n) (h2 : n ≤ 64) : Calls Try.prog 9 #[.int .i64 n] W fun e W' => ∃ b hb vb, e = .returned (.tuple #[.pointer (some ⟨b, 0, none⟩), .int .i64 0]) ∧ ∃ t', GX w0 B t' W' ∧ DT t' i b hb vb n (fun _ => none) (fun _ => 0) ∧ (∀ k, k < i ∨ i + 3 ≤ k → t' k = t k) := by
  refine (rnew_ok n W h1 h2).mono ?_
  rintro e W' ⟨b, hb, vb, rfl, hr, n1, n2, g1, g2, g3, hbel⟩
  have s1 := hG.one i (tC b (rc hb vb n) 74) (Kp.of_below (fun _ => False) hbel) (fun _ e => e.elim) hr.tb (fun j hj => .inr (by rw [show j = b from hj]; exact g1))
  refine ⟨b, hb, vb, rfl, up (up (up t i (tC b (rc hb vb n) 74)) (i + 1) (tC hb (bs (so (fun _ => none)) n) 4)) (i + 2) (tC vb (is (fun _ => 0) n) 3), ?_, ⟨?_, ?_, up_at _ _ _, fun j v e => (by cases e), h1, h2, fun _ _ => rfl⟩, fun k hk => ?_⟩
  · refine hG.turn _ (fun k => k = i ∨ k = i + 1 ∨ k = i + 2) (Kp.of_below (fun _ => False) hbel) (fun _ e => e.elim) (fun k hk => ?_) (fun k hk => ?_) (fun k hk j hj => ?_) (fun a c ha hc hac j hj hj' => ?_)
    · rw [up_ne _ _ (fun e => hk (.inr (.inr e))), up_ne _ _ (fun e => hk (.inr (.inl e))), up_ne _ _ (fun e => hk (.inl e))]
    · rcases hk with rfl | rfl | rfl
      · rw [up_ne _ _ (by omega), up_ne _ _ (by omega), up_at]; exact hr.tb
      · rw [up_ne _ _ (by omega), up_at]; exact hr.hs
      · rw [up_at]; exact hr.vs
    · right
      rcases hk with rfl | rfl | rfl
      · rw [up_ne _ _ (by omega), up_ne _ _ (by omega), up_at] at hj; rw [show j = b from hj]; exact g1
      · rw [up_ne _ _ (by omega), up_at] at hj; rw [show j = hb from hj]; exact g2
      · rw [up_at] at hj; rw [show j = vb from hj]; exact g3
    · have f0 : ∀ j, (up (up (up t i (tC b (rc hb vb n) 74)) (i + 1) (tC hb (bs (so (fun _ => none)) n) 4)) (i + 2) (tC vb (is (fun _ => 0) n) 3) i).F j → j = b := fun j hj => by
        rw [up_ne _ _ (by omega), up_ne _ _ (by omega), up_at] at hj; exact hj
      have f1 : ∀ j, (up (up (up t i (tC b (rc hb vb n) 74)) (i + 1) (tC hb (bs (so (fun _ => none)) n) 4)) (i + 2) (tC vb (is (fun _ => 0) n) 3) (i + 1)).F j → j = hb := fun j hj => by
        rw [up_ne _ _ (by omega), up_at] at hj; exact hj
      have f2 : ∀ j, (up (up (up t i (tC b (rc hb vb n) 74)) (i + 1) (tC hb (bs (so (fun _ => none)) n) 4)) (i + 2) (tC vb (is (fun _ => 0) n) 3) (i + 2)).F j → j = vb := fun j hj => by
        rw [up_at] at hj; exact hj
      have hv := hr.hv
      rcases ha with rfl | rfl | rfl <;> rcases hc with rfl | rfl | rfl
      · exact hac rfl
      · exact n1 ((f0 j hj).symm.trans (f1 j hj'))
      · exact n2 ((f0 j hj).symm.trans (f2 j hj'))
      · exact n1 ((f0 j hj').symm.trans (f1 j hj))
      · exact hac rfl
      · exact hv ((f1 j hj).symm.trans (f2 j hj'))
      · exact n2 ((f0 j hj').symm.trans (f2 j hj))
      · exact hv ((f1 j hj').symm.trans (f2 j hj))
      · exact hac rfl
  · rw [up_ne _ _ (by omega), up_ne _ _ (by omega), up_at]
  · rw [up_ne _ _ (by omega), up_at]
  · rw [up_ne _ _ (by omega), up_ne _ _ (by omega), up_ne _ _ (by omega)]
theorem gx_rget (hG : GX w0 B t W) (hT : DT t i b hb vb m hd vf) (h : Int) : Calls Try.prog 27 #[.pointer (some ⟨b, 0, none⟩), .int .i64 h] W fun e W' => e = .returned (.tuple #[.int .i64 ((hdI hd h).getD 0), .int .i64 (if (hdI hd h).isSome then 0 else 5)]) ∧ W' = W := by
  refine (rget_t b hb vb m (so hd) vf h W (hT.rt hG)).mono ?_
  rintro e W' ⟨rfl, rfl⟩
  rw [hN_eq hT]
  refine ⟨?_, rfl⟩
  cases e : hdI hd h with
  | none => rfl
  | some v =>
    have : vf h.toNat = v := by
      unfold hdI at e
      split at e
      · exact hT.vv _ _ e
      · cases e
    simp [this]
theorem bs_up (f : Nat → Bool) (hd : Nat → Option Int) (k : Nat) (x : Option Int) (hf : f = so hd) : upb f k x.isSome = so (uph hd k x) := by
  subst hf
  funext j
  simp only [upb, uph, so]
  split <;> rfl
theorem hdI_k {k : Int} {v : Int} (e : hdI hd k = some v) : ∃ n : Nat, k = n ∧ hd n = some v := by
  unfold hdI at e
  split at e
  · exact ⟨k.toNat, by omega, e⟩
  · cases e
theorem gx_rset (hG : GX w0 B t W) (hT : DT t i b hb vb m hd vf) (h x : Int) : Calls Try.prog 28 #[.pointer (some ⟨b, 0, none⟩), .int .i64 h, .int .i64 x] W fun e W' => e = .returned (.int .i64 (if (hdI hd h).isSome then 0 else 5)) ∧ ∃ t' vf', GX w0 B t' W' ∧ DT t' i b hb vb m (setH hd h x) vf' ∧ But t t' (i + 2) (i + 2) := by
  have hh := hN_eq hT h
  unfold setH
  cases e : hdI hd h with
  | none =>
    rw [e] at hh
    refine (rset_no b hb vb m (so hd) vf h x W (hT.rt hG) hh).mono ?_
    rintro e W' ⟨rfl, rfl⟩
    exact ⟨rfl, t, vf, hG, hT, fun _ _ _ => rfl⟩
  | some v =>
    rw [e] at hh
    obtain ⟨k, rfl, hk⟩ := hdI_k e
    refine (rset_ok b hb vb m (so hd) vf k x W (hT.rt hG) hh).mono ?_
    rintro e' W' ⟨rfl, rfl⟩
    obtain ⟨t', g', f', B'⟩ := gx_wr hG hT.vs ((hG.blk hT.vs).set k (.int .i64 x)) (Kp.setCell vb k _)
    rw [is_set] at f'
    have hkm : k < m := Nat.lt_of_not_le (fun hle => by rw [hT.hi k hle] at hk; cases hk)
    refine ⟨rfl, t', _, g', ⟨(B' i (by omega) (by omega)).trans hT.tb, ?_, f', fun j v e => ?_, hT.h1, hT.h2, fun j hj => ?_⟩, B'⟩
    · rw [B' (i + 1) (by omega) (by omega), hT.hs]
      congr 1; congr 1
      funext j
      simp only [so]
      show _ = (uph hd k (some x) j).isSome
      unfold uph
      split
      · rename_i ej; rw [ej, hk]; rfl
      · rfl
    · have e : uph hd k (some x) j = some v := e
      unfold uph at e
      unfold upi
      split at e
      · rw [if_pos (by assumption)]; exact Option.some.inj e
      · rw [if_neg (by assumption)]; exact hT.vv j v e
    · show uph hd k (some x) j = none
      rw [uph_ne _ _ (by omega)]; exact hT.hi j hj
theorem gx_rdrop (hG : GX w0 B t W) (hT : DT t i b hb vb m hd vf) (h : Int) : Calls Try.prog 30 #[.pointer (some ⟨b, 0, none⟩), .int .i64 h] W fun e W' => e = .returned (.tuple #[.int .i64 ((hdI hd h).getD 0), .int .i64 (if (hdI hd h).isSome then 0 else 5)]) ∧ ∃ t', GX w0 B t' W' ∧ DT t' i b hb vb m (dropH hd h) vf ∧ But t t' (i + 1) (i + 1) := by
  have hh := hN_eq hT h
  unfold dropH
  cases e : hdI hd h with
  | none =>
    rw [e] at hh
    refine (rdrop_no b hb vb m (so hd) vf h W (hT.rt hG) hh).mono ?_
    rintro e W' ⟨rfl, rfl⟩
    exact ⟨rfl, t, hG, hT, fun _ _ _ => rfl⟩
  | some v =>
    rw [e] at hh
    obtain ⟨k, rfl, hk⟩ := hdI_k e
    refine (rdrop_ok b hb vb m (so hd) vf k W (hT.rt hG) (hT.bh hG) hh).mono ?_
    rintro e' W' ⟨rfl, rfl⟩
    obtain ⟨t', g', f', B'⟩ := gx_set1 hG hT.hs k (.bool false)
    rw [bs_set, show upb (so hd) k false = so (uph hd k none) from bs_up _ hd k none rfl] at f'
    refine ⟨?_, t', g', ⟨(B' i (by omega) (by omega)).trans hT.tb, f', (B' (i + 2) (by omega) (by omega)).trans hT.vs, fun j v e => ?_, hT.h1, hT.h2, fun j hj => ?_⟩, B'⟩
    · rw [show vf (k : Int).toNat = v from hT.vv _ _ hk]; rfl
    · have e : uph hd k none j = some v := e
      unfold uph at e
      split at e
      · cases e
      · exact hT.vv j v e
    · show uph hd k none j = none
      unfold uph
      split
      · rfl
      · exact hT.hi j hj
theorem gx_radd (hG : GX w0 B t W) (hT : DT t i b hb vb m hd vf) (x : Int) : Calls Try.prog 26 #[.pointer (some ⟨b, 0, none⟩), .int .i64 x] W fun e W' => e = .returned (.tuple #[.int .i64 (addN hd m), .int .i64 (addE hd m)]) ∧ ∃ t' vf', GX w0 B t' W' ∧ DT t' i b hb vb m (addH hd m x) vf' ∧ But t t' (i + 1) (i + 2) := by
  unfold addN addE addH
  cases e : least hd m with
  | none =>
    refine (radd_full b hb vb m (so hd) vf x W (hT.rt hG) hT.h2 (fun j hj => ?_)).mono ?_
    · have := least_none e j hj
      cases e2 : hd j with
      | none => exact absurd e2 this
      | some v => show (hd j).isSome = true; rw [e2]; rfl
    · rintro e W' ⟨rfl, rfl⟩
      exact ⟨rfl, t, vf, hG, hT, fun _ _ _ => rfl⟩
  | some k =>
    obtain ⟨k1, k2, k3⟩ := least_some e
    refine (radd_ok b hb vb m (so hd) vf k x W (hT.rt hG) (hT.bh hG) hT.h2 k1 (by show (hd k).isSome = false; rw [k2]; rfl) (fun j hj => ?_)).mono ?_
    · have := k3 j hj
      cases e2 : hd j with
      | none => exact absurd e2 this
      | some v => show (hd j).isSome = true; rw [e2]; rfl
    · rintro e W' ⟨rfl, rfl⟩
      obtain ⟨t1, g1, f1, B1⟩ := gx_set1 hG hT.hs k (.bool true)
      rw [bs_set, show upb (so hd) k true = so (uph hd k (some x)) from bs_up _ hd k (some x) rfl] at f1
      have hvs := (B1 (i + 2) (by omega) (by omega)).trans hT.vs
      obtain ⟨t2, g2, f2, B2⟩ := gx_set1 g1 hvs k (.int .i64 x)
      rw [is_set] at f2
      refine ⟨rfl, t2, _, g2, ⟨(B2 i (by omega) (by omega)).trans ((B1 i (by omega) (by omega)).trans hT.tb), (B2 (i + 1) (by omega) (by omega)).trans f1, f2, fun j v e => ?_, hT.h1, hT.h2, fun j hj => ?_⟩, fun q q1 q2 => (B2 q q2 q2).trans (B1 q q1 q1)⟩
      · have e : uph hd k (some x) j = some v := e
        unfold uph at e
        unfold upi
        split at e
        · rw [if_pos (by assumption)]; exact Option.some.inj e
        · rw [if_neg (by assumption)]; exact hT.vv j v e
      · show uph hd k (some x) j = none
        rw [uph_ne _ _ (by omega)]; exact hT.hi j hj
end
theorem hl_cnt {V : Type} (hd : Nat → Option V) (m : Nat) : (hl (fun j => (hd j).isSome) m).length = cntH hd m := by
  induction m with
  | zero => rfl
  | succ n ih =>
    rw [hl, cntH, List.length_append, ih]
    cases hd n <;> simp
theorem gx_rheld {w0 W : World} {B : Nat} {t : Nat → Th} {i b hb vb m : Nat} {hd : Nat → Option Int} {vf : Nat → Int} (hG : GX w0 B t W) (hT : DT t i b hb vb m hd vf) : Calls Try.prog 32 #[.pointer (some ⟨b, 0, none⟩)] W fun e W' => ∃ a c, e = .returned (.slice a (cntH hd m) c) ∧ Below W.heap.size W W' := by
  refine (rheld_t b hb vb m (so hd) vf W (hT.rt hG) hT.h2).mono ?_
  rintro e W' ⟨v, rfl, ho, hb⟩
  obtain ⟨a, c, rfl⟩ := row_slice ho
  exact ⟨a, c, by rw [← hl_cnt hd m], hb⟩
end Go.Proofs.Ytodihepgfpbonaa.Tb
