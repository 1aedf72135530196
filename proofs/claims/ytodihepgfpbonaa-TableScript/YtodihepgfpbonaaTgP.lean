/- Tables of the type turnkeylaw19.Pair among other things: each call. -/
import Derived.Test.YtodihepgfpbonaaTiP
import Derived.Test.YtodihepgfpbonaaTgk
namespace Go.Proofs.Ytodihepgfpbonaa.Tb.P
open Go.ChangeShapes Go.WideShapes Go.ChangeAt Go.RowKit
/-- The pointers ps stand for what hd says, in blocks that stay. -/
def Std (C : Cn) (ps : Ps) (hd : Nat → Option V) : Prop := ∀ j, (∀ v, hd j = some v → ∃ g, ps j = some g ∧ C g = some (ob (vc v) vt)) ∧ (hd j = none → ps j = none)
theorem Std.mono {C C' : Cn} {ps : Ps} {hd : Nat → Option V} (h : Std C ps hd) (hc : Cle C C') : Std C' ps hd := fun j =>
  ⟨fun v e => by obtain ⟨g, h1, h2⟩ := (h j).1 v e; exact ⟨g, h1, hc _ _ h2⟩, (h j).2⟩
theorem Std.some {C : Cn} {ps : Ps} {hd : Nat → Option V} (h : Std C ps hd) (j : Nat) : (ps j).isSome = (hd j).isSome := by
  cases e : hd j with
  | none => rw [(h j).2 e]; rfl
  | some v => obtain ⟨g, h1, _⟩ := (h j).1 v e; rw [h1]; rfl
theorem Std.nn {C : Cn} {ps : Ps} {hd : Nat → Option V} (h : Std C ps hd) (j : Nat) : ps j = none ↔ hd j = none := by
  have := h.some j
  cases e1 : ps j <;> cases e2 : hd j <;> rw [e1, e2] at this <;> simp at this <;> simp
theorem Std.up {C : Cn} {ps : Ps} {hd : Nat → Option V} (h : Std C ps hd) (k g : Nat) (x : V) (hc : C g = .some (ob (vc x) vt)) : Std C (ups ps k (.some g)) (uph hd k (.some x)) := fun j => by
  unfold ups uph
  by_cases e : j = k
  · rw [if_pos e, if_pos e]; exact ⟨fun v hv => by cases hv; exact ⟨g, rfl, hc⟩, fun hv => by cases hv⟩
  · rw [if_neg e, if_neg e]; exact h j
theorem Std.off {C : Cn} {ps : Ps} {hd : Nat → Option V} (h : Std C ps hd) (k : Nat) : Std C (ups ps k none) (uph hd k none) := fun j => by
  unfold ups uph
  by_cases e : j = k
  · rw [if_pos e, if_pos e]; exact ⟨fun v hv => (by cases hv), fun _ => rfl⟩
  · rw [if_neg e, if_neg e]; exact h j
/-- A table at the number i: in block b, of the bound m, with what hd says. -/
structure TT (t : Nat → Th) (C : Cn) (i b m : Nat) (hd : Nat → Option V) : Prop where
  ex : ∃ ps, t i = tC b (tc m ps) tt ∧ Std C ps hd
  h1 : 1 ≤ m
  h2 : m ≤ 64
  hi : ∀ j, m ≤ j → hd j = none
theorem TT.keep {t t' : Nat → Th} {C C' : Cn} {i b m : Nat} {hd : Nat → Option V} (h : TT t C i b m hd) (e : t' i = t i) (hc : Cle C C') : TT t' C' i b m hd := by
  obtain ⟨⟨ps, e1, hs⟩, h1, h2, hi⟩ := h
  exact ⟨⟨ps, e.trans e1, hs.mono hc⟩, h1, h2, hi⟩
theorem held_eq {C : Cn} {ps : Ps} {hd : Nat → Option V} {m : Nat} (h : Std C ps hd) (hi : ∀ j, m ≤ j → hd j = none) (k : Int) : heldN ps m k = (hdI hd k).isSome := by
  unfold heldN hdI
  by_cases h0 : 0 ≤ k
  · rw [if_pos h0, decide_eq_true h0, Bool.true_and, h.some]
    by_cases h1 : k < m
    · rw [decide_eq_true h1, Bool.true_and]
    · rw [decide_eq_false h1, hi _ (by omega)]; rfl
  · rw [if_neg h0, decide_eq_false h0]; rfl
section
variable {w0 W : World} {B : Nat} {t : Nat → Th} {C : Cn} {i b m : Nat} {hd : Nat → Option V}
theorem gx_new (hG : GX w0 B t W) (h0 : t 0 = tK C) (i n : Nat) (hi0 : i ≠ 0) (h1 : 1 ≤ n) (h2 : n ≤ 64) : Calls Try.prog 8 #[.int .i64 n] W fun e W' => e = .returned (.tuple #[.pointer (some ⟨W.heap.size, 0, none⟩), .int .i64 0]) ∧ ∃ t', GX w0 B t' W' ∧ t' 0 = tK C ∧ TT t' C i W.heap.size n (fun _ => none) ∧ But t t' i i := by
  refine (new_ok n W h1 h2).mono ?_
  rintro e W' ⟨rfl, hm, hb⟩
  refine ⟨rfl, _, hG.one i (tC W.heap.size (tc n (fun _ => none)) tt) (Kp.of_below (fun _ => False) hb) (fun _ e => e.elim) hm (fun j hj => .inr (by rw [show j = _ from hj]; exact Nat.le_refl _)), (up_ne _ _ (Ne.symm hi0)).trans h0, ⟨⟨_, up_at _ _ _, fun j => ⟨fun v e => (by cases e), fun _ => rfl⟩⟩, h1, h2, fun _ _ => rfl⟩, fun m h1 _ => up_ne _ _ h1⟩
theorem gx_get (hG : GX w0 B t W) (h0 : t 0 = tK C) (hT : TT t C i b m hd) (h : Int) : Calls Try.prog 39 #[.pointer (some ⟨b, 0, none⟩), .int .i64 h] W fun e W' => e = .returned (gt (hdI hd h)) ∧ GX w0 B t W' ∧ Below W.heap.size W W' := by
  obtain ⟨⟨ps, e1, hs⟩, h1, h2, hi⟩ := hT
  refine (get_t b m ps h (hdI hd h) W (hG.blk e1) h1 h2 (held_eq hs hi h).symm (fun v hv => ?_)).mono ?_
  · unfold hdI at hv
    split at hv
    · obtain ⟨g, hg, hc⟩ := (hs _).1 v hv
      exact ⟨g, hg, hG.con h0 hc⟩
    · cases hv
  · rintro e W' ⟨rfl, hb⟩
    exact ⟨rfl, hG.below hb, hb⟩
/-- A thing is laid into a block that stays, and one number has it. -/
theorem gx_lay {W' : World} (hG : GX w0 B t W) (h0 : t 0 = tK C) (hi0 : i ≠ 0) {ps : Ps} (e1 : t i = tC b (tc m ps) tt) (hs : Std C ps hd) (h1 : 1 ≤ m) (h2 : m ≤ 64) (hi : ∀ j, m ≤ j → hd j = none) (k : Nat) (x : V) (hk : k < m)
    (hb : Blk W' b (tc m (ups ps k (some W.heap.size))) tt) (hn : Blk W' W.heap.size (vc x) vt) (hkp : Kp (fun j => j = b) W W') : ∃ t' C', GX w0 B t' W' ∧ t' 0 = tK C' ∧ Cle C C' ∧ TT t' C' i b m (uph hd k (some x)) ∧ But t t' 0 i := by
  have hf := hG.fresh h0 (Nat.le_refl W.heap.size)
  have hle : Cle C (upc C W.heap.size (ob (vc x) vt)) := upc_le _ hf
  have hbl : Blk W b (tc m ps) tt := hG.blk e1
  refine ⟨_, upc C W.heap.size (ob (vc x) vt), hG.two 0 i (tK (upc C W.heap.size (ob (vc x) vt))) (tC b (tc m (ups ps k (some W.heap.size))) tt) (Ne.symm hi0) hkp (fun j hj _ => .inr (by rw [e1]; exact hj)) (fun j o e => ?_) hb (fun j hj => ?_) (fun j hj => .inr (.inl (by rw [e1]; exact hj))) (fun j hj hj' => ?_), ?_, hle, ⟨⟨_, up_at _ _ _, (hs.mono hle).up k _ x (upc_at _ _ _)⟩, h1, h2, fun j hj => ?_⟩, but_up _ _ _ _ _⟩
  · unfold upc at e
    by_cases ej : j = W.heap.size
    · rw [if_pos ej] at e; cases e; rw [ej]; exact hn
    · rw [if_neg ej] at e
      have := hG.all 0; rw [h0] at this
      have hj := this j o e
      refine (hkp.block j (Array.getElem?_eq_some_iff.1 hj).1 (fun ejb => ?_)).trans hj
      exact hG.ap 0 i (Ne.symm hi0) j (by rw [h0]; exact ⟨o, e⟩) (by rw [e1]; exact ejb)
  · obtain ⟨o, e⟩ := hj
    unfold upc at e
    by_cases ej : j = W.heap.size
    · exact .inr (.inr (by omega))
    · rw [if_neg ej] at e; exact .inl (by rw [h0]; exact ⟨o, e⟩)
  · obtain ⟨o, e⟩ := hj
    have ejb : j = b := hj'
    unfold upc at e
    by_cases ej : j = W.heap.size
    · have := hbl.lt; omega
    · rw [if_neg ej] at e
      exact hG.ap 0 i (Ne.symm hi0) j (by rw [h0]; exact ⟨o, e⟩) (by rw [e1]; exact ejb)
  · rw [up_ne _ _ (Ne.symm hi0), up_at]
  · rw [uph_ne _ _ (by omega)]; exact hi j hj
theorem gx_add (hG : GX w0 B t W) (h0 : t 0 = tK C) (hi0 : i ≠ 0) (hT : TT t C i b m hd) (x : V) : Calls Try.prog 37 #[.pointer (some ⟨b, 0, none⟩), vv x] W fun e W' => e = .returned (.tuple #[.int .i64 (addN hd m), .int .i64 (addE hd m)]) ∧ ∃ t' C', GX w0 B t' W' ∧ t' 0 = tK C' ∧ Cle C C' ∧ TT t' C' i b m (addH hd m x) ∧ But t t' 0 i := by
  have hT' := hT
  obtain ⟨⟨ps, e1, hs⟩, h1, h2, hi⟩ := hT
  unfold addN addE addH
  cases e : least hd m with
  | none =>
    refine (add_full b m ps x W (hG.blk e1) h1 h2 (fun j hj hp => least_none e j hj ((hs.nn j).1 hp))).mono ?_
    rintro e W' ⟨rfl, hb⟩
    exact ⟨rfl, t, C, hG.below hb, h0, Cle.refl _, hT', fun _ _ _ => rfl⟩
  | some k =>
    obtain ⟨k1, k2, k3⟩ := least_some e
    refine (add_ok b m ps k x W (hG.blk e1) h1 h2 k1 ((hs.nn k).2 k2) (fun j hj hp => k3 j hj ((hs.nn j).1 hp))).mono ?_
    rintro e W' ⟨rfl, hb, hn, hk⟩
    exact ⟨rfl, gx_lay hG h0 hi0 e1 hs h1 h2 hi k x k1 hb hn hk⟩
theorem gx_drop (hG : GX w0 B t W) (h0 : t 0 = tK C) (hi0 : i ≠ 0) (hT : TT t C i b m hd) (h : Int) : Calls Try.prog 41 #[.pointer (some ⟨b, 0, none⟩), .int .i64 h] W fun e W' => e = .returned (gt (hdI hd h)) ∧ ∃ t', GX w0 B t' W' ∧ t' 0 = tK C ∧ TT t' C i b m (dropH hd h) ∧ But t t' i i := by
  have hT' := hT
  obtain ⟨⟨ps, e1, hs⟩, h1, h2, hi⟩ := hT
  unfold dropH
  have hh := held_eq hs hi h
  cases e : hdI hd h with
  | none =>
    rw [e] at hh
    refine (drop_bad b m ps h W (hG.blk e1) h1 h2 hh).mono ?_
    rintro e W' ⟨rfl, hb⟩
    exact ⟨rfl, t, hG.below hb, h0, hT', fun _ _ _ => rfl⟩
  | some x =>
    rw [e] at hh
    have h00 : 0 ≤ h := by unfold hdI at e; split at e; assumption; cases e
    obtain ⟨k, rfl⟩ : ∃ k : Nat, h = k := ⟨h.toNat, by omega⟩
    rw [hdI_nat] at e
    have hkm : k < m := by
      apply Nat.lt_of_not_le; intro hle; rw [hi k hle] at e; cases e
    obtain ⟨g, hg, hc⟩ := (hs k).1 x e
    refine (drop_ok b m ps k g x W (hG.blk e1) h1 h2 hkm hg (hG.con h0 hc)).mono ?_
    rintro e' W' ⟨rfl, hb, hk⟩
    refine ⟨rfl, _, hG.one i (tC b (tc m (ups ps k none)) tt) hk (fun j hj _ => by rw [e1]; exact hj) hb (fun j hj => .inl (by rw [e1]; exact hj)), (up_ne _ _ (Ne.symm hi0)).trans h0, ⟨⟨_, up_at _ _ _, hs.off k⟩, h1, h2, fun j hj => ?_⟩, fun m h1 _ => up_ne _ _ h1⟩
    show uph hd k none j = none
    rw [uph_ne _ _ (by omega)]; exact hi j hj
theorem gx_set (hG : GX w0 B t W) (h0 : t 0 = tK C) (hi0 : i ≠ 0) (hT : TT t C i b m hd) (h : Int) (x : V) : Calls Try.prog 40 #[.pointer (some ⟨b, 0, none⟩), .int .i64 h, vv x] W fun e W' => e = .returned (.int .i64 (if (hdI hd h).isSome then 0 else 5)) ∧ ∃ t' C', GX w0 B t' W' ∧ t' 0 = tK C' ∧ Cle C C' ∧ TT t' C' i b m (setH hd h x) ∧ But t t' 0 i := by
  have hT' := hT
  obtain ⟨⟨ps, e1, hs⟩, h1, h2, hi⟩ := hT
  unfold setH
  have hh := held_eq hs hi h
  cases e : hdI hd h with
  | none =>
    rw [e] at hh
    refine (set_bad b m ps h x W (hG.blk e1) h1 h2 hh).mono ?_
    rintro e W' ⟨rfl, hb⟩
    exact ⟨rfl, t, C, hG.below hb, h0, Cle.refl _, hT', fun _ _ _ => rfl⟩
  | some y =>
    rw [e] at hh
    have h00 : 0 ≤ h := by unfold hdI at e; split at e; assumption; cases e
    obtain ⟨k, rfl⟩ : ∃ k : Nat, h = k := ⟨h.toNat, by omega⟩
    rw [hdI_nat] at e
    have hkm : k < m := by
      apply Nat.lt_of_not_le; intro hle; rw [hi k hle] at e; cases e
    refine (set_ok b m ps k x W (hG.blk e1) h1 h2 hkm hh).mono ?_
    rintro e' W' ⟨rfl, hb, hn, hk⟩
    exact ⟨rfl, gx_lay hG h0 hi0 e1 hs h1 h2 hi k x hkm hb hn hk⟩
theorem gx_len (hG : GX w0 B t W) (hT : TT t C i b m hd) : Calls Try.prog 42 #[.pointer (some ⟨b, 0, none⟩)] W fun e W' => e = .returned (.int .i64 (cntH hd m)) ∧ W' = W := by
  obtain ⟨⟨ps, e1, hs⟩, h1, h2, hi⟩ := hT
  have := len_t b m ps W (hG.blk e1) h1
  rw [cnt_eq hs.some, cntH_more hi 64 h2] at this
  exact this
theorem gx_full (hG : GX w0 B t W) (hT : TT t C i b m hd) : Calls Try.prog 43 #[.pointer (some ⟨b, 0, none⟩)] W fun e W' => e = .returned (.bool (decide (cntH hd m = m))) ∧ ∃ d, W' = W.drewN d := by
  obtain ⟨⟨ps, e1, hs⟩, h1, h2, hi⟩ := hT
  have := full_t b m ps W (hG.blk e1) h1
  rw [cnt_eq hs.some, cntH_more hi 64 h2] at this
  exact this
end
end Go.Proofs.Ytodihepgfpbonaa.Tb.P
