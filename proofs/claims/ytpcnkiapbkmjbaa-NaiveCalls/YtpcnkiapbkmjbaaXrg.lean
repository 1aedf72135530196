/- A region that draws its order and makes only what is new: one step of each operation, by what holds of its answer. No function of the program in it. -/
import Derived.Test.YtpcnkiapbkmjbaaQkp
import Derived.Orders
namespace Go.Proofs.Ytpcnkiapbkmjbaa.Xr
open Go.ChangeShapes Go.WideShapes Go.ChangeAt Go.RowKit
/-- Where operation i writes. -/
def dstOf (ops : Array Oper) (i : Nat) : Option Tmp := (ops[i]?).bind (·.dst)
theorem put_get (a : Act) (d : Option Tmp) (v : Value) (t : Tmp) (h : d ≠ some t) : (a.put d v).tmps[t]? = a.tmps[t]? := by
  cases d with
  | none => rfl
  | some e =>
    have : e ≠ t := fun x => h (by rw [x])
    simp [Act.put, this]
theorem put_same (a : Act) (t : Tmp) (v : Value) (h : t < a.tmps.size) : (a.put (some t) v).tmps[t]? = some v := by simp [Act.put, h]
theorem put_size (a : Act) (d : Option Tmp) (v : Value) : (a.put d v).tmps.size = a.tmps.size := by cases d <;> simp [Act.put]
theorem put_defers (a : Act) (d : Option Tmp) (v : Value) : (a.put d v).defers = a.defers := by cases d <;> rfl
/-- What holds while some operations are done. -/
structure RI (ops : Array Oper) (R : Nat → Value → World → Prop) (w0 : World) (a0 : Act) (listed : Array Bool) (a : Act) (w : World) : Prop where
  bel : Below w0.heap.size w0 w
  dfr : a.defers = a0.defers
  size : a.tmps.size = a0.tmps.size
  keep : ∀ t, (∀ i, dstOf ops i ≠ some t) → a.tmps[t]? = a0.tmps[t]?
  done : ∀ i d, listed.getD i false = true → dstOf ops i = some d → ∃ v, a.tmps[d]? = some v ∧ R i v w
  llen : listed.size = ops.size
section
variable {P : Program} {ops : Array Oper} {Q : Exit → Act → World → Prop} {R : Nat → Value → World → Prop} {w0 : World} {a0 : Act}
theorem getD_new {listed : Array Bool} {i j : Nat} (h : (listed.setIfInBounds i true).getD j false = true) (hne : j ≠ i) : listed.getD j false = true := by
  rwa [getD_set_ne false (Ne.symm hne)] at h
theorem RI.step {listed : Array Bool} {a : Act} {w w' : World} {i : Nat} {o : Oper} {v : Value} (h : RI ops R w0 a0 listed a w) (hi : ops[i]? = some o) (hb : Below w.heap.size w w') (hv : ∀ d, o.dst = some d → R i v w')
    (hst : ∀ i v w w', R i v w → Below w.heap.size w w' → R i v w') (hnd : ∀ i j d, dstOf ops i = some d → dstOf ops j = some d → i = j) (hsz : ∀ i d, dstOf ops i = some d → d < a0.tmps.size) :
    RI ops R w0 a0 (listed.setIfInBounds i true) (a.put o.dst v) w' := by
  have hd : dstOf ops i = o.dst := by unfold dstOf; rw [hi]; rfl
  refine ⟨?_, by rw [put_defers]; exact h.dfr, by rw [put_size]; exact h.size, fun t ht => ?_, fun j d hj hjd => ?_, by rw [Array.size_setIfInBounds]; exact h.llen⟩
  · exact h.bel.trans (hb.mono h.bel.size)
  · rw [put_get a o.dst v t (by rw [← hd]; exact ht i)]
    exact h.keep t ht
  · by_cases e : j = i
    · subst e
      have e2 : o.dst = some d := hd.symm.trans hjd
      rw [e2]
      exact ⟨v, put_same a d v (by rw [h.size]; exact hsz j d hjd), hv d e2⟩
    · obtain ⟨u, hu, hr⟩ := h.done j d (getD_new hj e) hjd
      refine ⟨u, ?_, hst j u w w' hr hb⟩
      rw [put_get a o.dst v d (fun x => e (hnd j i d hjd (hd.trans x)))]
      exact hu
/-- How many are not done. -/
def left (n : Nat) (listed : Array Bool) : Nat := ((List.range n).filter (fun i => !listed.getD i true)).length
theorem left_step {n i : Nat} {listed : Array Bool} (hn : i < n) (hl : listed.size = n) (h : listed.getD i true = false) : left n (listed.setIfInBounds i true) < left n listed := by
  unfold left
  have e : (List.range n).filter (fun j => !(listed.setIfInBounds i true).getD j true) = ((List.range n).filter (fun j => !listed.getD j true)).filter (fun j => j != i) := by
    rw [List.filter_filter]
    apply List.filter_congr
    intro j _
    by_cases hj : j = i
    · subst hj
      simp [hl, hn]
    · rw [getD_set_ne true (Ne.symm hj)]
      simp [hj]
  rw [e]
  exact List.length_filter_lt_length_iff_exists.2 ⟨i, List.mem_filter.2 ⟨by simpa using hn, by rw [h]; rfl⟩, by simp⟩
theorem all_done {listed : Array Bool} (hl : listed.size = ops.size) (hord : ∀ (i : Nat) (o : Oper), ops[i]? = some o → ∀ e ∈ o.after, e.on < i) (hr : Region.ready .any ops listed = []) : ∀ i, i < ops.size → listed.getD i false = true := by
  intro i
  induction i using Nat.strongRecOn with
  | _ i ih =>
    intro hi
    by_cases h : listed.getD i false = true
    · exact h
    · exfalso
      obtain ⟨o, ho⟩ : ∃ o, ops[i]? = some o := ⟨ops[i], by simp [hi]⟩
      have hf : listed.getD i true = false := by
        have hlt : i < listed.size := by omega
        simp [hlt] at h ⊢
        exact h
      have : i ∈ Region.ready .any ops listed := mem_ready.2 ⟨hf, o, ho, fun e he _ => ih e.on (hord i o ho e he) (by have := hord i o ho e he; omega)⟩
      rw [hr] at this
      cases this
theorem any_rel (hst : ∀ i v w w', R i v w → Below w.heap.size w w' → R i v w') (hnd : ∀ i j d, dstOf ops i = some d → dstOf ops j = some d → i = j) (hsz : ∀ i d, dstOf ops i = some d → d < a0.tmps.size)
    (hord : ∀ (i : Nat) (o : Oper), ops[i]? = some o → ∀ e ∈ o.after, e.on < i) (hg : ∀ (i : Nat) (o : Oper), ops[i]? = some o → o.guard = none)
    (hstep : ∀ (i : Nat) (o : Oper), ops[i]? = some o → ∀ listed a w, RI ops R w0 a0 listed a w → (∀ e ∈ o.after, Region.binds .any e = true → listed.getD e.on false = true) → ∀ K : Act → World → Prop, (∀ v w', Below w.heap.size w w' → (∀ d, o.dst = some d → R i v w') → K (a.put o.dst v) w') → o.wp P a w K Q)
    (hend : ∀ listed a w, RI ops R w0 a0 listed a w → (∀ i, i < ops.size → listed.getD i false = true) → Q .normal a w) :
    ∀ (fuel : Nat) (listed : Array Bool) (a : Act) (w : World), left ops.size listed ≤ fuel → RI ops R w0 a0 listed a w → wpAny P .any ops Q fuel listed a w
  | 0, listed, a, w, hf, h => by
    have hr : Region.ready .any ops listed = [] := by
      cases e : Region.ready .any ops listed with
      | nil => rfl
      | cons x xs =>
        have hx : x ∈ Region.ready .any ops listed := by rw [e]; simp
        obtain ⟨h0, o, ho, _⟩ := mem_ready.1 hx
        have hlt : x < ops.size := (Array.getElem?_eq_some_iff.1 ho).1
        have := left_step hlt h.llen h0
        omega
    exact ⟨hr, hend listed a w h (all_done h.llen hord hr)⟩
  | fuel + 1, listed, a, w, hf, h => by
    refine ⟨fun hr => hend listed a w h (all_done h.llen hord hr), fun i hi => ?_⟩
    obtain ⟨h0, o, ho, hdep⟩ := mem_ready.1 hi
    have hlt : i < ops.size := (Array.getElem?_eq_some_iff.1 ho).1
    have hl := left_step hlt h.llen h0
    unfold wpOp
    simp only [ho, Region.wanted, hg i o ho, if_true]
    exact .inl (hstep i o ho listed a w h hdep _ (fun v w' hb hv => any_rel hst hnd hsz hord hg hstep hend fuel _ _ _ (by omega) (h.step ho hb hv hst hnd hsz)))
/-- A region that draws its order: each operation by itself. -/
theorem region_rel {id : Nat} (hm : P.follows .mixedOrders = true) (hst : ∀ i v w w', R i v w → Below w.heap.size w w' → R i v w') (hnd : ∀ i j d, dstOf ops i = some d → dstOf ops j = some d → i = j) (hsz : ∀ i d, dstOf ops i = some d → d < a0.tmps.size)
    (hord : ∀ (i : Nat) (o : Oper), ops[i]? = some o → ∀ e ∈ o.after, e.on < i) (hg : ∀ (i : Nat) (o : Oper), ops[i]? = some o → o.guard = none)
    (hstep : ∀ (i : Nat) (o : Oper), ops[i]? = some o → ∀ listed a w, RI ops R w0 a0 listed a w → (∀ e ∈ o.after, Region.binds .any e = true → listed.getD e.on false = true) → ∀ K : Act → World → Prop, (∀ v w', Below w.heap.size w w' → (∀ d, o.dst = some d → R i v w') → K (a.put o.dst v) w') → o.wp P a w K Q)
    (hend : ∀ listed a w, RI ops R w0 a0 listed a w → (∀ i, i < ops.size → listed.getD i false = true) → Q .normal a w) : (Code.region id ops true).wp P Q a0 w0 :=
  wp_region_any hm (any_rel (w0 := w0) (a0 := a0) hst hnd hsz hord hg hstep hend ops.size _ a0 _ (by
    unfold left
    have := List.length_filter_le (fun i => !(Array.replicate ops.size false).getD i true) (List.range ops.size)
    rwa [List.length_range] at this) ⟨below_drewN w0 1, rfl, rfl, fun _ _ => rfl, fun i d h _ => by
      exfalso
      by_cases hi : i < ops.size
      · simp [hi] at h
      · simp [hi] at h, by simp⟩)
end
/-- What is asked of the operations' text. -/
def okB (ops : Array Oper) (n : Nat) : Bool :=
  (List.range ops.size).all fun i => match ops[i]? with
    | none => true
    | some o => o.guard.isNone && o.after.all (fun e => decide (e.on < i)) && (match o.dst with
      | none => true
      | some d => decide (d < n) && (List.range ops.size).all fun j => i == j || dstOf ops j != some d)
theorem okB_spec {ops : Array Oper} {n : Nat} (h : okB ops n = true) {i : Nat} {o : Oper} (hi : ops[i]? = some o) : o.guard = none ∧ (∀ e ∈ o.after, e.on < i) ∧ ∀ d, o.dst = some d → d < n ∧ ∀ j, dstOf ops j = some d → i = j := by
  have hlt : i < ops.size := (Array.getElem?_eq_some_iff.1 hi).1
  have h1 := List.all_eq_true.1 h i (by simpa using hlt)
  simp only [hi, Bool.and_eq_true, Option.isNone_iff_eq_none] at h1
  obtain ⟨⟨h2, h3⟩, h4⟩ := h1
  refine ⟨h2, fun e he => ?_, fun d hd => ?_⟩
  · have := Array.all_eq_true_iff_forall_mem.1 h3 e he
    simpa using this
  · rw [hd] at h4
    simp only [Bool.and_eq_true, decide_eq_true_eq] at h4
    refine ⟨h4.1, fun j hj => ?_⟩
    have hjl : j < ops.size := by
      unfold dstOf at hj
      by_cases hl : j < ops.size
      · exact hl
      · rw [Array.getElem?_eq_none (by omega)] at hj; cases hj
    have := List.all_eq_true.1 h4.2 j (by simpa using hjl)
    simp only [Bool.or_eq_true, beq_iff_eq, bne_iff_ne, ne_eq] at this
    exact this.resolve_right (fun x => x hj)
theorem dst_inv {ops : Array Oper} {i : Nat} {d : Tmp} (h : dstOf ops i = some d) : ∃ o, ops[i]? = some o ∧ o.dst = some d := by
  unfold dstOf at h
  cases e : ops[i]? with
  | none => rw [e] at h; cases h
  | some o => rw [e] at h; exact ⟨o, rfl, h⟩
theorem region_okB {P : Program} {ops : Array Oper} {Q : Exit → Act → World → Prop} {R : Nat → Value → World → Prop} {w0 : World} {a0 : Act} {id : Nat} (hm : P.follows .mixedOrders = true) (hok : okB ops a0.tmps.size = true) (hst : ∀ i v w w', R i v w → Below w.heap.size w w' → R i v w')
    (hstep : ∀ (i : Nat) (o : Oper), ops[i]? = some o → ∀ listed a w, RI ops R w0 a0 listed a w → (∀ e ∈ o.after, Region.binds .any e = true → listed.getD e.on false = true) → ∀ K : Act → World → Prop, (∀ v w', Below w.heap.size w w' → (∀ d, o.dst = some d → R i v w') → K (a.put o.dst v) w') → o.wp P a w K Q)
    (hend : ∀ listed a w, RI ops R w0 a0 listed a w → (∀ i, i < ops.size → listed.getD i false = true) → Q .normal a w) : (Code.region id ops true).wp P Q a0 w0 :=
  region_rel hm hst (fun i j d hi hj => by
    obtain ⟨o, ho, hd⟩ := dst_inv hi
    exact ((okB_spec hok ho).2.2 d hd).2 j hj) (fun i d hi => by
    obtain ⟨o, ho, hd⟩ := dst_inv hi
    exact ((okB_spec hok ho).2.2 d hd).1) (fun i o ho => (okB_spec hok ho).2.1) (fun i o ho => (okB_spec hok ho).1) hstep hend
end Go.Proofs.Ytpcnkiapbkmjbaa.Xr
