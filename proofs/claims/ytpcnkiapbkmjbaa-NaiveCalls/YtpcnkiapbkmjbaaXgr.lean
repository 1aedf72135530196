/- A region that draws its order and makes only what is new, with guards: one step of each operation, by its value. -/
import Derived.Test.YtpcnkiapbkmjbaaXrg
import Derived.RegionTactic
namespace Go.Proofs.Ytpcnkiapbkmjbaa.Xr
open Go.ChangeShapes Go.WideShapes Go.ChangeAt Go.RowKit
section
variable {P : Program} {ops : Array Oper} {Q : Exit → Act → World → Prop} {R : Nat → Value → World → Prop} {w0 : World} {a0 : Act}
theorem any_relG (hst : ∀ i v w w', R i v w → Below w.heap.size w w' → R i v w') (hnd : ∀ i j d, dstOf ops i = some d → dstOf ops j = some d → i = j) (hsz : ∀ i d, dstOf ops i = some d → d < a0.tmps.size)
    (hord : ∀ (i : Nat) (o : Oper), ops[i]? = some o → ∀ e ∈ o.after, e.on < i)
    (hstep : ∀ (i : Nat) (o : Oper), ops[i]? = some o → ∀ listed a w, RI ops R w0 a0 listed a w → (∀ e ∈ o.after, Region.binds .any e = true → listed.getD e.on false = true) → ∀ K : Act → World → Prop, (∀ v w', Below w.heap.size w w' → (∀ d, o.dst = some d → R i v w') → K (a.put o.dst v) w') → if Region.wanted o (yielded ops a.tmps) = true then o.wp P a w K Q else K (a.put o.dst undef) w)
    (hend : ∀ listed a w, RI ops R w0 a0 listed a w → (∀ i, i < ops.size → listed.getD i false = true) → Q .normal a w) :
    ∀ (fuel : Nat) (listed : Array Bool) (a : Act) (w : World), left ops.size listed ≤ fuel → RI ops R w0 a0 listed a w → wpAny P .any ops Q fuel listed a w
  | 0, listed, a, w, hf, h => by
    have hr : Region.ready .any ops listed = [] := by
      cases e : Region.ready .any ops listed with
      | nil => rfl
      | cons x xs =>
        have hx : x ∈ Region.ready .any ops listed := by rw [e]; simp
        obtain ⟨h0, o, ho, _⟩ := mem_ready.1 hx
        have hlt : x < ops.size := (Array.getElem?_eq_some_iff.1 ho).1
        have := left_step hlt h.llen h0
        omega
    exact ⟨hr, hend listed a w h (all_done h.llen hord hr)⟩
  | fuel + 1, listed, a, w, hf, h => by
    refine ⟨fun hr => hend listed a w h (all_done h.llen hord hr), fun i hi => ?_⟩
    obtain ⟨h0, o, ho, hdep⟩ := mem_ready.1 hi
    have hlt : i < ops.size := (Array.getElem?_eq_some_iff.1 ho).1
    have hl := left_step hlt h.llen h0
    refine wpOp_step ho (fun K' hK => hstep i o ho listed a w h hdep _ (fun v w' hb hv => hK _ _ (any_relG hst hnd hsz hord hstep hend fuel _ _ _ (by omega) (h.step ho hb hv hst hnd hsz))))
/-- The same, guards and all. -/
theorem region_relG {id : Nat} (hm : P.follows .mixedOrders = true) (hst : ∀ i v w w', R i v w → Below w.heap.size w w' → R i v w') (hnd : ∀ i j d, dstOf ops i = some d → dstOf ops j = some d → i = j) (hsz : ∀ i d, dstOf ops i = some d → d < a0.tmps.size)
    (hord : ∀ (i : Nat) (o : Oper), ops[i]? = some o → ∀ e ∈ o.after, e.on < i)
    (hstep : ∀ (i : Nat) (o : Oper), ops[i]? = some o → ∀ listed a w, RI ops R w0 a0 listed a w → (∀ e ∈ o.after, Region.binds .any e = true → listed.getD e.on false = true) → ∀ K : Act → World → Prop, (∀ v w', Below w.heap.size w w' → (∀ d, o.dst = some d → R i v w') → K (a.put o.dst v) w') → if Region.wanted o (yielded ops a.tmps) = true then o.wp P a w K Q else K (a.put o.dst undef) w)
    (hend : ∀ listed a w, RI ops R w0 a0 listed a w → (∀ i, i < ops.size → listed.getD i false = true) → Q .normal a w) : (Code.region id ops true).wp P Q a0 w0 :=
  wp_region_any hm (any_relG (w0 := w0) (a0 := a0) hst hnd hsz hord hstep hend ops.size _ a0 _ (by
    unfold left
    have := List.length_filter_le (fun i => !(Array.replicate ops.size false).getD i true) (List.range ops.size)
    rwa [List.length_range] at this) ⟨below_drewN w0 1, rfl, rfl, fun _ _ => rfl, fun i d h _ => by
      exfalso
      by_cases hi : i < ops.size
      · simp [hi] at h
      · simp [hi] at h, by simp⟩)
end
/-- What is asked of the operations' text. -/
def okG (ops : Array Oper) (n : Nat) : Bool :=
  (List.range ops.size).all fun i => match ops[i]? with
    | none => true
    | some o => o.after.all (fun e => decide (e.on < i)) && (match o.dst with
      | none => true
      | some d => decide (d < n) && (List.range ops.size).all fun j => i == j || dstOf ops j != some d)
theorem okG_spec {ops : Array Oper} {n : Nat} (h : okG ops n = true) {i : Nat} {o : Oper} (hi : ops[i]? = some o) : (∀ e ∈ o.after, e.on < i) ∧ ∀ d, o.dst = some d → d < n ∧ ∀ j, dstOf ops j = some d → i = j := by
  have hlt : i < ops.size := (Array.getElem?_eq_some_iff.1 hi).1
  have h1 := List.all_eq_true.1 h i (by simpa using hlt)
  simp only [hi, Bool.and_eq_true] at h1
  obtain ⟨h3, h4⟩ := h1
  refine ⟨fun e he => ?_, fun d hd => ?_⟩
  · have := Array.all_eq_true_iff_forall_mem.1 h3 e he
    simpa using this
  · rw [hd] at h4
    simp only [Bool.and_eq_true, decide_eq_true_eq] at h4
    refine ⟨h4.1, fun j hj => ?_⟩
    have hjl : j < ops.size := by
      unfold dstOf at hj
      by_cases hl : j < ops.size
      · exact hl
      · rw [Array.getElem?_eq_none (by omega)] at hj; cases hj
    have := List.all_eq_true.1 h4.2 j (by simpa using hjl)
    simp only [Bool.or_eq_true, beq_iff_eq, bne_iff_ne, ne_eq] at this
    exact this.resolve_right (fun x => x hj)
theorem region_okG {P : Program} {ops : Array Oper} {Q : Exit → Act → World → Prop} {R : Nat → Value → World → Prop} {w0 : World} {a0 : Act} {id : Nat} (hm : P.follows .mixedOrders = true) (hok : okG ops a0.tmps.size = true) (hst : ∀ i v w w', R i v w → Below w.heap.size w w' → R i v w')
    (hstep : ∀ (i : Nat) (o : Oper), ops[i]? = some o → ∀ listed a w, RI ops R w0 a0 listed a w → (∀ e ∈ o.after, Region.binds .any e = true → listed.getD e.on false = true) → ∀ K : Act → World → Prop, (∀ v w', Below w.heap.size w w' → (∀ d, o.dst = some d → R i v w') → K (a.put o.dst v) w') → if Region.wanted o (yielded ops a.tmps) = true then o.wp P a w K Q else K (a.put o.dst undef) w)
    (hend : ∀ listed a w, RI ops R w0 a0 listed a w → (∀ i, i < ops.size → listed.getD i false = true) → Q .normal a w) : (Code.region id ops true).wp P Q a0 w0 :=
  region_relG hm hst (fun i j d hi hj => by
    obtain ⟨o, ho, hd⟩ := dst_inv hi
    exact ((okG_spec hok ho).2 d hd).2 j hj) (fun i d hi => by
    obtain ⟨o, ho, hd⟩ := dst_inv hi
    exact ((okG_spec hok ho).2 d hd).1) (fun i o ho => (okG_spec hok ho).1) hstep hend
/-- What an operation that is done has answered, where all answers are known ahead. -/
theorem RI.val {ops : Array Oper} {vals : Nat → Value} {w0 : World} {a0 : Act} {listed : Array Bool} {a : Act} {w : World} (h : RI ops (fun i v _ => v = vals i) w0 a0 listed a w) {i : Nat} {d : Tmp} (hl : listed.getD i false = true) (hd : dstOf ops i = some d) : a.tmps[d]? = some (vals i) := by
  obtain ⟨v, hv, rfl⟩ := h.done i d hl hd
  exact hv
/-- Whether an operation's guard lets it be. -/
theorem wanted_at {ops : Array Oper} {o : Oper} {a : Act} {j : Nat} {d : Tmp} {b c : Bool} (hg : o.guard = some (j, c)) (hd : dstOf ops j = some d) (hv : a.tmps[d]? = some (.bool b)) : Region.wanted o (yielded ops a.tmps) = (b == c) := by
  have e : yielded ops a.tmps j = some b := by
    unfold yielded
    have : (ops[j]?).bind (·.dst) = some d := hd
    rw [this]
    simp [hv]
  unfold Region.wanted
  rw [hg]
  simp [e]
/-- The frame behind a region whose operations write slots side by side. -/
theorem RI.act {ops : Array Oper} {vals : Nat → Value} {w0 : World} {a0 : Act} {listed : Array Bool} {a : Act} {w : World} (h : RI ops (fun i v _ => v = vals i) w0 a0 listed a w) (all : ∀ i, i < ops.size → listed.getD i false = true) (lo N : Nat) (hN : ops.size = N)
    (hd : ((List.range N).all fun i => dstOf ops i == some (lo + i)) = true) (hs : lo + N ≤ a0.tmps.size) : a = ⟨(a0.tmps.toList.take lo ++ (List.range N).map vals ++ a0.tmps.toList.drop (lo + N)).toArray, a0.defers⟩ := by
  have hd' : ∀ i, i < N → dstOf ops i = some (lo + i) := fun i hi => by
    have := List.all_eq_true.1 hd i (by simpa using hi)
    simpa using this
  have hkeep : ∀ t, (t < lo ∨ lo + N ≤ t) → a.tmps[t]? = a0.tmps[t]? := fun t ht => h.keep t (fun i e => by
    have hi : i < N := by
      obtain ⟨o, ho, _⟩ := dst_inv e
      have := (Array.getElem?_eq_some_iff.1 ho).1
      omega
    have e2 := (hd' i hi).symm.trans e
    have : lo + i = t := by simpa using e2
    omega)
  have hval : ∀ i, i < N → a.tmps[lo + i]? = some (vals i) := fun i hi => h.val (all i (by omega)) (hd' i hi)
  have e : a.tmps = (a0.tmps.toList.take lo ++ (List.range N).map vals ++ a0.tmps.toList.drop (lo + N)).toArray := by
    apply Array.ext_getElem?
    intro t
    have el : ∀ L : List Value, L.toArray[t]? = L[t]? := fun L => by simp
    refine Eq.trans ?_ (el _).symm
    rw [List.append_assoc]
    by_cases h1 : t < lo
    · rw [hkeep t (.inl h1), List.getElem?_append_left (by rw [List.length_take, Array.length_toList]; omega), List.getElem?_take_of_lt h1, Array.getElem?_toList]
    · rw [List.getElem?_append_right (by rw [List.length_take, Array.length_toList]; omega), List.length_take, Array.length_toList, Nat.min_eq_left (by omega)]
      by_cases h2 : t < lo + N
      · obtain ⟨i, rfl⟩ : ∃ i, t = lo + i := ⟨t - lo, by omega⟩
        rw [hval i (by omega), List.getElem?_append_left (by rw [List.length_map, List.length_range]; omega), Nat.add_sub_cancel_left, List.getElem?_map, List.getElem?_range (by omega)]
        rfl
      · rw [hkeep t (.inr (by omega)), List.getElem?_append_right (by rw [List.length_map, List.length_range]; omega), List.length_map, List.length_range, List.getElem?_drop, Array.getElem?_toList]
        congr 1
        omega
  obtain ⟨at_, ad⟩ := a
  have e2 : ad = a0.defers := h.dfr
  have e3 : at_ = _ := e
  rw [e2, e3]
end Go.Proofs.Ytpcnkiapbkmjbaa.Xr
